/-
  Merged: Co Tp Ck.
-/
import Derived.Test.YtielpebokbolbaaLG
import Derived.Test.YtielpebokbolbaaLD
/-
  Plain: what a call and a return do.
-/
namespace Go.Proofs.Ytielpebokbolbaa
open Go.RowKit
open Xc (Xi enc dcX dc_is bys jn)
set_option linter.unusedSimpArgs false
set_option linter.unusedVariables false
set_option linter.unusedSectionVars false
def kx (n : Nat) : Xi := ⟨19, false, 0, 0, 0, 0, (n : Int)⟩
def kr : Xi := ⟨20, false, 0, 0, 0, 0, 0⟩
theorem kx_len : ∀ n, n < 40 → (enc (kx n)).length = 5 := by decide +kernel
theorem kx_rt : ∀ n, n < 40 → Xc.rt (kx n) = true := by decide +kernel
theorem kr_enc : enc kr = [195] := by decide +kernel
theorem kr_rt : Xc.rt kr = true := by decide +kernel
/-- The code, as far as k of its halts. -/
def kcp (n k : Nat) : List UInt8 := enc (kx n) ++ List.replicate k 244
def kco (n : Nat) : List UInt8 := kcp n n ++ [195]
theorem kcp_len {n : Nat} (h : n < 40) (k : Nat) : (kcp n k).length = 5 + k := by simp [kcp, kx_len n h]
theorem kcp_succ (n k : Nat) : kcp n (k + 1) = kcp n k ++ [244] := by
  unfold kcp
  rw [List.replicate_succ', List.append_assoc]
theorem kco_len {n : Nat} (h : n < 40) : (kco n).length = 6 + n := by simp [kco, kcp_len h]; omega
/-- The machine ahead, between and behind. -/
def km (r : List Int) (n : Nat) (a : Int) (z : List UInt8) : Mc := ⟨r, false, false, false, false, a, [⟨500, kco n, true⟩, ⟨4000, z, false⟩], 0⟩
def kz : List UInt8 := spl z32 16 (bys 8 505)
def kA (r : List Int) (n : Nat) : Mc := km r n 500 z32
def kB (r : List Int) (n : Nat) : Mc := km (r.set 4 4016) n (505 + (n : Int)) kz
def kC (r : List Int) (n : Nat) : Mc := km r n 505 kz
theorem kz_len : kz.length = 32 := by decide +kernel
theorem k_fn (n : Nat) (z : List UInt8) (hz : z.length = 32) : fnN [⟨500, kco n, true⟩, ⟨4000, z, false⟩] 4016 8 = some 1 := by
  have hw : wn ⟨4000, z, false⟩ 4016 8 = true := by
    rw [wn_iff]
    show (4000 : Int) ≤ 4016 ∧ (8 : Int) ≤ (z.length : Int) ∧ (4016 : Int) - 4000 ≤ (z.length : Int) - 8
    rw [hz]; omega
  unfold fnN fnd
  rw [if_pos (by omega)]
  simp [List.findIdx?_cons, hw]
theorem k_pt (n : Nat) : ptM [⟨500, kco n, true⟩, ⟨4000, z32, false⟩] 4016 8 505 = some [⟨500, kco n, true⟩, ⟨4000, kz, false⟩] := by
  unfold ptM
  rw [k_fn n z32 rfl]
  rfl
theorem k_rd (n : Nat) : rdM [⟨500, kco n, true⟩, ⟨4000, kz, false⟩] 4016 8 = some 505 := by
  have : rdM [⟨500, kco n, true⟩, ⟨4000, kz, false⟩] 4016 8 = some (jn ((kz.drop 16).take 8)) := by unfold rdM; rw [k_fn n kz kz_len]; rfl
  rw [this]
  have hd : kz.drop 16 = bys 8 505 ++ z32.drop 24 := by
    unfold kz spl
    rw [List.append_assoc, List.drop_left' (by rfl), Xc.bys_len]
  rw [hd, List.take_left' (Xc.bys_len _ _), jn_bys8 (by unfold I64 Xc.I64; omega)]
theorem k_set {r : List Int} (h4 : r.getD 4 0 = 4024) (hl : r.length = 16) : (r.set 4 4016).set 4 4024 = r := by
  rw [List.set_set]
  refine List.ext_getElem (by simp) fun i h1 h2 => ?_
  rw [List.getElem_set]
  split
  · rename_i e
    subst e
    rw [List.getD_eq_getElem?_getD, List.getElem?_eq_getElem h2] at h4
    exact h4.symm
  · rfl
theorem k_one {r : List Int} {n : Nat} (hn : n < 40) (h4 : r.getD 4 0 = 4024) : stp (kA r n) = (kB r n, ⟨500, 4016, 0, 0⟩) := by
  have I : I64 ((n : Nat) : Int) := by unfold I64 Xc.I64; omega
  have f1 : fet (kA r n) = some (kx n) := fet_on (c := kco n) (g2 := [⟨4000, z32, false⟩]) (p := []) (s := List.replicate n 244 ++ [195]) rfl (by simp [kco, kcp]) (by show (500 : Int) = _; simp) (kx_rt n hn) I
  rw [stp_at f1 (by show (-1000000 : Int) ≤ 500 ∧ (500 : Int) ≤ 1000000; omega), kx_len n hn]
  have a1 : (kA r n).at_ = 500 := rfl
  rw [a1]
  have ad : adr ((kA r n).sa (500 + ((5 : Nat) : Int))) (kx n) = 4016 := by
    show wrap64 (r.getD 4 0 - 8) = 4016
    rw [h4]; unfold wrap64; omega
  show (((acc ((kA r n).sa (500 + ((5 : Nat) : Int))) (kx n) (adr ((kA r n).sa (500 + ((5 : Nat) : Int))) (kx n))).getD _), (⟨500, adr ((kA r n).sa (500 + ((5 : Nat) : Int))) (kx n), 0, 0⟩ : Lk)) = _
  rw [ad]
  have e5 : ((kA r n).sa (500 + ((5 : Nat) : Int))).at_ = 505 := rfl
  show ((((ptM [⟨500, kco n, true⟩, ⟨4000, z32, false⟩] 4016 8 505).map fun g => ((((kA r n).sa (500 + ((5 : Nat) : Int))).sg g).sr 4 4016).sa (wrap64 (505 + (n : Int)))).getD _), (⟨500, 4016, 0, 0⟩ : Lk)) = _
  rw [k_pt]
  have ew : wrap64 (505 + (n : Int)) = 505 + (n : Int) := by unfold wrap64; omega
  show ((⟨r.set 4 4016, false, false, false, false, wrap64 (505 + (n : Int)), [⟨500, kco n, true⟩, ⟨4000, kz, false⟩], 0⟩ : Mc), _) = _
  rw [ew]
  rfl
theorem k_two {r : List Int} {n : Nat} (hn : n < 40) (h4 : r.getD 4 0 = 4024) (hl : r.length = 16) : stp (kB r n) = (kC r n, ⟨505 + (n : Int), 4016, 0, 0⟩) := by
  have a1 : (kB r n).at_ = 505 + (n : Int) := rfl
  have f1 : fet (kB r n) = some kr := fet_on (c := kco n) (g2 := [⟨4000, kz, false⟩]) (p := kcp n n) (s := []) rfl (by rw [kr_enc]; rfl) (by rw [a1, kcp_len hn]; omega) kr_rt Xc.zero_I64
  rw [stp_at f1 (by rw [a1]; omega), kr_enc, a1]
  have e4 : (r.set 4 4016).getD 4 0 = 4016 := by
    rw [List.getD_eq_getElem?_getD, List.getElem?_set_self (by omega)]; rfl
  have ad : adr ((kB r n).sa (505 + (n : Int) + (([195] : List UInt8).length : Int))) kr = 4016 := by
    show (r.set 4 4016).getD 4 0 = 4016
    exact e4
  show (((acc ((kB r n).sa (505 + (n : Int) + (([195] : List UInt8).length : Int))) kr (adr ((kB r n).sa (505 + (n : Int) + (([195] : List UInt8).length : Int))) kr)).getD _), (⟨505 + (n : Int), adr ((kB r n).sa (505 + (n : Int) + (([195] : List UInt8).length : Int))) kr, 0, 0⟩ : Lk)) = _
  rw [ad]
  show ((((rdM [⟨500, kco n, true⟩, ⟨4000, kz, false⟩] 4016 8).map fun v => (((kB r n).sa (505 + (n : Int) + (([195] : List UInt8).length : Int))).sa v).sr 4 (wrap64 (4016 + 8))).getD _), (⟨505 + (n : Int), 4016, 0, 0⟩ : Lk)) = _
  rw [k_rd]
  have ew : wrap64 (4016 + 8) = 4024 := by unfold wrap64; omega
  rw [ew]
  show ((⟨(r.set 4 4016).set 4 4024, false, false, false, false, 505, [⟨500, kco n, true⟩, ⟨4000, kz, false⟩], 0⟩ : Mc), _) = _
  rw [k_set h4 hl]
  rfl
/-- The registers, k of them laid. -/
def kre (f : Nat → Int) (k : Nat) : List Int := (List.range 16).map fun i => if i < k then f i else 0
theorem kre_len (f : Nat → Int) (k : Nat) : (kre f k).length = 16 := by simp [kre]
theorem kre_set (f : Nat → Int) {k : Nat} (hk : k < 16) : (kre f k).set k (f k) = kre f (k + 1) := by
  refine List.ext_getElem (by simp [kre]) fun i h1 h2 => ?_
  rw [List.getElem_set]
  simp only [kre, List.getElem_map, List.getElem_range]
  split
  · rename_i e; subst e; simp
  · rename_i e
    by_cases h : i < k
    · simp [h, show i < k + 1 by omega]
    · simp [h, show ¬ i < k + 1 by omega]
theorem kre_I64 {f : Nat → Int} (h : ∀ j, I64 (f j)) (k : Nat) : ∀ v ∈ kre f k, I64 v := fun v hv => by
  simp only [kre, List.mem_map, List.mem_range] at hv
  obtain ⟨i, hi, rfl⟩ := hv
  have z : I64 0 := Xc.zero_I64
  split
  · exact h _
  · exact z
/-- With the stack's top. -/
def krs (f : Nat → Int) (k : Nat) : List Int := (kre f k).set 4 4024
theorem krs_len (f : Nat → Int) (k : Nat) : (krs f k).length = 16 := by simp [krs, kre]
theorem krs_4 (f : Nat → Int) (k : Nat) : (krs f k).getD 4 0 = 4024 := by
  unfold krs
  rw [List.getD_eq_getElem?_getD, List.getElem?_set_self (by rw [kre_len]; omega)]; rfl
theorem krs_I64 {f : Nat → Int} (h : ∀ j, I64 (f j)) (k : Nat) : ∀ v ∈ krs f k, I64 v := fun v hv => by
  rcases List.mem_or_eq_of_mem_set hv with hv | rfl
  · exact kre_I64 h k v hv
  · unfold I64 Xc.I64; omega
end Go.Proofs.Ytielpebokbolbaa
/-
  The program's Step, of a machine that goes.
-/
namespace Go.Proofs.Ytielpebokbolbaa
open Go.RowKit
open Xc (hide bel_one bel_tr bel_al bel_set Xi xv xc)
set_option linter.unusedSimpArgs false
set_option linter.unusedVariables false
theorem results_cl {fn : Func} {p q : Tmp} (h : fn.results = #[.cell p 27, .cell q 52]) (tmps : Array Value) (w : World) (g g2 : Nat) (l : List Value) (k : Lk) (hp : tmps.getD p undef = .pointer (some ⟨g, 0, none⟩)) (hq : tmps.getD q undef = .pointer (some ⟨g2, 0, none⟩)) (hb : w.heap[g]? = some (.cells l.toArray 27)) (hb2 : Lb g2 k w) (hi : (Try.prog.info? 27).map (·.size) = some l.length) :
    (results fn tmps).run Try.prog w = .ok (.tuple #[.agg l.toArray, lkv k]) w := by
  have hl := run_loadVar_row (P := Try.prog) w g 27 27 _ _ _ hb Try.underlying27 rfl (by rw [List.size_toArray]; exact hi)
  have hl2 := run_loadVar_row (P := Try.prog) w g2 52 52 _ _ _ hb2 Try.underlying52 rfl (by kernel_rfl)
  have hp' : tmps[p]?.getD undef = .pointer (some ⟨g, 0, none⟩) := by simpa using hp
  have hq' : tmps[q]?.getD undef = .pointer (some ⟨g2, 0, none⟩) := by simpa using hq
  simp [results, h, hp', hq', asAddr, hl, hl2, lkv, lkc]
def lk0 : Lk := ⟨0, 0, 0, 0⟩
/-- The boxes that Step begins with: its argument, its two results. -/
structure M3 (m : Mc) (vr : Value) (q : Nat) (w W : World) : Prop where
  b : Below w.heap.size w W
  r : W.heap[q]? = some (.cells (ml m vr).toArray 27)
  z : W.heap[q + 1]? = some (.cells zm 27)
  l : Lb (q + 2) lk0 W
  e : q = w.heap.size
  s : q + 2 < W.heap.size
theorem m3_made (m : Mc) (vr : Value) (w : World) : M3 m vr w.heap.size w (((w.alloc (.cells (ml m vr).toArray 27)).alloc (.cells zm 27)).alloc (.cells (lkc lk0) 52)) := by
  have h := m2_made m vr w
  have s2 : ((w.alloc (.cells (ml m vr).toArray 27)).alloc (.cells zm 27)).heap.size = w.heap.size + 2 := by simp
  generalize (w.alloc (.cells (ml m vr).toArray 27)).alloc (.cells zm 27) = U at *
  have k2 := bel_one U (.cells (lkc lk0) 52)
  have z2 : (U.alloc (.cells (lkc lk0) 52)).heap[U.heap.size]? = _ := heap_alloc_new U (.cells (lkc lk0) 52)
  rw [s2] at z2
  exact ⟨bel_tr h.b k2, (k2.block _ (by omega)).trans h.r, (k2.block _ (by omega)).trans h.z, z2, rfl, by simp; omega⟩
theorem lkc_siz (l : Lk) : (Try.prog.info? 52).map (·.size) = some (lkc l).size := by
  rw [show (lkc l).size = 4 from rfl]; kernel_rfl
theorem lkc_one (l : Lk) : (lkc l).all (·.oneCell') = true := by simp [lkc, Value.oneCell']
/-- Behind the step: the worker, the leak in its box. -/
structure S3 (B L : Nat) (base : Nat) (m : Mc) (l : Lk) (W U : World) : Prop where
  wk : WK (fun b => b = L) base B m U
  lb : Lb L l U
  bel : Below base W U
section
variable {m : Mc} {v : Value} {w : World}
def TpEnds (m : Mc) (w : World) (e : Ending) (w' : World) : Prop := ∃ v', e = .returned (.tuple #[v', lkv (stp m).2]) ∧ MV (stp m).1 v' w' ∧ Below w.heap.size w w'
set_option maxRecDepth 100000 in
set_option maxHeartbeats 6400000 in
theorem tp_any (h : MV m v w) (hst : m.st = 0) : Calls Try.prog 18 #[v] w (TpEnds m w) := by
  obtain ⟨ra, rc, ss, rfl, hR, hs, hok, hg⟩ := h
  have OP := hide (fun U (k : Below w.heap.size w U) => open_any m ra rc ss U hok hg (hR.bel k) hs)
  rw [mc_is] at OP
  rw [mc_is]
  have IL := hide (i27l hok.1 (.slice ra m.g.length rc))
  have M := hide (m3_made m (.slice ra m.g.length rc) w)
  have HL := hide hg
  have HST := hide hst
  have RG := hide (rng_row M.out.r)
  unfold zm lkc lk0 at M RG
  clear hR hs hok hg hst
  go_enter Try.func18, Try.ntmps18
  go_wp2_with (refine wpList_load_mid rfl 27 _ rfl w.heap.size 0 rfl _ _ RG.out Try.underlying27 rfl IL.out ?_)
  refine gw (motive := fun x => Calls _ _ _ x _) (fun W => Hid (M3 m (.slice ra m.g.length rc) w.heap.size w W)) M.out ?_
  rintro W MW
  clear M RG
  refine (OP.out _ MW.out.b).mono ?_
  rintro e w1 ⟨B, rfl, hx, hb⟩
  have W1 := hide hx.k0
  have B1 := hide hb
  clear OP hx hb IL
  go_upto_region 3 with fail
  have SL : Hid (W.heap.size ≤ w1.heap.size) := W1.out.bs
  have k1 := bel_one w1 (.cells (lkc lk0) 52)
  have W2 := (W1.out.box k1 (by simp)).mono (K' := fun b => b = w1.heap.size) (fun b e => Or.inr e)
  have SS : S3 B w1.heap.size W.heap.size m lk0 w1 (w1.alloc (.cells (lkc lk0) 52)) := ⟨W2, heap_alloc_new w1 _, k1.mono W1.out.bs⟩
  clear k1 W2
  unfold lkc lk0 at SS
  refine gw (motive := fun x => Code.wp _ _ _ _ x) (fun V => Hid (S3 B w1.heap.size W.heap.size m lk0 w1 V)) SS ?_
  rintro V SV
  clear SS
  have hLB : w1.heap.size < V.heap.size := SV.out.wk.kb rfl
  have c22 := SV.out.wk.ct
  rw [HST.out] at c22
  generalize w1.heap.size = L at *
  go_wp2_with fail
  refine (step_any SV.out.wk).mono ?_
  rintro e w2 ⟨rfl, g2⟩
  have hl2 : Lb L lk0 w2 := (g2.kk L rfl).trans SV.out.lb
  have G2 := hide g2
  have HL2 := hide hl2
  unfold Lb at HL2
  have SB := SV.out.bel
  clear g2 hl2 c22
  have HI := hide (lkc_siz (stp m).2)
  have HON := hide (lkc_one (stp m).2)
  have HZS : Hid ((lkc lk0).size = (lkc (stp m).2).size) := rfl
  unfold lkv
  go_upto_region 5 with (refine wpList_store_row rfl 52 _ _ rfl L _ rfl rfl 52 (lkc lk0) HL2.out HI.out HZS.out HON.out ?_)
  have hl3 : Lb L (stp m).2 (w2.setRow L (lkc (stp m).2)) := setRow_heap w2 L (lkc lk0) _ 52 (0, 0) HL2.out
  have wk3 : WK (fun b => b = L) W.heap.size B (stp m).1 (w2.setRow L (lkc (stp m).2)) := by
    refine G2.out.wk.grow (by simp [World.setRow]) (fun b hb hn => setRow_other w2 L b _ hn) fun b hb => ?_
    subst hb
    exact ⟨_, _, _, hl3, rfl, rfl⟩
  have hWL : W.heap.size ≤ L := by
    rcases Nat.lt_or_ge L W.heap.size with h | h
    · exact absurd h (by have := SL.out; omega)
    · exact h
  have bel3 : Below W.heap.size w1 (w2.setRow L (lkc (stp m).2)) := below_setRow (SB.trans G2.out.bel) hWL _
  have S5 : S3 B L W.heap.size (stp m).1 (stp m).2 w1 (w2.setRow L (lkc (stp m).2)) := ⟨wk3, hl3, bel3⟩
  refine gw (motive := fun x => Code.wp _ _ _ _ x) (fun V => Hid (S3 B L W.heap.size (stp m).1 (stp m).2 w1 V)) S5 ?_
  clear S5 bel3 wk3 hl3 SB HL2 HI HON HZS G2 SV hLB
  rintro U SU
  have HM' : Hid (32 * (stp m).1.g.length ≤ 140737488351232) := by show _ ≤ _; rw [g_stp]; exact HL.out
  generalize hm' : (stp m).1 = m' at *
  generalize hl' : (stp m).2 = l at *
  have HE := hide (And.intro hm' hl')
  clear hm' hl'
  obtain ⟨y0, y1, y2, y3⟩ := SU.out.lb.cells
  refine wp_region_held_drew (S := (fun X => X.cell? ⟨L, 0, none⟩ = some (.int .i64 l.at_) ∧ X.cell? ⟨L, 1, none⟩ = some (.int .i64 l.ad) ∧ X.cell? ⟨L, 2, none⟩ = some (.int .i64 l.nm) ∧ X.cell? ⟨L, 3, none⟩ = some (.int .i64 l.dn))) (by kernel_rfl) ⟨y0, y1, y2, y3⟩ ?_
  clear y0 y1 y2 y3
  intro hHeld
  change wpAnyH _ _ _ _ _ _ _ _ (World.drew _)
  refine wpAnyH_take (i := 0) (v := ?_) rfl (by kernel_rfl) (by kernel_rfl) (by kernel_rfl) (fun _ _ _ h => h) (Or.inl ⟨by kernel_rfl, ?hy⟩) (by assumption) ?_
  case hy => intro w hSw; (try dsimp only at hSw); go_simp; try with_reducible rfl
  simp only [Act.put, List.setIfInBounds_toArray, List.set_cons_zero, List.set_cons_succ]
  refine wpAnyH_take (i := 2) (v := ?_) rfl (by kernel_rfl) (by kernel_rfl) (by kernel_rfl) (fun _ _ _ h => h) (Or.inl ⟨by kernel_rfl, ?hy⟩) (by assumption) ?_
  case hy => intro w hSw; (try dsimp only at hSw); go_simp; try with_reducible rfl
  simp only [Act.put, List.setIfInBounds_toArray, List.set_cons_zero, List.set_cons_succ]
  refine wpAnyH_ready (rs := [1]) (by kernel_rfl) (by simp) ?_
  refine AllReadyH.cons rfl (fun K hK => ?_) AllReadyH.nil
  go_simp
  refine (closedK (SU.out.wk.bel (bel_d (Below.refl _ _))).wk).mono ?_
  rintro e w3 ⟨hkk, ra', rc', ss', rfl, hR', hs', hb3⟩
  have LB3 : Lb L l w3 := (hkk L rfl).trans SU.out.lb
  have hq1 := MW.out.s
  have kb : Below W.heap.size W w3 := ((B1.out.mono (Nat.le_refl _)).trans (SU.out.bel.trans (bel_d (Below.refl _ _)))).trans hb3
  have HZ := hide ((kb.block _ (by omega)).trans MW.out.z)
  have HZ2 := hide ((kb.block _ (by omega)).trans MW.out.l)
  have OK' := hide SU.out.wk.ok
  have BB := hide (show Below w.heap.size w w3 from MW.out.b.trans (kb.mono MW.out.b.size))
  have HR' := hide hR'
  have HS' := hide hs'
  have IL' := hide (i27l OK'.out.1 (.slice ra' m'.g.length rc'))
  have HL' := hide (ml_len OK'.out.1 (.slice ra' m'.g.length rc'))
  rw [mc_is]
  have HZS : Hid (zm.size = (ml m' (.slice ra' m'.g.length rc')).toArray.size) := (show zm.size = 23 from rfl).trans (by rw [List.size_toArray, HL'.out])
  have IL2 : Hid ((Try.prog.info? 27).map (·.size) = some (ml m' (.slice ra' m'.g.length rc')).toArray.size) := by show _ = _; rw [List.size_toArray]; exact IL'.out
  have HON := hide (ml_one m' ra' m'.g.length rc')
  have hqL : w.heap.size + 1 < L ∧ w.heap.size + 2 < L := by have := SL.out; omega
  have HSS := hide hq1
  refine hK.out _ _ LB3.cells (fun hHeld => ?_)
  clear hK K hR' hs' hb3 kb hq1 hkk B1 SU W1
  refine wpAnyH_ready (rs := [3]) (by kernel_rfl) (by simp) ?_
  refine AllReadyH.cons rfl (fun K hK => ?_) AllReadyH.nil
  rw [if_pos (by rfl)]
  refine wp_store_row 27 _ _ rfl (w.heap.size + 1) _ rfl rfl 27 zm HZ.out IL2.out HZS.out HON.out ?_
  have LB4 : Lb L l (w3.setRow (w.heap.size + 1) (ml m' (.slice ra' m'.g.length rc')).toArray) := (setRow_other w3 _ L _ (by omega)).trans LB3
  have HZ3 : (w3.setRow (w.heap.size + 1) (ml m' (.slice ra' m'.g.length rc')).toArray).heap[w.heap.size + 2]? = _ := (setRow_other w3 (w.heap.size + 1) (w.heap.size + 2) _ (by omega)).trans HZ2.out
  have HB4 := hide (below_setRow BB.out (show w.heap.size ≤ w.heap.size + 1 by omega) (ml m' (.slice ra' m'.g.length rc')).toArray)
  have HM4 : Hid (MV m' (.agg (ml m' (.slice ra' m'.g.length rc')).toArray) (w3.setRow (w.heap.size + 1) (ml m' (.slice ra' m'.g.length rc')).toArray)) := ⟨ra', rc', ss', by rw [mc_is], HR'.out.row HZ.out _, HS'.out, OK'.out, HM'.out⟩
  have HR4 := hide (setRow_heap w3 (w.heap.size + 1) zm (ml m' (.slice ra' m'.g.length rc')).toArray 27 (0, 0) HZ.out)
  refine hK.out _ _ LB4.cells (fun hHeld => ?_)
  clear hK K HZ HZ2 LB3 BB HON HZS IL2 HR' HS'
  generalize w3.setRow (w.heap.size + 1) (ml m' (.slice ra' m'.g.length rc')).toArray = w4 at *
  refine wpAnyH_ready (rs := [4]) (by kernel_rfl) (by simp) ?_
  refine AllReadyH.cons rfl (fun K hK => ?_) AllReadyH.nil
  rw [if_pos (by rfl)]
  refine wp_store_row 52 _ _ rfl (w.heap.size + 2) (lkc l) rfl rfl 52 (lkc lk0) HZ3 (lkc_siz l) rfl (lkc_one l) ?_
  have LB5 : Lb L l (w4.setRow (w.heap.size + 2) (lkc l)) := (setRow_other w4 _ L _ (by omega)).trans LB4
  refine hK.out _ _ LB5.cells (fun hHeld => ?_)
  clear hK K
  have LR : Lb (w.heap.size + 2) l (w4.setRow (w.heap.size + 2) (lkc l)) := setRow_heap w4 _ (lkc lk0) (lkc l) 52 (0, 0) HZ3
  have HR5 := (setRow_other w4 (w.heap.size + 2) (w.heap.size + 1) (lkc l) (by omega)).trans HR4.out
  have HB5 := below_setRow HB4.out (show w.heap.size ≤ w.heap.size + 2 by omega) (lkc l)
  have HM5 : MV m' (.agg (ml m' (.slice ra' m'.g.length rc')).toArray) (w4.setRow (w.heap.size + 2) (lkc l)) := by
    obtain ⟨ra3, rc3, ss3, e3, hR3, hs3, ok3, hl3⟩ := HM4.out
    refine ⟨ra3, rc3, ss3, e3, ?_, hs3, ok3, hl3⟩
    rcases hR3 with h0 | ⟨b, off, eb, hb⟩
    · exact Or.inl h0
    · rcases Nat.eq_zero_or_pos m'.g.length with h0 | h0
      · exact Or.inl (List.length_eq_zero_iff.1 h0)
      · refine Or.inr ⟨b, off, eb, hb.of (setRow_other w4 (w.heap.size + 2) b _ ?_)⟩
        intro hbq
        subst hbq
        have := (hb 0 h0).2.1
        simp only [World.cell?, HZ3, lkc, lk0] at this
        revert this
        generalize off + 0 * 3 + 1 = k
        intro this
        match k, this with
        | 0, h => simp at h
        | 1, h => simp at h
        | 2, h => simp at h
        | 3, h => simp at h
        | k + 4, h => simp at h
  refine wpAnyH_done (by kernel_rfl) ?_ _
  go_wp2_with fail
  refine bodyPost_ret (results_cl rfl _ _ (w.heap.size + 1) (w.heap.size + 2) _ l rfl rfl HR5 LR IL'.out) rfl ?_
  refine ⟨_, by rw [HE.out.2], ?_, HB5⟩
  rw [HE.out.1]
  exact HM5
end
end Go.Proofs.Ytielpebokbolbaa
/-
  The machine of XstepCalls in memory.
-/
namespace Go.Proofs.Ytielpebokbolbaa
open Go.RowKit
open Xc (hide bel_one bel_tr bel_al bel_set Xi xv xc bys jn)
set_option linter.unusedSimpArgs false
set_option linter.unusedVariables false
theorem str_snoc (l : List UInt8) (b : UInt8) : Xc.str l ++ (⟨#[b]⟩ : ByteArray) = Xc.str (l ++ [b]) := by
  apply ByteArray.ext
  simp [Xc.str]
theorem km_mv {r : List Int} {n : Nat} {w : World} {q rc : Nat} (hn : n < 40) (hl : r.length = 16) (hr : ∀ v ∈ r, I64 v) (h : w.heap[q]? = some (.cells (c6 (Xc.str (kco n))) 39)) : MV (kA r n) (.agg (mc (kA r n) (.slice (some ⟨q, 0, none⟩) 2 rc))) w := by
  have hcl : (kco n).length ≤ 52 := by rw [kco_len hn]; omega
  have ok0 : Rg.ok ⟨500, kco n, true⟩ := ⟨by show I64 500; unfold I64 Xc.I64; omega, by show (kco n).length ≤ _; omega⟩
  have ok1 : Rg.ok ⟨4000, z32, false⟩ := ⟨by show I64 4000; unfold I64 Xc.I64; omega, by show (32 : Nat) ≤ _; omega⟩
  have e : ∀ k, w.cell? ⟨q, k, none⟩ = (c6 (Xc.str (kco n)))[k]? := fun k => by simp [World.cell?, h]
  refine ⟨some ⟨q, 0, none⟩, rc, fun i => if i = 0 then Xc.str (kco n) else zs, rfl, Or.inr ⟨q, 0, rfl, fun i hi => ?_⟩, fun i hi => ?_, ⟨hl, hr, by show I64 500; unfold I64 Xc.I64; omega, ?_⟩, by show 32 * 2 ≤ 140737488351232; omega⟩
  · rw [e, e, e]
    match i, hi with
    | 0, _ => exact ⟨rfl, rfl, rfl, by simp [kA, km, Xc.str, ByteArray.size], ok0⟩
    | 1, _ => exact ⟨rfl, rfl, rfl, rfl, ok1⟩
  · match i, hi with
    | 0, _ => simp [kA, km, Xc.str]
    | 1, _ => simp [kA, km, zs]
  · intro r hr
    have hr' : r ∈ [(⟨500, kco n, true⟩ : Rg), ⟨4000, z32, false⟩] := hr
    simp at hr'
    rcases hr' with rfl | rfl
    · exact ok0
    · exact ok1
/-- A machine's row, its registers on the way. -/
theorem ml_reg (r : List Int) (n : Nat) (sl : Value) {k : Nat} (hk : k < r.length) (v : Int) : (ml (kA r n) sl).toArray.setIfInBounds k (.int .i64 v) = (ml (kA (r.set k v) n) sl).toArray := by
  have : (ml (kA r n) sl).set k (.int .i64 v) = ml (kA (r.set k v) n) sl := by
    unfold ml
    rw [List.set_append_left _ _ (by simp [kA, km]; omega)]
    simp only [kA, km, List.map_set]
  simpa using this
theorem row_reg {r : List Int} {n q : Nat} {sl : Value} {V : World} (h : V.heap[q]? = some (.cells (ml (kA r n) sl).toArray 27)) {k : Nat} (hk : k < r.length) (v : Int) : (V.setCell ⟨q, k, none⟩ (.int .i64 v)).heap[q]? = some (.cells (ml (kA (r.set k v) n) sl).toArray 27) := by
  simp only [World.setCell, Array.getElem?_modify, h, if_true, Option.map_some]
  rw [← ml_reg r n sl hk v]
  rfl
theorem kre_zero (f : Nat → Int) (n : Nat) (sl : Value) : ml (mz [⟨500, kco n, true⟩, ⟨4000, z32, false⟩]) sl = ml (kA (kre f 0) n) sl := rfl
/-- What two new boxes hold. -/
theorem two_made {m : Mc} {w : World} {ra : Option Addr} {rc : Nat} (l : Lk) (h : MV m (.agg (mc m (.slice ra m.g.length rc))) w) :
    BM w.heap.size m (.slice ra m.g.length rc) ((((w.alloc (.cells zm 27)).alloc (.cells (lkc lk0) 52)).setRow w.heap.size (ml m (.slice ra m.g.length rc)).toArray).setRow (w.heap.size + 1) (lkc l)) ∧ Lb (w.heap.size + 1) l ((((w.alloc (.cells zm 27)).alloc (.cells (lkc lk0) 52)).setRow w.heap.size (ml m (.slice ra m.g.length rc)).toArray).setRow (w.heap.size + 1) (lkc l)) ∧ Below w.heap.size w ((((w.alloc (.cells zm 27)).alloc (.cells (lkc lk0) 52)).setRow w.heap.size (ml m (.slice ra m.g.length rc)).toArray).setRow (w.heap.size + 1) (lkc l)) := by
  have k1 := bel_one w (.cells zm 27)
  have z1 : (w.alloc (.cells zm 27)).heap[w.heap.size]? = _ := heap_alloc_new w _
  have s1 : (w.alloc (.cells zm 27)).heap.size = w.heap.size + 1 := by simp
  generalize w.alloc (.cells zm 27) = U at *
  have k2 := bel_one U (.cells (lkc lk0) 52)
  have z2 : (U.alloc (.cells (lkc lk0) 52)).heap[U.heap.size]? = _ := heap_alloc_new U _
  rw [s1] at z2
  have y1 := (k2.block w.heap.size (by omega)).trans z1
  have k3 := bel_tr k1 k2
  generalize U.alloc (.cells (lkc lk0) 52) = V at *
  have k4 := below_setRow k3 (Nat.le_refl _) (ml m (.slice ra m.g.length rc)).toArray
  have y2 := setRow_heap V w.heap.size zm (ml m (.slice ra m.g.length rc)).toArray 27 (0, 0) y1
  have z3 := (setRow_other V w.heap.size (w.heap.size + 1) (ml m (.slice ra m.g.length rc)).toArray (by omega)).trans z2
  generalize V.setRow w.heap.size (ml m (.slice ra m.g.length rc)).toArray = X at *
  have k5 := below_setRow k4 (show w.heap.size ≤ w.heap.size + 1 by omega) (lkc l)
  exact ⟨⟨(setRow_other X (w.heap.size + 1) w.heap.size _ (by omega)).trans y2, h.bel k5⟩, setRow_heap X (w.heap.size + 1) (lkc lk0) (lkc l) 52 (0, 0) z3, k5⟩
theorem eq16 (x0 x1 x2 x3 x4 x5 x6 x7 x8 x9 x10 x11 x12 x13 x14 x15 : Int) (w : World) : (Op.equalIn 10000 22 (.agg #[.int .i64 x0, .int .i64 x1, .int .i64 x2, .int .i64 x3, .int .i64 x4, .int .i64 x5, .int .i64 x6, .int .i64 x7, .int .i64 x8, .int .i64 x9, .int .i64 x10, .int .i64 x11, .int .i64 x12, .int .i64 x13, .int .i64 x14, .int .i64 x15]) (.agg #[.int .i64 x0, .int .i64 x1, .int .i64 x2, .int .i64 x3, .int .i64 x4, .int .i64 x5, .int .i64 x6, .int .i64 x7, .int .i64 x8, .int .i64 x9, .int .i64 x10, .int .i64 x11, .int .i64 x12, .int .i64 x13, .int .i64 x14, .int .i64 x15])).run Try.prog w = .ok true w := eq_regs [x0, x1, x2, x3, x4, x5, x6, x7, x8, x9, x10, x11, x12, x13, x14, x15] rfl w
theorem z_one (w : World) : ((w.alloc (.cells zm 27)).alloc (.cells (lkc lk0) 52)).heap[w.heap.size]? = some (.cells zm 27) := by
  have z1 : (w.alloc (.cells zm 27)).heap[w.heap.size]? = _ := heap_alloc_new w _
  exact ((bel_one (w.alloc (.cells zm 27)) (.cells (lkc lk0) 52)).block w.heap.size (by simp)).trans z1
theorem z_two (w : World) (cs : Array Value) : (((w.alloc (.cells zm 27)).alloc (.cells (lkc lk0) 52)).setRow w.heap.size cs).heap[w.heap.size + 1]? = some (.cells (lkc lk0) 52) := by
  have z2 := heap_alloc_new (w.alloc (.cells zm 27)) (.cells (lkc lk0) 52)
  rw [show (w.alloc (.cells zm 27)).heap.size = w.heap.size + 1 by simp] at z2
  exact (setRow_other _ w.heap.size (w.heap.size + 1) cs (by omega)).trans z2
end Go.Proofs.Ytielpebokbolbaa
