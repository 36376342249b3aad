/-
  The program's Run: steps one behind the other, and their leaks in a row.
  The program's Run, walked.
  The document's Same and Leaks, of two machines, or two lists of leaks, that are the same.
-/
import Derived.Test.YtielpebokbolbaaM41
import Derived.Laws.StructEq
import Derived.ChangeKeysEq
namespace Go.Proofs.Ytielpebokbolbaa
open Go.RowKit
open Xc (hide bel_one bel_tr bel_al bel_set Xi xv xc)
set_option linter.unusedSimpArgs false
set_option linter.unusedVariables false
/-- So many steps, whatever the status. -/
def rn : Nat → Mc → Mc × List Lk
  | 0, m => (m, [])
  | k + 1, m => ((stp (rn k m).1).1, (rn k m).2 ++ [(stp (rn k m).1).2])
theorem rn_len : ∀ (k : Nat) (m : Mc), (rn k m).2.length = k
  | 0, _ => rfl
  | k + 1, m => by simp [rn, rn_len k m]
theorem rn_shift : ∀ (k : Nat) (m : Mc), rn (k + 1) m = ((rn k (stp m).1).1, (stp m).2 :: (rn k (stp m).1).2)
  | 0, _ => rfl
  | k + 1, m => by
    have h := rn_shift k m
    show ((stp (rn (k + 1) m).1).1, (rn (k + 1) m).2 ++ [(stp (rn (k + 1) m).1).2]) = _
    rw [h]
    rfl
theorem run_rn : ∀ (n k : Nat) (m : Mc), k ≤ n → (∀ j, j < k → (rn j m).1.st = 0) → ((rn k m).1.st ≠ 0 ∨ k = n) → runM n m = rn k m
  | 0, k, m, hk, _, _ => by
    have : k = 0 := by omega
    subst this; rfl
  | n + 1, 0, m, hk, hj, he => by
    have h : ¬ m.st = 0 := by
      rcases he with h | h
      · exact h
      · omega
    simp [runM, h, rn]
  | n + 1, k + 1, m, hk, hj, he => by
    have h0 : m.st = 0 := hj 0 (by omega)
    have ih := run_rn n k (stp m).1 (by omega) (fun j hj' => by
      have := hj (j + 1) (by omega)
      rw [rn_shift] at this; exact this) (by
      rcases he with h | h
      · rw [rn_shift] at h; exact Or.inl h
      · exact Or.inr (by omega))
    rw [rn_shift]
    simp only [runM, h0, if_true, ih]
/-- The leaks' cells. -/
def lkl (L : List Lk) : List Value := L.flatMap fun l => [.int .i64 l.at_, .int .i64 l.ad, .int .i64 l.nm, .int .i64 l.dn]
theorem lkl_len (L : List Lk) : (lkl L).length = L.length * 4 := by
  induction L with
  | nil => rfl
  | cons l L ih => simp only [lkl, List.flatMap_cons, List.length_append, List.length_cons] at *; simp only [List.length_nil]; omega
theorem lkl_snoc (L : List Lk) (l : Lk) : lkl (L ++ [l]) = lkl L ++ [.int .i64 l.at_, .int .i64 l.ad, .int .i64 l.nm, .int .i64 l.dn] := by simp [lkl]
/-- A slice of leaks. -/
def LV (b0 : Nat) (L : List Lk) (v : Value) (w : World) : Prop := w.ownsRow b0 52 4 v L.length (lkl L)
theorem LV.of {b0 : Nat} {L : List Lk} {v : Value} {w w' : World} (h : LV b0 L v w) (k : ∀ b, v.ownBlock = some b → w'.heap[b]? = w.heap[b]?) : LV b0 L v w' := by
  refine ⟨h.1, ?_⟩
  rcases h.2 with h | ⟨g, cap, cur, e, h1, h2, h3⟩
  · exact Or.inl h
  · exact Or.inr ⟨g, cap, cur, e, h1, by rw [k g (by rw [e]; rfl)]; exact h2, h3⟩
theorem LV.lt {b0 : Nat} {L : List Lk} {v : Value} {w : World} (h : LV b0 L v w) {b : Nat} (hb : v.ownBlock = some b) : b < w.heap.size := by
  rcases h.2 with ⟨e, _⟩ | ⟨g, cap, cur, e, h1, h2, h3⟩
  · rw [e] at hb; cases hb
  · rw [e] at hb
    injection hb with hb
    have : g = b := hb
    subst this
    rcases Nat.lt_or_ge g w.heap.size with h' | h'
    · exact h'
    · rw [Array.getElem?_eq_none h'] at h2; cases h2
theorem LV.ge {b0 : Nat} {L : List Lk} {v : Value} {w : World} (h : LV b0 L v w) {b : Nat} (hb : v.ownBlock = some b) : b0 ≤ b := by
  rcases h.2 with ⟨e, _⟩ | ⟨g, cap, cur, e, h1, h2, h3⟩
  · rw [e] at hb; cases hb
  · rw [e] at hb
    injection hb with hb
    have : g = b := hb
    subst this; exact h1
theorem LV.mono {b0 b1 : Nat} {L : List Lk} {v : Value} {w : World} (h : LV b0 L v w) (hb : b1 ≤ b0) : LV b1 L v w := by
  refine ⟨h.1, ?_⟩
  rcases h.2 with h | ⟨g, cap, cur, e, h1, h2⟩
  · exact Or.inl h
  · exact Or.inr ⟨g, cap, cur, e, Nat.le_trans hb h1, h2⟩
theorem LV.bel {b0 : Nat} {L : List Lk} {v : Value} {w w' : World} (h : LV b0 L v w) (k : Below w.heap.size w w') : LV b0 L v w' := h.of fun b hb => k.block b (h.lt hb)
theorem LV.row {b0 : Nat} {L : List Lk} {v : Value} {w : World} (h : LV b0 L v w) (hn : 0 < L.length) {b : Nat} (hb : v.ownBlock = some b) : ∃ cur x y, w.heap[b]? = some (.cells cur 52 (0, 0)) ∧ cur[0]? = some (.int .i64 x) ∧ cur[1]? = some (.int .i64 y) := by
  rcases h.2 with ⟨e, _⟩ | ⟨g, cap, cur, e, h1, h2, h3, h4, h5, h6⟩
  · rw [e] at hb; cases hb
  · rw [e] at hb
    injection hb with hb
    have : g = b := hb
    subst this
    obtain ⟨l, L', rfl⟩ : ∃ l L', L = l :: L' := by
      cases L with
      | nil => cases hn
      | cons l L' => exact ⟨l, L', rfl⟩
    refine ⟨cur, l.at_, l.ad, h2, ?_, ?_⟩
    · have := congrArg (·[0]?) h6
      simp only [List.getElem?_take, lkl, List.flatMap_cons, List.length_cons] at this
      rw [if_pos (by omega)] at this
      simpa using this
    · have := congrArg (·[1]?) h6
      simp only [List.getElem?_take, lkl, List.flatMap_cons, List.length_cons] at this
      rw [if_pos (by omega)] at this
      simpa using this
section
variable {K K' : Nat → Prop} {base B : Nat} {m : Mc} {w w' : World}
/-- K's blocks have changed, and there are new ones, which hold leaks. -/
theorem WK.grow (h : WK K base B m w) (hs : w.heap.size ≤ w'.heap.size) (e : ∀ b, b < w.heap.size → ¬ K b → w'.heap[b]? = w.heap[b]?) (hk : ∀ b, K' b → ∃ cur x y, w'.heap[b]? = some (.cells cur 52 (0, 0)) ∧ cur[0]? = some (.int .i64 x) ∧ cur[1]? = some (.int .i64 y)) : WK K' base B m w' := by
  obtain ⟨ra, oa, rc, ss, os, hJ, ha, hb⟩ := h
  have eB : w'.heap[B]? = w.heap[B]? := e B hJ.row.lt fun h => (ha B h).1 rfl
  have row' : RowW B (wc m (.slice ra m.g.length rc) (.slice oa m.g.length m.g.length)) w' := by
    have := hJ.row
    unfold RowW at *; rw [eB]; exact this
  have mem' : Wm base B ra oa m.g ss os w' := by
    rcases hJ.mem with h0 | ⟨rb, ob, e1, e2, hN⟩
    · exact Or.inl h0
    · by_cases hn : 0 < m.g.length
      · exact Or.inr ⟨rb, ob, e1, e2, hN.of2 hs (e rb hN.l1 fun h => (ha rb h).2.1 hn _ e1 rfl) (e ob hN.l2 fun h => (ha ob h).2.2.1 hn _ e2 rfl) fun i q c hi ho => e q (hN.ow i hi q c ho).2.2.2.2.1.1 fun h => (ha q h).2.2.2 i q c hi ho rfl⟩
      · exact Or.inl (List.length_eq_zero_iff.1 (by omega))
  have lt' : ∀ b, K' b → b < w'.heap.size := fun b hb' => by
    obtain ⟨cur, x, y, h1, _⟩ := hk b hb'
    rcases Nat.lt_or_ge b w'.heap.size with h' | h'
    · exact h'
    · rw [Array.getElem?_eq_none h'] at h1; cases h1
  refine ⟨ra, oa, rc, ss, os, ⟨row', hJ.le, mem', hJ.ok, hJ.sm⟩, fun b hb' => ?_, lt'⟩
  obtain ⟨cur, x, y, h1, h2, h3⟩ := hk b hb'
  have c0 : w'.cell? ⟨b, 0, none⟩ = some (.int .i64 x) := by simp [World.cell?, h1, h2]
  have c1 : w'.cell? ⟨b, 1, none⟩ = some (.int .i64 y) := by simp [World.cell?, h1, h3]
  refine ⟨fun hE => ?_, fun hn z hz hE => ?_, fun hn z hz hE => ?_, fun j q c hj hq hE => ?_⟩
  · subst hE
    rw [show w'.heap[b]? = _ from row'] at h1
    injection h1 with h1
    injection h1 with _ h1
    exact absurd h1 (by decide)
  · rcases mem' with h0 | ⟨rb, ob, e1, e2, hN⟩
    · rw [h0] at hn; cases hn
    · rw [e1] at hz; injection hz with hz; subst hz
      have hE' : rb = b := hE
      subst hE'
      have := (hN.rl 0 hn).2.1
      rw [show (0 + 0 * 3 + 1 : Nat) = 1 from rfl, c1] at this; cases this
  · rcases mem' with h0 | ⟨rb, ob, e1, e2, hN⟩
    · rw [h0] at hn; cases hn
    · rw [e2] at hz; injection hz with hz; subst hz
      have hE' : ob = b := hE
      subst hE'
      have := hN.oc 0 hn
      rw [c0] at this
      cases ho : os 0 with
      | none => rw [ho] at this; cases this
      | some p => rw [ho] at this; cases this
  · rcases mem' with h0 | ⟨rb, ob, e1, e2, hN⟩
    · rw [h0] at hj; cases hj
    · obtain ⟨_, _, _, _, a5, a6⟩ := hN.ow j hj q c hq
      subst hE
      have := (a5.2 0 a6).1
      rw [c0] at this
      injection this with this
      injection this with h1 _
      cases h1
end
end Go.Proofs.Ytielpebokbolbaa
namespace Go.Proofs.Ytielpebokbolbaa
open Go.RowKit
open Xc (hide bel_one bel_tr bel_al bel_set Xi xv xc)
set_option linter.unusedSimpArgs false
set_option linter.unusedVariables false
theorem infoLk : (Try.prog.info? 52).map (fun i => (i.zero, i.size, i.bytes)) = some (some (.agg #[.int .i64 0, .int .i64 0, .int .i64 0, .int .i64 0]), 4, 32) := by kernel_rfl
def lenV : Value → Nat
  | .slice _ n _ => n
  | _ => 0
def RuEnds (m : Mc) (n : Nat) (w : World) (e : Ending) (w' : World) : Prop := ∃ v' v7, e = .returned (.tuple #[v', v7]) ∧ MV (runM n m).1 v' w' ∧ LV 0 (runM n m).2 v7 w' ∧ Below w.heap.size w w'
theorem LV.sl {b0 : Nat} {L : List Lk} {v : Value} {w : World} (h : LV b0 L v w) : ∃ a c, v = .slice a L.length c := by
  rcases h.2 with ⟨rfl, e⟩ | ⟨g, cap, cur, rfl, _⟩
  · rw [e]; exact ⟨_, _, rfl⟩
  · exact ⟨_, _, rfl⟩
theorem new_cells (w : World) (l : Lk) (t : TypeId) : ∀ j u, [Value.int .i64 l.at_, .int .i64 l.ad, .int .i64 l.nm, .int .i64 l.dn][j]? = some u → (w.alloc (.cells #[.int .i64 l.at_, .int .i64 l.ad, .int .i64 l.nm, .int .i64 l.dn] t)).cell? ((⟨w.heap.size, 0, none⟩ : Addr).add j) = some u := fun j u hj => by
  have e : (w.alloc (.cells #[.int .i64 l.at_, .int .i64 l.ad, .int .i64 l.nm, .int .i64 l.dn] t)).heap[w.heap.size]? = _ := heap_alloc_new w (.cells #[.int .i64 l.at_, .int .i64 l.ad, .int .i64 l.nm, .int .i64 l.dn] t)
  rw [add_at]
  simp only [World.cell?, Nat.zero_add, e]
  simpa using hj
theorem g_stp (m : Mc) : (stp m).1.g.length = m.g.length := by
  have acc_g : ∀ (m : Mc) (x : Xi) (a a0 : Int) (k : Int), ((acc m x a).getD ((m.sa a0).ss k)).g.length = m.g.length := fun m x a a0 k => by
    have pt : ∀ n v, ((ptM m.g a n v).map fun g => m.sg g) = none ∨ ∃ g, ((ptM m.g a n v).map fun g => m.sg g) = some (m.sg g) ∧ g.length = m.g.length := fun n v => by
      have := ptM_len (g := m.g) (a := a) (n := n) (v := v)
      cases h : ptM m.g a n v with
      | none => exact Or.inl rfl
      | some g => rw [h] at this; exact Or.inr ⟨g, rfl, this⟩
    unfold acc
    split
    · rcases pt (szX x) (m.rg x.r) with h | ⟨g, h, hg⟩
      · rw [h]; rfl
      · rw [h]; exact hg
    · split
      · have := ptM_len (g := m.g) (a := a) (n := 8) (v := m.at_)
        cases h : ptM m.g a 8 m.at_ with
        | none => rfl
        | some g => rw [h] at this; exact this
      · split
        · cases rdM m.g a 8 <;> rfl
        · cases rdM m.g a (szX x) <;> rfl
  unfold stp
  cases fet m with
  | none => rfl
  | some x =>
    show (doX _ x _).1.g.length = _
    unfold doX
    split
    · exact acc_g _ _ _ _ _
    · split
      · show (Option.getD (dvd _ x) _).g.length = _
        unfold dvd
        split
        · split <;> rfl
        · split <;> rfl
      · split
        · show (if _ then _ else _ : Mc).g.length = _
          split <;> rfl
        · split
          · rfl
          · split
            · rfl
            · split
              · rfl
              · show (rck _ x).g.length = _
                rw [rck_g]; rfl
theorem g_rn : ∀ (k : Nat) (m : Mc), (rn k m).1.g.length = m.g.length
  | 0, _ => rfl
  | k + 1, m => (g_stp _).trans (g_rn k m)
section
variable {m : Mc} {v : Value} {w : World}
set_option maxRecDepth 100000 in
set_option maxHeartbeats 6400000 in
theorem run_any (h : MV m v w) (most : Int) (hmost : most ≤ 1000000) : Calls Try.prog 15 #[v, .int .i64 most] w (RuEnds m most.toNat w) := by
  obtain ⟨ra, rc, ss, rfl, hR, hs, hok, hg⟩ := h
  have OP := hide (fun U (k : Below w.heap.size w U) => open_any m ra rc ss U hok hg (hR.bel k) hs)
  rw [mc_is] at OP
  rw [mc_is]
  have IL := hide (i27l hok.1 (.slice ra m.g.length rc))
  have M := hide (m2_made m (.slice ra m.g.length rc) w)
  have HL := hide hg
  have HMO := hide hmost
  have RG := hide (rng_row M.out.r)
  obtain ⟨i0, hi, hz0, hz1, hz2⟩ := info_parts infoLk
  unfold zm at M RG
  clear hR hs hok hg hmost
  go_enter Try.func15, Try.ntmps15
  go_wp2_with (refine wpList_load_mid rfl 27 _ rfl w.heap.size 0 rfl _ _ RG.out Try.underlying27 rfl IL.out ?_)
  refine gw (motive := fun x => Calls _ _ _ x _) (fun W => Hid (M2 m (.slice ra m.g.length rc) w.heap.size w W)) M.out ?_
  rintro W MW
  clear M RG
  refine (OP.out _ MW.out.b).mono ?_
  rintro e w1 ⟨B, rfl, hx, hb⟩
  have W1 := hide hx.k0
  have B1 := hide hb
  clear OP hx hb IL
  go_wp2_with fail
  go_loopw [7] (fun iv wr => ∃ k : Nat, (k ≤ most.toNat) ∧ Hid (∀ j, j < k → (rn j m).1.st = 0) ∧ Hid (WK (fun b => iv.ownBlock = some b) W.heap.size B (rn k m).1 wr) ∧ Hid (LV W.heap.size (rn k m).2 iv wr) ∧ Hid (Below W.heap.size w1 wr)) (fun iv _ => most.toNat - lenV iv)
  case atStart => exact ⟨0, Nat.zero_le _, fun j hj => absurd hj (Nat.not_lt_zero _), W1.out.mono (fun b hb => by cases hb), ⟨rfl, Or.inl ⟨rfl, rfl⟩⟩, Below.refl _ _⟩
  case round =>
    obtain ⟨k, hk, HJ, HW, HLV, HB⟩ := hrel
    obtain ⟨a7, c7, hv7⟩ := HLV.out.sl
    rw [rn_len] at hv7
    subst hv7
    have c22 := HW.out.ct
    by_cases hst : (rn k m).1.st = 0
    · by_cases hlt : (k : Int) < most
      · have HSK := hide hst
        rw [hst] at c22
        clear hst
        go_wp2_with fail
        refine (step_any HW.out).mono ?_
        rintro e w2 ⟨rfl, g2⟩
        have G2 := hide g2
        have L2 := hide (HLV.out.of fun b hb => g2.kk b hb)
        clear g2 c22
        unfold lkv lkc
        generalize hl : (stp (rn k m).1).2 = l at *
        have HBS : Hid (W.heap.size ≤ (w2.alloc (.cells #[.int .i64 l.at_, .int .i64 l.ad, .int .i64 l.nm, .int .i64 l.dn] 52)).heap.size) := (G2.out.to (bel_one w2 _)).wk.bs
        have OWN : Hid (((w2.alloc (.cells #[.int .i64 l.at_, .int .i64 l.ad, .int .i64 l.nm, .int .i64 l.dn] 52))).ownsRow W.heap.size 52 4 (.slice a7 k c7) k (lkl (rn k m).2)) := by
          have := L2.out.bel (bel_one w2 (.cells #[.int .i64 l.at_, .int .i64 l.ad, .int .i64 l.nm, .int .i64 l.dn] 52))
          unfold LV at this
          rw [rn_len] at this; exact this
        go_wp2_with (at_builtin; (refine wpList_append_own _ rfl (.tmp 22) (.tmp 25) 35 rfl W.heap.size 52 i0 _ 4 32 Try.underlying35 hi hz0 hz1 hz2 rfl (by decide) _ k _ rfl OWN.out ⟨w2.heap.size, 0, none⟩ 1 1 [.int .i64 l.at_, .int .i64 l.ad, .int .i64 l.nm, .int .i64 l.dn] rfl rfl (new_cells w2 l 52) (by simp [Value.oneCell']) (by have := HMO.out; unfold maxLen; omega) (by have := HMO.out; omega) HBS.out ?_))
        intro v' w3 hown hgrow _
        have hL : (rn (k + 1) m).2 = (rn k m).2 ++ [l] := by rw [← hl]; rfl
        have L3 : LV W.heap.size (rn (k + 1) m).2 v' w3 := by
          unfold LV
          rw [hL, lkl_snoc, List.length_append, rn_len]; exact hown
        have GA := G2.out.to (bel_one w2 (.cells #[.int .i64 l.at_, .int .i64 l.ad, .int .i64 l.nm, .int .i64 l.dn] 52))
        have W3 : Hid (WK (fun b => v'.ownBlock = some b) W.heap.size B (rn (k + 1) m).1 w3) := GA.wk.grow hgrow.size (fun b hb hnk => hgrow.block b hb fun e => hnk e.symm) (fun b hb => L3.row (by rw [rn_len]; omega) hb)
        have hsz : W.heap.size ≤ (w2.alloc (.cells #[.int .i64 l.at_, .int .i64 l.ad, .int .i64 l.nm, .int .i64 l.dn] 52)).heap.size := GA.wk.bs
        have B3 : Hid (Below W.heap.size w1 w3) := (HB.out.trans GA.bel).trans ⟨hgrow.os, hgrow.tape, hgrow.output, hgrow.size, fun b hb => hgrow.block b (by omega) fun e => by have := HLV.out.ge e.symm; omega⟩
        have J3 : Hid (∀ j, j < k + 1 → (rn j m).1.st = 0) := fun j hj => by
          rcases Nat.lt_succ_iff_lt_or_eq.1 hj with h | h
          · exact HJ.out j h
          · subst h; exact HSK.out
        have HL3 := hide L3
        obtain ⟨a8, c8, hv8⟩ := L3.sl
        rw [rn_len] at hv8
        subst hv8
        clear hown hgrow hL L3 GA OWN G2 L2 hsz
        go_wp2_with fail
        go_roundw
        case rel => exact ⟨k + 1, by omega, J3, W3, HL3, B3⟩
        case measure => simp only [lenV]; omega
      · have hlt' : ¬ ((k : Int) < most) := hlt
        go_wp2_with fail
        refine (closedK HW.out).mono ?_
        rintro e w3 ⟨hkk, ra', rc', ss', rfl, hR', hs', hb3⟩
        have HRUN := hide (run_rn most.toNat k m hk HJ.out (Or.inr (by omega)))
        have hz : w3.heap[w.heap.size + 1]? = some (.cells zm 27) := by
          have h1 := MW.out.s
          rw [hb3.block _ h1, HB.out.block _ h1, B1.out.block _ h1]; exact MW.out.z
        have OK' := hide HW.out.ok
        have HZ := hide hz
        have BB := hide (show Below w.heap.size w w3 from MW.out.b.trans (((B1.out.trans HB.out).trans hb3).mono MW.out.b.size))
        have L3 := hide (HLV.out.of hkk)
        have HR' := hide hR'
        have HS' := hide hs'
        have HM' : Hid (32 * (rn k m).1.g.length ≤ 140737488351232) := by show _ ≤ _; rw [g_rn]; exact HL.out
        have HSS := hide MW.out.s
        generalize hm' : (rn k m).1 = m' at *
        have HE' := hide hm'
        clear hm'
        have IL' := hide (i27l OK'.out.1 (.slice ra' m'.g.length rc'))
        have HL' := hide (ml_len OK'.out.1 (.slice ra' m'.g.length rc'))
        rw [mc_is]
        have HZS : Hid (zm.size = (ml m' (.slice ra' m'.g.length rc')).toArray.size) := (show zm.size = 23 from rfl).trans (by rw [List.size_toArray, HL'.out])
        have IL2 : Hid ((Try.prog.info? 27).map (·.size) = some (ml m' (.slice ra' m'.g.length rc')).toArray.size) := by show _ = _; rw [List.size_toArray]; exact IL'.out
        have HON := hide (ml_one m' ra' m'.g.length rc')
        clear hR' hs' hb3 hz hkk W1 B1 MW HL HW HB HLV c22
        go_wp2_with (refine wpList_store_row rfl 27 _ _ rfl (w.heap.size + 1) _ rfl rfl 27 zm HZ.out IL2.out HZS.out HON.out ?_)
        refine bodyPost_ret (results_ct rfl _ _ (w.heap.size + 1) _ rfl (setRow_heap _ _ _ _ _ (0, 0) HZ.out) IL'.out) rfl ?_
        refine ⟨_, _, rfl, ?_, ?_, below_setRow BB.out (by omega) _⟩
        · rw [HRUN.out, HE'.out]
          exact ⟨ra', rc', ss', rfl, HR'.out.row HZ.out _, HS'.out, OK'.out, HM'.out⟩
        · rw [HRUN.out]
          refine (L3.out.of fun b hb => setRow_other w3 (w.heap.size + 1) b _ ?_).mono (Nat.zero_le _)
          have := L3.out.ge hb
          have := HSS.out
          omega
    · have hst' : ((rn k m).1.st == 0) = false := by simpa using hst
      go_wp2_with fail
      refine (closedK HW.out).mono ?_
      rintro e w3 ⟨hkk, ra', rc', ss', rfl, hR', hs', hb3⟩
      have HRUN := hide (run_rn most.toNat k m hk HJ.out (Or.inl hst))
      have hz : w3.heap[w.heap.size + 1]? = some (.cells zm 27) := by
        have h1 := MW.out.s
        rw [hb3.block _ h1, HB.out.block _ h1, B1.out.block _ h1]; exact MW.out.z
      have OK' := hide HW.out.ok
      have HZ := hide hz
      have BB := hide (show Below w.heap.size w w3 from MW.out.b.trans (((B1.out.trans HB.out).trans hb3).mono MW.out.b.size))
      have L3 := hide (HLV.out.of hkk)
      have HR' := hide hR'
      have HS' := hide hs'
      have HM' : Hid (32 * (rn k m).1.g.length ≤ 140737488351232) := by show _ ≤ _; rw [g_rn]; exact HL.out
      have HSS := hide MW.out.s
      generalize hm' : (rn k m).1 = m' at *
      have HE' := hide hm'
      clear hm'
      have IL' := hide (i27l OK'.out.1 (.slice ra' m'.g.length rc'))
      have HL' := hide (ml_len OK'.out.1 (.slice ra' m'.g.length rc'))
      rw [mc_is]
      have HZS : Hid (zm.size = (ml m' (.slice ra' m'.g.length rc')).toArray.size) := (show zm.size = 23 from rfl).trans (by rw [List.size_toArray, HL'.out])
      have IL2 : Hid ((Try.prog.info? 27).map (·.size) = some (ml m' (.slice ra' m'.g.length rc')).toArray.size) := by show _ = _; rw [List.size_toArray]; exact IL'.out
      have HON := hide (ml_one m' ra' m'.g.length rc')
      clear hR' hs' hb3 hz hkk W1 B1 MW HL HW HB HLV c22
      go_wp2_with (refine wpList_store_row rfl 27 _ _ rfl (w.heap.size + 1) _ rfl rfl 27 zm HZ.out IL2.out HZS.out HON.out ?_)
      refine bodyPost_ret (results_ct rfl _ _ (w.heap.size + 1) _ rfl (setRow_heap _ _ _ _ _ (0, 0) HZ.out) IL'.out) rfl ?_
      refine ⟨_, _, rfl, ?_, ?_, below_setRow BB.out (by omega) _⟩
      · rw [HRUN.out, HE'.out]
        exact ⟨ra', rc', ss', rfl, HR'.out.row HZ.out _, HS'.out, OK'.out, HM'.out⟩
      · rw [HRUN.out]
        refine (L3.out.of fun b hb => setRow_other w3 (w.heap.size + 1) b _ ?_).mono (Nat.zero_le _)
        have := L3.out.ge hb
        have := HSS.out
        omega
end
end Go.Proofs.Ytielpebokbolbaa
namespace Go.Proofs.Ytielpebokbolbaa
open Go.RowKit
open Xc (hide bel_one bel_tr bel_al bel_set Xi xv xc)
set_option linter.unusedSimpArgs false
set_option linter.unusedVariables false
theorem eqi (x y : Int) (w : World) : (Op.equalIn 9999 3 (.int .i64 x) (.int .i64 y)).run Try.prog w = .ok (x == y) w := run_equalIn_int w 9998 3 .i64 .i64 x y Try.underlying3
theorem eqb (x y : Bool) (w : World) : (Op.equalIn 9999 4 (.bool x) (.bool y)).run Try.prog w = .ok (x == y) w := run_equalIn_bool w 9998 4 x y Try.underlying4
theorem part_i (l : List Int) (i : Nat) (h : i < l.length) (w : World) : (part 3 (l.map (Value.int .i64)).toArray (i * 1)).run Try.prog w = .ok (.int .i64 (l.getD i 0)) w := by
  simp [part, isAgg, run_underlying Try.underlying3, List.getD, List.getElem?_eq_getElem h]
theorem items_same (l : List Int) (w : World) : ∀ is : List Nat, (∀ i ∈ is, i < l.length) → (Op.eqItems 9999 3 1 (l.map (Value.int .i64)).toArray (l.map (Value.int .i64)).toArray is).run Try.prog w = .ok true w
  | [], _ => by simp [Op.eqItems]
  | i :: is, h => by
    have hi := h i (by simp)
    simp only [Op.eqItems, Sem.run_bind, part_i l i hi, Result.andThen_ok, eqi, beq_self_eq_true, Bool.not_true, Bool.false_eq_true, if_false]
    exact items_same l w is fun j hj => h j (by simp [hj])
theorem cells3 : Try.prog.cellsOf 3 = 1 := by kernel_rfl
theorem info3 : ∃ i, Try.prog.info? 3 = some i := by
  cases h : Try.prog.info? 3 with
  | none => have : (Try.prog.info? 3).isSome = true := by kernel_rfl
            rw [h] at this; cases this
  | some i => exact ⟨i, rfl⟩
theorem eq_regs (l : List Int) (h : l.length = 16) (w : World) : (Op.equalIn 10000 22 (.agg (l.map (Value.int .i64)).toArray) (.agg (l.map (Value.int .i64)).toArray)).run Try.prog w = .ok true w := by
  obtain ⟨i, hi⟩ := info3
  rw [show (10000 : Nat) = 9999 + 1 from rfl, run_equalIn_array w 9999 _ _ Try.underlying22 hi, cells3]
  exact items_same l w _ fun j hj => by rw [h]; exact List.mem_range.1 hj
theorem p4_0 (x y z u : Value) (w : World) : (part 3 #[x, y, z, u] 0).run Try.prog w = .ok x w := by kernel_rfl
theorem p4_1 (x y z u : Value) (w : World) : (part 3 #[x, y, z, u] 1).run Try.prog w = .ok y w := by kernel_rfl
theorem p4_2 (x y z u : Value) (w : World) : (part 3 #[x, y, z, u] 2).run Try.prog w = .ok z w := by kernel_rfl
theorem p4_3 (x y z u : Value) (w : World) : (part 3 #[x, y, z, u] 3).run Try.prog w = .ok u w := by kernel_rfl
theorem b4_0 (x y z u : Value) (w : World) : (part 4 #[x, y, z, u] 0).run Try.prog w = .ok x w := by kernel_rfl
theorem b4_1 (x y z u : Value) (w : World) : (part 4 #[x, y, z, u] 1).run Try.prog w = .ok y w := by kernel_rfl
theorem b4_2 (x y z u : Value) (w : World) : (part 4 #[x, y, z, u] 2).run Try.prog w = .ok z w := by kernel_rfl
theorem b4_3 (x y z u : Value) (w : World) : (part 4 #[x, y, z, u] 3).run Try.prog w = .ok u w := by kernel_rfl
theorem r3_0 (x y z : Value) (w : World) : (part 3 #[x, y, z] 0).run Try.prog w = .ok x w := by kernel_rfl
theorem r3_1 (x y z : Value) (w : World) : (part 9 #[x, y, z] 1).run Try.prog w = .ok y w := by kernel_rfl
theorem r3_2 (x y z : Value) (w : World) : (part 4 #[x, y, z] 2).run Try.prog w = .ok z w := by kernel_rfl
theorem eqs (s : ByteArray) (w : World) : (Op.equalIn 9999 9 (.string s) (.string s)).run Try.prog w = .ok true w := by
  have := run_equalIn_string (P := Try.prog) w 9998 9 s s Try.underlying9
  simpa using this
theorem eq_lk (a b c d a' b' c' d' : Int) (w : World) : (Op.equalIn 10000 52 (.agg #[.int .i64 a, .int .i64 b, .int .i64 c, .int .i64 d]) (.agg #[.int .i64 a', .int .i64 b', .int .i64 c', .int .i64 d'])).run Try.prog w = .ok (a == a' && (b == b' && (c == c' && d == d'))) w := by
  rw [show (10000 : Nat) = 9999 + 1 from rfl, run_equalIn_struct w 9999 52 _ _ (by rw [Try.underlying52]; kernel_rfl) (by kernel_rfl)]
  simp [Program.fieldsOf, Try.underlying52, Op.eqFields, Sem.run_bind, p4_0, p4_1, p4_2, p4_3, eqi]
  cases h1 : (a == a') <;> cases h2 : (b == b') <;> cases h3 : (c == c') <;> cases h4 : (d == d') <;> simp_all
theorem eq_fl (z s c o : Bool) (w : World) : (Op.equalIn 10000 24 (.agg #[.bool z, .bool s, .bool c, .bool o]) (.agg #[.bool z, .bool s, .bool c, .bool o])).run Try.prog w = .ok true w := by
  rw [show (10000 : Nat) = 9999 + 1 from rfl, run_equalIn_struct w 9999 24 _ _ (by rw [Try.underlying24]; kernel_rfl) (by kernel_rfl)]
  simp [Program.fieldsOf, Try.underlying24, Op.eqFields, Sem.run_bind, b4_0, b4_1, b4_2, b4_3, eqb]
theorem eq_rg (a : Int) (s : ByteArray) (c : Bool) (w : World) : (Op.equalIn 10000 39 (.agg #[.int .i64 a, .string s, .bool c]) (.agg #[.int .i64 a, .string s, .bool c])).run Try.prog w = .ok true w := by
  rw [show (10000 : Nat) = 9999 + 1 from rfl, run_equalIn_struct w 9999 39 _ _ (by rw [Try.underlying39]; kernel_rfl) (by kernel_rfl)]
  simp [Program.fieldsOf, Try.underlying39, Op.eqFields, Sem.run_bind, r3_0, r3_1, r3_2, eqi, eqb, eqs]
end Go.Proofs.Ytielpebokbolbaa
