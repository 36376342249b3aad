/-
  The program opens a worker over a machine.
  A machine by value, over memory; the program's Put.
-/
import Derived.Test.YtielpebokbolbaaM40
import Derived.Test.YtielpebokbolbaaM10
import Derived.Laws.MakeOwn
import Derived.Deep.RegionHeld3
import Derived.Test.YtielpebokbolbaaM39
namespace Go.Proofs.Ytielpebokbolbaa
open Go.RowKit
open Xc (hide bel_one bel_tr bel_al bel_set le by8 bys jn)
set_option linter.unusedSimpArgs false
set_option linter.unusedVariables false
theorem Try.info50' : (Try.prog.info? 50).map (fun i => (i.zero, i.size, i.bytes)) = some (some (.slice none 0 0), 1, 24) := by kernel_rfl
theorem ml_21 {m : Mc} (h : m.r.length = 16) (vr : Value) : (ml m vr)[21]? = some vr := by
  unfold ml; rw [List.getElem?_append_right (by simp; omega)]; simp [h]
theorem ml_set {m : Mc} (h : m.r.length = 16) (vr v : Value) : (ml m vr).set 21 v = ml m v := by
  unfold ml; rw [List.set_append_right _ _ (by simp; omega)]; simp [h]
theorem rng_row {w : World} {b : Nat} {l : List Value} {t : TypeId} (h : w.heap[b]? = some (.cells l.toArray t)) : w.rangeAt b 0 l := fun j v hj => by
  simp [World.cell?, h, hj]
theorem rng_al {w : World} {b : Nat} {l : List Value} (h : w.rangeAt b 0 l) (hb : b < w.heap.size) (o : Obj) : (w.alloc o).rangeAt b 0 l := fun j v hj => ((bel_one w o).cell (p := ⟨b, 0 + j, none⟩) hb).trans (h j v hj)
theorem made_get (n i : Nat) (h : i < n) : (madeCells #[.slice none 0 0] n)[i]? = some (Value.slice none 0 0) := by
  simp [madeCells, h, Nat.mod_one]
theorem open_mem {m : Mc} {ra ra1 : Option Addr} {ss : Nat → ByteArray} {w w1 w2 : World} {q : Nat} (hm : m.ok) (hg : m.g.length ≤ 4398046511104) (hs : ∀ i (h : i < m.g.length), (ss i).data.toList = m.g[i].by_) (hR : RS w ra m.g ss) (hC : Cln q ra1 m.g ss w1) (h1 : w.heap.size < w1.heap.size) (hq : q = w.heap.size + 1) (s2 : w2.heap.size = w1.heap.size) (e2 : ∀ b, b ≠ w.heap.size → w2.heap[b]? = w1.heap[b]?) (B2 : Below w.heap.size w w2) (rc1 : Nat) :
    WX w.heap.size (w2.heap.size + 1) m ((w2.alloc (.cells (madeCells #[.slice none 0 0] m.g.length) 50)).alloc (.cells (wc m (.slice ra1 m.g.length rc1) (.slice (some ⟨w2.heap.size, 0, none⟩) m.g.length m.g.length)) 72)).drew ∧ Below w.heap.size w ((w2.alloc (.cells (madeCells #[.slice none 0 0] m.g.length) 50)).alloc (.cells (wc m (.slice ra1 m.g.length rc1) (.slice (some ⟨w2.heap.size, 0, none⟩) m.g.length m.g.length)) 72)).drew := by
  have b3 := bel_one w2 (.cells (madeCells #[.slice none 0 0] m.g.length) 50)
  have hz3 : (w2.alloc (.cells (madeCells #[.slice none 0 0] m.g.length) 50)).heap.size = w2.heap.size + 1 := by simp
  have r3 : (w2.alloc (.cells (madeCells #[.slice none 0 0] m.g.length) 50)).heap[w2.heap.size]? = some (.cells (madeCells #[.slice none 0 0] m.g.length) 50) := heap_alloc_new _ _
  generalize w2.alloc (.cells (madeCells #[.slice none 0 0] m.g.length) 50) = w3 at *
  have b4 := bel_one w3 (.cells (wc m (.slice ra1 m.g.length rc1) (.slice (some ⟨w2.heap.size, 0, none⟩) m.g.length m.g.length)) 72)
  have hz4 : (w3.alloc (.cells (wc m (.slice ra1 m.g.length rc1) (.slice (some ⟨w2.heap.size, 0, none⟩) m.g.length m.g.length)) 72)).heap.size = w2.heap.size + 1 + 1 := by simp [hz3]
  have r4 : (w3.alloc (.cells (wc m (.slice ra1 m.g.length rc1) (.slice (some ⟨w2.heap.size, 0, none⟩) m.g.length m.g.length)) 72)).heap[w2.heap.size + 1]? = some (.cells (wc m (.slice ra1 m.g.length rc1) (.slice (some ⟨w2.heap.size, 0, none⟩) m.g.length m.g.length)) 72) := by rw [← hz3]; exact heap_alloc_new _ _
  generalize w3.alloc (.cells (wc m (.slice ra1 m.g.length rc1) (.slice (some ⟨w2.heap.size, 0, none⟩) m.g.length m.g.length)) 72) = w4 at *
  have r34 : w4.heap[w2.heap.size]? = some (.cells (madeCells #[.slice none 0 0] m.g.length) 50) := (b4.block w2.heap.size (by omega)).trans r3
  refine ⟨⟨ra1, some ⟨w2.heap.size, 0, none⟩, rc1, ss, fun _ => none, ⟨r4, by omega, ?_, hm, hg⟩⟩, ((B2.trans (b3.mono (by omega))).trans (b4.mono (by omega))).drew⟩
  rcases hC with h | ⟨rb, h2, h3, h4, h5, h6⟩
  · exact Or.inl h
  · have er : w4.heap[rb]? = w1.heap[rb]? := ((b4.block rb (by omega)).trans (b3.block rb (by omega))).trans (e2 rb (by omega))
    refine Or.inr ⟨rb, w2.heap.size, h2, rfl, ⟨by omega, by omega, by show rb < w4.heap.size; omega, by show w2.heap.size < w4.heap.size; omega, by omega, by omega, by omega, h5.of er, fun j => frz_of er j (h6 j), fun j => ?_, fun i hi => ?_, fun i hi _ => hs i hi, fun _ _ _ => rfl, fun i hi q c hq => (by cases hq), fun i hi q c hq => (by cases hq), fun i j q c c' _ _ hq => (by cases hq)⟩⟩
    · show w4.frozen? _ = false; simp [World.frozen?, r34]
    · show w4.cell? _ = _; simp [World.cell?, r34, made_get _ _ hi, ov]
theorem wp_build_is {P : Program} {o : Oper} {a : Act} {w : World} {K : Act → World → Prop} {Q : Exit → Act → World → Prop} (t : TypeId) (parts : Array (Nat × Operand)) (ho : o.op = .build t parts) (l : List (Nat × Value))
    (hp : (parts.map fun (i, x) => (i, a.eval x)).toList = l) (cells : Array Value) (hb : P.built t l = some cells) (h : K (a.put o.dst (.agg cells)) w) : o.wp P a w K Q :=
  wp_build t parts ho (by rw [hp, hb]; rfl) (by rw [hp, hb]; exact h)
theorem built_w {m : Mc} (h : m.r.length = 16) (vr : Value) (a : Option Addr) (n c : Nat) : Try.prog.built 72 [(0, .agg (ml m vr).toArray), (1, .slice a n c)] = some (wc m vr (.slice a n c)) := by
  obtain ⟨r, z, s, c, o, at_, g, st⟩ := m
  obtain ⟨r0, r1, r2, r3, r4, r5, r6, r7, r8, r9, r10, r11, r12, r13, r14, r15, rfl⟩ := sixteen h
  kernel_rfl
set_option maxHeartbeats 6400000 in
set_option maxRecDepth 100000 in
theorem open_any (m : Mc) (ra : Option Addr) (rc : Nat) (ss : Nat → ByteArray) (w : World) (hm : m.ok) (hg : 32 * m.g.length ≤ 140737488351232) (hR : RS w ra m.g ss) (hss : ∀ i (h : i < m.g.length), (ss i).data.toList = m.g[i].by_) :
    Calls Try.prog 23 #[.agg (mc m (.slice ra m.g.length rc))] w fun e w' => ∃ B, e = .returned (.pointer (some ⟨B, 0, none⟩)) ∧ WX w.heap.size B m w' ∧ Below w.heap.size w w' := by
  have CL := hide (fun U (k : Below w.heap.size w U) => clone_rs ra rc m.g ss U hg (hR.bel k))
  rw [mc_is]
  obtain ⟨i0, hi, hz0, hz1, hz2⟩ := info_parts Try.info50'
  have hgl : m.g.length ≤ 4398046511104 := by omega
  have MK : ∀ W, (Instr.makeSlice 70 (.int .i64 (m.g.length : Int)) (.int .i64 (m.g.length : Int))).run Try.prog W = .ok (.slice (some ⟨W.heap.size, 0, none⟩) m.g.length m.g.length) (W.alloc (.cells (madeCells #[.slice none 0 0] m.g.length) 50)) := fun W => by
    have := run_make (P := Try.prog) W 70 50 i0 _ Try.underlying70 hi hz0 .i64 .i64 (m.g.length : Int) (m.g.length : Int) (by omega) (by omega) (by rw [hz2]; omega) (by omega)
    rw [hz1, Int.toNat_natCast, Nat.mul_one] at this; exact this
  have HM := hide hm
  have HG := hide hgl
  have HS := hide hss
  have HR := hide hR
  have e21 := ml_21 hm.1 (.slice ra m.g.length rc)
  clear hm hg hR hss hgl hz0 hz1 hz2 hi
  have b0 := hide (bel_one w (.cells (ml m (.slice ra m.g.length rc)).toArray 27))
  go_enter Try.func23, Try.ntmps23
  go_wp2_with fail
  refine (CL.out _ b0.out).mono ?_
  rintro e w1 ⟨ra1, rc1, rfl, hb1, hC⟩
  clear e21
  have hlt : w.heap.size < (w.alloc (.cells (ml m (.slice ra m.g.length rc)).toArray 27)).heap.size := by simp
  have hrow : w1.heap[w.heap.size]? = some (.cells (ml m (.slice ra m.g.length rc)).toArray 27) := (hb1.block w.heap.size hlt).trans (heap_alloc_new _ _)
  have y21 : w1.cell? ⟨w.heap.size, 21, none⟩ = some (.slice ra m.g.length rc) := by simp [World.cell?, hrow, ml_21 HM.out.1]
  have f21 : w1.frozen? ⟨w.heap.size, 21, none⟩ = false := by simp [World.frozen?, hrow]
  have B1 := hide (bel_tr b0.out hb1)
  have HC := hide hC
  have w1s : w.heap.size + 1 ≤ w1.heap.size := by have := hb1.size; simpa using this
  clear CL b0 hb1 hC hlt
  obtain ⟨w2, hw2⟩ : ∃ w2, w2 = w1.setCell ⟨w.heap.size, 21, none⟩ (.slice ra1 m.g.length rc1) := ⟨_, rfl⟩
  have hrow2 : w2.heap[w.heap.size]? = some (.cells (ml m (.slice ra1 m.g.length rc1)).toArray 27) := by
    rw [hw2]; simp [World.setCell, Array.getElem?_modify, hrow, ml_set HM.out.1]
  have e2 : Hid (∀ b, b ≠ w.heap.size → w2.heap[b]? = w1.heap[b]?) := fun b hb => by rw [hw2]; exact Below.heap_setCell w1 ⟨w.heap.size, 21, none⟩ _ b hb
  have s2 : Hid (w2.heap.size = w1.heap.size) := by show _ = _; rw [hw2]; simp [World.setCell]
  have B2 : Hid (Below w.heap.size w w2) := by show Below _ _ _; rw [hw2]; exact bel_set B1.out (Nat.le_refl _) _ _
  have hrg : (w2.drew).rangeAt w.heap.size 0 (ml m (.slice ra1 m.g.length rc1)) := rng_row hrow2
  have x21 : w2.cell? ⟨w.heap.size, 21, none⟩ = some (.slice ra1 m.g.length rc1) := by simp [World.cell?, hrow2, ml_21 HM.out.1]
  have IL := i27l HM.out.1 (.slice ra1 m.g.length rc1)
  clear hrow hrow2 B1
  have w1s' := hide w1s
  clear w1s
  go_wp2_with fail
  rw [← hw2]
  clear hw2 y21 f21
  refine wp_region_held_drew (S := fun X => X.rangeAt w.heap.size 0 (ml m (.slice ra1 m.g.length rc1))) (by kernel_rfl) hrg (fun hHeld => ?_)
  refine' wpAnyH_take (i := 0) (oi := _) (v := _) rfl (by kernel_rfl) (by kernel_rfl) (by kernel_rfl) (fun _ _ _ h => h) (yieldsIf_load_mid (by rfl) 27 _ rfl w.heap.size 0 rfl _ _ (fun w h => h) Try.underlying27 rfl IL) hHeld ?_
  simp only [Act.put, List.setIfInBounds_toArray, List.set_cons_zero, List.set_cons_succ]
  clear hHeld
  have hsz2 : w.heap.size < w2.heap.size := by have := s2.out; have := w1s'.out; omega
  have hrg1 : ((w2.drew).alloc (.cells (madeCells #[.slice none 0 0] m.g.length) 50)).rangeAt w.heap.size 0 (ml m (.slice ra1 m.g.length rc1)) := rng_al hrg hsz2 _
  refine wpAnyH_ready (rs := [1]) (by kernel_rfl) (by simp) ?_
  refine AllReadyH.cons rfl (fun K hK => ?_) AllReadyH.nil
  go_simp
  refine hK.out _ _ hrg (fun hHeld => ?_)
  clear hK K
  clear hHeld
  refine wpAnyH_ready (rs := [2]) (by kernel_rfl) (by simp) ?_
  refine AllReadyH.cons rfl (fun K hK => ?_) AllReadyH.nil
  go_simp
  refine hK.out _ _ hrg (fun hHeld => ?_)
  clear hK K
  clear hHeld
  refine wpAnyH_ready (rs := [3]) (by kernel_rfl) (by simp) ?_
  refine AllReadyH.cons rfl (fun K hK => ?_) AllReadyH.nil
  go_simp
  refine hK.out _ _ hrg (fun hHeld => ?_)
  clear hK K
  clear hHeld
  refine wpAnyH_ready (rs := [4]) (by kernel_rfl) (by simp) ?_
  refine AllReadyH.cons rfl (fun K hK => ?_) AllReadyH.nil
  go_simp
  refine hK.out _ _ hrg1 (fun hHeld => ?_)
  clear hK K
  clear hHeld
  refine wpAnyH_ready (rs := [5]) (by kernel_rfl) (by simp) ?_
  refine AllReadyH.cons rfl (fun K hK => ?_) AllReadyH.nil
  rw [if_pos (by rfl)]
  refine wp_build_is 72 _ rfl [(0, .agg (ml m (.slice ra1 m.g.length rc1)).toArray), (1, .slice (some ⟨w2.heap.size, 0, none⟩) m.g.length m.g.length)] (by simp [Act.eval]) _ (built_w HM.out.1 _ _ _ _) ?_
  refine hK.out _ _ hrg1 (fun hHeld => ?_)
  clear hK K hHeld
  simp only [Act.put, List.setIfInBounds_toArray, List.set_cons_zero, List.set_cons_succ]
  refine wpAnyH_ready (rs := [6]) (by kernel_rfl) (by simp) ?_
  refine AllReadyH.cons rfl (fun K hK => ?_) AllReadyH.nil
  go_simp
  have hrg2 := rng_al hrg1 (show w.heap.size < (w2.drew.alloc (.cells (madeCells #[.slice none 0 0] m.g.length) 50)).heap.size by simp; have := s2.out; have := w1s'.out; show w.heap.size < w2.heap.size + 1; omega) (.cells (wc m (.slice ra1 m.g.length rc1) (.slice (some ⟨w2.heap.size, 0, none⟩) m.g.length m.g.length)) 72)
  refine hK.out _ _ hrg2 (fun hHeld => ?_)
  clear hK K hHeld
  refine wpAnyH_ready (rs := [7]) (by kernel_rfl) (by simp) ?_
  refine AllReadyH.cons rfl (fun K hK => ?_) AllReadyH.nil
  go_simp
  refine hK.out _ _ hrg2 (fun hHeld => ?_)
  clear hK K hHeld
  refine wpAnyH_done (by kernel_rfl) ?_ _
  have X := hide (open_mem HM.out HG.out HS.out HR.out HC.out (by have := w1s'.out; omega) (by simp) s2.out e2.out B2.out rc1)
  clear hrg hrg1 hrg2 x21 IL MK hsz2 HC B2 e2 s2 w1s' HM HG HS HR
  go_wp2_with fail
  go_ret
  exact ⟨_, rfl, X.out⟩
end Go.Proofs.Ytielpebokbolbaa
namespace Go.Proofs.Ytielpebokbolbaa
open Go.RowKit
open Xc (hide bel_one bel_tr bel_al bel_set Xi xv xc)
set_option linter.unusedSimpArgs false
set_option linter.unusedVariables false
/-- A machine as a value, its regions in memory. -/
def MV (m : Mc) (v : Value) (w : World) : Prop := ∃ ra rc ss, v = .agg (mc m (.slice ra m.g.length rc)) ∧ RS w ra m.g ss ∧ (∀ i (h : i < m.g.length), (ss i).data.toList = m.g[i].by_) ∧ m.ok ∧ 32 * m.g.length ≤ 140737488351232
theorem MV.bel {m : Mc} {v : Value} {w w' : World} (h : MV m v w) (k : Below w.heap.size w w') : MV m v w' := by
  obtain ⟨ra, rc, ss, e, hR, hs, ho, hl⟩ := h
  exact ⟨ra, rc, ss, e, hR.bel k, hs, ho, hl⟩
def zm : Array Value := #[.int .i64 0, .int .i64 0, .int .i64 0, .int .i64 0, .int .i64 0, .int .i64 0, .int .i64 0, .int .i64 0, .int .i64 0, .int .i64 0, .int .i64 0, .int .i64 0, .int .i64 0, .int .i64 0, .int .i64 0, .int .i64 0, .bool false, .bool false, .bool false, .bool false, .int .i64 0, .slice none 0 0, .int .i64 0]
theorem ml_one (m : Mc) (ra : Option Addr) (n rc : Nat) : (ml m (.slice ra n rc)).toArray.all (·.oneCell') = true := by
  refine all_oneCell_toArray fun v hv => ?_
  simp only [ml, List.mem_append, List.mem_map, List.mem_cons, List.not_mem_nil, or_false] at hv
  rcases hv with ⟨_, _, rfl⟩ | rfl | rfl | rfl | rfl | rfl | rfl | rfl <;> rfl
theorem results_ct {fn : Func} {p u : Tmp} (h : fn.results = #[.cell p 27, .tmp u]) (tmps : Array Value) (w : World) (g : Nat) (l : List Value) (hp : tmps.getD p undef = .pointer (some ⟨g, 0, none⟩)) (hb : w.heap[g]? = some (.cells l.toArray 27)) (hi : (Try.prog.info? 27).map (·.size) = some l.length) :
    (results fn tmps).run Try.prog w = .ok (.tuple #[.agg l.toArray, tmps.getD u undef]) w := by
  have hl := run_loadVar_row (P := Try.prog) w g 27 27 _ _ _ hb Try.underlying27 rfl (by rw [List.size_toArray]; exact hi)
  have hp' : tmps[p]?.getD undef = .pointer (some ⟨g, 0, none⟩) := by simpa using hp
  simp [results, h, hp', asAddr, hl]
theorem WX.k0 {base B : Nat} {m : Mc} {w : World} (h : WX base B m w) : WK (fun _ => False) base B m w := by
  obtain ⟨ra, oa, rc, ss, os, hJ⟩ := h
  exact ⟨ra, oa, rc, ss, os, hJ, fun _ h => h.elim, fun _ h => h.elim⟩
def noStr : Value → Bool
  | .string _ => false
  | _ => true
theorem zm_str (k : Nat) (s : ByteArray) : zm[k]? ≠ some (.string s) := fun h => by
  have : zm.all noStr = true := by simp [zm, noStr]
  rw [Array.all_eq_true] at this
  obtain ⟨hk, e⟩ := Array.getElem?_eq_some_iff.1 h
  have := this k hk
  rw [e] at this
  cases this
/-- Regions don't lie in a result's box. -/
theorem RS.row {w : World} {ra : Option Addr} {g : List Rg} {ss : Nat → ByteArray} {q : Nat} (h : RS w ra g ss) (hz : w.heap[q]? = some (.cells zm 27)) (cs : Array Value) : RS (w.setRow q cs) ra g ss := by
  rcases h with h | ⟨b, off, e, h⟩
  · exact Or.inl h
  · rcases Nat.eq_zero_or_pos g.length with h0 | h0
    · exact Or.inl (List.length_eq_zero_iff.1 h0)
    · refine Or.inr ⟨b, off, e, h.of (setRow_other w q b cs ?_)⟩
      intro hb
      subst hb
      have := (h 0 h0).2.1
      simp only [World.cell?, hz] at this
      exact zm_str _ _ this
theorem closedK {K : Nat → Prop} {base B : Nat} {m : Mc} {w : World} (h : WK K base B m w) : Calls Try.prog 25 #[.pointer (some ⟨B, 0, none⟩)] w fun e w' => (∀ b, K b → w'.heap[b]? = w.heap[b]?) ∧ ∃ ra rc ss, e = .returned (.agg (mc m (.slice ra m.g.length rc))) ∧ RS w' ra m.g ss ∧ (∀ i (h : i < m.g.length), (ss i).data.toList = m.g[i].by_) ∧ Below base w w' := by
  obtain ⟨ra, oa, rc, ss, os, hJ, ha, hk⟩ := h
  refine (closed_any hJ).mono ?_
  rintro e w' ⟨h1, h2⟩
  exact ⟨fun b hb => h1 b (hk b hb) (ha b hb).2.1, h2⟩
/-- The boxes that a function of a machine begins with: its argument, its result. -/
structure M2 (m : Mc) (vr : Value) (q : Nat) (w W : World) : Prop where
  b : Below w.heap.size w W
  r : W.heap[q]? = some (.cells (ml m vr).toArray 27)
  z : W.heap[q + 1]? = some (.cells zm 27)
  e : q = w.heap.size
  s : q + 1 < W.heap.size
theorem m2_made (m : Mc) (vr : Value) (w : World) : M2 m vr w.heap.size w ((w.alloc (.cells (ml m vr).toArray 27)).alloc (.cells zm 27)) := by
  have k1 := bel_one w (.cells (ml m vr).toArray 27)
  have r1 : (w.alloc (.cells (ml m vr).toArray 27)).heap[w.heap.size]? = _ := heap_alloc_new w (.cells (ml m vr).toArray 27)
  have s1 : (w.alloc (.cells (ml m vr).toArray 27)).heap.size = w.heap.size + 1 := by simp
  generalize w.alloc (.cells (ml m vr).toArray 27) = U at *
  have k2 := bel_one U (.cells zm 27)
  have z2 : (U.alloc (.cells zm 27)).heap[U.heap.size]? = _ := heap_alloc_new U (.cells zm 27)
  rw [s1] at z2
  exact ⟨bel_tr k1 k2, (k2.block _ (by omega)).trans r1, z2, rfl, by simp; omega⟩
section
variable {m : Mc} {v : Value} {w : World}
def PuEnds (m : Mc) (a n x : Int) (w : World) (e : Ending) (w' : World) : Prop := ∃ v', e = .returned (.tuple #[v', .bool (ptM m.g a n x).isSome]) ∧ MV { m with g := (ptM m.g a n x).getD m.g } v' w' ∧ Below w.heap.size w w'
set_option maxRecDepth 100000 in
set_option maxHeartbeats 6400000 in
theorem put_any (h : MV m v w) (a n x : Int) (ha : I64 a) : Calls Try.prog 12 #[v, .int .i64 a, .int .i64 n, .int .i64 x] w (PuEnds m a n x w) := by
  obtain ⟨ra, rc, ss, rfl, hR, hs, hok, hg⟩ := h
  have OP := hide (fun U (k : Below w.heap.size w U) => open_any m ra rc ss U hok hg (hR.bel k) hs)
  rw [mc_is] at OP
  rw [mc_is]
  have IL := hide (i27l hok.1 (.slice ra m.g.length rc))
  have M := hide (m2_made m (.slice ra m.g.length rc) w)
  have HA := hide ha
  have HL := hide hg
  have RG := hide (rng_row M.out.r)
  unfold zm at M RG
  clear hR hs hok hg ha
  go_enter Try.func12, Try.ntmps12
  go_wp2_with (refine wpList_load_mid rfl 27 _ rfl w.heap.size 0 rfl _ _ RG.out Try.underlying27 rfl IL.out ?_)
  refine gw (motive := fun x => Calls _ _ _ x _) (fun W => Hid (M2 m (.slice ra m.g.length rc) w.heap.size w W)) M.out ?_
  rintro W MW
  clear M RG
  refine (OP.out _ MW.out.b).mono ?_
  rintro e w1 ⟨B, rfl, hx, hb⟩
  have W1 := hide hx.k0
  have B1 := hide hb
  clear OP hx hb
  go_wp2_with fail
  refine (putK W1.out a n x HA.out).mono ?_
  rintro e w2 ⟨rfl, g2⟩
  have G2 := hide g2
  clear g2
  go_wp2_with fail
  refine (closedK G2.out.wk).mono ?_
  rintro e w3 ⟨_, ra', rc', ss', rfl, hR', hs', hb3⟩
  generalize hm' : ({ m with g := (ptM m.g a n x).getD m.g } : Mc) = m' at *
  have hz : w3.heap[w.heap.size + 1]? = some (.cells zm 27) := by
    have h1 := MW.out.s
    rw [hb3.block _ h1, G2.out.bel.block _ h1, B1.out.block _ h1]; exact MW.out.z
  have OK' := hide G2.out.wk.ok
  have HZ := hide hz
  have BB := hide (show Below w.heap.size w w3 from MW.out.b.trans (((B1.out.trans G2.out.bel).trans hb3).mono MW.out.b.size))
  have HR' := hide hR'
  have HS' := hide hs'
  have IL' := hide (i27l G2.out.wk.ok.1 (.slice ra' m'.g.length rc'))
  have HL' := hide (ml_len G2.out.wk.ok.1 (.slice ra' m'.g.length rc'))
  rw [mc_is]
  have HM' : Hid (32 * m'.g.length ≤ 140737488351232) := by show _ ≤ _; rw [← hm']; simp only [ptM_len]; exact HL.out
  have HE := hide hm'
  clear hR' hs' hb3 hz hm' W1 B1 G2 MW IL HA HL
  have HZS : Hid (zm.size = (ml m' (.slice ra' m'.g.length rc')).toArray.size) := (show zm.size = 23 from rfl).trans (by rw [List.size_toArray, HL'.out])
  have IL2 : Hid ((Try.prog.info? 27).map (·.size) = some (ml m' (.slice ra' m'.g.length rc')).toArray.size) := by show _ = _; rw [List.size_toArray]; exact IL'.out
  have HON := hide (ml_one m' ra' m'.g.length rc')
  go_wp2_with (refine wpList_store_row rfl 27 _ _ rfl (w.heap.size + 1) _ rfl rfl 27 zm HZ.out IL2.out HZS.out HON.out ?_)
  refine bodyPost_ret (results_ct rfl _ _ (w.heap.size + 1) _ rfl (setRow_heap _ _ _ _ _ (0, 0) HZ.out) IL'.out) rfl ?_
  refine ⟨_, rfl, ?_, below_setRow BB.out (by omega) _⟩
  rw [HE.out]
  exact ⟨ra', rc', ss', rfl, HR'.out.row HZ.out _, HS'.out, OK'.out, HM'.out⟩
end
end Go.Proofs.Ytielpebokbolbaa
