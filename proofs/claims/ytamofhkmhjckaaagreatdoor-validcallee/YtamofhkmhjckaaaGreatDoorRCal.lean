/-
  The document's Callee: the plain rule.
-/
import Derived.Test.YtamofhkmhjckaaaGreatDoorWalk16
namespace Go.Proofs.YtamofhkmhjckaaaGreatDoor
open Go.RowKit

/-- How the document's Callee ends. -/
def RcEnds (w : World) (r : Option (Sg × Bool × Bool)) (e : Ending) (w' : World) : Prop := match r with
  | none => e = .returned (.tuple #[.agg #[.slice none 0 0, .slice none 0 0], .bool false, .bool false, .bool false]) ∧ Below w.heap.size w w'
  | some (g, host, tr) => ∃ ap cp ar cr, e = .returned (.tuple #[.agg #[.slice ap g.params.length cp, .slice ar g.results.length cr], .bool host, .bool tr, .bool true]) ∧
      Sl 1 EInt (Lt w.heap.size) w (.slice ap g.params.length cp) g.params ∧ Sl 1 EInt (Lt w.heap.size) w (.slice ar g.results.length cr) g.results ∧ Below w.heap.size w w'
set_option maxRecDepth 100000 in
set_option maxHeartbeats 4000000 in
theorem rcallee_neg (V : MoV) (M : Mo) (n : Int) (w : World) (h : IsMo w.heap.size w V M) (hs : Small M) (hn : n < 0) :
    Calls Tryz.prog 17 #[moV V M, .int .i64 n] w (RcEnds w (callee M n)) := by
  obtain ⟨a0, c0, a1, c1, a2, c2, a5, c5, a6, c6, rfl⟩ := h.forms
  obtain ⟨hs1, hs2, hs3, hs4⟩ := hs
  unfold moV
  have hb0 := bel_one w (.cells #[.slice a0 M.sigs.length c0, .slice a1 M.imports.length c1, .slice a2 M.funcs.length c2, .int .i64 M.m0, .int .i64 M.m1, .slice a5 M.globals.length c5, .slice a6 M.data.length c6] 29)
  have hb1 := hide (below_next hb0 (bel_one _ (.cells #[.slice none 0 0, .slice none 0 0] 45)))
  have HC := hide (show callee M n = none by simp [callee, hn])
  clear h hb0
  go_enter Tryz.func17, Tryz.ntmps17
  go_wp2_with fail
  rw [HC.out]
  exact ⟨rfl, .tuple #[.agg #[.slice none 0 0, .slice none 0 0], .bool false, .bool false, .bool false], by simp [results, Tryz.f17, go_sem], rfl, hb1.out⟩
set_option maxRecDepth 100000 in
set_option maxHeartbeats 4000000 in
theorem rcallee_far (V : MoV) (M : Mo) (n : Int) (w : World) (h : IsMo w.heap.size w V M) (hs : Small M) (hn0 : 0 ≤ n) (hn : (M.imports.length + M.funcs.length : Int) ≤ n) :
    Calls Tryz.prog 17 #[moV V M, .int .i64 n] w (RcEnds w (callee M n)) := by
  obtain ⟨a0, c0, a1, c1, a2, c2, a5, c5, a6, c6, rfl⟩ := h.forms
  obtain ⟨hs1, hs2, hs3, hs4⟩ := hs
  unfold moV
  have hb0 := bel_one w (.cells #[.slice a0 M.sigs.length c0, .slice a1 M.imports.length c1, .slice a2 M.funcs.length c2, .int .i64 M.m0, .int .i64 M.m1, .slice a5 M.globals.length c5, .slice a6 M.data.length c6] 29)
  have hb1 := hide (below_next hb0 (bel_one _ (.cells #[.slice none 0 0, .slice none 0 0] 45)))
  have HC := hide (show callee M n = none by simp [callee, hn])
  have hn2 : decide (n < 0) = false := by simp; omega
  clear h hb0
  go_enter Tryz.func17, Tryz.ntmps17
  go_wp2_with fail
  rw [HC.out]
  exact ⟨rfl, .tuple #[.agg #[.slice none 0 0, .slice none 0 0], .bool false, .bool false, .bool false], by simp [results, Tryz.f17, go_sem], rfl, hb1.out⟩
set_option maxRecDepth 100000 in
set_option maxHeartbeats 4000000 in
theorem rcallee_imp (V : MoV) (M : Mo) (n : Int) (w : World) (h : IsMo w.heap.size w V M) (hs : Small M) (k : Nat) (hn : n = k) (hk : k < M.imports.length) :
    Calls Tryz.prog 17 #[moV V M, .int .i64 n] w (RcEnds w (callee M n)) := by
  obtain ⟨a0, c0, a1, c1, a2, c2, a5, c5, a6, c6, rfl⟩ := h.forms
  obtain ⟨hs1, hs2, hs3, hs4⟩ := hs
  unfold moV
  have hb0 := bel_one w (.cells #[.slice a0 M.sigs.length c0, .slice a1 M.imports.length c1, .slice a2 M.funcs.length c2, .int .i64 M.m0, .int .i64 M.m1, .slice a5 M.globals.length c5, .slice a6 M.data.length c6] 29)
  have hb1 := hide (below_next hb0 (bel_one _ (.cells #[.slice none 0 0, .slice none 0 0] 45)))
  subst hn
  obtain ⟨aa, cc, e1, he⟩ := h.imports
  simp only [Value.slice.injEq, true_and] at e1
  obtain ⟨b, off, e, hb, hi, q⟩ := he k hk
  rw [← e1.1] at e
  subst e
  rw [Nat.mul_one] at q
  have hown2 : ¬ (M.imports.length : Int) + M.funcs.length ≤ (k : Int) := by omega
  have hC : callee M k = (M.sigs[M.imports[k].toNat]?).bind fun s => if 0 ≤ M.imports[k] then some (s, true, false) else none := by
    have h1 : ¬ ((k : Int) < 0 ∨ (M.imports.length + M.funcs.length : Int) ≤ k) := by omega
    have h2 : (k : Int) < M.imports.length := by omega
    simp [callee, h1, h2, hk]
  generalize M.imports[k] = sg at *
  clear he e1
  by_cases hs0 : 0 ≤ sg
  · obtain ⟨z, rfl⟩ := Int.eq_ofNat_of_zero_le hs0
    by_cases hz : z < M.sigs.length
    · obtain ⟨ab, cb, e2, he2⟩ := h.sigs
      simp only [Value.slice.injEq, true_and] at e2
      obtain ⟨b2, off2, e3, hbb, vp, vr, p0, p1, hp, hr⟩ := he2 z hz
      rw [← e2.1] at e3
      subst e3
      have HC := hide (show callee M _ = some (M.sigs[z], true, false) by rw [hC]; simp [hz])
      clear he2 e2 hC hs1
      generalize M.sigs[z] = G at *
      obtain ⟨ap, cp, evp, _⟩ := id hp
      obtain ⟨ar, cr, evr, _⟩ := id hr
      subst evp evr
      have HP := hide hp
      have HR := hide hr
      have hb9 := hide (below_next (bel_one w (.cells #[.slice (some ⟨b2, off2, none⟩) M.sigs.length c0, .slice (some ⟨b, off, none⟩) M.imports.length c1, .slice a2 M.funcs.length c2, .int .i64 M.m0, .int .i64 M.m1, .slice a5 M.globals.length c5, .slice a6 M.data.length c6] 29)) (bel_one _ (.cells #[.slice ap G.params.length cp, .slice ar G.results.length cr] 45)))
      clear h hb0 hp hr
      go_enter Tryz.func17, Tryz.ntmps17
      go_wp2_with fail
      rw [HC.out]
      exact ⟨rfl, .tuple #[.agg #[.slice ap G.params.length cp, .slice ar G.results.length cr], .bool true, .bool false, .bool true], by simp [results, Tryz.f17, go_sem], ap, cp, ar, cr, rfl, HP.out, HR.out, hb9.out⟩
    · have HC := hide (show callee M _ = none by rw [hC]; simp [hz])
      have hz' : M.sigs.length ≤ z := by omega
      clear h hb0 hC
      go_enter Tryz.func17, Tryz.ntmps17
      go_wp2_with fail
      rw [HC.out]
      exact ⟨rfl, .tuple #[.agg #[.slice none 0 0, .slice none 0 0], .bool false, .bool false, .bool false], by simp [results, Tryz.f17, go_sem], rfl, hb1.out⟩
  · have HC := hide (show callee M _ = none by rw [hC]; cases M.sigs[sg.toNat]? <;> simp [hs0])
    have hz' : sg < 0 := by omega
    clear h hb0 hC
    go_enter Tryz.func17, Tryz.ntmps17
    go_wp2_with fail
    rw [HC.out]
    exact ⟨rfl, .tuple #[.agg #[.slice none 0 0, .slice none 0 0], .bool false, .bool false, .bool false], by simp [results, Tryz.f17, go_sem], rfl, hb1.out⟩
set_option maxRecDepth 100000 in
set_option maxHeartbeats 4000000 in
theorem rcallee_fun (V : MoV) (M : Mo) (n : Int) (w : World) (h : IsMo w.heap.size w V M) (hs : Small M) (k : Nat) (hn : n = (M.imports.length + k : Nat)) (hk : k < M.funcs.length) :
    Calls Tryz.prog 17 #[moV V M, .int .i64 n] w (RcEnds w (callee M n)) := by
  obtain ⟨a0, c0, a1, c1, a2, c2, a5, c5, a6, c6, rfl⟩ := h.forms
  obtain ⟨hs1, hs2, hs3, hs4⟩ := hs
  unfold moV
  have hb0 := bel_one w (.cells #[.slice a0 M.sigs.length c0, .slice a1 M.imports.length c1, .slice a2 M.funcs.length c2, .int .i64 M.m0, .int .i64 M.m1, .slice a5 M.globals.length c5, .slice a6 M.data.length c6] 29)
  have hb1 := hide (below_next hb0 (bel_one _ (.cells #[.slice none 0 0, .slice none 0 0] 45)))
  subst hn
  obtain ⟨aa, cc, e1, he⟩ := h.funcs
  simp only [Value.slice.injEq, true_and] at e1
  obtain ⟨b, off, e, hb, vl, vb, hi, q, q1, _⟩ := he k hk
  rw [← e1.1] at e
  subst e
  have hown2 : ¬ (M.imports.length : Int) + M.funcs.length ≤ ((M.imports.length + k : Nat) : Int) := by omega
  have hown3 : ¬ ((M.imports.length + k : Nat) : Int) < M.imports.length := by omega
  have hsub : ((M.imports.length + k : Nat) : Int) - M.imports.length = (k : Int) := by omega
  have hC : callee M (M.imports.length + k : Nat) = (M.sigs[M.funcs[k].sig.toNat]?).bind fun s => if 0 ≤ M.funcs[k].sig then some (s, false, M.funcs[k].tr) else none := by
    have h1 : ¬ (((M.imports.length + k : Nat) : Int) < 0 ∨ (M.imports.length + M.funcs.length : Int) ≤ (M.imports.length + k : Nat)) := by omega
    unfold callee
    rw [if_neg h1, if_neg hown3, Int.toNat_natCast, Nat.add_sub_cancel_left, List.getElem?_eq_getElem hk]
    rfl
  obtain ⟨n, hnn⟩ : ∃ n : Nat, M.imports.length + k = n := ⟨_, rfl⟩
  rw [hnn] at hown2 hown3 hsub hC ⊢
  clear hnn
  generalize M.funcs[k].tr = tr at *
  generalize M.funcs[k].sig = sg at *
  clear he e1
  by_cases hs0 : 0 ≤ sg
  · obtain ⟨z, rfl⟩ := Int.eq_ofNat_of_zero_le hs0
    by_cases hz : z < M.sigs.length
    · obtain ⟨ab, cb, e2, he2⟩ := h.sigs
      simp only [Value.slice.injEq, true_and] at e2
      obtain ⟨b2, off2, e3, hbb, vp, vr, p0, p1, hp, hr⟩ := he2 z hz
      rw [← e2.1] at e3
      subst e3
      have HC := hide (show callee M _ = some (M.sigs[z], false, tr) by rw [hC]; simp [hz])
      clear he2 e2 hC hs1
      generalize M.sigs[z] = G at *
      obtain ⟨ap, cp, evp, _⟩ := id hp
      obtain ⟨ar, cr, evr, _⟩ := id hr
      subst evp evr
      have HP := hide hp
      have HR := hide hr
      have hb9 := hide (below_next (bel_one w (.cells #[.slice (some ⟨b2, off2, none⟩) M.sigs.length c0, .slice a1 M.imports.length c1, .slice (some ⟨b, off, none⟩) M.funcs.length c2, .int .i64 M.m0, .int .i64 M.m1, .slice a5 M.globals.length c5, .slice a6 M.data.length c6] 29)) (bel_one _ (.cells #[.slice ap G.params.length cp, .slice ar G.results.length cr] 45)))
      clear h hb0 hp hr
      go_enter Tryz.func17, Tryz.ntmps17
      go_wp2_with fail
      rw [HC.out]
      exact ⟨rfl, .tuple #[.agg #[.slice ap G.params.length cp, .slice ar G.results.length cr], .bool false, .bool tr, .bool true], by simp [results, Tryz.f17, go_sem], ap, cp, ar, cr, rfl, HP.out, HR.out, hb9.out⟩
    · have HC := hide (show callee M _ = none by rw [hC]; simp [hz])
      have hz' : M.sigs.length ≤ z := by omega
      clear h hb0 hC
      go_enter Tryz.func17, Tryz.ntmps17
      go_wp2_with fail
      rw [HC.out]
      exact ⟨rfl, .tuple #[.agg #[.slice none 0 0, .slice none 0 0], .bool false, .bool false, .bool false], by simp [results, Tryz.f17, go_sem], rfl, hb1.out⟩
  · have HC := hide (show callee M _ = none by rw [hC]; cases M.sigs[sg.toNat]? <;> simp [hs0])
    have hz' : sg < 0 := by omega
    clear h hb0 hC
    go_enter Tryz.func17, Tryz.ntmps17
    go_wp2_with fail
    rw [HC.out]
    exact ⟨rfl, .tuple #[.agg #[.slice none 0 0, .slice none 0 0], .bool false, .bool false, .bool false], by simp [results, Tryz.f17, go_sem], rfl, hb1.out⟩
/-- The document's Callee, whole. -/
theorem rcallee_any (V : MoV) (M : Mo) (n : Int) (w : World) (h : IsMo w.heap.size w V M) (hs : Small M) :
    Calls Tryz.prog 17 #[moV V M, .int .i64 n] w (RcEnds w (callee M n)) := by
  by_cases h0 : n < 0
  · exact rcallee_neg V M n w h hs h0
  · by_cases h1 : (M.imports.length + M.funcs.length : Int) ≤ n
    · exact rcallee_far V M n w h hs (by omega) h1
    · by_cases h2 : n < M.imports.length
      · exact rcallee_imp V M n w h hs n.toNat (by omega) (by omega)
      · exact rcallee_fun V M n w h hs (n.toNat - M.imports.length) (by omega) (by omega)
end Go.Proofs.YtamofhkmhjckaaaGreatDoor
