/-
  Plain facts on a comparison's flags (no program): what the conditions tell of two values is how the numbers stand.
-/
import Derived.Test.YtmcjdlmbidlckaaCmpP
namespace Go.Proofs.Ytmcjdlmbidlckaa
open Go.RowKit

theorem z_is (wide : Bool) (X Y : Int) (hx : Wd wide X) (hy : Wd wide Y) : (M wide (X - Y) == 0) = (X == Y) := by
  rw [Bool.eq_iff_iff, beq_iff_eq, beq_iff_eq]
  cases wide
  · simp only [Wd, Bool.false_eq_true, if_false] at hx hy
    rw [M_no]; omega
  · simp only [Wd, if_true, I64] at hx hy
    rw [M_yes]; simp only [wrap64]; omega
theorem l_no (X Y U : Int) (hx : 0 ≤ X ∧ X < 4294967296) (hy : 0 ≤ Y ∧ Y < 4294967296) (hU : U = (X - Y) % 4294967296) :
    (decide (wrap32 U < 0) != ((decide (wrap32 X < 0) != decide (wrap32 Y < 0)) && (decide (wrap32 U < 0) != decide (wrap32 X < 0)))) = decide (wrap32 X < wrap32 Y) := by
  by_cases h1 : wrap32 U < 0 <;> by_cases h2 : wrap32 X < 0 <;> by_cases h3 : wrap32 Y < 0 <;> by_cases h4 : wrap32 X < wrap32 Y <;> simp only [h1, h2, h3, h4, decide_true, decide_false] <;> first | rfl | (exfalso; simp only [wrap32] at h1 h2 h3 h4; omega)
theorem l_yes (X Y U : Int) (hx : I64 X) (hy : I64 Y) (hU : U = wrap64 (X - Y)) :
    (decide (U < 0) != ((decide (X < 0) != decide (Y < 0)) && (decide (U < 0) != decide (X < 0)))) = decide (X < Y) := by
  obtain ⟨a1, a2⟩ := hx
  obtain ⟨b1, b2⟩ := hy
  by_cases h1 : U < 0 <;> by_cases h2 : X < 0 <;> by_cases h3 : Y < 0 <;> by_cases h4 : X < Y <;> simp only [h1, h2, h3, h4, decide_true, decide_false] <;> first | rfl | (exfalso; simp only [wrap64] at hU; omega)
theorem l_is (wide : Bool) (X Y : Int) (hx : Wd wide X) (hy : Wd wide Y) :
    (aS 7 wide X Y != aO 7 wide X Y) = decide (sn wide X < sn wide Y) := by
  show (tp wide (M wide (X - Y)) != (tp wide X != tp wide Y && tp wide (M wide (X - Y)) != tp wide X)) = _
  cases wide
  · simp only [Wd, Bool.false_eq_true, if_false] at hx hy
    exact l_no X Y (M false (X - Y)) hx hy (M_no _)
  · simp only [Wd, if_true] at hx hy
    exact l_yes X Y (M true (X - Y)) hx hy (M_yes _)
theorem sn_inj (wide : Bool) (X Y : Int) (hx : Wd wide X) (hy : Wd wide Y) (h : sn wide X = sn wide Y) : X = Y := by
  cases wide
  · simp only [Wd, Bool.false_eq_true, if_false] at hx hy
    simp only [sn_no, wrap32] at h; omega
  · exact h
/-- what the ten conditions tell -/
theorem c_is (wide : Bool) (X Y P Q : Int) (Z S C O : Bool) (hx : Wd wide X) (hy : Wd wide Y) (hP : sn wide X = P) (hQ : sn wide Y = Q)
    (hZ : aZ 7 wide X Y = Z) (hS : aS 7 wide X Y = S) (hC : aC 7 wide X Y = C) (hO : aO 7 wide X Y = O) :
    decide (IntKind.u64.wrap X < IntKind.u64.wrap Y) = hV 2 Z S C O ∧ decide (IntKind.u64.wrap Y ≤ IntKind.u64.wrap X) = hV 3 Z S C O ∧ (X == Y) = hV 4 Z S C O ∧ (X != Y) = hV 5 Z S C O
    ∧ decide (IntKind.u64.wrap X ≤ IntKind.u64.wrap Y) = hV 6 Z S C O ∧ decide (IntKind.u64.wrap Y < IntKind.u64.wrap X) = hV 7 Z S C O
    ∧ decide (P < Q) = hV 12 Z S C O ∧ decide (Q ≤ P) = hV 13 Z S C O ∧ decide (P ≤ Q) = hV 14 Z S C O ∧ decide (Q < P) = hV 15 Z S C O := by
  have z : (X == Y) = Z := by rw [← hZ]; exact (z_is wide X Y hx hy).symm
  have c : decide (IntKind.u64.wrap X < IntKind.u64.wrap Y) = C := by rw [← hC, un_wrap, un_wrap]; rfl
  have l : decide (P < Q) = (S != O) := by rw [← hS, ← hO, ← hP, ← hQ]; exact (l_is wide X Y hx hy).symm
  have e1 : P = Q ↔ X = Y := ⟨fun h => sn_inj wide X Y hx hy (hP.trans (h.trans hQ.symm)), fun h => by rw [← hP, ← hQ, h]⟩
  have e2 : un X = un Y ↔ X = Y := by
    obtain ⟨a1, a2⟩ := wd_i64 hx
    obtain ⟨b1, b2⟩ := wd_i64 hy
    simp only [un]; omega
  have s : (S == O) = !decide (P < Q) := by rw [l]; cases S <;> cases O <;> rfl
  rw [un_wrap, un_wrap] at *
  show _ = C ∧ _ = (!C) ∧ _ = Z ∧ _ = (!Z) ∧ _ = (C || Z) ∧ _ = (!C && !Z) ∧ _ = (S != O) ∧ _ = (S == O) ∧ _ = (Z || S != O) ∧ _ = (!Z && S == O)
  rw [s, ← l, ← c, ← z]
  clear l c z s hZ hS hC hO hP hQ hx hy
  refine ⟨rfl, ?_, rfl, rfl, ?_, ?_, rfl, ?_, ?_, ?_⟩
  all_goals (rw [Bool.eq_iff_iff]; simp <;> first | omega | (rw [← e2]; omega) | (rw [← e1]; omega))
end Go.Proofs.Ytmcjdlmbidlckaa
