/-
  The program's code and indexOf answer what the plain functions cod and inx answer, of an instruction that is right.
-/
import Derived.Test.YtielpebokbolbaaCRightA
namespace Go.Proofs.Ytielpebokbolbaa.Xc
open Go.RowKit
set_option linter.unusedSimpArgs false
set_option linter.unusedVariables false

set_option maxHeartbeats 4000000 in
theorem code_any (x : Xi) (w : World) (h : rt x = true) : Calls Try.prog 49 #[xv x] w fun e w' => e = .returned (.int .i64 (cod x)) ∧ Below w.heap.size w w' := by
  refine rt_elim (P := fun x => Calls Try.prog 49 #[xv x] w fun e w' => e = .returned (.int .i64 (cod x)) ∧ Below w.heap.size w w') h ?mov ?movi ?alu ?alui ?test ?mul ?shift ?div ?idiv ?sign ?load ?store ?set ?byte ?cmov ?widen ?jmp ?jcc ?call ?ret ?hlt ?stop ?host
  case movi =>
    intro r n hr
    obtain ⟨h0, h1⟩ := hr
    have hv : cod ⟨2, true, r, 0, 0, 0, n⟩ = 184 + r % 8 := by simp [cod]
    rw [hv]
    clear hv h
    simp only [xv]
    go_enter Try.func49, Try.ntmps49
    go_wp2
    go_ret
    exact ⟨rfl, bel_one _ _⟩
  case alu =>
    intro wd r b c hr hb hc
    clear h hr hb
    rcases sm_cases hc with rfl | rfl | rfl | rfl | rfl | rfl <;> (simp only [xv]; go_enter Try.func49, Try.ntmps49; go_wp2; go_ret; exact ⟨rfl, bel_one _ _⟩)
  case set =>
    intro c hc
    clear h
    rcases cn_cases hc with rfl | rfl | rfl | rfl | rfl | rfl | rfl | rfl | rfl | rfl <;> (simp only [xv]; go_enter Try.func49, Try.ntmps49; go_wp2; go_ret; exact ⟨rfl, bel_one _ _⟩)
  case cmov =>
    intro wd r b c hr hb hc
    clear h hr hb
    rcases cn_cases hc with rfl | rfl | rfl | rfl | rfl | rfl | rfl | rfl | rfl | rfl <;> (simp only [xv]; go_enter Try.func49, Try.ntmps49; go_wp2; go_ret; exact ⟨rfl, bel_one _ _⟩)
  case jcc =>
    intro c n hc hn
    clear h hn
    rcases cn_cases hc with rfl | rfl | rfl | rfl | rfl | rfl | rfl | rfl | rfl | rfl <;> (simp only [xv]; go_enter Try.func49, Try.ntmps49; go_wp2; go_ret; exact ⟨rfl, bel_one _ _⟩)
  all_goals (clear h; intros; simp only [xv]; go_enter Try.func49, Try.ntmps49; go_wp2; go_ret; exact ⟨rfl, bel_one _ _⟩)
theorem indexOf_any (x : Xi) (w : World) (h0 : 0 ≤ x.i) (h1 : x.i ≤ 16) : Calls Try.prog 51 #[xv x] w fun e w' => e = .returned (.int .i64 (inx x.i)) ∧ Below w.heap.size w w' := by
  obtain ⟨op, wd, r, b, i, c, n⟩ := x
  simp only at h0 h1
  by_cases hi : i = 0
  · subst hi
    simp only [xv]
    go_enter Try.func51, Try.ntmps51
    go_wp2
    go_ret
    exact ⟨rfl, bel_one _ _⟩
  · have hd : (i == 0) = false := by simpa using hi
    have hv : inx i = i - 1 := by simp [inx, hi]
    simp only [xv, hv]
    clear hv
    go_enter Try.func51, Try.ntmps51
    go_wp2
    go_ret
    exact ⟨rfl, bel_one _ _⟩
end Go.Proofs.Ytielpebokbolbaa.Xc
