/-
  What the document's Right answers.
-/
import Derived.Test.YtddepkiefkngdaaRFields
import Derived.Deep.CutRange
namespace Go.Proofs.Ytddepkiefkngdaa
open Go.RowKit
set_option linter.unusedSimpArgs false
set_option linter.unusedVariables false

def RrIs (x : Xi) (w : World) : Prop := Calls Try.prog 13 #[xv x] w fun e w' => e = .returned (.bool (rt x)) ∧ Below w.heap.size w w'
theorem rt_no {x : Xi} {R : Prop} (h : rt x = true ↔ R) (n : ¬ R) : rt x = false := by
  cases hq : rt x
  · rfl
  · exact absurd (h.1 hq) n
set_option maxHeartbeats 2000000 in
theorem rright_none (op : Int) (wd : Bool) (r b i c n : Int) (w : World) (h : op < 1 ∨ 23 < op) : RrIs ⟨op, wd, r, b, i, c, n⟩ w := by
  have RT : rt ⟨op, wd, r, b, i, c, n⟩ = false := by rcases h with h | h; exact rt_lo h; exact rt_hi h
  unfold RrIs
  simp only [xv]
  rw [RT]
  obtain ⟨W, hW⟩ : ∃ W, W = w.alloc (.cells #[.int .i64 op, .bool wd, .int .i64 r, .int .i64 b, .int .i64 i, .int .i64 c, .int .i64 n] 23) := ⟨_, rfl⟩
  have W0 : Hid (Below w.heap.size w W) := by show Below _ _ _; rw [hW]; exact bel_one _ _
  have H := hide h
  clear RT h
  go_enter Try.func13, Try.ntmps13
  go_wp2_with fail
  rw [← hW]
  refine (fields_none _ _ H.out).mono ?_
  clear hW
  rintro e w1 ⟨rfl, hb1⟩
  go_wp2_with fail
  go_ret
  exact ⟨rfl, bel_al (bel_tr W0.out hb1) _⟩
end Go.Proofs.Ytddepkiefkngdaa
