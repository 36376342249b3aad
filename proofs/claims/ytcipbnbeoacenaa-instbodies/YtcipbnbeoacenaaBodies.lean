/-
  Any instructions are written, one behind the other, as the chapter says, or refused: the walk of the statement InstBodies, for every list of instructions.
-/
import Derived.Test.YtcipbnbeoacenaaBody
namespace Go.Proofs.Ytcipbnbeoacenaa
open Go.RowKit

set_option maxRecDepth 100000 in
set_option maxHeartbeats 800000 in
theorem bodies_yes (b off len cap : Nat) (fo fn fm : Nat → Int) (w : World) (hlen : 24 * len ≤ 140737488351232) (hL : Lists w.heap.size w b off len fo fn fm) (hI : ∀ j, I64 (fn j) ∧ I64 (fm j)) (hA : allR fo fn fm len) :
    Calls Try.prog 5 #[.slice (some ⟨b, off, none⟩) len cap] w fun r w' => r = .returned (.bool true) ∧ Below w.heap.size w w' := by
  have BD := hide (fun w hL => body_is b off len cap fo fn fm (bodyL fo fn fm len) 0 w hlen hL hI (fun _ => rfl) (fun h => absurd hA h))
  have RB := hide (fun w hL => r_body_is b off len cap fo fn fm (bodyL fo fn fm len) true w hlen hL hI (fun _ => rfl) (fun h => absurd hA h))
  have HL := hide hL
  clear hL hI hA
  go_enter Try.func5, Try.ntmps5
  go_wp2_with fail
  refine (examples_any _).mono ?_
  rintro e w1 ⟨rfl, b1⟩
  have H1 := hide (HL.out.below b1)
  have s1 := b1.size
  go_wp2_with fail
  refine (BD.out _ (H1.out.more s1)).mono ?_
  rintro e w2 ⟨rfl, b2⟩
  have b12 := below_next b1 b2
  have H2 := hide (HL.out.below b12)
  have s2 := b12.size
  go_wp2_with fail
  refine (RB.out _ (H2.out.more s2)).mono ?_
  rintro e w3 ⟨rfl, b3⟩
  go_wp2_with fail
  go_ret
  exact ⟨rfl, below_next b12 b3⟩
set_option maxRecDepth 100000 in
set_option maxHeartbeats 800000 in
theorem bodies_no (b off len cap : Nat) (fo fn fm : Nat → Int) (w : World) (hlen : 24 * len ≤ 140737488351232) (hL : Lists w.heap.size w b off len fo fn fm) (hI : ∀ j, I64 (fn j) ∧ I64 (fm j)) (hA : ¬ allR fo fn fm len) :
    Calls Try.prog 5 #[.slice (some ⟨b, off, none⟩) len cap] w fun r w' => r = .returned (.bool true) ∧ Below w.heap.size w w' := by
  have BD := hide (fun w hL => body_is b off len cap fo fn fm ([]) 4 w hlen hL hI (fun h => absurd h hA) (fun _ => rfl))
  have RB := hide (fun w hL => r_body_is b off len cap fo fn fm ([]) false w hlen hL hI (fun h => absurd h hA) (fun _ => rfl))
  have HL := hide hL
  clear hL hI hA
  go_enter Try.func5, Try.ntmps5
  go_wp2_with fail
  refine (examples_any _).mono ?_
  rintro e w1 ⟨rfl, b1⟩
  have H1 := hide (HL.out.below b1)
  have s1 := b1.size
  go_wp2_with fail
  refine (BD.out _ (H1.out.more s1)).mono ?_
  rintro e w2 ⟨rfl, b2⟩
  have b12 := below_next b1 b2
  have H2 := hide (HL.out.below b12)
  have s2 := b12.size
  go_wp2_with fail
  refine (RB.out _ (H2.out.more s2)).mono ?_
  rintro e w3 ⟨rfl, b3⟩
  go_wp2_with fail
  go_ret
  exact ⟨rfl, below_next b12 b3⟩
set_option maxRecDepth 100000 in
theorem bodies_nil (a : Option Addr) (cap : Nat) (w : World) :
    Calls Try.prog 5 #[.slice a 0 cap] w fun r w' => r = .returned (.bool true) ∧ Below w.heap.size w w' := by
  go_enter Try.func5, Try.ntmps5
  go_wp2_with fail
  refine (examples_any _).mono ?_
  rintro e w1 ⟨rfl, b1⟩
  go_wp2_with fail
  refine (body_nil a cap _).mono ?_
  rintro e w2 ⟨rfl, b2⟩
  go_wp2_with fail
  refine (r_body_nil a cap _).mono ?_
  rintro e w3 ⟨rfl, b3⟩
  go_wp2_with fail
  go_ret
  exact ⟨rfl, below_next (below_next b1 b2) b3⟩
theorem bodies_walk (b off len cap : Nat) (fo fn fm : Nat → Int) (w : World) (hlen : 24 * len ≤ 140737488351232) (hL : Lists w.heap.size w b off len fo fn fm) (hI : ∀ j, I64 (fn j) ∧ I64 (fm j)) :
    Calls Try.prog 5 #[.slice (some ⟨b, off, none⟩) len cap] w fun r w' => r = .returned (.bool true) ∧ Below w.heap.size w w' := by
  by_cases hA : allR fo fn fm len
  · exact bodies_yes b off len cap fo fn fm w hlen hL hI hA
  · exact bodies_no b off len cap fo fn fm w hlen hL hI hA
end Go.Proofs.Ytcipbnbeoacenaa
