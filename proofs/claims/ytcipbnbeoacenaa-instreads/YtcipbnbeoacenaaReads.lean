/-
  Any bytes are read as an instruction, as the chapter says, or refused: the walk of the statement InstReads, for every string of at most 2^47 - 4096 bytes.
-/
import Derived.Test.YtcipbnbeoacenaaExamples
import Derived.Test.YtcipbnbeoacenaaRefInst
namespace Go.Proofs.Ytcipbnbeoacenaa
open Go.RowKit

set_option maxRecDepth 100000 in
set_option maxHeartbeats 800000 in
theorem reads_some (l : List UInt8) (op n m : Int) (q : List UInt8) (w : World) (hl : l.length ≤ 9223372036854775807) (h : tkI l = some ((op, n, m), q)) :
    Calls Try.prog 4 #[.string (str l)] w fun e w' => e = .returned (.bool true) ∧ Below w.heap.size w w' := by
  have T := hide (take_some l op n m q · hl h)
  have R := hide (r_take_some l op n m q · hl h)
  clear hl h
  unfold ins at T R
  go_enter Try.func4, Try.ntmps4
  go_wp2_with fail
  refine (examples_any _).mono ?_
  rintro e w1 ⟨rfl, b1⟩
  go_wp2_with fail
  refine (T.out _).mono ?_
  rintro e w2 ⟨rfl, b2⟩
  go_wp2_with fail
  refine (R.out _).mono ?_
  rintro e w3 ⟨rfl, b3⟩
  have x2 := (Box.made w2 op n m).kept b3
  have c0 := fun o => (x2.alloc o).c0
  have c1 := fun o => (x2.alloc o).c1
  have c2 := fun o => (x2.alloc o).c2
  go_wp2_with fail
  go_ret
  exact ⟨rfl, below_next (below_next (below_next (below_next b1 b2) (bel_one _ _)) b3) (bel_one _ _)⟩
set_option maxRecDepth 100000 in
set_option maxHeartbeats 800000 in
theorem reads_none (l : List UInt8) (w : World) (hl : l.length ≤ 9223372036854775807) (h : tkI l = none) :
    Calls Try.prog 4 #[.string (str l)] w fun e w' => e = .returned (.bool true) ∧ Below w.heap.size w w' := by
  have T := hide (take_none l · hl h)
  have R := hide (r_take_none l · hl h)
  clear hl h
  unfold ins at T R
  go_enter Try.func4, Try.ntmps4
  go_wp2_with fail
  refine (examples_any _).mono ?_
  rintro e w1 ⟨rfl, b1⟩
  go_wp2_with fail
  refine (T.out _).mono ?_
  rintro e w2 ⟨rfl, b2⟩
  go_wp2_with fail
  refine (R.out _).mono ?_
  rintro e w3 ⟨rfl, b3⟩
  have x2 := (Box.made w2 0 0 0).kept b3
  have c0 := fun o => (x2.alloc o).c0
  have c1 := fun o => (x2.alloc o).c1
  have c2 := fun o => (x2.alloc o).c2
  go_wp2_with fail
  go_ret
  exact ⟨rfl, below_next (below_next (below_next (below_next b1 b2) (bel_one _ _)) b3) (bel_one _ _)⟩
theorem reads_walk (s : ByteArray) (w : World) (hs : s.size ≤ 140737488351232) :
    Calls Try.prog 4 #[.string s] w fun e w' => e = .returned (.bool true) ∧ Below w.heap.size w w' := by
  have hl : s.data.toList.length ≤ 9223372036854775807 := by rw [list_length]; omega
  rw [str_back s]
  cases h : tkI s.data.toList with
  | none => exact reads_none _ w hl h
  | some x =>
    obtain ⟨⟨op, n, m⟩, q⟩ := x
    exact reads_some _ op n m q w hl h
end Go.Proofs.Ytcipbnbeoacenaa
