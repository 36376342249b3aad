/-
  The chapter's examples, as the statements ask them first, are all so: the function examples returns true; memory that was there stays as it was.
-/
import Derived.Test.YtcipbnbeoacenaaTake
namespace Go.Proofs.Ytcipbnbeoacenaa
open Go.RowKit

theorem exB1 : byr 65 (-1) 0 = ([65, 127], 0) := by decide +kernel
theorem exB2 : byr 2 0 4 = ([2, 124], 0) := by decide +kernel
theorem exB3 : byr 40 300 1 = ([40, 1, 172, 2], 0) := by decide +kernel
theorem exT : tkI [2, 64, 11] = some ((2, 0, 0), [11]) := by decide +kernel

theorem ex1 (w : World) : Calls Try.prog 10 #[.agg #[.int .i64 65, .int .i64 (-1), .int .i64 0]] w fun e w' => e = .returned (.tuple #[.string ⟨#[65, 127]⟩, .int .i64 0]) ∧ Below w.heap.size w w' :=
  bytes_is 65 (-1) 0 _ _ w (by unfold I64; omega) (by unfold I64; omega) exB1
theorem ex2 (w : World) : Calls Try.prog 10 #[.agg #[.int .i64 2, .int .i64 0, .int .i64 4]] w fun e w' => e = .returned (.tuple #[.string ⟨#[2, 124]⟩, .int .i64 0]) ∧ Below w.heap.size w w' :=
  bytes_is 2 0 4 _ _ w (by unfold I64; omega) (by unfold I64; omega) exB2
theorem ex3 (w : World) : Calls Try.prog 10 #[.agg #[.int .i64 40, .int .i64 300, .int .i64 1]] w fun e w' => e = .returned (.tuple #[.string ⟨#[40, 1, 172, 2]⟩, .int .i64 0]) ∧ Below w.heap.size w w' :=
  bytes_is 40 300 1 _ _ w (by unfold I64; omega) (by unfold I64; omega) exB3
theorem ex4 (w : World) : Calls Try.prog 16 #[.string ⟨#[2, 64, 11]⟩] w fun e w' => e = .returned (.tuple #[.agg #[.int .i64 2, .int .i64 0, .int .i64 0], .string ⟨#[11]⟩, .int .i64 0]) ∧ Below w.heap.size w w' :=
  take_some [2, 64, 11] 2 0 0 [11] w (by simp) exT

set_option maxRecDepth 100000 in
set_option maxHeartbeats 1000000 in
theorem examples_any (w : World) :
    Calls Try.prog 9 #[] w fun e w' => e = .returned (.bool true) ∧ Below w.heap.size w w' := by
  go_enter Try.func9, Try.ntmps9
  go_wp2_with fail
  refine (ex1 _).mono ?_
  rintro e w1 ⟨rfl, b1⟩
  go_wp2_with fail
  refine (ex2 _).mono ?_
  rintro e w2 ⟨rfl, b2⟩
  go_wp2_with fail
  refine (ex3 _).mono ?_
  rintro e w3 ⟨rfl, b3⟩
  go_wp2_with fail
  refine (ex4 _).mono ?_
  rintro e w4 ⟨rfl, b4⟩
  go_wp2_with fail
  go_ret
  exact ⟨rfl, below_next (below_next (below_next (below_next b1 b2) b3) b4) (bel_one _ _)⟩
end Go.Proofs.Ytcipbnbeoacenaa
