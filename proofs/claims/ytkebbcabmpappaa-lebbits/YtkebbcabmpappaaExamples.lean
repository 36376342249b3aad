/-
  The chapter's examples, as the statements ask them first, are all so: the function examples returns true; memory that was there stays as it was.
-/
import Derived.Test.YtkebbcabmpappaaTakeS
namespace Go.Proofs.Ytkebbcabmpappaa
open Go.RowKit

theorem exU : str (enc 128 (szU 128)) = ⟨#[128, 1]⟩ := by decide +kernel
theorem exS1 : str (enc (-65) (szS (-65))) = ⟨#[191, 127]⟩ := by decide +kernel
theorem exS2 : str (enc 64 (szS 64)) = ⟨#[192, 0]⟩ := by decide +kernel
theorem exT1 : tkU [128, 0] 32 = (0, [], 6) := by decide +kernel
theorem exT2 : tkS [128, 1] 8 = (0, [], 6) := by decide +kernel
theorem exT3 : tkS [191, 127, 120] 8 = (-65, [120], 0) := by decide +kernel

theorem ex1 (w : World) : Calls Try.prog 10 #[.int .i64 128] w fun e w' => e = .returned (.tuple #[.string ⟨#[128, 1]⟩, .int .i64 0]) ∧ Below w.heap.size w w' := by
  have h := U_any 128 w (by decide)
  rw [exU] at h; exact h
theorem ex2 (w : World) : Calls Try.prog 16 #[.string ⟨#[128, 0]⟩, .int .i64 32] w fun e w' => e = .returned (.tuple #[.int .i64 0, .string ⟨#[]⟩, .int .i64 6]) ∧ Below w.heap.size w w' := by
  have h := takeU_any ⟨#[128, 0]⟩ 32 w (by decide)
  rw [show tkU (ByteArray.mk #[128, 0]).data.toList 32 = (0, [], 6) from exT1] at h; exact h
theorem ex3 (w : World) : Calls Try.prog 18 #[.string ⟨#[128, 1]⟩, .int .i64 8] w fun e w' => e = .returned (.tuple #[.int .i64 0, .string ⟨#[]⟩, .int .i64 6]) ∧ Below w.heap.size w w' := by
  have h := takeS_any ⟨#[128, 1]⟩ 8 w (by decide)
  rw [show tkS (ByteArray.mk #[128, 1]).data.toList 8 = (0, [], 6) from exT2] at h; exact h
theorem ex4 (w : World) : Calls Try.prog 18 #[.string ⟨#[191, 127, 120]⟩, .int .i64 8] w fun e w' => e = .returned (.tuple #[.int .i64 (-65), .string ⟨#[120]⟩, .int .i64 0]) ∧ Below w.heap.size w w' := by
  have h := takeS_any ⟨#[191, 127, 120]⟩ 8 w (by decide)
  rw [show tkS (ByteArray.mk #[191, 127, 120]).data.toList 8 = (-65, [120], 0) from exT3] at h; exact h
theorem ex5 (w : World) : Calls Try.prog 12 #[.int .i64 (-65)] w fun e w' => e = .returned (.string ⟨#[191, 127]⟩) ∧ Below w.heap.size w w' := by
  have h := S_any (-65) w
  rw [exS1] at h; exact h
theorem ex6 (w : World) : Calls Try.prog 12 #[.int .i64 64] w fun e w' => e = .returned (.string ⟨#[192, 0]⟩) ∧ Below w.heap.size w w' := by
  have h := S_any 64 w
  rw [exS2] at h; exact h

theorem below_next {w a b : World} (h : Below w.heap.size w a) (k : Below a.heap.size a b) : Below w.heap.size w b := h.trans (k.mono h.size)

set_option maxRecDepth 100000 in
set_option maxHeartbeats 1000000 in
theorem examples_any (w : World) :
    Calls Try.prog 9 #[] w fun e w' => e = .returned (.bool true) ∧ Below w.heap.size w w' := by
  go_enter Try.func9, Try.ntmps9
  go_wp2_with fail
  refine (ex1 _).mono ?_
  rintro e w1 ⟨rfl, b1⟩
  go_wp2_with fail
  refine (ex2 _).mono ?_
  rintro e w2 ⟨rfl, b2⟩
  go_wp2_with fail
  refine (ex3 _).mono ?_
  rintro e w3 ⟨rfl, b3⟩
  go_wp2_with fail
  refine (ex4 _).mono ?_
  rintro e w4 ⟨rfl, b4⟩
  go_wp2_with fail
  refine (ex5 _).mono ?_
  rintro e w5 ⟨rfl, b5⟩
  go_wp2_with fail
  refine (ex6 _).mono ?_
  rintro e w6 ⟨rfl, b6⟩
  go_wp2_with fail
  go_ret
  exact ⟨rfl, below_next (below_next (below_next (below_next (below_next b1 b2) b3) b4) b5) b6⟩
end Go.Proofs.Ytkebbcabmpappaa
