/-
  The program's functions U and S write a number as the plain function enc of the text Math says, in as many bytes as it needs, or refuse it (U, below 0); memory that was there stays as it was.
-/
import Derived.Test.YtcbfpikggphokaaGreatDoorWrite
namespace Go.Proofs.YtcbfpikggphokaaGreatDoor
open Go.RowKit

/-- A list of bytes as a string. -/
def str (l : List UInt8) : ByteArray := ⟨l.toArray⟩

set_option maxHeartbeats 400000 in
theorem S_any (n : Int) (w : World) :
    Calls Tryz.prog 95 #[.int .i64 n] w fun e w' => e = .returned (.string (str (enc n (szS n)))) ∧ Below w.heap.size w w' := by
  have hb := szS_bd n
  go_enter Tryz.func95, Tryz.ntmps95
  go_wp2_with (first
    | (go_at_call 116; refine (size_any n _).mono ?_; rintro e w' ⟨rfl, rfl⟩)
    | (go_at_call 114; refine (write_any n (szS n) _ hb.1 hb.2).mono ?_; rintro e w' ⟨rfl, hbl⟩))
  go_ret
  exact ⟨rfl, hbl⟩

set_option maxHeartbeats 400000 in
theorem U_any (n : Int) (w : World) (h : 0 ≤ n) :
    Calls Tryz.prog 91 #[.int .i64 n] w fun e w' => e = .returned (.tuple #[.string (str (enc n (szU n))), .int .i64 0]) ∧ Below w.heap.size w w' := by
  have hb := szU_bd n
  go_enter Tryz.func91, Tryz.ntmps91
  go_wp2_with (first
    | (go_at_call 115; refine (sizeU_any n _).mono ?_; rintro e w' ⟨rfl, rfl⟩)
    | (go_at_call 114; refine (write_any n (szU n) _ hb.1 (by omega)).mono ?_; rintro e w' ⟨rfl, hbl⟩))
  go_ret2
  exact ⟨rfl, hbl⟩
set_option maxHeartbeats 400000 in
theorem U_no (n : Int) (w : World) (h : n < 0) :
    Calls Tryz.prog 91 #[.int .i64 n] w fun e w' => e = .returned (.tuple #[.string (str []), .int .i64 4]) ∧ w' = w := by
  go_enter Tryz.func91, Tryz.ntmps91
  go_wp2
  go_ret2
  exact ⟨rfl, rfl⟩
end Go.Proofs.YtcbfpikggphokaaGreatDoor
