/-
  The statement FlagsShift, walked: any value is moved or turned by any number as the chapter says, or refused: it returns true; nothing older is changed.
-/
import Derived.Test.YtmcjdlmbidlckaaEx
import Derived.Test.YtmcjdlmbidlckaaRShift
namespace Go.Proofs.Ytmcjdlmbidlckaa
open Go.RowKit

theorem s_is (k : Int) (wide : Bool) (v n r : Int) (c : Bool) (w : World) (hv : I64 v) (hr : sR k wide (tr wide v) (far wide n) = r) (hc : sK k = c) :
    Calls Try.prog 16 #[.int .i64 k, .bool wide, .int .i64 v, .int .i64 n] w fun e w' => e = .returned (.tuple #[.int .i64 r, .bool c]) ∧ w' = w := by
  rw [← hr, ← hc]; exact shift_any k wide v n w hv
theorem rs_is (k : Int) (wide : Bool) (v n r : Int) (c : Bool) (w : World) (hv : I64 v) (hr : sR k wide (tr wide v) (far wide n) = r) (hc : sK k = c) :
    Calls Try.prog 17 #[.int .i64 k, .bool wide, .int .i64 v, .int .i64 n] w fun e w' => e = .returned (.tuple #[.int .i64 r, .bool c]) ∧ w' = w := by
  rw [← hr, ← hc]; exact rshift_any k wide v n w hv
set_option maxHeartbeats 1000000 in
theorem shiftl_walk (k : Int) (wide : Bool) (v n : Int) (w : World) (_hk : I64 k) (hv : I64 v) (_hn : I64 n) :
    Calls Try.prog 5 #[.int .i64 k, .bool wide, .int .i64 v, .int .i64 n] w fun e w' => e = .returned (.bool true) ∧ Below w.heap.size w w' := by
  obtain ⟨r, hr⟩ : ∃ r, sR k wide (tr wide v) (far wide n) = r := ⟨_, rfl⟩
  obtain ⟨c, hc⟩ : ∃ c, sK k = c := ⟨_, rfl⟩
  have T := hide (s_is k wide v n r c · hv hr hc)
  have U := hide (rs_is k wide v n r c · hv hr hc)
  clear hr hc hv
  go_enter Try.func5, Try.ntmps5
  go_wp2_with fail
  refine (examples_any _).mono ?_
  rintro e w1 ⟨rfl, B1⟩
  go_wp2_with fail
  refine (T.out _).mono ?_
  rintro e w2 ⟨rfl, rfl⟩
  go_wp2_with fail
  refine (U.out _).mono ?_
  rintro e w2 ⟨rfl, rfl⟩
  go_wp2_with fail
  go_ret
  exact ⟨rfl, B1⟩
end Go.Proofs.Ytmcjdlmbidlckaa
