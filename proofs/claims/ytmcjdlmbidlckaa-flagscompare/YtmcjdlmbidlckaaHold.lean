/-
  The statement FlagsHold, walked: of any flags it is told whether any condition holds, as the chapter says: it returns true; nothing older is changed.
-/
import Derived.Test.YtmcjdlmbidlckaaEx
import Derived.Test.YtmcjdlmbidlckaaRHolds
namespace Go.Proofs.Ytmcjdlmbidlckaa
open Go.RowKit

theorem holds_is (k : Int) (z s c o x i : Bool) (w : World) (hx : hV k z s c o = x) (hi : hK k = i) :
    Calls Try.prog 14 #[.int .i64 k, .agg #[.bool z, .bool s, .bool c, .bool o]] w fun e w' => e = .returned (.tuple #[.bool x, .bool i]) ∧ Below w.heap.size w w' := by
  rw [← hx, ← hi]; exact holds_any k z s c o w
theorem rholds_is (k : Int) (z s c o x i : Bool) (w : World) (hx : hV k z s c o = x) (hi : hK k = i) :
    Calls Try.prog 15 #[.int .i64 k, .agg #[.bool z, .bool s, .bool c, .bool o]] w fun e w' => e = .returned (.tuple #[.bool x, .bool i]) ∧ Below w.heap.size w w' := by
  rw [← hx, ← hi]; exact rholds_any k z s c o w
set_option maxHeartbeats 1000000 in
theorem hold_walk (k : Int) (z s c o : Bool) (w : World) (_hk : I64 k) :
    Calls Try.prog 4 #[.int .i64 k, .bool z, .bool s, .bool c, .bool o] w fun e w' => e = .returned (.bool true) ∧ Below w.heap.size w w' := by
  obtain ⟨x, hx⟩ : ∃ v, hV k z s c o = v := ⟨_, rfl⟩
  obtain ⟨i, hi⟩ : ∃ v, hK k = v := ⟨_, rfl⟩
  have T := hide (holds_is k z s c o x i · hx hi)
  have U := hide (rholds_is k z s c o x i · hx hi)
  clear hx hi
  go_enter Try.func4, Try.ntmps4
  go_wp2_with fail
  refine (examples_any _).mono ?_
  rintro e w1 ⟨rfl, B1⟩
  go_wp2_with fail
  refine (T.out _).mono ?_
  rintro e w2 ⟨rfl, B2⟩
  have F2 := (Fl.made w1 z s c o).kept B2
  have D2 := hide (bel_tr (bel_al B1 _) B2)
  have c0 := F2.c0
  have c1 := F2.c1
  have c2 := F2.c2
  have c3 := F2.c3
  clear B1 B2 F2
  go_wp2_with fail
  refine (U.out _).mono ?_
  rintro e w3 ⟨rfl, B3⟩
  have D3 := hide (bel_tr D2.out B3)
  clear B3
  go_wp2_with fail
  go_ret
  exact ⟨rfl, D3.out⟩
end Go.Proofs.Ytmcjdlmbidlckaa
