/-
  The statement LabelTells, walked: of any types it is told what they are, whether one flows to another one, and what both flow to, as the chapter says: for any inputs it returns true; nothing is changed.
-/
import Derived.Test.YtefjlfgpimiclaaRef
namespace Go.Proofs.Ytefjlfgpimiclaa
open Go.RowKit

set_option maxRecDepth 100000 in
set_option maxHeartbeats 2000000 in
theorem tells (a b : Int) (j : Int) (ok r x s y f : Bool) (t : Int) (w : World) (ha : Hid (I64 a)) (hb : Hid (I64 b))
    (hj : Hid (jn a b = (j, ok))) (h1 : Hid (ri a = r)) (h2 : Hid (wi a = x)) (h3 : Hid (se a = s)) (h4 : Hid (se b = y)) (h5 : Hid (fl a b = f)) (h6 : Hid (ot x y = t)) :
    Calls Try.prog 3 #[.int .i64 a, .int .i64 b] w fun e w' => e = .returned (.bool true) ∧ w' = w := by
  go_enter Try.func3, Try.ntmps3
  go_wp2_with fail
  refine (examples_any _).mono ?_
  rintro e w1 ⟨rfl, rfl⟩
  go_wp2_with fail
  refine (join_is a b j ok _ ha.out hb.out hj.out).mono ?_
  rintro e w1 ⟨rfl, rfl⟩
  go_wp2_with fail
  refine (r_join_is a b j ok _ hj.out).mono ?_
  rintro e w1 ⟨rfl, rfl⟩
  go_wp2_with fail
  refine (right_is a r _ ha.out h1.out).mono ?_
  rintro e w1 ⟨rfl, rfl⟩
  go_wp2_with fail
  refine (r_right_is a r _ h1.out).mono ?_
  rintro e w1 ⟨rfl, rfl⟩
  go_wp2_with fail
  refine (wide_is a x _ ha.out h2.out).mono ?_
  rintro e w1 ⟨rfl, rfl⟩
  go_wp2_with fail
  refine (r_wide_is a x _ h2.out).mono ?_
  rintro e w1 ⟨rfl, rfl⟩
  go_wp2_with fail
  refine (secret_is a s _ ha.out h3.out).mono ?_
  rintro e w1 ⟨rfl, rfl⟩
  go_wp2_with fail
  refine (r_secret_is a s _ h3.out).mono ?_
  rintro e w1 ⟨rfl, rfl⟩
  go_wp2_with fail
  refine (flows_is a b f _ ha.out hb.out h5.out).mono ?_
  rintro e w1 ⟨rfl, rfl⟩
  go_wp2_with fail
  refine (r_flows_is a b f _ h5.out).mono ?_
  rintro e w1 ⟨rfl, rfl⟩
  go_wp2_with fail
  refine (wide_is a x _ ha.out h2.out).mono ?_
  rintro e w1 ⟨rfl, rfl⟩
  go_wp2_with fail
  refine (secret_is b y _ hb.out h4.out).mono ?_
  rintro e w1 ⟨rfl, rfl⟩
  go_wp2_with fail
  refine (of_is x y t _ h6.out).mono ?_
  rintro e w1 ⟨rfl, rfl⟩
  go_wp2_with fail
  refine (r_wide_is a x _ h2.out).mono ?_
  rintro e w1 ⟨rfl, rfl⟩
  go_wp2_with fail
  refine (r_secret_is b y _ h4.out).mono ?_
  rintro e w1 ⟨rfl, rfl⟩
  go_wp2_with fail
  refine (r_of_is x y t _ h6.out).mono ?_
  rintro e w1 ⟨rfl, rfl⟩
  go_wp2_with fail
  go_ret
  exact ⟨rfl, rfl⟩
theorem tells_all (a b : Int) (w : World) (ha : I64 a) (hb : I64 b) :
    Calls Try.prog 3 #[.int .i64 a, .int .i64 b] w fun e w' => e = .returned (.bool true) ∧ w' = w :=
  tells a b _ _ _ _ _ _ _ _ w (hide ha) (hide hb) (hide rfl) (hide rfl) (hide rfl) (hide rfl) (hide rfl) (hide rfl) (hide rfl)
end Go.Proofs.Ytefjlfgpimiclaa
