/-
  The statement LabelOf, walked: of two answers there is one type of four, and it tells these two again; what is no type is neither wide nor secret: for any inputs it returns true; nothing is changed.
-/
import Derived.Test.YtefjlfgpimiclaaLeaf
namespace Go.Proofs.Ytefjlfgpimiclaa
open Go.RowKit

set_option maxRecDepth 100000 in
set_option maxHeartbeats 2000000 in
theorem of_true (wide secret : Bool) (t a : Int) (w : World) (ha : Hid (ot wide secret = a)) (hi : Hid (I64 a)) (h1 : Hid (ri a = true)) (h2 : Hid (wi a = wide)) (h3 : Hid (se a = secret)) (ht : Hid (I64 t)) (hr : Hid (ri t = true)) :
    Calls Try.prog 7 #[.bool wide, .bool secret, .int .i64 t] w fun e w' => e = .returned (.bool true) ∧ w' = w := by
  go_enter Try.func7, Try.ntmps7
  go_wp2_with fail
  refine (examples_any _).mono ?_
  rintro e w1 ⟨rfl, rfl⟩
  go_wp2_with fail
  refine (of_is wide secret a _ ha.out).mono ?_
  rintro e w1 ⟨rfl, rfl⟩
  go_wp2_with fail
  refine (right_is a true _ hi.out h1.out).mono ?_
  rintro e w1 ⟨rfl, rfl⟩
  go_wp2_with fail
  refine (wide_is a wide _ hi.out h2.out).mono ?_
  rintro e w1 ⟨rfl, rfl⟩
  go_wp2_with fail
  refine (secret_is a secret _ hi.out h3.out).mono ?_
  rintro e w1 ⟨rfl, rfl⟩
  go_wp2_with fail
  refine (right_is t true _ ht.out hr.out).mono ?_
  rintro e w1 ⟨rfl, rfl⟩
  go_wp2_with fail
  refine (wide_any t _ ht.out).mono ?_
  rintro e w1 ⟨rfl, rfl⟩
  go_wp2_with fail
  refine (secret_any t _ ht.out).mono ?_
  rintro e w1 ⟨rfl, rfl⟩
  go_wp2_with fail
  refine (of_is _ _ t _ (ot_back hr.out)).mono ?_
  rintro e w1 ⟨rfl, rfl⟩
  go_wp2_with fail
  refine (right_is t true _ ht.out hr.out).mono ?_
  rintro e w1 ⟨rfl, rfl⟩
  go_wp2_with fail
  go_ret
  exact ⟨rfl, rfl⟩
set_option maxRecDepth 100000 in
set_option maxHeartbeats 2000000 in
theorem of_false (wide secret : Bool) (t a : Int) (w : World) (ha : Hid (ot wide secret = a)) (hi : Hid (I64 a)) (h1 : Hid (ri a = true)) (h2 : Hid (wi a = wide)) (h3 : Hid (se a = secret)) (ht : Hid (I64 t)) (hr : Hid (ri t = false)) :
    Calls Try.prog 7 #[.bool wide, .bool secret, .int .i64 t] w fun e w' => e = .returned (.bool true) ∧ w' = w := by
  go_enter Try.func7, Try.ntmps7
  go_wp2_with fail
  refine (examples_any _).mono ?_
  rintro e w1 ⟨rfl, rfl⟩
  go_wp2_with fail
  refine (of_is wide secret a _ ha.out).mono ?_
  rintro e w1 ⟨rfl, rfl⟩
  go_wp2_with fail
  refine (right_is a true _ hi.out h1.out).mono ?_
  rintro e w1 ⟨rfl, rfl⟩
  go_wp2_with fail
  refine (wide_is a wide _ hi.out h2.out).mono ?_
  rintro e w1 ⟨rfl, rfl⟩
  go_wp2_with fail
  refine (secret_is a secret _ hi.out h3.out).mono ?_
  rintro e w1 ⟨rfl, rfl⟩
  go_wp2_with fail
  refine (right_is t false _ ht.out hr.out).mono ?_
  rintro e w1 ⟨rfl, rfl⟩
  go_wp2_with fail
  refine (right_is t false _ ht.out hr.out).mono ?_
  rintro e w1 ⟨rfl, rfl⟩
  go_wp2_with fail
  refine (wide_is t false _ ht.out (wi_no hr.out)).mono ?_
  rintro e w1 ⟨rfl, rfl⟩
  go_wp2_with fail
  refine (secret_is t false _ ht.out (se_no hr.out)).mono ?_
  rintro e w1 ⟨rfl, rfl⟩
  go_wp2_with fail
  go_ret
  exact ⟨rfl, rfl⟩
theorem of_all (wide secret : Bool) (t : Int) (w : World) (ht : I64 t) :
    Calls Try.prog 7 #[.bool wide, .bool secret, .int .i64 t] w fun e w' => e = .returned (.bool true) ∧ w' = w := by
  obtain ⟨h1, h2, h3⟩ := ot_tells wide secret
  cases hr : ri t
  · exact of_false wide secret t _ w (hide rfl) (hide (ri_i64 h1)) (hide h1) (hide h2) (hide h3) (hide ht) (hide hr)
  · exact of_true wide secret t _ w (hide rfl) (hide (ri_i64 h1)) (hide h1) (hide h2) (hide h3) (hide ht) (hide hr)
end Go.Proofs.Ytefjlfgpimiclaa
