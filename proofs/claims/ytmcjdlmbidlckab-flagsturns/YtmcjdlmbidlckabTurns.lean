/-
  The statement FlagsTurns, walked: turned to the left and back to the right a value is as it was; moved by the width's bits it stays: for any inputs it returns true; nothing older is changed.
-/
import Derived.Test.YtmcjdlmbidlckabEx
import Derived.Test.YtmcjdlmbidlckabShift
namespace Go.Proofs.Ytmcjdlmbidlckab
open Go.RowKit

theorem s_is (k : Int) (wide : Bool) (v n r : Int) (c : Bool) (w : World) (hv : I64 v) (hr : sR k wide (tr wide v) (far wide n) = r) (hc : sK k = c) :
    Calls Try.prog 10 #[.int .i64 k, .bool wide, .int .i64 v, .int .i64 n] w fun e w' => e = .returned (.tuple #[.int .i64 r, .bool c]) ∧ w' = w := by
  rw [← hr, ← hc]; exact shift_any k wide v n w hv
theorem M_R_tr (wide : Bool) (a : Int) (ha : I64 a) : M wide (R wide a) = tr wide a := by rw [M_R, tr_M wide a ha]
theorem t_back (wide : Bool) (v n : Int) (hv : I64 v) : sR 1 wide (tr wide (sR 0 wide (tr wide v) (far wide n))) (far wide n) = tr wide v := by
  have hf := Nat.le_of_lt (far_lt wide n)
  rw [sR_0, sR_1, R_tr, R_tr, R_M, Nat.mod_eq_of_lt (turn_lt _ _ _ hf (R_lt wide v)), turn_back _ _ _ hf (R_lt wide v), M_R_tr wide v hv]
theorem far_64 (wide : Bool) : far wide 64 = 0 := by cases wide <;> decide +kernel
theorem far_m64 (wide : Bool) : far wide (-64) = 0 := by cases wide <;> decide +kernel
theorem t_left (wide : Bool) (v : Int) (hv : I64 v) : sR 4 wide (tr wide v) (far wide 64) = tr wide v := by
  rw [sR_4, far_64, Int.pow_zero, Int.mul_one]; exact M_wd wide _ (tr_wd wide v hv)
theorem t_right (wide : Bool) (v : Int) (hv : I64 v) : sR 7 wide (tr wide v) (far wide (-64)) = tr wide v := by
  rw [sR_7, far_m64, Int.pow_zero, Int.ediv_one]
  refine (M_eq wide _ _ ?_).trans (M_wd wide _ (tr_wd wide v hv))
  cases wide
  · simp only [sn_no, md_no, wrap32]; omega
  · rw [sn_yes, Int.sub_self]; exact Int.dvd_zero _
theorem sR_i64 (k : Int) (wide : Bool) (x : Int) (m : Nat) : I64 (sR k wide x m) := by
  unfold sR
  split
  · exact M_i64 _ _
  split
  · exact M_i64 _ _
  split
  · exact M_i64 _ _
  split
  · exact M_i64 _ _
  split
  · exact M_i64 _ _
  · exact ⟨by decide, by decide⟩
set_option maxHeartbeats 1000000 in
theorem turns_walk (wide : Bool) (v n : Int) (w : World) (hv : I64 v) (_hn : I64 n) :
    Calls Try.prog 4 #[.bool wide, .int .i64 v, .int .i64 n] w fun e w' => e = .returned (.bool true) ∧ Below w.heap.size w w' := by
  have HB := hide (t_back wide v n hv)
  have H0 := hide (sR_i64 0 wide (tr wide v) (far wide n))
  have HV := hide hv
  have H4 := hide (t_left wide v hv)
  have H7 := hide (t_right wide v hv)
  obtain ⟨A, hA⟩ : ∃ A, sR 0 wide (tr wide v) (far wide n) = A := ⟨_, rfl⟩
  rw [hA] at HB H0
  have HA := hide hA
  clear hA hv
  go_enter Try.func4, Try.ntmps4
  go_wp2_with fail
  refine (examples_any _).mono ?_
  rintro e w1 ⟨rfl, B1⟩
  go_wp2_with fail
  refine (trim_any _ _ _).mono ?_
  rintro e w2 ⟨rfl, rfl⟩
  go_wp2_with fail
  refine (s_is 0 _ _ _ A true _ HV.out HA.out rfl).mono ?_
  rintro e w2 ⟨rfl, rfl⟩
  go_wp2_with fail
  refine (s_is 1 _ _ _ _ true _ H0.out HB.out rfl).mono ?_
  rintro e w2 ⟨rfl, rfl⟩
  go_wp2_with fail
  refine (s_is 4 _ _ _ _ true _ HV.out H4.out rfl).mono ?_
  rintro e w2 ⟨rfl, rfl⟩
  go_wp2_with fail
  refine (s_is 7 _ _ _ _ true _ HV.out H7.out rfl).mono ?_
  rintro e w2 ⟨rfl, rfl⟩
  go_wp2_with fail
  go_ret
  exact ⟨rfl, B1⟩
end Go.Proofs.Ytmcjdlmbidlckab
