/-
  The program's function shift answers what the plain function of the text Math answers, and changes nothing.
-/
import Derived.Test.YtfcdpjihhopfhaaDivide
namespace Go.Proofs.Ytfcdpjihhopfhaa
open Go.RowKit

/-- how far: the second value modulo the width's bits -/
def far (wide : Bool) (b : Int) : Nat := (un b % wd wide).toNat
theorem wd_no : wd false = 32 := rfl
theorem wd_yes : wd true = 64 := rfl
theorem far_lt (wide : Bool) (b : Int) : far wide b < wd wide := by
  cases wide
  · simp only [far, wd, Bool.false_eq_true, if_false]; omega
  · simp only [far, wd, if_true]; omega
theorem far32 (b : Int) : (IntKind.u64.wrap b).tmod 32 = (far false b : Int) := by
  rw [un_wrap, Int.tmod_eq_emod_of_nonneg (un_ge b)]
  simp only [far, wd, Bool.false_eq_true, if_false]; omega
theorem far64 (b : Int) : (IntKind.u64.wrap b).tmod 64 = (far true b : Int) := by
  rw [un_wrap, Int.tmod_eq_emod_of_nonneg (un_ge b)]
  simp only [far, wd, if_true]; omega
theorem sh_116 (wide : Bool) (a : Int) (n : Nat) : sh 116 wide a n = wrap64 (a * 2 ^ n) := by simp [sh]
theorem sh_117 (wide : Bool) (a : Int) (n : Nat) : sh 117 wide a n = sg wide a / 2 ^ n := by simp [sh]
theorem sh_118 (wide : Bool) (a : Int) (n : Nat) : sh 118 wide a n = wrap64 (un a / 2 ^ n) := by simp [sh]
theorem sh_119 (wide : Bool) (a : Int) (n : Nat) : sh 119 wide a n = rt wide a n := by simp [sh]
theorem sh_120 (wide : Bool) (a : Int) (n : Nat) : sh 120 wide a n = rt wide a ((wd wide - n) % wd wide) := by simp [sh]
theorem rt_at (wide : Bool) (a : Int) (n : Nat) : rt wide a n = wrap64 (bits .or .u64 (un (un a * 2 ^ n)) (un a / 2 ^ (wd wide - n))) := by simp only [rt, un]
theorem turn32a (n : Nat) (h : n < 32) : (-(n : Int) % 32).toNat = (32 - n) % 32 := by omega
theorem turn32b (n : Nat) (h : n < 32) : (32 - -(n : Int) % 32).toNat = 32 - (32 - n) % 32 := by omega
theorem turn64a (n : Nat) (h : n < 64) : (-(n : Int) % 64).toNat = (64 - n) % 64 := by omega
theorem turn64b (n : Nat) (h : n < 64) : (64 - -(n : Int) % 64).toNat = 64 - (64 - n) % 64 := by omega

theorem shift116_no (a b : Int) (w : World) (ha : Wd false a) :
    Calls Try.prog 22 #[.int .i64 116, .bool false, .int .i64 a, .int .i64 b] w fun e w' => e = .returned (.int .i64 (sh 116 false a (far false b))) ∧ w' = w := by
  have ha' := hide ha
  have hn := far32 b
  have hl : far false b < 32 := far_lt false b
  generalize far false b = n at hn hl ⊢
  clear ha
  go_enter Try.func22, Try.ntmps22
  go_wp2_with fail
  refine (width_no _).mono ?_
  rintro e w1 ⟨rfl, rfl⟩
  go_wp2_with fail
  go_ret
  exact ⟨ret_int (sh_116 _ _ _).symm, rfl⟩

theorem shift117_no (a b : Int) (w : World) (ha : Wd false a) :
    Calls Try.prog 22 #[.int .i64 117, .bool false, .int .i64 a, .int .i64 b] w fun e w' => e = .returned (.int .i64 (sh 117 false a (far false b))) ∧ w' = w := by
  have ha' := hide ha
  have hn := far32 b
  have hl : far false b < 32 := far_lt false b
  generalize far false b = n at hn hl ⊢
  clear ha
  go_enter Try.func22, Try.ntmps22
  go_wp2_with fail
  refine (width_no _).mono ?_
  rintro e w1 ⟨rfl, rfl⟩
  go_wp2_with fail
  refine (signed_any _ _ _ ha'.out).mono ?_
  rintro e w1 ⟨rfl, rfl⟩
  go_wp2_with fail
  go_ret
  exact ⟨ret_int (sh_117 _ _ _).symm, rfl⟩

theorem shift118_no (a b : Int) (w : World) (ha : Wd false a) :
    Calls Try.prog 22 #[.int .i64 118, .bool false, .int .i64 a, .int .i64 b] w fun e w' => e = .returned (.int .i64 (sh 118 false a (far false b))) ∧ w' = w := by
  have ha' := hide ha
  have hn := far32 b
  have hl : far false b < 32 := far_lt false b
  generalize far false b = n at hn hl ⊢
  clear ha
  go_enter Try.func22, Try.ntmps22
  go_wp2_with fail
  refine (width_no _).mono ?_
  rintro e w1 ⟨rfl, rfl⟩
  go_wp2_with fail
  go_ret
  exact ⟨ret_int (by rw [sh_118, un_wrap]), rfl⟩

theorem shift119_no (a b : Int) (w : World) (ha : Wd false a) :
    Calls Try.prog 22 #[.int .i64 119, .bool false, .int .i64 a, .int .i64 b] w fun e w' => e = .returned (.int .i64 (sh 119 false a (far false b))) ∧ w' = w := by
  have ha' := hide ha
  have hn := far32 b
  have hl : far false b < 32 := far_lt false b
  generalize far false b = n at hn hl ⊢
  clear ha
  go_enter Try.func22, Try.ntmps22
  go_wp2_with fail
  refine (width_no _).mono ?_
  rintro e w1 ⟨rfl, rfl⟩
  go_wp2_with fail
  go_ret
  exact ⟨ret_int (by rw [sh_119, rt_at, wd_no, un_wrap, un_wrap]), rfl⟩

theorem shift120_no (a b : Int) (w : World) (ha : Wd false a) :
    Calls Try.prog 22 #[.int .i64 120, .bool false, .int .i64 a, .int .i64 b] w fun e w' => e = .returned (.int .i64 (sh 120 false a (far false b))) ∧ w' = w := by
  have ha' := hide ha
  have hn := far32 b
  have hl : far false b < 32 := far_lt false b
  generalize far false b = n at hn hl ⊢
  clear ha
  go_enter Try.func22, Try.ntmps22
  go_wp2_with fail
  refine (width_no _).mono ?_
  rintro e w1 ⟨rfl, rfl⟩
  go_wp2_with fail
  go_ret
  exact ⟨ret_int (by rw [sh_120, rt_at, wd_no, turn32a n hl, turn32b n hl, un_wrap, un_wrap]), rfl⟩

theorem shift116_yes (a b : Int) (w : World) (ha : Wd true a) :
    Calls Try.prog 22 #[.int .i64 116, .bool true, .int .i64 a, .int .i64 b] w fun e w' => e = .returned (.int .i64 (sh 116 true a (far true b))) ∧ w' = w := by
  have ha' := hide ha
  have hn := far64 b
  have hl : far true b < 64 := far_lt true b
  generalize far true b = n at hn hl ⊢
  clear ha
  go_enter Try.func22, Try.ntmps22
  go_wp2_with fail
  refine (width_yes _).mono ?_
  rintro e w1 ⟨rfl, rfl⟩
  go_wp2_with fail
  go_ret
  exact ⟨ret_int (sh_116 _ _ _).symm, rfl⟩

theorem shift117_yes (a b : Int) (w : World) (ha : Wd true a) :
    Calls Try.prog 22 #[.int .i64 117, .bool true, .int .i64 a, .int .i64 b] w fun e w' => e = .returned (.int .i64 (sh 117 true a (far true b))) ∧ w' = w := by
  have ha' := hide ha
  have hn := far64 b
  have hl : far true b < 64 := far_lt true b
  generalize far true b = n at hn hl ⊢
  clear ha
  go_enter Try.func22, Try.ntmps22
  go_wp2_with fail
  refine (width_yes _).mono ?_
  rintro e w1 ⟨rfl, rfl⟩
  go_wp2_with fail
  refine (signed_any _ _ _ ha'.out).mono ?_
  rintro e w1 ⟨rfl, rfl⟩
  go_wp2_with fail
  go_ret
  exact ⟨ret_int (sh_117 _ _ _).symm, rfl⟩

theorem shift118_yes (a b : Int) (w : World) (ha : Wd true a) :
    Calls Try.prog 22 #[.int .i64 118, .bool true, .int .i64 a, .int .i64 b] w fun e w' => e = .returned (.int .i64 (sh 118 true a (far true b))) ∧ w' = w := by
  have ha' := hide ha
  have hn := far64 b
  have hl : far true b < 64 := far_lt true b
  generalize far true b = n at hn hl ⊢
  clear ha
  go_enter Try.func22, Try.ntmps22
  go_wp2_with fail
  refine (width_yes _).mono ?_
  rintro e w1 ⟨rfl, rfl⟩
  go_wp2_with fail
  go_ret
  exact ⟨ret_int (by rw [sh_118, un_wrap]), rfl⟩

theorem shift119_yes (a b : Int) (w : World) (ha : Wd true a) :
    Calls Try.prog 22 #[.int .i64 119, .bool true, .int .i64 a, .int .i64 b] w fun e w' => e = .returned (.int .i64 (sh 119 true a (far true b))) ∧ w' = w := by
  have ha' := hide ha
  have hn := far64 b
  have hl : far true b < 64 := far_lt true b
  generalize far true b = n at hn hl ⊢
  clear ha
  go_enter Try.func22, Try.ntmps22
  go_wp2_with fail
  refine (width_yes _).mono ?_
  rintro e w1 ⟨rfl, rfl⟩
  go_wp2_with fail
  go_ret
  exact ⟨ret_int (by rw [sh_119, rt_at, wd_yes, un_wrap, un_wrap]), rfl⟩

theorem shift120_yes (a b : Int) (w : World) (ha : Wd true a) :
    Calls Try.prog 22 #[.int .i64 120, .bool true, .int .i64 a, .int .i64 b] w fun e w' => e = .returned (.int .i64 (sh 120 true a (far true b))) ∧ w' = w := by
  have ha' := hide ha
  have hn := far64 b
  have hl : far true b < 64 := far_lt true b
  generalize far true b = n at hn hl ⊢
  clear ha
  go_enter Try.func22, Try.ntmps22
  go_wp2_with fail
  refine (width_yes _).mono ?_
  rintro e w1 ⟨rfl, rfl⟩
  go_wp2_with fail
  go_ret
  exact ⟨ret_int (by rw [sh_120, rt_at, wd_yes, turn64a n hl, turn64b n hl, un_wrap, un_wrap]), rfl⟩

theorem shift_any (k : Int) (wide : Bool) (a b : Int) (w : World) (hk : 116 ≤ k ∧ k ≤ 120) (ha : Wd wide a) :
    Calls Try.prog 22 #[.int .i64 k, .bool wide, .int .i64 a, .int .i64 b] w fun e w' => e = .returned (.int .i64 (sh k wide a (far wide b))) ∧ w' = w := by
  have h : k = 116 ∨ k = 117 ∨ k = 118 ∨ k = 119 ∨ k = 120 := by omega
  cases wide
  · rcases h with rfl | rfl | rfl | rfl | rfl
    · exact shift116_no a b w ha
    · exact shift117_no a b w ha
    · exact shift118_no a b w ha
    · exact shift119_no a b w ha
    · exact shift120_no a b w ha
  · rcases h with rfl | rfl | rfl | rfl | rfl
    · exact shift116_yes a b w ha
    · exact shift117_yes a b w ha
    · exact shift118_yes a b w ha
    · exact shift119_yes a b w ha
    · exact shift120_yes a b w ha
end Go.Proofs.Ytfcdpjihhopfhaa
