/-
  The document's own function shifted answers what the plain function sh answers, and changes nothing.
-/
import Derived.Test.YtfcdpjihhopfhaaRefLeaf
import Derived.Test.YtfcdpjihhopfhaaMathC
namespace Go.Proofs.Ytfcdpjihhopfhaa
open Go.RowKit

theorem un_un (x : Int) : un (un x) = un x := by simp only [un]; omega
theorem and31 (v : Int) : bits .and .i64 v 31 = v % 32 := by
  show IntKind.i64.wrap ((BitVec.ofInt 64 v &&& BitVec.ofInt 64 31).toNat : Int) = _
  rw [BitVec.toNat_and]
  have e : (BitVec.ofInt 64 31).toNat = 2 ^ 5 - 1 := by decide
  rw [e, Nat.and_two_pow_sub_one_eq_mod, BitVec.toNat_ofInt]
  have h0 : (0 : Int) ≤ v % 18446744073709551616 := Int.emod_nonneg _ (by decide)
  have e2 : (((v % ((2 ^ 64 : Nat) : Int)).toNat % 2 ^ 5 : Nat) : Int) = v % 32 := by
    have e3 : ((2 ^ 64 : Nat) : Int) = 18446744073709551616 := by decide
    rw [e3]; omega
  rw [e2]
  have h1 : 0 ≤ v % 32 ∧ v % 32 < 32 := by omega
  generalize v % 32 = x at h1 ⊢
  simp [IntKind.wrap, IntKind.bits, IntKind.signed]
  omega
theorem and63 (v : Int) : bits .and .i64 v 63 = v % 64 := by
  show IntKind.i64.wrap ((BitVec.ofInt 64 v &&& BitVec.ofInt 64 63).toNat : Int) = _
  rw [BitVec.toNat_and]
  have e : (BitVec.ofInt 64 63).toNat = 2 ^ 6 - 1 := by decide
  rw [e, Nat.and_two_pow_sub_one_eq_mod, BitVec.toNat_ofInt]
  have h0 : (0 : Int) ≤ v % 18446744073709551616 := Int.emod_nonneg _ (by decide)
  have e2 : (((v % ((2 ^ 64 : Nat) : Int)).toNat % 2 ^ 6 : Nat) : Int) = v % 64 := by
    have e3 : ((2 ^ 64 : Nat) : Int) = 18446744073709551616 := by decide
    rw [e3]; omega
  rw [e2]
  have h1 : 0 ≤ v % 64 ∧ v % 64 < 64 := by omega
  generalize v % 64 = x at h1 ⊢
  simp [IntKind.wrap, IntKind.bits, IntKind.signed]
  omega
theorem rf32 (b : Int) : bits .and .i64 b 31 = (far false b : Int) := by
  rw [and31]; simp only [far, wd_no, un]; omega
theorem rf64 (b : Int) : bits .and .i64 b 63 = (far true b : Int) := by
  rw [and63]; simp only [far, wd_yes, un]; omega
theorem or_comm64 (x y : Int) : bits .or .u64 x y = bits .or .u64 y x := by
  show IntKind.u64.wrap ((BitVec.ofInt 64 x ||| BitVec.ofInt 64 y).toNat : Int) = IntKind.u64.wrap ((BitVec.ofInt 64 y ||| BitVec.ofInt 64 x).toNat : Int)
  rw [BitVec.or_comm]
theorem un_out (wide : Bool) (a : Int) (h : Wd wide a) : un a / 2 ^ wd wide = 0 := by
  apply Int.ediv_eq_zero_of_lt (un_ge a)
  have := un_md wide a h
  rw [md_pow] at this
  rwa [Int.natCast_pow] at this
theorem f116 (wide : Bool) (a : Int) (n : Nat) : wrap64 (IntKind.u64.wrap (IntKind.u64.wrap a * 2 ^ n)) = sh 116 wide a n := by
  rw [sh_116, un_wrap, un_wrap, ← M_yes, ← M_yes]
  apply M_eq
  exact (cg_un true _).trans ((cg_un true a).mul (show Cg true (2 ^ n) (2 ^ n) by show md true ∣ _; rw [Int.sub_self]; exact Int.dvd_zero _))
theorem f116z (wide : Bool) (a : Int) : wrap64 (IntKind.u64.wrap (IntKind.u64.wrap a)) = sh 116 wide a 0 := by
  have h := f116 wide a 0
  rwa [Int.pow_zero, Int.mul_one] at h
theorem f117z (wide : Bool) (a : Int) : sg wide a = sh 117 wide a 0 := by rw [sh_117, Int.pow_zero, Int.ediv_one]
theorem f118 (wide : Bool) (a : Int) (n : Nat) : wrap64 (IntKind.u64.wrap a / 2 ^ n) = sh 118 wide a n := by rw [sh_118, un_wrap]
theorem f118z (wide : Bool) (a : Int) : wrap64 (IntKind.u64.wrap a) = sh 118 wide a 0 := by rw [sh_118, un_wrap, Int.pow_zero, Int.ediv_one]
theorem f119 (wide : Bool) (a : Int) (n : Nat) : wrap64 (bits .or .u64 (IntKind.u64.wrap (IntKind.u64.wrap a * 2 ^ n)) (IntKind.u64.wrap a / 2 ^ (wd wide - n))) = sh 119 wide a n := by
  rw [sh_119, rt_at, un_wrap, un_wrap]
theorem rt_zero (wide : Bool) (a : Int) (h : Wd wide a) : rt wide a 0 = wrap64 (bits .or .u64 (un a) 0) := by
  rw [rt_at, Int.pow_zero, Int.mul_one, un_un, Nat.sub_zero, un_out wide a h]
theorem f119z (wide : Bool) (a : Int) (h : Wd wide a) : wrap64 (bits .or .u64 (IntKind.u64.wrap (IntKind.u64.wrap a)) 0) = sh 119 wide a 0 := by
  rw [sh_119, rt_zero wide a h, un_wrap, un_wrap, un_un]
theorem f120z (wide : Bool) (a : Int) (h : Wd wide a) : wrap64 (bits .or .u64 (IntKind.u64.wrap a) 0) = sh 120 wide a 0 := by
  rw [sh_120, Nat.sub_zero, Nat.mod_self, rt_zero wide a h, un_wrap]
theorem f120 (wide : Bool) (a : Int) (n : Nat) (h0 : n ≠ 0) (hl : n < wd wide) :
    wrap64 (bits .or .u64 (IntKind.u64.wrap a / 2 ^ n) (IntKind.u64.wrap (IntKind.u64.wrap a * 2 ^ (wd wide - n)))) = sh 120 wide a n := by
  have e1 : (wd wide - n) % wd wide = wd wide - n := Nat.mod_eq_of_lt (by omega)
  have e2 : wd wide - (wd wide - n) = n := by omega
  rw [sh_120, e1, rt_at, e2, un_wrap, un_wrap, or_comm64]

theorem r_sh0_no0 (a b : Int) (n : Nat) (w : World) (ha : Wd false a) (hn : bits .and .i64 b 31 = (n : Int)) (hl : n < 32) (h0 : n = 0) :
    Calls Try.prog 28 #[.int .i64 0, .bool false, .int .i64 a, .int .i64 b] w fun e w' => e = .returned (.int .i64 (sh 116 false a n)) ∧ w' = w := by
  have ha' := hide ha
  subst h0
  have hm : bits .and .i64 32 63 = 32 := by decide +kernel
  clear ha
  go_enter Try.func28, Try.ntmps28
  go_wp2_with fail
  go_ret
  exact ⟨ret_int (f116z false a), rfl⟩

theorem r_sh0_no1 (a b : Int) (n : Nat) (w : World) (ha : Wd false a) (hn : bits .and .i64 b 31 = (n : Int)) (hl : n < 32) (h0 : n ≠ 0) :
    Calls Try.prog 28 #[.int .i64 0, .bool false, .int .i64 a, .int .i64 b] w fun e w' => e = .returned (.int .i64 (sh 116 false a n)) ∧ w' = w := by
  have ha' := hide ha
  have hm : bits .and .i64 (32 - (n : Int)) 63 = ((32 - n : Nat) : Int) := by rw [and63]; omega
  have hz : ((n : Int) == 0) = false := by simp; omega
  have h0' := hide h0
  have hl' := hide hl
  clear h0
  clear ha
  go_enter Try.func28, Try.ntmps28
  go_wp2_with fail
  go_ret
  exact ⟨ret_int (f116 false a n), rfl⟩

theorem r_sh1_no0 (a b : Int) (n : Nat) (w : World) (ha : Wd false a) (hn : bits .and .i64 b 31 = (n : Int)) (hl : n < 32) (h0 : n = 0) :
    Calls Try.prog 28 #[.int .i64 1, .bool false, .int .i64 a, .int .i64 b] w fun e w' => e = .returned (.int .i64 (sh 117 false a n)) ∧ w' = w := by
  have ha' := hide ha
  subst h0
  have hm : bits .and .i64 32 63 = 32 := by decide +kernel
  clear ha
  go_enter Try.func28, Try.ntmps28
  go_wp2_with fail
  refine (r_signed _ _ _ ha'.out).mono ?_
  rintro e w1 ⟨rfl, rfl⟩
  go_wp2_with fail
  go_ret
  exact ⟨ret_int (f117z false a), rfl⟩

theorem r_sh1_no1 (a b : Int) (n : Nat) (w : World) (ha : Wd false a) (hn : bits .and .i64 b 31 = (n : Int)) (hl : n < 32) (h0 : n ≠ 0) :
    Calls Try.prog 28 #[.int .i64 1, .bool false, .int .i64 a, .int .i64 b] w fun e w' => e = .returned (.int .i64 (sh 117 false a n)) ∧ w' = w := by
  have ha' := hide ha
  have hm : bits .and .i64 (32 - (n : Int)) 63 = ((32 - n : Nat) : Int) := by rw [and63]; omega
  have hz : ((n : Int) == 0) = false := by simp; omega
  have h0' := hide h0
  have hl' := hide hl
  clear h0
  clear ha
  go_enter Try.func28, Try.ntmps28
  go_wp2_with fail
  refine (r_signed _ _ _ ha'.out).mono ?_
  rintro e w1 ⟨rfl, rfl⟩
  go_wp2_with fail
  go_ret
  exact ⟨ret_int ((sh_117 false a n).symm), rfl⟩

theorem r_sh2_no0 (a b : Int) (n : Nat) (w : World) (ha : Wd false a) (hn : bits .and .i64 b 31 = (n : Int)) (hl : n < 32) (h0 : n = 0) :
    Calls Try.prog 28 #[.int .i64 2, .bool false, .int .i64 a, .int .i64 b] w fun e w' => e = .returned (.int .i64 (sh 118 false a n)) ∧ w' = w := by
  have ha' := hide ha
  subst h0
  have hm : bits .and .i64 32 63 = 32 := by decide +kernel
  clear ha
  go_enter Try.func28, Try.ntmps28
  go_wp2_with fail
  go_ret
  exact ⟨ret_int (f118z false a), rfl⟩

theorem r_sh2_no1 (a b : Int) (n : Nat) (w : World) (ha : Wd false a) (hn : bits .and .i64 b 31 = (n : Int)) (hl : n < 32) (h0 : n ≠ 0) :
    Calls Try.prog 28 #[.int .i64 2, .bool false, .int .i64 a, .int .i64 b] w fun e w' => e = .returned (.int .i64 (sh 118 false a n)) ∧ w' = w := by
  have ha' := hide ha
  have hm : bits .and .i64 (32 - (n : Int)) 63 = ((32 - n : Nat) : Int) := by rw [and63]; omega
  have hz : ((n : Int) == 0) = false := by simp; omega
  have h0' := hide h0
  have hl' := hide hl
  clear h0
  clear ha
  go_enter Try.func28, Try.ntmps28
  go_wp2_with fail
  go_ret
  exact ⟨ret_int (f118 false a n), rfl⟩

theorem r_sh3_no0 (a b : Int) (n : Nat) (w : World) (ha : Wd false a) (hn : bits .and .i64 b 31 = (n : Int)) (hl : n < 32) (h0 : n = 0) :
    Calls Try.prog 28 #[.int .i64 3, .bool false, .int .i64 a, .int .i64 b] w fun e w' => e = .returned (.int .i64 (sh 119 false a n)) ∧ w' = w := by
  have ha' := hide ha
  subst h0
  have hm : bits .and .i64 32 63 = 32 := by decide +kernel
  clear ha
  go_enter Try.func28, Try.ntmps28
  go_wp2_with fail
  go_ret
  exact ⟨ret_int (f119z false a ha'.out), rfl⟩

theorem r_sh3_no1 (a b : Int) (n : Nat) (w : World) (ha : Wd false a) (hn : bits .and .i64 b 31 = (n : Int)) (hl : n < 32) (h0 : n ≠ 0) :
    Calls Try.prog 28 #[.int .i64 3, .bool false, .int .i64 a, .int .i64 b] w fun e w' => e = .returned (.int .i64 (sh 119 false a n)) ∧ w' = w := by
  have ha' := hide ha
  have hm : bits .and .i64 (32 - (n : Int)) 63 = ((32 - n : Nat) : Int) := by rw [and63]; omega
  have hz : ((n : Int) == 0) = false := by simp; omega
  have h0' := hide h0
  have hl' := hide hl
  clear h0
  clear ha
  go_enter Try.func28, Try.ntmps28
  go_wp2_with fail
  go_ret
  exact ⟨ret_int (f119 false a n), rfl⟩

theorem r_sh4_no0 (a b : Int) (n : Nat) (w : World) (ha : Wd false a) (hn : bits .and .i64 b 31 = (n : Int)) (hl : n < 32) (h0 : n = 0) :
    Calls Try.prog 28 #[.int .i64 4, .bool false, .int .i64 a, .int .i64 b] w fun e w' => e = .returned (.int .i64 (sh 120 false a n)) ∧ w' = w := by
  have ha' := hide ha
  subst h0
  have hm : bits .and .i64 32 63 = 32 := by decide +kernel
  clear ha
  go_enter Try.func28, Try.ntmps28
  go_wp2_with fail
  go_ret
  exact ⟨ret_int (f120z false a ha'.out), rfl⟩

theorem r_sh4_no1 (a b : Int) (n : Nat) (w : World) (ha : Wd false a) (hn : bits .and .i64 b 31 = (n : Int)) (hl : n < 32) (h0 : n ≠ 0) :
    Calls Try.prog 28 #[.int .i64 4, .bool false, .int .i64 a, .int .i64 b] w fun e w' => e = .returned (.int .i64 (sh 120 false a n)) ∧ w' = w := by
  have ha' := hide ha
  have hm : bits .and .i64 (32 - (n : Int)) 63 = ((32 - n : Nat) : Int) := by rw [and63]; omega
  have hz : ((n : Int) == 0) = false := by simp; omega
  have h0' := hide h0
  have hl' := hide hl
  clear h0
  clear ha
  go_enter Try.func28, Try.ntmps28
  go_wp2_with fail
  go_ret
  exact ⟨ret_int (f120 false a n h0'.out hl'.out), rfl⟩

theorem r_sh0_yes0 (a b : Int) (n : Nat) (w : World) (ha : Wd true a) (hn : bits .and .i64 b 63 = (n : Int)) (hl : n < 64) (h0 : n = 0) :
    Calls Try.prog 28 #[.int .i64 0, .bool true, .int .i64 a, .int .i64 b] w fun e w' => e = .returned (.int .i64 (sh 116 true a n)) ∧ w' = w := by
  have ha' := hide ha
  subst h0
  have hm : bits .and .i64 64 63 = 0 := by decide +kernel
  clear ha
  go_enter Try.func28, Try.ntmps28
  go_wp2_with fail
  go_ret
  exact ⟨ret_int (f116z true a), rfl⟩

theorem r_sh0_yes1 (a b : Int) (n : Nat) (w : World) (ha : Wd true a) (hn : bits .and .i64 b 63 = (n : Int)) (hl : n < 64) (h0 : n ≠ 0) :
    Calls Try.prog 28 #[.int .i64 0, .bool true, .int .i64 a, .int .i64 b] w fun e w' => e = .returned (.int .i64 (sh 116 true a n)) ∧ w' = w := by
  have ha' := hide ha
  have hm : bits .and .i64 (64 - (n : Int)) 63 = ((64 - n : Nat) : Int) := by rw [and63]; omega
  have hz : ((n : Int) == 0) = false := by simp; omega
  have h0' := hide h0
  have hl' := hide hl
  clear h0
  clear ha
  go_enter Try.func28, Try.ntmps28
  go_wp2_with fail
  go_ret
  exact ⟨ret_int (f116 true a n), rfl⟩

theorem r_sh1_yes0 (a b : Int) (n : Nat) (w : World) (ha : Wd true a) (hn : bits .and .i64 b 63 = (n : Int)) (hl : n < 64) (h0 : n = 0) :
    Calls Try.prog 28 #[.int .i64 1, .bool true, .int .i64 a, .int .i64 b] w fun e w' => e = .returned (.int .i64 (sh 117 true a n)) ∧ w' = w := by
  have ha' := hide ha
  subst h0
  have hm : bits .and .i64 64 63 = 0 := by decide +kernel
  clear ha
  go_enter Try.func28, Try.ntmps28
  go_wp2_with fail
  refine (r_signed _ _ _ ha'.out).mono ?_
  rintro e w1 ⟨rfl, rfl⟩
  go_wp2_with fail
  go_ret
  exact ⟨ret_int (f117z true a), rfl⟩

theorem r_sh1_yes1 (a b : Int) (n : Nat) (w : World) (ha : Wd true a) (hn : bits .and .i64 b 63 = (n : Int)) (hl : n < 64) (h0 : n ≠ 0) :
    Calls Try.prog 28 #[.int .i64 1, .bool true, .int .i64 a, .int .i64 b] w fun e w' => e = .returned (.int .i64 (sh 117 true a n)) ∧ w' = w := by
  have ha' := hide ha
  have hm : bits .and .i64 (64 - (n : Int)) 63 = ((64 - n : Nat) : Int) := by rw [and63]; omega
  have hz : ((n : Int) == 0) = false := by simp; omega
  have h0' := hide h0
  have hl' := hide hl
  clear h0
  clear ha
  go_enter Try.func28, Try.ntmps28
  go_wp2_with fail
  refine (r_signed _ _ _ ha'.out).mono ?_
  rintro e w1 ⟨rfl, rfl⟩
  go_wp2_with fail
  go_ret
  exact ⟨ret_int ((sh_117 true a n).symm), rfl⟩

theorem r_sh2_yes0 (a b : Int) (n : Nat) (w : World) (ha : Wd true a) (hn : bits .and .i64 b 63 = (n : Int)) (hl : n < 64) (h0 : n = 0) :
    Calls Try.prog 28 #[.int .i64 2, .bool true, .int .i64 a, .int .i64 b] w fun e w' => e = .returned (.int .i64 (sh 118 true a n)) ∧ w' = w := by
  have ha' := hide ha
  subst h0
  have hm : bits .and .i64 64 63 = 0 := by decide +kernel
  clear ha
  go_enter Try.func28, Try.ntmps28
  go_wp2_with fail
  go_ret
  exact ⟨ret_int (f118z true a), rfl⟩

theorem r_sh2_yes1 (a b : Int) (n : Nat) (w : World) (ha : Wd true a) (hn : bits .and .i64 b 63 = (n : Int)) (hl : n < 64) (h0 : n ≠ 0) :
    Calls Try.prog 28 #[.int .i64 2, .bool true, .int .i64 a, .int .i64 b] w fun e w' => e = .returned (.int .i64 (sh 118 true a n)) ∧ w' = w := by
  have ha' := hide ha
  have hm : bits .and .i64 (64 - (n : Int)) 63 = ((64 - n : Nat) : Int) := by rw [and63]; omega
  have hz : ((n : Int) == 0) = false := by simp; omega
  have h0' := hide h0
  have hl' := hide hl
  clear h0
  clear ha
  go_enter Try.func28, Try.ntmps28
  go_wp2_with fail
  go_ret
  exact ⟨ret_int (f118 true a n), rfl⟩

theorem r_sh3_yes0 (a b : Int) (n : Nat) (w : World) (ha : Wd true a) (hn : bits .and .i64 b 63 = (n : Int)) (hl : n < 64) (h0 : n = 0) :
    Calls Try.prog 28 #[.int .i64 3, .bool true, .int .i64 a, .int .i64 b] w fun e w' => e = .returned (.int .i64 (sh 119 true a n)) ∧ w' = w := by
  have ha' := hide ha
  subst h0
  have hm : bits .and .i64 64 63 = 0 := by decide +kernel
  clear ha
  go_enter Try.func28, Try.ntmps28
  go_wp2_with fail
  go_ret
  exact ⟨ret_int (f119z true a ha'.out), rfl⟩

theorem r_sh3_yes1 (a b : Int) (n : Nat) (w : World) (ha : Wd true a) (hn : bits .and .i64 b 63 = (n : Int)) (hl : n < 64) (h0 : n ≠ 0) :
    Calls Try.prog 28 #[.int .i64 3, .bool true, .int .i64 a, .int .i64 b] w fun e w' => e = .returned (.int .i64 (sh 119 true a n)) ∧ w' = w := by
  have ha' := hide ha
  have hm : bits .and .i64 (64 - (n : Int)) 63 = ((64 - n : Nat) : Int) := by rw [and63]; omega
  have hz : ((n : Int) == 0) = false := by simp; omega
  have h0' := hide h0
  have hl' := hide hl
  clear h0
  clear ha
  go_enter Try.func28, Try.ntmps28
  go_wp2_with fail
  go_ret
  exact ⟨ret_int (f119 true a n), rfl⟩

theorem r_sh4_yes0 (a b : Int) (n : Nat) (w : World) (ha : Wd true a) (hn : bits .and .i64 b 63 = (n : Int)) (hl : n < 64) (h0 : n = 0) :
    Calls Try.prog 28 #[.int .i64 4, .bool true, .int .i64 a, .int .i64 b] w fun e w' => e = .returned (.int .i64 (sh 120 true a n)) ∧ w' = w := by
  have ha' := hide ha
  subst h0
  have hm : bits .and .i64 64 63 = 0 := by decide +kernel
  clear ha
  go_enter Try.func28, Try.ntmps28
  go_wp2_with fail
  go_ret
  exact ⟨ret_int (f120z true a ha'.out), rfl⟩

theorem r_sh4_yes1 (a b : Int) (n : Nat) (w : World) (ha : Wd true a) (hn : bits .and .i64 b 63 = (n : Int)) (hl : n < 64) (h0 : n ≠ 0) :
    Calls Try.prog 28 #[.int .i64 4, .bool true, .int .i64 a, .int .i64 b] w fun e w' => e = .returned (.int .i64 (sh 120 true a n)) ∧ w' = w := by
  have ha' := hide ha
  have hm : bits .and .i64 (64 - (n : Int)) 63 = ((64 - n : Nat) : Int) := by rw [and63]; omega
  have hz : ((n : Int) == 0) = false := by simp; omega
  have h0' := hide h0
  have hl' := hide hl
  clear h0
  clear ha
  go_enter Try.func28, Try.ntmps28
  go_wp2_with fail
  go_ret
  exact ⟨ret_int (f120 true a n h0'.out hl'.out), rfl⟩

theorem r_shifted (k : Int) (wide : Bool) (a b : Int) (w : World) (hk : 0 ≤ k ∧ k ≤ 4) (ha : Wd wide a) :
    Calls Try.prog 28 #[.int .i64 k, .bool wide, .int .i64 a, .int .i64 b] w fun e w' => e = .returned (.int .i64 (sh (116 + k) wide a (far wide b))) ∧ w' = w := by
  have h : k = 0 ∨ k = 1 ∨ k = 2 ∨ k = 3 ∨ k = 4 := by omega
  have hl := far_lt wide b
  by_cases hz : far wide b = 0
  · cases wide
    · rcases h with rfl | rfl | rfl | rfl | rfl
      · exact r_sh0_no0 a b _ w ha (rf32 b) hl hz
      · exact r_sh1_no0 a b _ w ha (rf32 b) hl hz
      · exact r_sh2_no0 a b _ w ha (rf32 b) hl hz
      · exact r_sh3_no0 a b _ w ha (rf32 b) hl hz
      · exact r_sh4_no0 a b _ w ha (rf32 b) hl hz
    · rcases h with rfl | rfl | rfl | rfl | rfl
      · exact r_sh0_yes0 a b _ w ha (rf64 b) hl hz
      · exact r_sh1_yes0 a b _ w ha (rf64 b) hl hz
      · exact r_sh2_yes0 a b _ w ha (rf64 b) hl hz
      · exact r_sh3_yes0 a b _ w ha (rf64 b) hl hz
      · exact r_sh4_yes0 a b _ w ha (rf64 b) hl hz
  · cases wide
    · rcases h with rfl | rfl | rfl | rfl | rfl
      · exact r_sh0_no1 a b _ w ha (rf32 b) hl hz
      · exact r_sh1_no1 a b _ w ha (rf32 b) hl hz
      · exact r_sh2_no1 a b _ w ha (rf32 b) hl hz
      · exact r_sh3_no1 a b _ w ha (rf32 b) hl hz
      · exact r_sh4_no1 a b _ w ha (rf32 b) hl hz
    · rcases h with rfl | rfl | rfl | rfl | rfl
      · exact r_sh0_yes1 a b _ w ha (rf64 b) hl hz
      · exact r_sh1_yes1 a b _ w ha (rf64 b) hl hz
      · exact r_sh2_yes1 a b _ w ha (rf64 b) hl hz
      · exact r_sh3_yes1 a b _ w ha (rf64 b) hl hz
      · exact r_sh4_yes1 a b _ w ha (rf64 b) hl hz
end Go.Proofs.Ytfcdpjihhopfhaa
