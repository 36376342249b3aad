/-
  The program's small functions (Trim, within, twin, signed, width, least, lift, truth, combine, convert) answer what the plain functions of the text Math answer, and change nothing.
-/
import Derived.Test.YtfcdpjihhopfhaaRows
import Derived.Test.YtfcdpjihhopfhaaMath
import Derived.WalkSpells
import Derived.Handy
import Derived.PlainAid
namespace Go.Proofs.Ytfcdpjihhopfhaa
open Go.RowKit

theorem hide {p : Prop} (h : p) : Hid p := h
theorem ret_int {k : IntKind} {a b : Int} (h : a = b) : Ending.returned (.int k a) = .returned (.int k b) := by rw [h]
theorem ret_bool {a b : Bool} (h : a = b) : Ending.returned (.bool a) = .returned (.bool b) := by rw [h]

theorem trim_any (wide : Bool) (v : Int) (w : World) :
    Calls Try.prog 14 #[.bool wide, .int .i64 v] w fun e w' => e = .returned (.int .i64 (tr wide v)) ∧ w' = w := by
  cases wide
  · go_enter Try.func14, Try.ntmps14
    go_wp2
    go_ret
    exact ⟨ret_int (and32 v), rfl⟩
  · go_enter Try.func14, Try.ntmps14
    go_wp2
    go_ret
    exact ⟨rfl, rfl⟩

theorem within_yes (a b c : Int) (w : World) (h : b ≤ a ∧ a ≤ c) :
    Calls Try.prog 19 #[.int .i64 a, .int .i64 b, .int .i64 c] w fun e w' => e = .returned (.bool true) ∧ w' = w := by
  obtain ⟨h1, h2⟩ := h
  go_enter Try.func19, Try.ntmps19
  go_wp2
  go_ret
  exact ⟨rfl, rfl⟩
theorem within_no (a b c : Int) (w : World) (h : ¬ (b ≤ a ∧ a ≤ c)) :
    Calls Try.prog 19 #[.int .i64 a, .int .i64 b, .int .i64 c] w fun e w' => e = .returned (.bool false) ∧ w' = w := by
  by_cases h1 : b ≤ a
  · have h2 : decide (a ≤ c) = false := by simp; omega
    clear h
    go_enter Try.func19, Try.ntmps19
    go_wp2
    go_ret
    exact ⟨rfl, rfl⟩
  · clear h
    go_enter Try.func19, Try.ntmps19
    go_wp2
    go_ret
    exact ⟨rfl, rfl⟩

theorem truth_any (b : Bool) (w : World) :
    Calls Try.prog 29 #[.bool b] w fun e w' => e = .returned (.int .i64 (b1 b)) ∧ w' = w := by
  cases b
  · go_enter Try.func29, Try.ntmps29
    go_wp2
    go_ret
    exact ⟨rfl, rfl⟩
  · go_enter Try.func29, Try.ntmps29
    go_wp2
    go_ret
    exact ⟨rfl, rfl⟩

theorem wrap_sg (v : Int) (h : Wd false v) : wrap64 (wrap32 v) = sg false v := by
  simp only [Wd, Bool.false_eq_true, if_false] at h
  simp only [sg, Bool.false_eq_true, if_false, wrap64, wrap32]
  split <;> omega

theorem signed_any (wide : Bool) (v : Int) (w : World) (h : Wd wide v) :
    Calls Try.prog 31 #[.bool wide, .int .i64 v] w fun e w' => e = .returned (.int .i64 (sg wide v)) ∧ w' = w := by
  cases wide
  · have h' := hide h
    clear h
    go_enter Try.func31, Try.ntmps31
    go_wp2
    go_ret
    exact ⟨ret_int (wrap_sg v h'.out), rfl⟩
  · clear h
    go_enter Try.func31, Try.ntmps31
    go_wp2
    go_ret
    exact ⟨rfl, rfl⟩

theorem width_any (wide : Bool) (w : World) :
    Calls Try.prog 33 #[.bool wide] w fun e w' => e = .returned (.int .u64 (wd wide)) ∧ w' = w := by
  cases wide
  · go_enter Try.func33, Try.ntmps33
    go_wp2
    go_ret
    exact ⟨rfl, rfl⟩
  · go_enter Try.func33, Try.ntmps33
    go_wp2
    go_ret
    exact ⟨rfl, rfl⟩

theorem width_no (w : World) :
    Calls Try.prog 33 #[.bool false] w fun e w' => e = .returned (.int .u64 32) ∧ w' = w := width_any false w
theorem width_yes (w : World) :
    Calls Try.prog 33 #[.bool true] w fun e w' => e = .returned (.int .u64 64) ∧ w' = w := width_any true w

theorem least_any (wide : Bool) (w : World) :
    Calls Try.prog 32 #[.bool wide] w fun e w' => e = .returned (.int .i64 (ls wide)) ∧ w' = w := by
  cases wide
  · go_enter Try.func32, Try.ntmps32
    go_wp2_with fail
    refine (width_no _).mono ?_
    rintro e w1 ⟨rfl, rfl⟩
    go_wp2_with fail
    go_ret
    exact ⟨rfl, rfl⟩
  · go_enter Try.func32, Try.ntmps32
    go_wp2_with fail
    refine (width_yes _).mono ?_
    rintro e w1 ⟨rfl, rfl⟩
    go_wp2_with fail
    go_ret
    exact ⟨rfl, rfl⟩

theorem xor63 (s : Int) (h : I64 s) : bits .xor .u64 (s % 18446744073709551616) 9223372036854775808 = s + 9223372036854775808 := by
  obtain ⟨h1, h2⟩ := h
  rw [u64_xor _ _ (by omega) (by omega) (by omega) (by omega)]
  have e : (9223372036854775808 : Int).toNat = 2 ^ 63 := by decide
  rw [e]
  by_cases hs : 0 ≤ s
  · rw [show s % 18446744073709551616 = s from by omega]
    have hx : s.toNat ^^^ 2 ^ 63 = s.toNat + 2 ^ 63 := by
      have := Nat.two_pow_add_eq_or_of_lt (i := 63) (b := s.toNat) (by omega) 1
      rw [Nat.mul_one] at this
      rw [Nat.add_comm, this]
      apply Nat.eq_of_testBit_eq
      intro i
      rw [Nat.testBit_xor, Nat.testBit_or, Nat.testBit_two_pow]
      by_cases hi : 63 = i
      · subst hi
        have : s.toNat.testBit 63 = false := Nat.testBit_lt_two_pow (by omega)
        rw [this]; simp
      · simp [hi]
    rw [hx]; omega
  · have hm : s % 18446744073709551616 = s + 18446744073709551616 := by omega
    rw [hm]
    have hx : (s + 18446744073709551616).toNat = 2 ^ 63 * 1 + (s + 9223372036854775808).toNat := by omega
    have h3 := Nat.two_pow_add_eq_or_of_lt (i := 63) (b := (s + 9223372036854775808).toNat) (by omega) 1
    rw [hx, h3, Nat.mul_one]
    have hy : (2 ^ 63 ||| (s + 9223372036854775808).toNat) ^^^ 2 ^ 63 = (s + 9223372036854775808).toNat := by
      apply Nat.eq_of_testBit_eq
      intro i
      rw [Nat.testBit_xor, Nat.testBit_or, Nat.testBit_two_pow]
      by_cases hi : 63 = i
      · subst hi
        have : (s + 9223372036854775808).toNat.testBit 63 = false := Nat.testBit_lt_two_pow (by omega)
        rw [this]; simp
      · simp [hi]
    rw [hy]; omega

theorem lift_any (wide : Bool) (v : Int) (w : World) (h : Wd wide v) :
    Calls Try.prog 30 #[.bool wide, .int .i64 v] w fun e w' => e = .returned (.int .u64 (sg wide v + 9223372036854775808)) ∧ w' = w := by
  have h' := hide (xor63 _ (sg_i64 h))
  have h2 := hide h
  clear h
  go_enter Try.func30, Try.ntmps30
  go_wp2_with fail
  refine (signed_any wide v w h2.out).mono ?_
  rintro e w1 ⟨rfl, rfl⟩
  go_wp2_with fail
  go_ret
  exact ⟨ret_int h'.out, rfl⟩
end Go.Proofs.Ytfcdpjihhopfhaa
