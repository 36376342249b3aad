/-
  The statement WordSums, walked: adding goes back by subtracting, both hang on what is left of the values alone, what is multiplied is added so often: for any inputs it returns true; nothing is changed.
-/
import Derived.Test.YtfcdpjihhopfhaaMathB
namespace Go.Proofs.Ytfcdpjihhopfhaa
open Go.RowKit

theorem v_add (wide : Bool) (a b r : Int) (w : World) (ha : I64 a) (hb : I64 b) (hr : M wide (a + b) = r) :
    Calls Try.prog 16 #[.int .i64 106, .bool wide, .int .i64 a, .int .i64 b] w fun e w' => e = .returned (.int .i64 r) ∧ w' = w := by
  rw [← hr, ← ee_add wide a b ha hb]; exact value_any 106 wide a b w (by omega) ha hb
theorem v_sub (wide : Bool) (a b r : Int) (w : World) (ha : I64 a) (hb : I64 b) (hr : M wide (a - b) = r) :
    Calls Try.prog 16 #[.int .i64 107, .bool wide, .int .i64 a, .int .i64 b] w fun e w' => e = .returned (.int .i64 r) ∧ w' = w := by
  rw [← hr, ← ee_sub wide a b ha hb]; exact value_any 107 wide a b w (by omega) ha hb
theorem v_mul (wide : Bool) (a b r : Int) (w : World) (ha : I64 a) (hb : I64 b) (hr : M wide (a * b) = r) :
    Calls Try.prog 16 #[.int .i64 108, .bool wide, .int .i64 a, .int .i64 b] w fun e w' => e = .returned (.int .i64 r) ∧ w' = w := by
  rw [← hr, ← ee_mul wide a b ha hb]; exact value_any 108 wide a b w (by omega) ha hb

theorem tr_i64 (wide : Bool) (a : Int) (ha : I64 a) : I64 (tr wide a) := wd_i64 (tr_wd wide a ha)
theorem sums_back (wide : Bool) (a b : Int) (ha : I64 a) : M wide (M wide (a + b) - b) = tr wide a := by
  rw [tr_M wide a ha]
  apply M_eq
  have h := M_dvd wide (a + b)
  have e : M wide (a + b) - b - a = -(a + b - M wide (a + b)) := by omega
  rw [e]; exact (Int.dvd_neg).mpr h
theorem sums_left (wide : Bool) (a b : Int) (ha : I64 a) (hb : I64 b) : M wide (tr wide b + tr wide a) = M wide (a + b) := by
  rw [tr_M wide a ha, tr_M wide b hb, M_add, Int.add_comm]
theorem sums_next (wide : Bool) (a : Int) (k : Nat) : M wide (M wide (k * a) + a) = M wide (((k + 1 : Nat) : Int) * a) := by
  apply M_eq
  have h := M_dvd wide (k * a)
  have e : M wide (k * a) + a - ((k + 1 : Nat) : Int) * a = -(k * a - M wide (k * a)) := by
    rw [Int.natCast_add, Int.add_mul]; simp only [Int.natCast_one, Int.one_mul]; omega
  rw [e]; exact (Int.dvd_neg).mpr h
theorem sums_none (wide : Bool) (a : Int) : M wide (((0 : Nat) : Int) * a) = 0 := by
  rw [Int.natCast_zero, Int.zero_mul]; cases wide <;> decide +kernel

/-- how often: the factor that the statement takes -/
def often (n : Int) : Nat := ((if n < 0 then -(n + 1) else n) % 51).toNat
theorem often_lt (n : Int) : often n < 51 := by simp only [often]; omega

set_option maxRecDepth 100000 in
set_option maxHeartbeats 1000000 in
theorem sums_from (wide : Bool) (a b : Int) (n : Int) (w : World) (ha : I64 a) (hb : I64 b) (hn : 0 ≤ n ∧ n ≤ 9223372036854775807)  :
    Calls Try.prog 4 #[.bool wide, .int .i64 a, .int .i64 b, .int .i64 n] w fun e w' => e = .returned (.bool true) ∧ w' = w := by
  have ha' := hide ha
  have hb' := hide hb
  have hm : n.tmod 51 = (often n : Int) := by
    rw [Int.tmod_eq_emod_of_nonneg hn.1]; simp only [often]; omega
  have hk := often_lt n
  have hd : decide (n < 0) = false := by simp; omega
  generalize often n = N at hm hk
  clear ha hb hn
  go_enter Try.func4, Try.ntmps4
  go_wp2_with fail
  refine (examples_any _).mono ?_
  rintro e w1 ⟨rfl, rfl⟩
  go_wp2_with fail
  refine (trim_any _ _ _).mono ?_
  rintro e w1 ⟨rfl, rfl⟩
  go_wp2_with fail
  refine (trim_any _ _ _).mono ?_
  rintro e w1 ⟨rfl, rfl⟩
  go_wp2_with fail
  refine (v_add _ _ _ _ _ ha'.out hb'.out rfl).mono ?_
  rintro e w1 ⟨rfl, rfl⟩
  go_wp2_with fail
  go_loop [13, 14] (fun v i => ∃ k : Nat, k ≤ N ∧ i = .int .i64 k ∧ v = .int .i64 (M wide (k * a))) (fun v i => N - (intOf i).toNat)
  case atStart => exact ⟨0, by omega, rfl, by rw [sums_none]⟩
  case round =>
    obtain ⟨k, hkN, rfl, rfl⟩ := hrel
    by_cases hlt : k < N
    · go_wp2_with fail
      refine (v_add _ _ _ _ _ (M_i64 _ _) ha'.out (sums_next wide a k)).mono ?_
      rintro e w1 ⟨rfl, rfl⟩
      go_wp2_with fail
      go_round
      case rel => exact ⟨k + 1, by omega, by go_num, rfl⟩
      case measure => simp [intOf]; omega
    · obtain rfl : k = N := by omega
      go_wp2_with fail
      refine (v_sub _ _ _ _ _ (M_i64 _ _) hb'.out (sums_back wide a b ha'.out)).mono ?_
      rintro e w1 ⟨rfl, rfl⟩
      go_wp2_with fail
      refine (v_add _ _ _ _ _ (tr_i64 _ _ hb'.out) (tr_i64 _ _ ha'.out) (sums_left wide a b ha'.out hb'.out)).mono ?_
      rintro e w1 ⟨rfl, rfl⟩
      go_wp2_with fail
      refine (v_mul _ _ _ _ _ ha'.out ⟨by omega, by omega⟩ (congrArg (M wide) (Int.mul_comm a k))).mono ?_
      rintro e w1 ⟨rfl, rfl⟩
      go_wp2_with fail
      refine (v_mul _ _ _ _ _ ha'.out hb'.out rfl).mono ?_
      rintro e w1 ⟨rfl, rfl⟩
      go_wp2_with fail
      refine (v_mul _ _ _ _ _ hb'.out ha'.out (congrArg (M wide) (Int.mul_comm b a))).mono ?_
      rintro e w1 ⟨rfl, rfl⟩
      go_wp2_with fail
      go_ret
      exact ⟨rfl, rfl⟩
set_option maxRecDepth 100000 in
set_option maxHeartbeats 1000000 in
theorem sums_neg (wide : Bool) (a b : Int) (n : Int) (w : World) (ha : I64 a) (hb : I64 b) (hn : -9223372036854775808 ≤ n ∧ n < 0) :
    Calls Try.prog 4 #[.bool wide, .int .i64 a, .int .i64 b, .int .i64 n] w fun e w' => e = .returned (.bool true) ∧ w' = w := by
  have ha' := hide ha
  have hb' := hide hb
  have hw1 : wrap64 (n + 1) = n + 1 := by simp only [wrap64]; omega
  have hw2 : wrap64 (-(n + 1)) = -(n + 1) := by simp only [wrap64]; omega
  have hm : (n + 1).tmod 51 = -(often n : Int) := by
    have h := Int.neg_tmod (-(n + 1)) 51
    rw [Int.neg_neg, Int.tmod_eq_emod_of_nonneg (a := -(n + 1)) (by omega)] at h
    rw [h]; simp only [often]; omega
  have hk := often_lt n
  have hd : decide (n < 0) = true := by simp; omega
  generalize often n = N at hm hk
  clear ha hb hn
  go_enter Try.func4, Try.ntmps4
  go_wp2_with fail
  refine (examples_any _).mono ?_
  rintro e w1 ⟨rfl, rfl⟩
  go_wp2_with fail
  refine (trim_any _ _ _).mono ?_
  rintro e w1 ⟨rfl, rfl⟩
  go_wp2_with fail
  refine (trim_any _ _ _).mono ?_
  rintro e w1 ⟨rfl, rfl⟩
  go_wp2_with fail
  refine (v_add _ _ _ _ _ ha'.out hb'.out rfl).mono ?_
  rintro e w1 ⟨rfl, rfl⟩
  go_wp2_with fail
  clear hw1 hw2 hm hd
  go_loop [13, 14] (fun v i => ∃ k : Nat, k ≤ N ∧ i = .int .i64 k ∧ v = .int .i64 (M wide (k * a))) (fun v i => N - (intOf i).toNat)
  case atStart => exact ⟨0, by omega, rfl, by rw [sums_none]⟩
  case round =>
    obtain ⟨k, hkN, rfl, rfl⟩ := hrel
    by_cases hlt : k < N
    · go_wp2_with fail
      refine (v_add _ _ _ _ _ (M_i64 _ _) ha'.out (sums_next wide a k)).mono ?_
      rintro e w1 ⟨rfl, rfl⟩
      go_wp2_with fail
      go_round
      case rel => exact ⟨k + 1, by omega, by go_num, rfl⟩
      case measure => simp [intOf]; omega
    · obtain rfl : k = N := by omega
      go_wp2_with fail
      refine (v_sub _ _ _ _ _ (M_i64 _ _) hb'.out (sums_back wide a b ha'.out)).mono ?_
      rintro e w1 ⟨rfl, rfl⟩
      go_wp2_with fail
      refine (v_add _ _ _ _ _ (tr_i64 _ _ hb'.out) (tr_i64 _ _ ha'.out) (sums_left wide a b ha'.out hb'.out)).mono ?_
      rintro e w1 ⟨rfl, rfl⟩
      go_wp2_with fail
      refine (v_mul _ _ _ _ _ ha'.out ⟨by omega, by omega⟩ (congrArg (M wide) (Int.mul_comm a k))).mono ?_
      rintro e w1 ⟨rfl, rfl⟩
      go_wp2_with fail
      refine (v_mul _ _ _ _ _ ha'.out hb'.out rfl).mono ?_
      rintro e w1 ⟨rfl, rfl⟩
      go_wp2_with fail
      refine (v_mul _ _ _ _ _ hb'.out ha'.out (congrArg (M wide) (Int.mul_comm b a))).mono ?_
      rintro e w1 ⟨rfl, rfl⟩
      go_wp2_with fail
      go_ret
      exact ⟨rfl, rfl⟩
theorem sums_any (wide : Bool) (a b n : Int) (w : World) (ha : I64 a) (hb : I64 b) (hn : I64 n) :
    Calls Try.prog 4 #[.bool wide, .int .i64 a, .int .i64 b, .int .i64 n] w fun e w' => e = .returned (.bool true) ∧ w' = w := by
  by_cases h : n < 0
  · exact sums_neg wide a b n w ha hb ⟨hn.1, h⟩
  · exact sums_from wide a b n w ha hb ⟨by omega, hn.2⟩
end Go.Proofs.Ytfcdpjihhopfhaa
