/-
  The statement WordTurns, walked: what is turned to the left is turned back to the right; moved there and back it has lost what went out; bit by bit what is in one, but not in the other one, is found by Xor: for any inputs it returns true; nothing is changed.
-/
import Derived.Test.YtfcdpjihhopfhaaMathC
namespace Go.Proofs.Ytfcdpjihhopfhaa
open Go.RowKit

theorem and_add_or (A B : Nat) : (A &&& B) + (A ||| B) = A + B := by
  induction A using Nat.strongRecOn generalizing B with
  | ind A ih =>
    by_cases h : A = 0
    · subst h; rw [Nat.zero_and, Nat.zero_or]
    · have h1 := ih (A / 2) (by omega) (B / 2)
      rw [← Nat.and_div_two, ← Nat.or_div_two] at h1
      have h2 := Nat.and_mod_two_eq_one (a := A) (b := B)
      have h3 := Nat.or_mod_two_eq_one (a := A) (b := B)
      omega
theorem xor_and_or (A B : Nat) : (A &&& B) ^^^ (A ||| B) = A ^^^ B := by
  apply Nat.eq_of_testBit_eq
  intro i
  rw [Nat.testBit_xor, Nat.testBit_xor, Nat.testBit_and, Nat.testBit_or]
  cases A.testBit i <;> cases B.testBit i <;> rfl

theorem shl_mod (N A n : Nat) (h : n ≤ N) : A * 2 ^ n % 2 ^ N = A % 2 ^ (N - n) * 2 ^ n := by
  rw [pow_split h, Nat.mul_mod_mul_right]

theorem turn_or (wide : Bool) (A n : Nat) (h : n ≤ wd wide) (hA : A < 2 ^ wd wide) :
    (A * 2 ^ n % 18446744073709551616 ||| A / 2 ^ (wd wide - n)) % 2 ^ wd wide = turn (wd wide) A n := by
  have hd : A * 2 ^ n % 18446744073709551616 % 2 ^ wd wide = A * 2 ^ n % 2 ^ wd wide := by
    cases wide
    · rw [wd_no]; generalize A * 2 ^ n = X; omega
    · rw [wd_yes]; generalize A * 2 ^ n = X; omega
  have hq : A / 2 ^ (wd wide - n) < 2 ^ wd wide := Nat.lt_of_le_of_lt (Nat.div_le_self _ _) hA
  have h2 : A / 2 ^ (wd wide - n) < 2 ^ n := by
    apply Nat.div_lt_of_lt_mul; rw [← pow_split h]; exact hA
  rw [Nat.or_mod_two_pow, hd, shl_mod _ _ _ h, Nat.mod_eq_of_lt hq]
  exact nat_join n _ _ (Nat.mul_mod_left _ _) h2

theorem rt_turn (wide : Bool) (x : Int) (n : Nat) (h : n ≤ wd wide) (hx : Wd wide x) : tr wide (rt wide x n) = M wide ((turn (wd wide) (R wide x) n : Nat) : Int) := by
  have hA := R_lt wide x
  rw [rt_at, un_R wide x hx]
  generalize R wide x = A at hA ⊢
  have e1 : un ((A : Int) * 2 ^ n) = ((A * 2 ^ n % 18446744073709551616 : Nat) : Int) := by
    simp only [un]; rw [Int.natCast_emod, Int.natCast_mul, Int.natCast_pow]; rfl
  have e2 : (A : Int) / 2 ^ (wd wide - n) = ((A / 2 ^ (wd wide - n) : Nat) : Int) := by
    rw [Int.natCast_ediv, Int.natCast_pow]; rfl
  have hw : (2 : Nat) ^ wd wide ≤ 18446744073709551616 := by cases wide <;> decide
  have l1 : A * 2 ^ n % 18446744073709551616 < 18446744073709551616 := Nat.mod_lt _ (by decide)
  have l2 : A / 2 ^ (wd wide - n) < 18446744073709551616 := Nat.lt_of_le_of_lt (Nat.div_le_self _ _) (by omega)
  rw [e1, e2, u64_or_nat _ _ l1 l2]
  show M wide _ = _
  rw [← M_mod, turn_or wide A n h hA]

theorem ee_rotl (wide : Bool) (a b : Int) (ha : I64 a) : (ee 119 wide a b).1 = M wide ((turn (wd wide) (R wide a) (far wide b) : Nat) : Int) := by
  show tr wide (sh 119 wide (tr wide a) (far wide (tr wide b))) = _
  rw [far_tr, sh_119, rt_turn wide _ _ (Nat.le_of_lt (far_lt wide b)) (tr_wd wide a ha), R_tr]
theorem ee_rotr (wide : Bool) (a b : Int) (ha : I64 a) : (ee 120 wide a b).1 = M wide ((turn (wd wide) (R wide a) ((wd wide - far wide b) % wd wide) : Nat) : Int) := by
  show tr wide (sh 120 wide (tr wide a) (far wide (tr wide b))) = _
  have h : (wd wide - far wide b) % wd wide ≤ wd wide := Nat.le_of_lt (Nat.mod_lt _ (Nat.lt_of_le_of_lt (Nat.zero_le _) (far_lt wide b)))
  rw [far_tr, sh_120, rt_turn wide _ _ h (tr_wd wide a ha), R_tr]

theorem M_R_tr (wide : Bool) (a : Int) (ha : I64 a) : M wide (R wide a) = tr wide a := by rw [M_R, tr_M wide a ha]

theorem t_back (wide : Bool) (a b : Int) (ha : I64 a) :
    (ee 120 wide (M wide ((turn (wd wide) (R wide a) (far wide b) : Nat) : Int)) b).1 = tr wide a := by
  rw [ee_rotr wide _ b (M_i64 _ _), R_M, Nat.mod_eq_of_lt (turn_lt _ _ _ (Nat.le_of_lt (far_lt wide b)) (R_lt wide a)),
    turn_back _ _ _ (far_lt wide b) (R_lt wide a), M_R_tr wide a ha]
theorem t_again (wide : Bool) (a b : Int) :
    (ee 116 wide (M wide ((R wide (M wide ((R wide a * 2 ^ far wide b : Nat) : Int)) / 2 ^ far wide b : Nat) : Int)) b).1 = M wide ((R wide a * 2 ^ far wide b : Nat) : Int) := by
  have hf := Nat.le_of_lt (far_lt wide b)
  have hl : R wide a % 2 ^ (wd wide - far wide b) < 2 ^ wd wide :=
    Nat.lt_of_lt_of_le (Nat.mod_lt _ (Nat.two_pow_pos _)) (Nat.pow_le_pow_right (by decide) (Nat.sub_le _ _))
  rw [ee_shl, R_M, R_M, shl_mod _ _ _ hf, Nat.mul_div_cancel _ (Nat.two_pow_pos _), Nat.mod_eq_of_lt hl, ← shl_mod _ _ _ hf, M_mod]
theorem and_lt (wide : Bool) (a b : Int) : R wide a &&& R wide b < 2 ^ wd wide := Nat.and_lt_two_pow _ (R_lt wide b)
theorem or_lt (wide : Bool) (a b : Int) : R wide a ||| R wide b < 2 ^ wd wide := Nat.or_lt_two_pow (R_lt wide a) (R_lt wide b)
theorem xor_lt (wide : Bool) (a b : Int) : R wide a ^^^ R wide b < 2 ^ wd wide := Nat.xor_lt_two_pow (R_lt wide a) (R_lt wide b)
theorem t_xor (wide : Bool) (a b : Int) :
    (ee 115 wide (M wide ((R wide a &&& R wide b : Nat) : Int)) (M wide ((R wide a ||| R wide b : Nat) : Int))).1 = M wide ((R wide a ^^^ R wide b : Nat) : Int) := by
  rw [ee_xor wide _ _ (M_i64 _ _) (M_i64 _ _), R_M, R_M, Nat.mod_eq_of_lt (and_lt wide a b), Nat.mod_eq_of_lt (or_lt wide a b), xor_and_or]
theorem t_twice (wide : Bool) (a b : Int) (ha : I64 a) (hb : I64 b) :
    (ee 115 wide (M wide ((R wide a ^^^ R wide b : Nat) : Int)) b).1 = tr wide a := by
  rw [ee_xor wide _ _ (M_i64 _ _) hb, R_M, Nat.mod_eq_of_lt (xor_lt wide a b), Nat.xor_assoc, Nat.xor_self, Nat.xor_zero, M_R_tr wide a ha]
theorem t_sum (wide : Bool) (a b : Int) :
    (ee 106 wide (M wide ((R wide a &&& R wide b : Nat) : Int)) (M wide ((R wide a ||| R wide b : Nat) : Int))).1 = M wide (a + b) := by
  rw [ee_add wide _ _ (M_i64 _ _) (M_i64 _ _), M_add, ← Int.natCast_add, and_add_or, Int.natCast_add, ← M_add, M_R, M_R, M_add]

theorem v_any (k : Int) (wide : Bool) (a b r : Int) (w : World) (hk : 106 ≤ k ∧ k ≤ 120) (ha : I64 a) (hb : I64 b) (hr : (ee k wide a b).1 = r) :
    Calls Try.prog 16 #[.int .i64 k, .bool wide, .int .i64 a, .int .i64 b] w fun e w' => e = .returned (.int .i64 r) ∧ w' = w := by
  have h := value_any k wide a b w (Or.inr hk) ha hb
  rw [hr] at h; exact h

set_option maxRecDepth 100000 in
set_option maxHeartbeats 2000000 in
theorem turns_any (wide : Bool) (a b : Int) (w : World) (ha : I64 a) (hb : I64 b) :
    Calls Try.prog 7 #[.bool wide, .int .i64 a, .int .i64 b] w fun e w' => e = .returned (.bool true) ∧ w' = w := by
  have ha' := hide ha
  have hb' := hide hb
  clear ha hb
  go_enter Try.func7, Try.ntmps7
  go_wp2_with fail
  refine (examples_any _).mono ?_
  rintro e w1 ⟨rfl, rfl⟩
  go_wp2_with fail
  refine (trim_any _ _ _).mono ?_
  rintro e w1 ⟨rfl, rfl⟩
  go_wp2_with fail
  refine (v_any 119 wide a b _ _ (by omega) ha'.out hb'.out (ee_rotl wide a b ha'.out)).mono ?_
  rintro e w1 ⟨rfl, rfl⟩
  go_wp2_with fail
  refine (v_any 116 wide a b _ _ (by omega) ha'.out hb'.out (ee_shl wide a b)).mono ?_
  rintro e w1 ⟨rfl, rfl⟩
  go_wp2_with fail
  refine (v_any 118 wide _ b _ _ (by omega) (M_i64 _ _) hb'.out (ee_shr wide _ b (M_i64 _ _))).mono ?_
  rintro e w1 ⟨rfl, rfl⟩
  go_wp2_with fail
  refine (v_any 116 wide _ b _ _ (by omega) (M_i64 _ _) hb'.out (t_again wide a b)).mono ?_
  rintro e w1 ⟨rfl, rfl⟩
  go_wp2_with fail
  refine (v_any 113 wide a b _ _ (by omega) ha'.out hb'.out (ee_and wide a b ha'.out hb'.out)).mono ?_
  rintro e w1 ⟨rfl, rfl⟩
  go_wp2_with fail
  refine (v_any 114 wide a b _ _ (by omega) ha'.out hb'.out (ee_or wide a b ha'.out hb'.out)).mono ?_
  rintro e w1 ⟨rfl, rfl⟩
  go_wp2_with fail
  refine (v_any 120 wide _ b _ _ (by omega) (M_i64 _ _) hb'.out (t_back wide a b ha'.out)).mono ?_
  rintro e w1 ⟨rfl, rfl⟩
  go_wp2_with fail
  refine (v_any 115 wide _ _ _ _ (by omega) (M_i64 _ _) (M_i64 _ _) (t_xor wide a b)).mono ?_
  rintro e w1 ⟨rfl, rfl⟩
  go_wp2_with fail
  refine (v_any 115 wide a b _ _ (by omega) ha'.out hb'.out (ee_xor wide a b ha'.out hb'.out)).mono ?_
  rintro e w1 ⟨rfl, rfl⟩
  go_wp2_with fail
  refine (v_any 115 wide a b _ _ (by omega) ha'.out hb'.out (ee_xor wide a b ha'.out hb'.out)).mono ?_
  rintro e w1 ⟨rfl, rfl⟩
  go_wp2_with fail
  refine (v_any 115 wide _ b _ _ (by omega) (M_i64 _ _) hb'.out (t_twice wide a b ha'.out hb'.out)).mono ?_
  rintro e w1 ⟨rfl, rfl⟩
  go_wp2_with fail
  refine (v_any 106 wide _ _ _ _ (by omega) (M_i64 _ _) (M_i64 _ _) (t_sum wide a b)).mono ?_
  rintro e w1 ⟨rfl, rfl⟩
  go_wp2_with fail
  refine (v_any 106 wide a b _ _ (by omega) ha'.out hb'.out (ee_add wide a b ha'.out hb'.out)).mono ?_
  rintro e w1 ⟨rfl, rfl⟩
  go_wp2_with fail
  go_ret
  exact ⟨rfl, rfl⟩
end Go.Proofs.Ytfcdpjihhopfhaa
