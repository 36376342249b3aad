/-
  The program's Shift answers what the plain functions sR, sK tell of the trimmed value and of how far it is moved, and changes nothing.
-/
import Derived.Test.YtielpebokbolbaaFLeaf
namespace Go.Proofs.Ytielpebokbolbaa.Fg
open Go.RowKit

/-- how far: the number modulo the width's bits -/
def far (wide : Bool) (b : Int) : Nat := (un b % wd wide).toNat
theorem far_lt (wide : Bool) (b : Int) : far wide b < wd wide := by
  cases wide
  · simp only [far, wd, Bool.false_eq_true, if_false]; omega
  · simp only [far, wd, if_true]; omega
theorem far32 (b : Int) : (IntKind.u64.wrap b).tmod 32 = (far false b : Int) := by
  rw [un_wrap, Int.tmod_eq_emod_of_nonneg (un_ge b)]
  simp only [far, wd, Bool.false_eq_true, if_false]; omega
theorem far64 (b : Int) : (IntKind.u64.wrap b).tmod 64 = (far true b : Int) := by
  rw [un_wrap, Int.tmod_eq_emod_of_nonneg (un_ge b)]
  simp only [far, wd, if_true]; omega

/-- turned to the left by n, of N bits -/
def turn (N A n : Nat) : Nat := A % 2 ^ (N - n) * 2 ^ n + A / 2 ^ (N - n)

theorem pow_split {N n : Nat} (h : n ≤ N) : 2 ^ N = 2 ^ (N - n) * 2 ^ n := by rw [← Nat.pow_add]; congr 1; omega
theorem turn_lt (N A n : Nat) (h : n ≤ N) (hA : A < 2 ^ N) : turn N A n < 2 ^ N := by
  have h1 : A % 2 ^ (N - n) < 2 ^ (N - n) := Nat.mod_lt _ (Nat.two_pow_pos _)
  have h2 : A / 2 ^ (N - n) < 2 ^ n := by
    apply Nat.div_lt_of_lt_mul; rw [← pow_split h]; exact hA
  have h3 : A % 2 ^ (N - n) * 2 ^ n + 2 ^ n ≤ 2 ^ (N - n) * 2 ^ n := by
    rw [← Nat.succ_mul]; exact Nat.mul_le_mul_right _ h1
  rw [pow_split h]
  simp only [turn]; omega
theorem turn_back (N A n : Nat) (h : n ≤ N) (hA : A < 2 ^ N) : turn N (turn N A n) (N - n) = A := by
  have e2 : N - (N - n) = n := by omega
  have h2 : A / 2 ^ (N - n) < 2 ^ n := by
    apply Nat.div_lt_of_lt_mul; rw [← pow_split (by omega)]; exact hA
  have hB1 : turn N A n % 2 ^ n = A / 2 ^ (N - n) := by
    simp only [turn]
    rw [Nat.add_comm, Nat.add_mul_mod_self_right, Nat.mod_eq_of_lt h2]
  have hB2 : turn N A n / 2 ^ n = A % 2 ^ (N - n) := by
    simp only [turn]
    rw [Nat.add_comm, Nat.add_mul_div_right _ _ (Nat.two_pow_pos n), Nat.div_eq_of_lt h2, Nat.zero_add]
  show turn N A n % 2 ^ (N - (N - n)) * 2 ^ (N - n) + turn N A n / 2 ^ (N - (N - n)) = A
  rw [e2, hB1, hB2, Nat.mul_comm]
  exact Nat.div_add_mod A (2 ^ (N - n))
theorem shl_mod (N A n : Nat) (h : n ≤ N) : A * 2 ^ n % 2 ^ N = A % 2 ^ (N - n) * 2 ^ n := by
  rw [pow_split h, Nat.mul_mod_mul_right]
theorem turn_or (wide : Bool) (A n : Nat) (h : n ≤ wd wide) (hA : A < 2 ^ wd wide) :
    (A * 2 ^ n % 18446744073709551616 ||| A / 2 ^ (wd wide - n)) % 2 ^ wd wide = turn (wd wide) A n := by
  have hd : A * 2 ^ n % 18446744073709551616 % 2 ^ wd wide = A * 2 ^ n % 2 ^ wd wide := by
    cases wide
    · rw [wd_no]; generalize A * 2 ^ n = X; omega
    · rw [wd_yes]; generalize A * 2 ^ n = X; omega
  have hq : A / 2 ^ (wd wide - n) < 2 ^ wd wide := Nat.lt_of_le_of_lt (Nat.div_le_self _ _) hA
  have h2 : A / 2 ^ (wd wide - n) < 2 ^ n := by
    apply Nat.div_lt_of_lt_mul; rw [← pow_split h]; exact hA
  rw [Nat.or_mod_two_pow, hd, shl_mod _ _ _ h, Nat.mod_eq_of_lt hq]
  exact nat_join n _ _ (Nat.mul_mod_left _ _) h2
theorem rot (wide : Bool) (x : Int) (n : Nat) (h : n ≤ wd wide) (hx : Wd wide x) :
    tr wide (wrap64 (bits .or .u64 (IntKind.u64.wrap (IntKind.u64.wrap x * 2 ^ n)) (IntKind.u64.wrap x / 2 ^ (wd wide - n)))) = M wide ((turn (wd wide) (R wide x) n : Nat) : Int) := by
  have hA := R_lt wide x
  rw [un_wrap, un_wrap, un_R wide x hx]
  generalize R wide x = A at hA ⊢
  have e1 : un ((A : Int) * 2 ^ n) = ((A * 2 ^ n % 18446744073709551616 : Nat) : Int) := by
    simp only [un]; rw [Int.natCast_emod, Int.natCast_mul, Int.natCast_pow]; rfl
  have e2 : (A : Int) / 2 ^ (wd wide - n) = ((A / 2 ^ (wd wide - n) : Nat) : Int) := by
    rw [Int.natCast_ediv, Int.natCast_pow]; rfl
  have hw : (2 : Nat) ^ wd wide ≤ 18446744073709551616 := by cases wide <;> decide
  have l1 : A * 2 ^ n % 18446744073709551616 < 18446744073709551616 := Nat.mod_lt _ (by decide)
  have l2 : A / 2 ^ (wd wide - n) < 18446744073709551616 := Nat.lt_of_le_of_lt (Nat.div_le_self _ _) (by omega)
  rw [e1, e2, u64_or_nat _ _ l1 l2]
  show M wide _ = _
  rw [← M_mod, turn_or wide A n h hA]
theorem ediv_i64 (x : Int) (n : Nat) (h : I64 x) : I64 (x / 2 ^ n) := by
  obtain ⟨h1, h2⟩ := h
  have hp : (0 : Int) < 2 ^ n := Int.pow_pos (by decide)
  constructor
  · apply Int.le_ediv_of_mul_le hp
    have : (1 : Int) ≤ 2 ^ n := hp
    have h3 : (-9223372036854775808 : Int) * 2 ^ n ≤ -9223372036854775808 * 1 := Int.mul_le_mul_of_nonpos_left (by decide) this
    omega
  · by_cases h0 : 0 ≤ x
    · exact Int.le_trans (Int.ediv_le_self _ h0) h2
    · exact Int.le_trans (Int.le_of_lt (Int.ediv_neg_of_neg_of_pos (by omega) hp)) (by decide)

def sK (k : Int) : Bool := k == 0 || k == 1 || k == 4 || k == 5 || k == 7
/-- a trimmed value, moved or turned by m -/
def sR (k : Int) (wide : Bool) (x : Int) (m : Nat) : Int :=
  if k = 0 then M wide ((turn (wd wide) (R wide x) m : Nat) : Int) else if k = 1 then M wide ((turn (wd wide) (R wide x) (wd wide - m) : Nat) : Int)
  else if k = 4 then M wide (x * 2 ^ m) else if k = 5 then M wide (un x / 2 ^ m) else if k = 7 then M wide (sn wide x / 2 ^ m) else 0
theorem sR_0 (wide : Bool) (x : Int) (m : Nat) : sR 0 wide x m = M wide ((turn (wd wide) (R wide x) m : Nat) : Int) := by simp [sR]
theorem sR_1 (wide : Bool) (x : Int) (m : Nat) : sR 1 wide x m = M wide ((turn (wd wide) (R wide x) (wd wide - m) : Nat) : Int) := by simp [sR]
theorem sR_4 (wide : Bool) (x : Int) (m : Nat) : sR 4 wide x m = M wide (x * 2 ^ m) := by simp [sR]
theorem sR_5 (wide : Bool) (x : Int) (m : Nat) : sR 5 wide x m = M wide (un x / 2 ^ m) := by simp [sR]
theorem sR_7 (wide : Bool) (x : Int) (m : Nat) : sR 7 wide x m = M wide (sn wide x / 2 ^ m) := by simp [sR]
theorem ret_ib {a b : Int} {c : Bool} (h : a = b) : Ending.returned (.tuple #[.int .i64 a, .bool c]) = .returned (.tuple #[.int .i64 b, .bool c]) := by rw [h]
set_option maxHeartbeats 1000000 in
theorem shift_0n (v b : Int) (w : World) (hv : I64 v) :
    Calls Try.prog 62 #[.int .i64 0, .bool false, .int .i64 v, .int .i64 b] w fun e w' => e = .returned (.tuple #[.int .i64 (sR 0 false (tr false v) (far false b)), .bool true]) ∧ w' = w := by
  have HA := hide (tr_wd false v hv)
  clear hv
  have hn := far32 b
  have hl : far false b < 32 := far_lt false b
  generalize far false b = n at hn hl ⊢
  go_enter Try.func62, Try.ntmps62
  go_wp2_with (first | (go_at_call 38; refine (trim_any _ _ _).mono ?_; rintro e w1 ⟨rfl, rfl⟩) | (go_at_call 75; refine (width_no _).mono ?_; rintro e w1 ⟨rfl, rfl⟩) | (go_at_call 71; refine (signed_any _ _ _).mono ?_; rintro e w1 ⟨rfl, rfl⟩))
  go_ret2
  exact ⟨ret_ib ((rot false _ n (Nat.le_of_lt hl) HA.out).trans (sR_0 _ _ _).symm), rfl⟩
set_option maxHeartbeats 1000000 in
theorem shift_1n (v b : Int) (w : World) (hv : I64 v) :
    Calls Try.prog 62 #[.int .i64 1, .bool false, .int .i64 v, .int .i64 b] w fun e w' => e = .returned (.tuple #[.int .i64 (sR 1 false (tr false v) (far false b)), .bool true]) ∧ w' = w := by
  have HA := hide (tr_wd false v hv)
  clear hv
  have hn := far32 b
  have hl : far false b < 32 := far_lt false b
  generalize far false b = n at hn hl ⊢
  go_enter Try.func62, Try.ntmps62
  go_wp2_with (first | (go_at_call 38; refine (trim_any _ _ _).mono ?_; rintro e w1 ⟨rfl, rfl⟩) | (go_at_call 75; refine (width_no _).mono ?_; rintro e w1 ⟨rfl, rfl⟩) | (go_at_call 71; refine (signed_any _ _ _).mono ?_; rintro e w1 ⟨rfl, rfl⟩))
  go_ret2
  exact ⟨ret_ib ((rot false _ (32 - n) (Nat.sub_le _ _) HA.out).trans (sR_1 _ _ _).symm), rfl⟩
set_option maxHeartbeats 1000000 in
theorem shift_4n (v b : Int) (w : World) (_hv : I64 v) :
    Calls Try.prog 62 #[.int .i64 4, .bool false, .int .i64 v, .int .i64 b] w fun e w' => e = .returned (.tuple #[.int .i64 (sR 4 false (tr false v) (far false b)), .bool true]) ∧ w' = w := by
  have hn := far32 b
  have hl : far false b < 32 := far_lt false b
  generalize far false b = n at hn hl ⊢
  go_enter Try.func62, Try.ntmps62
  go_wp2_with (first | (go_at_call 38; refine (trim_any _ _ _).mono ?_; rintro e w1 ⟨rfl, rfl⟩) | (go_at_call 75; refine (width_no _).mono ?_; rintro e w1 ⟨rfl, rfl⟩) | (go_at_call 71; refine (signed_any _ _ _).mono ?_; rintro e w1 ⟨rfl, rfl⟩))
  go_ret2
  exact ⟨ret_ib ((sR_4 _ _ _).symm), rfl⟩
set_option maxHeartbeats 1000000 in
theorem shift_5n (v b : Int) (w : World) (_hv : I64 v) :
    Calls Try.prog 62 #[.int .i64 5, .bool false, .int .i64 v, .int .i64 b] w fun e w' => e = .returned (.tuple #[.int .i64 (sR 5 false (tr false v) (far false b)), .bool true]) ∧ w' = w := by
  have hn := far32 b
  have hl : far false b < 32 := far_lt false b
  generalize far false b = n at hn hl ⊢
  go_enter Try.func62, Try.ntmps62
  go_wp2_with (first | (go_at_call 38; refine (trim_any _ _ _).mono ?_; rintro e w1 ⟨rfl, rfl⟩) | (go_at_call 75; refine (width_no _).mono ?_; rintro e w1 ⟨rfl, rfl⟩) | (go_at_call 71; refine (signed_any _ _ _).mono ?_; rintro e w1 ⟨rfl, rfl⟩))
  go_ret2
  exact ⟨ret_ib (by rw [sR_5, un_wrap]; rfl), rfl⟩
set_option maxHeartbeats 1000000 in
theorem shift_7n (v b : Int) (w : World) (hv : I64 v) :
    Calls Try.prog 62 #[.int .i64 7, .bool false, .int .i64 v, .int .i64 b] w fun e w' => e = .returned (.tuple #[.int .i64 (sR 7 false (tr false v) (far false b)), .bool true]) ∧ w' = w := by
  have HA := hide (tr_wd false v hv)
  clear hv
  have hn := far32 b
  have hl : far false b < 32 := far_lt false b
  generalize far false b = n at hn hl ⊢
  go_enter Try.func62, Try.ntmps62
  go_wp2_with (first | (go_at_call 38; refine (trim_any _ _ _).mono ?_; rintro e w1 ⟨rfl, rfl⟩) | (go_at_call 75; refine (width_no _).mono ?_; rintro e w1 ⟨rfl, rfl⟩) | (go_at_call 71; refine (signed_any _ _ _).mono ?_; rintro e w1 ⟨rfl, rfl⟩))
  go_ret2
  exact ⟨ret_ib (by rw [sR_7]; exact tr_M false _ (ediv_i64 _ _ (sn_i64 _ _ (wd_i64 HA.out)))), rfl⟩
set_option maxHeartbeats 1000000 in
theorem shift_0w (v b : Int) (w : World) (hv : I64 v) :
    Calls Try.prog 62 #[.int .i64 0, .bool true, .int .i64 v, .int .i64 b] w fun e w' => e = .returned (.tuple #[.int .i64 (sR 0 true (tr true v) (far true b)), .bool true]) ∧ w' = w := by
  have HA := hide (tr_wd true v hv)
  clear hv
  have hn := far64 b
  have hl : far true b < 64 := far_lt true b
  generalize far true b = n at hn hl ⊢
  go_enter Try.func62, Try.ntmps62
  go_wp2_with (first | (go_at_call 38; refine (trim_any _ _ _).mono ?_; rintro e w1 ⟨rfl, rfl⟩) | (go_at_call 75; refine (width_yes _).mono ?_; rintro e w1 ⟨rfl, rfl⟩) | (go_at_call 71; refine (signed_any _ _ _).mono ?_; rintro e w1 ⟨rfl, rfl⟩))
  go_ret2
  exact ⟨ret_ib ((rot true _ n (Nat.le_of_lt hl) HA.out).trans (sR_0 _ _ _).symm), rfl⟩
set_option maxHeartbeats 1000000 in
theorem shift_1w (v b : Int) (w : World) (hv : I64 v) :
    Calls Try.prog 62 #[.int .i64 1, .bool true, .int .i64 v, .int .i64 b] w fun e w' => e = .returned (.tuple #[.int .i64 (sR 1 true (tr true v) (far true b)), .bool true]) ∧ w' = w := by
  have HA := hide (tr_wd true v hv)
  clear hv
  have hn := far64 b
  have hl : far true b < 64 := far_lt true b
  generalize far true b = n at hn hl ⊢
  go_enter Try.func62, Try.ntmps62
  go_wp2_with (first | (go_at_call 38; refine (trim_any _ _ _).mono ?_; rintro e w1 ⟨rfl, rfl⟩) | (go_at_call 75; refine (width_yes _).mono ?_; rintro e w1 ⟨rfl, rfl⟩) | (go_at_call 71; refine (signed_any _ _ _).mono ?_; rintro e w1 ⟨rfl, rfl⟩))
  go_ret2
  exact ⟨ret_ib ((rot true _ (64 - n) (Nat.sub_le _ _) HA.out).trans (sR_1 _ _ _).symm), rfl⟩
set_option maxHeartbeats 1000000 in
theorem shift_4w (v b : Int) (w : World) (_hv : I64 v) :
    Calls Try.prog 62 #[.int .i64 4, .bool true, .int .i64 v, .int .i64 b] w fun e w' => e = .returned (.tuple #[.int .i64 (sR 4 true (tr true v) (far true b)), .bool true]) ∧ w' = w := by
  have hn := far64 b
  have hl : far true b < 64 := far_lt true b
  generalize far true b = n at hn hl ⊢
  go_enter Try.func62, Try.ntmps62
  go_wp2_with (first | (go_at_call 38; refine (trim_any _ _ _).mono ?_; rintro e w1 ⟨rfl, rfl⟩) | (go_at_call 75; refine (width_yes _).mono ?_; rintro e w1 ⟨rfl, rfl⟩) | (go_at_call 71; refine (signed_any _ _ _).mono ?_; rintro e w1 ⟨rfl, rfl⟩))
  go_ret2
  exact ⟨ret_ib ((sR_4 _ _ _).symm), rfl⟩
set_option maxHeartbeats 1000000 in
theorem shift_5w (v b : Int) (w : World) (_hv : I64 v) :
    Calls Try.prog 62 #[.int .i64 5, .bool true, .int .i64 v, .int .i64 b] w fun e w' => e = .returned (.tuple #[.int .i64 (sR 5 true (tr true v) (far true b)), .bool true]) ∧ w' = w := by
  have hn := far64 b
  have hl : far true b < 64 := far_lt true b
  generalize far true b = n at hn hl ⊢
  go_enter Try.func62, Try.ntmps62
  go_wp2_with (first | (go_at_call 38; refine (trim_any _ _ _).mono ?_; rintro e w1 ⟨rfl, rfl⟩) | (go_at_call 75; refine (width_yes _).mono ?_; rintro e w1 ⟨rfl, rfl⟩) | (go_at_call 71; refine (signed_any _ _ _).mono ?_; rintro e w1 ⟨rfl, rfl⟩))
  go_ret2
  exact ⟨ret_ib (by rw [sR_5, un_wrap]; rfl), rfl⟩
set_option maxHeartbeats 1000000 in
theorem shift_7w (v b : Int) (w : World) (hv : I64 v) :
    Calls Try.prog 62 #[.int .i64 7, .bool true, .int .i64 v, .int .i64 b] w fun e w' => e = .returned (.tuple #[.int .i64 (sR 7 true (tr true v) (far true b)), .bool true]) ∧ w' = w := by
  have HA := hide (tr_wd true v hv)
  clear hv
  have hn := far64 b
  have hl : far true b < 64 := far_lt true b
  generalize far true b = n at hn hl ⊢
  go_enter Try.func62, Try.ntmps62
  go_wp2_with (first | (go_at_call 38; refine (trim_any _ _ _).mono ?_; rintro e w1 ⟨rfl, rfl⟩) | (go_at_call 75; refine (width_yes _).mono ?_; rintro e w1 ⟨rfl, rfl⟩) | (go_at_call 71; refine (signed_any _ _ _).mono ?_; rintro e w1 ⟨rfl, rfl⟩))
  go_ret2
  exact ⟨ret_ib (by rw [sR_7]; exact tr_M true _ (ediv_i64 _ _ (sn_i64 _ _ (wd_i64 HA.out)))), rfl⟩
set_option maxHeartbeats 1000000 in
theorem shift_non (k v b : Int) (w : World) (hk : sK k = false) :
    Calls Try.prog 62 #[.int .i64 k, .bool false, .int .i64 v, .int .i64 b] w fun e w' => e = .returned (.tuple #[.int .i64 0, .bool false]) ∧ w' = w := by
  simp only [sK, Bool.or_eq_false_iff] at hk
  obtain ⟨⟨⟨⟨h0, h1⟩, h4⟩, h5⟩, h7⟩ := hk
  have hn := far32 b
  have hl : far false b < 32 := far_lt false b
  generalize far false b = n at hn hl ⊢
  go_enter Try.func62, Try.ntmps62
  go_wp2_with (first | (go_at_call 38; refine (trim_any _ _ _).mono ?_; rintro e w1 ⟨rfl, rfl⟩) | (go_at_call 75; refine (width_no _).mono ?_; rintro e w1 ⟨rfl, rfl⟩))
  go_ret2
  exact ⟨rfl, rfl⟩
set_option maxHeartbeats 1000000 in
theorem shift_now (k v b : Int) (w : World) (hk : sK k = false) :
    Calls Try.prog 62 #[.int .i64 k, .bool true, .int .i64 v, .int .i64 b] w fun e w' => e = .returned (.tuple #[.int .i64 0, .bool false]) ∧ w' = w := by
  simp only [sK, Bool.or_eq_false_iff] at hk
  obtain ⟨⟨⟨⟨h0, h1⟩, h4⟩, h5⟩, h7⟩ := hk
  have hn := far64 b
  have hl : far true b < 64 := far_lt true b
  generalize far true b = n at hn hl ⊢
  go_enter Try.func62, Try.ntmps62
  go_wp2_with (first | (go_at_call 38; refine (trim_any _ _ _).mono ?_; rintro e w1 ⟨rfl, rfl⟩) | (go_at_call 75; refine (width_yes _).mono ?_; rintro e w1 ⟨rfl, rfl⟩))
  go_ret2
  exact ⟨rfl, rfl⟩
theorem sR_no (k : Int) (wide : Bool) (x : Int) (m : Nat) (hk : sK k = false) : sR k wide x m = 0 := by
  simp only [sK, Bool.or_eq_false_iff, beq_eq_false_iff_ne] at hk
  obtain ⟨⟨⟨⟨h0, h1⟩, h4⟩, h5⟩, h7⟩ := hk
  simp only [sR, h0, h1, h4, h5, h7, if_false]
theorem shift_any (k : Int) (wide : Bool) (v b : Int) (w : World) (hv : I64 v) :
    Calls Try.prog 62 #[.int .i64 k, .bool wide, .int .i64 v, .int .i64 b] w fun e w' => e = .returned (.tuple #[.int .i64 (sR k wide (tr wide v) (far wide b)), .bool (sK k)]) ∧ w' = w := by
  cases hk : sK k
  · rw [sR_no k wide _ _ hk]
    cases wide
    · exact shift_non k v b w hk
    · exact shift_now k v b w hk
  · simp only [sK, Bool.or_eq_true, beq_iff_eq] at hk
    cases wide
    · rcases hk with (((rfl | rfl) | rfl) | rfl) | rfl
      · exact shift_0n v b w hv
      · exact shift_1n v b w hv
      · exact shift_4n v b w hv
      · exact shift_5n v b w hv
      · exact shift_7n v b w hv
    · rcases hk with (((rfl | rfl) | rfl) | rfl) | rfl
      · exact shift_0w v b w hv
      · exact shift_1w v b w hv
      · exact shift_4w v b w hv
      · exact shift_5w v b w hv
      · exact shift_7w v b w hv
end Go.Proofs.Ytielpebokbolbaa.Fg
