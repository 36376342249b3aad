/-
  The program's Shift answers what the plain functions sR, sK tell of the trimmed value and of how far it is moved, and changes nothing.
  The library's contract of math/bits.LeadingZeros64, laid at this program: the library's own theorem, applied to the numbers that its functions and types have here; then what it says of the shifted number.
  Plain facts (no program): a number of two digits divided by one of two digits, digit by digit, as math/bits divides: the guess for a digit, its correction, the rest; the number moved so that the divisor's topmost bit is 1.
-/
import Derived.Test.YtielpebokbolbaaM12
import Derived.Shelf.Small.Bits
import Derived.Test.YtielpebokbolbaaRows
import Derived.Test.YtielpebokbolbaaM4
namespace Go.Proofs.Ytielpebokbolbaa.Fg
open Go.RowKit

/-- how far: the number modulo the width's bits -/
def far (wide : Bool) (b : Int) : Nat := (un b % wd wide).toNat
theorem far_lt (wide : Bool) (b : Int) : far wide b < wd wide := by
  cases wide
  · simp only [far, wd, Bool.false_eq_true, if_false]; omega
  · simp only [far, wd, if_true]; omega
theorem far32 (b : Int) : (IntKind.u64.wrap b).tmod 32 = (far false b : Int) := by
  rw [un_wrap, Int.tmod_eq_emod_of_nonneg (un_ge b)]
  simp only [far, wd, Bool.false_eq_true, if_false]; omega
theorem far64 (b : Int) : (IntKind.u64.wrap b).tmod 64 = (far true b : Int) := by
  rw [un_wrap, Int.tmod_eq_emod_of_nonneg (un_ge b)]
  simp only [far, wd, if_true]; omega

/-- turned to the left by n, of N bits -/
def turn (N A n : Nat) : Nat := A % 2 ^ (N - n) * 2 ^ n + A / 2 ^ (N - n)

theorem pow_split {N n : Nat} (h : n ≤ N) : 2 ^ N = 2 ^ (N - n) * 2 ^ n := by rw [← Nat.pow_add]; congr 1; omega
theorem turn_lt (N A n : Nat) (h : n ≤ N) (hA : A < 2 ^ N) : turn N A n < 2 ^ N := by
  have h1 : A % 2 ^ (N - n) < 2 ^ (N - n) := Nat.mod_lt _ (Nat.two_pow_pos _)
  have h2 : A / 2 ^ (N - n) < 2 ^ n := by
    apply Nat.div_lt_of_lt_mul; rw [← pow_split h]; exact hA
  have h3 : A % 2 ^ (N - n) * 2 ^ n + 2 ^ n ≤ 2 ^ (N - n) * 2 ^ n := by
    rw [← Nat.succ_mul]; exact Nat.mul_le_mul_right _ h1
  rw [pow_split h]
  simp only [turn]; omega
theorem turn_back (N A n : Nat) (h : n ≤ N) (hA : A < 2 ^ N) : turn N (turn N A n) (N - n) = A := by
  have e2 : N - (N - n) = n := by omega
  have h2 : A / 2 ^ (N - n) < 2 ^ n := by
    apply Nat.div_lt_of_lt_mul; rw [← pow_split (by omega)]; exact hA
  have hB1 : turn N A n % 2 ^ n = A / 2 ^ (N - n) := by
    simp only [turn]
    rw [Nat.add_comm, Nat.add_mul_mod_self_right, Nat.mod_eq_of_lt h2]
  have hB2 : turn N A n / 2 ^ n = A % 2 ^ (N - n) := by
    simp only [turn]
    rw [Nat.add_comm, Nat.add_mul_div_right _ _ (Nat.two_pow_pos n), Nat.div_eq_of_lt h2, Nat.zero_add]
  show turn N A n % 2 ^ (N - (N - n)) * 2 ^ (N - n) + turn N A n / 2 ^ (N - (N - n)) = A
  rw [e2, hB1, hB2, Nat.mul_comm]
  exact Nat.div_add_mod A (2 ^ (N - n))
theorem shl_mod (N A n : Nat) (h : n ≤ N) : A * 2 ^ n % 2 ^ N = A % 2 ^ (N - n) * 2 ^ n := by
  rw [pow_split h, Nat.mul_mod_mul_right]
theorem turn_or (wide : Bool) (A n : Nat) (h : n ≤ wd wide) (hA : A < 2 ^ wd wide) :
    (A * 2 ^ n % 18446744073709551616 ||| A / 2 ^ (wd wide - n)) % 2 ^ wd wide = turn (wd wide) A n := by
  have hd : A * 2 ^ n % 18446744073709551616 % 2 ^ wd wide = A * 2 ^ n % 2 ^ wd wide := by
    cases wide
    · rw [wd_no]; generalize A * 2 ^ n = X; omega
    · rw [wd_yes]; generalize A * 2 ^ n = X; omega
  have hq : A / 2 ^ (wd wide - n) < 2 ^ wd wide := Nat.lt_of_le_of_lt (Nat.div_le_self _ _) hA
  have h2 : A / 2 ^ (wd wide - n) < 2 ^ n := by
    apply Nat.div_lt_of_lt_mul; rw [← pow_split h]; exact hA
  rw [Nat.or_mod_two_pow, hd, shl_mod _ _ _ h, Nat.mod_eq_of_lt hq]
  exact nat_join n _ _ (Nat.mul_mod_left _ _) h2
theorem rot (wide : Bool) (x : Int) (n : Nat) (h : n ≤ wd wide) (hx : Wd wide x) :
    tr wide (wrap64 (bits .or .u64 (IntKind.u64.wrap (IntKind.u64.wrap x * 2 ^ n)) (IntKind.u64.wrap x / 2 ^ (wd wide - n)))) = M wide ((turn (wd wide) (R wide x) n : Nat) : Int) := by
  have hA := R_lt wide x
  rw [un_wrap, un_wrap, un_R wide x hx]
  generalize R wide x = A at hA ⊢
  have e1 : un ((A : Int) * 2 ^ n) = ((A * 2 ^ n % 18446744073709551616 : Nat) : Int) := by
    simp only [un]; rw [Int.natCast_emod, Int.natCast_mul, Int.natCast_pow]; rfl
  have e2 : (A : Int) / 2 ^ (wd wide - n) = ((A / 2 ^ (wd wide - n) : Nat) : Int) := by
    rw [Int.natCast_ediv, Int.natCast_pow]; rfl
  have hw : (2 : Nat) ^ wd wide ≤ 18446744073709551616 := by cases wide <;> decide
  have l1 : A * 2 ^ n % 18446744073709551616 < 18446744073709551616 := Nat.mod_lt _ (by decide)
  have l2 : A / 2 ^ (wd wide - n) < 18446744073709551616 := Nat.lt_of_le_of_lt (Nat.div_le_self _ _) (by omega)
  rw [e1, e2, u64_or_nat _ _ l1 l2]
  show M wide _ = _
  rw [← M_mod, turn_or wide A n h hA]
theorem ediv_i64 (x : Int) (n : Nat) (h : I64 x) : I64 (x / 2 ^ n) := by
  obtain ⟨h1, h2⟩ := h
  have hp : (0 : Int) < 2 ^ n := Int.pow_pos (by decide)
  constructor
  · apply Int.le_ediv_of_mul_le hp
    have : (1 : Int) ≤ 2 ^ n := hp
    have h3 : (-9223372036854775808 : Int) * 2 ^ n ≤ -9223372036854775808 * 1 := Int.mul_le_mul_of_nonpos_left (by decide) this
    omega
  · by_cases h0 : 0 ≤ x
    · exact Int.le_trans (Int.ediv_le_self _ h0) h2
    · exact Int.le_trans (Int.le_of_lt (Int.ediv_neg_of_neg_of_pos (by omega) hp)) (by decide)

def sK (k : Int) : Bool := k == 0 || k == 1 || k == 4 || k == 5 || k == 7
/-- a trimmed value, moved or turned by m -/
def sR (k : Int) (wide : Bool) (x : Int) (m : Nat) : Int :=
  if k = 0 then M wide ((turn (wd wide) (R wide x) m : Nat) : Int) else if k = 1 then M wide ((turn (wd wide) (R wide x) (wd wide - m) : Nat) : Int)
  else if k = 4 then M wide (x * 2 ^ m) else if k = 5 then M wide (un x / 2 ^ m) else if k = 7 then M wide (sn wide x / 2 ^ m) else 0
theorem sR_0 (wide : Bool) (x : Int) (m : Nat) : sR 0 wide x m = M wide ((turn (wd wide) (R wide x) m : Nat) : Int) := by simp [sR]
theorem sR_1 (wide : Bool) (x : Int) (m : Nat) : sR 1 wide x m = M wide ((turn (wd wide) (R wide x) (wd wide - m) : Nat) : Int) := by simp [sR]
theorem sR_4 (wide : Bool) (x : Int) (m : Nat) : sR 4 wide x m = M wide (x * 2 ^ m) := by simp [sR]
theorem sR_5 (wide : Bool) (x : Int) (m : Nat) : sR 5 wide x m = M wide (un x / 2 ^ m) := by simp [sR]
theorem sR_7 (wide : Bool) (x : Int) (m : Nat) : sR 7 wide x m = M wide (sn wide x / 2 ^ m) := by simp [sR]
theorem ret_ib {a b : Int} {c : Bool} (h : a = b) : Ending.returned (.tuple #[.int .i64 a, .bool c]) = .returned (.tuple #[.int .i64 b, .bool c]) := by rw [h]
set_option maxHeartbeats 1000000 in
theorem shift_0n (v b : Int) (w : World) (hv : I64 v) :
    Calls Try.prog 62 #[.int .i64 0, .bool false, .int .i64 v, .int .i64 b] w fun e w' => e = .returned (.tuple #[.int .i64 (sR 0 false (tr false v) (far false b)), .bool true]) ∧ w' = w := by
  have HA := hide (tr_wd false v hv)
  clear hv
  have hn := far32 b
  have hl : far false b < 32 := far_lt false b
  generalize far false b = n at hn hl ⊢
  go_enter Try.func62, Try.ntmps62
  go_wp2_with (first | (go_at_call 38; refine (trim_any _ _ _).mono ?_; rintro e w1 ⟨rfl, rfl⟩) | (go_at_call 75; refine (width_no _).mono ?_; rintro e w1 ⟨rfl, rfl⟩) | (go_at_call 71; refine (signed_any _ _ _).mono ?_; rintro e w1 ⟨rfl, rfl⟩))
  go_ret2
  exact ⟨ret_ib ((rot false _ n (Nat.le_of_lt hl) HA.out).trans (sR_0 _ _ _).symm), rfl⟩
set_option maxHeartbeats 1000000 in
theorem shift_1n (v b : Int) (w : World) (hv : I64 v) :
    Calls Try.prog 62 #[.int .i64 1, .bool false, .int .i64 v, .int .i64 b] w fun e w' => e = .returned (.tuple #[.int .i64 (sR 1 false (tr false v) (far false b)), .bool true]) ∧ w' = w := by
  have HA := hide (tr_wd false v hv)
  clear hv
  have hn := far32 b
  have hl : far false b < 32 := far_lt false b
  generalize far false b = n at hn hl ⊢
  go_enter Try.func62, Try.ntmps62
  go_wp2_with (first | (go_at_call 38; refine (trim_any _ _ _).mono ?_; rintro e w1 ⟨rfl, rfl⟩) | (go_at_call 75; refine (width_no _).mono ?_; rintro e w1 ⟨rfl, rfl⟩) | (go_at_call 71; refine (signed_any _ _ _).mono ?_; rintro e w1 ⟨rfl, rfl⟩))
  go_ret2
  exact ⟨ret_ib ((rot false _ (32 - n) (Nat.sub_le _ _) HA.out).trans (sR_1 _ _ _).symm), rfl⟩
set_option maxHeartbeats 1000000 in
theorem shift_4n (v b : Int) (w : World) (_hv : I64 v) :
    Calls Try.prog 62 #[.int .i64 4, .bool false, .int .i64 v, .int .i64 b] w fun e w' => e = .returned (.tuple #[.int .i64 (sR 4 false (tr false v) (far false b)), .bool true]) ∧ w' = w := by
  have hn := far32 b
  have hl : far false b < 32 := far_lt false b
  generalize far false b = n at hn hl ⊢
  go_enter Try.func62, Try.ntmps62
  go_wp2_with (first | (go_at_call 38; refine (trim_any _ _ _).mono ?_; rintro e w1 ⟨rfl, rfl⟩) | (go_at_call 75; refine (width_no _).mono ?_; rintro e w1 ⟨rfl, rfl⟩) | (go_at_call 71; refine (signed_any _ _ _).mono ?_; rintro e w1 ⟨rfl, rfl⟩))
  go_ret2
  exact ⟨ret_ib ((sR_4 _ _ _).symm), rfl⟩
set_option maxHeartbeats 1000000 in
theorem shift_5n (v b : Int) (w : World) (_hv : I64 v) :
    Calls Try.prog 62 #[.int .i64 5, .bool false, .int .i64 v, .int .i64 b] w fun e w' => e = .returned (.tuple #[.int .i64 (sR 5 false (tr false v) (far false b)), .bool true]) ∧ w' = w := by
  have hn := far32 b
  have hl : far false b < 32 := far_lt false b
  generalize far false b = n at hn hl ⊢
  go_enter Try.func62, Try.ntmps62
  go_wp2_with (first | (go_at_call 38; refine (trim_any _ _ _).mono ?_; rintro e w1 ⟨rfl, rfl⟩) | (go_at_call 75; refine (width_no _).mono ?_; rintro e w1 ⟨rfl, rfl⟩) | (go_at_call 71; refine (signed_any _ _ _).mono ?_; rintro e w1 ⟨rfl, rfl⟩))
  go_ret2
  exact ⟨ret_ib (by rw [sR_5, un_wrap]; rfl), rfl⟩
set_option maxHeartbeats 1000000 in
theorem shift_7n (v b : Int) (w : World) (hv : I64 v) :
    Calls Try.prog 62 #[.int .i64 7, .bool false, .int .i64 v, .int .i64 b] w fun e w' => e = .returned (.tuple #[.int .i64 (sR 7 false (tr false v) (far false b)), .bool true]) ∧ w' = w := by
  have HA := hide (tr_wd false v hv)
  clear hv
  have hn := far32 b
  have hl : far false b < 32 := far_lt false b
  generalize far false b = n at hn hl ⊢
  go_enter Try.func62, Try.ntmps62
  go_wp2_with (first | (go_at_call 38; refine (trim_any _ _ _).mono ?_; rintro e w1 ⟨rfl, rfl⟩) | (go_at_call 75; refine (width_no _).mono ?_; rintro e w1 ⟨rfl, rfl⟩) | (go_at_call 71; refine (signed_any _ _ _).mono ?_; rintro e w1 ⟨rfl, rfl⟩))
  go_ret2
  exact ⟨ret_ib (by rw [sR_7]; exact tr_M false _ (ediv_i64 _ _ (sn_i64 _ _ (wd_i64 HA.out)))), rfl⟩
set_option maxHeartbeats 1000000 in
theorem shift_0w (v b : Int) (w : World) (hv : I64 v) :
    Calls Try.prog 62 #[.int .i64 0, .bool true, .int .i64 v, .int .i64 b] w fun e w' => e = .returned (.tuple #[.int .i64 (sR 0 true (tr true v) (far true b)), .bool true]) ∧ w' = w := by
  have HA := hide (tr_wd true v hv)
  clear hv
  have hn := far64 b
  have hl : far true b < 64 := far_lt true b
  generalize far true b = n at hn hl ⊢
  go_enter Try.func62, Try.ntmps62
  go_wp2_with (first | (go_at_call 38; refine (trim_any _ _ _).mono ?_; rintro e w1 ⟨rfl, rfl⟩) | (go_at_call 75; refine (width_yes _).mono ?_; rintro e w1 ⟨rfl, rfl⟩) | (go_at_call 71; refine (signed_any _ _ _).mono ?_; rintro e w1 ⟨rfl, rfl⟩))
  go_ret2
  exact ⟨ret_ib ((rot true _ n (Nat.le_of_lt hl) HA.out).trans (sR_0 _ _ _).symm), rfl⟩
set_option maxHeartbeats 1000000 in
theorem shift_1w (v b : Int) (w : World) (hv : I64 v) :
    Calls Try.prog 62 #[.int .i64 1, .bool true, .int .i64 v, .int .i64 b] w fun e w' => e = .returned (.tuple #[.int .i64 (sR 1 true (tr true v) (far true b)), .bool true]) ∧ w' = w := by
  have HA := hide (tr_wd true v hv)
  clear hv
  have hn := far64 b
  have hl : far true b < 64 := far_lt true b
  generalize far true b = n at hn hl ⊢
  go_enter Try.func62, Try.ntmps62
  go_wp2_with (first | (go_at_call 38; refine (trim_any _ _ _).mono ?_; rintro e w1 ⟨rfl, rfl⟩) | (go_at_call 75; refine (width_yes _).mono ?_; rintro e w1 ⟨rfl, rfl⟩) | (go_at_call 71; refine (signed_any _ _ _).mono ?_; rintro e w1 ⟨rfl, rfl⟩))
  go_ret2
  exact ⟨ret_ib ((rot true _ (64 - n) (Nat.sub_le _ _) HA.out).trans (sR_1 _ _ _).symm), rfl⟩
set_option maxHeartbeats 1000000 in
theorem shift_4w (v b : Int) (w : World) (_hv : I64 v) :
    Calls Try.prog 62 #[.int .i64 4, .bool true, .int .i64 v, .int .i64 b] w fun e w' => e = .returned (.tuple #[.int .i64 (sR 4 true (tr true v) (far true b)), .bool true]) ∧ w' = w := by
  have hn := far64 b
  have hl : far true b < 64 := far_lt true b
  generalize far true b = n at hn hl ⊢
  go_enter Try.func62, Try.ntmps62
  go_wp2_with (first | (go_at_call 38; refine (trim_any _ _ _).mono ?_; rintro e w1 ⟨rfl, rfl⟩) | (go_at_call 75; refine (width_yes _).mono ?_; rintro e w1 ⟨rfl, rfl⟩) | (go_at_call 71; refine (signed_any _ _ _).mono ?_; rintro e w1 ⟨rfl, rfl⟩))
  go_ret2
  exact ⟨ret_ib ((sR_4 _ _ _).symm), rfl⟩
set_option maxHeartbeats 1000000 in
theorem shift_5w (v b : Int) (w : World) (_hv : I64 v) :
    Calls Try.prog 62 #[.int .i64 5, .bool true, .int .i64 v, .int .i64 b] w fun e w' => e = .returned (.tuple #[.int .i64 (sR 5 true (tr true v) (far true b)), .bool true]) ∧ w' = w := by
  have hn := far64 b
  have hl : far true b < 64 := far_lt true b
  generalize far true b = n at hn hl ⊢
  go_enter Try.func62, Try.ntmps62
  go_wp2_with (first | (go_at_call 38; refine (trim_any _ _ _).mono ?_; rintro e w1 ⟨rfl, rfl⟩) | (go_at_call 75; refine (width_yes _).mono ?_; rintro e w1 ⟨rfl, rfl⟩) | (go_at_call 71; refine (signed_any _ _ _).mono ?_; rintro e w1 ⟨rfl, rfl⟩))
  go_ret2
  exact ⟨ret_ib (by rw [sR_5, un_wrap]; rfl), rfl⟩
set_option maxHeartbeats 1000000 in
theorem shift_7w (v b : Int) (w : World) (hv : I64 v) :
    Calls Try.prog 62 #[.int .i64 7, .bool true, .int .i64 v, .int .i64 b] w fun e w' => e = .returned (.tuple #[.int .i64 (sR 7 true (tr true v) (far true b)), .bool true]) ∧ w' = w := by
  have HA := hide (tr_wd true v hv)
  clear hv
  have hn := far64 b
  have hl : far true b < 64 := far_lt true b
  generalize far true b = n at hn hl ⊢
  go_enter Try.func62, Try.ntmps62
  go_wp2_with (first | (go_at_call 38; refine (trim_any _ _ _).mono ?_; rintro e w1 ⟨rfl, rfl⟩) | (go_at_call 75; refine (width_yes _).mono ?_; rintro e w1 ⟨rfl, rfl⟩) | (go_at_call 71; refine (signed_any _ _ _).mono ?_; rintro e w1 ⟨rfl, rfl⟩))
  go_ret2
  exact ⟨ret_ib (by rw [sR_7]; exact tr_M true _ (ediv_i64 _ _ (sn_i64 _ _ (wd_i64 HA.out)))), rfl⟩
set_option maxHeartbeats 1000000 in
theorem shift_non (k v b : Int) (w : World) (hk : sK k = false) :
    Calls Try.prog 62 #[.int .i64 k, .bool false, .int .i64 v, .int .i64 b] w fun e w' => e = .returned (.tuple #[.int .i64 0, .bool false]) ∧ w' = w := by
  simp only [sK, Bool.or_eq_false_iff] at hk
  obtain ⟨⟨⟨⟨h0, h1⟩, h4⟩, h5⟩, h7⟩ := hk
  have hn := far32 b
  have hl : far false b < 32 := far_lt false b
  generalize far false b = n at hn hl ⊢
  go_enter Try.func62, Try.ntmps62
  go_wp2_with (first | (go_at_call 38; refine (trim_any _ _ _).mono ?_; rintro e w1 ⟨rfl, rfl⟩) | (go_at_call 75; refine (width_no _).mono ?_; rintro e w1 ⟨rfl, rfl⟩))
  go_ret2
  exact ⟨rfl, rfl⟩
set_option maxHeartbeats 1000000 in
theorem shift_now (k v b : Int) (w : World) (hk : sK k = false) :
    Calls Try.prog 62 #[.int .i64 k, .bool true, .int .i64 v, .int .i64 b] w fun e w' => e = .returned (.tuple #[.int .i64 0, .bool false]) ∧ w' = w := by
  simp only [sK, Bool.or_eq_false_iff] at hk
  obtain ⟨⟨⟨⟨h0, h1⟩, h4⟩, h5⟩, h7⟩ := hk
  have hn := far64 b
  have hl : far true b < 64 := far_lt true b
  generalize far true b = n at hn hl ⊢
  go_enter Try.func62, Try.ntmps62
  go_wp2_with (first | (go_at_call 38; refine (trim_any _ _ _).mono ?_; rintro e w1 ⟨rfl, rfl⟩) | (go_at_call 75; refine (width_yes _).mono ?_; rintro e w1 ⟨rfl, rfl⟩))
  go_ret2
  exact ⟨rfl, rfl⟩
theorem sR_no (k : Int) (wide : Bool) (x : Int) (m : Nat) (hk : sK k = false) : sR k wide x m = 0 := by
  simp only [sK, Bool.or_eq_false_iff, beq_eq_false_iff_ne] at hk
  obtain ⟨⟨⟨⟨h0, h1⟩, h4⟩, h5⟩, h7⟩ := hk
  simp only [sR, h0, h1, h4, h5, h7, if_false]
theorem shift_any (k : Int) (wide : Bool) (v b : Int) (w : World) (hv : I64 v) :
    Calls Try.prog 62 #[.int .i64 k, .bool wide, .int .i64 v, .int .i64 b] w fun e w' => e = .returned (.tuple #[.int .i64 (sR k wide (tr wide v) (far wide b)), .bool (sK k)]) ∧ w' = w := by
  cases hk : sK k
  · rw [sR_no k wide _ _ hk]
    cases wide
    · exact shift_non k v b w hk
    · exact shift_now k v b w hk
  · simp only [sK, Bool.or_eq_true, beq_iff_eq] at hk
    cases wide
    · rcases hk with (((rfl | rfl) | rfl) | rfl) | rfl
      · exact shift_0n v b w hv
      · exact shift_1n v b w hv
      · exact shift_4n v b w hv
      · exact shift_5n v b w hv
      · exact shift_7n v b w hv
    · rcases hk with (((rfl | rfl) | rfl) | rfl) | rfl
      · exact shift_0w v b w hv
      · exact shift_1w v b w hv
      · exact shift_4w v b w hv
      · exact shift_5w v b w hv
      · exact shift_7w v b w hv
end Go.Proofs.Ytielpebokbolbaa.Fg
namespace Go.Proofs.Ytielpebokbolbaa.Fg
open Go.Shelf Go.RowKit

def ren : Go.Shelf.Ren := ⟨fun | 129 => 88 | 134 => 87 | n => n, fun | 46 => 65 | 53 => 64 | n => n, fun | n => n⟩
theorem lays134 : Go.Proofs.Lays.n134 Try.prog ren := {
  mixed := by kernel_rfl
  f129 := Try.func88.trans (congrArg some (by kernel_rfl))
  f134 := Try.func87.trans (congrArg some (by kernel_rfl))
  t3 := Try.underlying3
  a3 := Try.isAgg3
  z3 := Try.sizeOf3
  v3 := Try.zeroValue3
  t4 := Try.underlying4
  a4 := Try.isAgg4
  z4 := Try.sizeOf4
  v4 := Try.zeroValue4
  t5 := Try.underlying5
  a5 := Try.isAgg5
  z5 := Try.sizeOf5
  v5 := Try.zeroValue5
  t9 := Try.underlying9
  a9 := Try.isAgg9
  z9 := Try.sizeOf9
  v9 := Try.zeroValue9
  t46 := Try.underlying65
  a46 := Try.isAgg65
  z46 := Try.sizeOf65
  v46 := Try.zeroValue65
  t53 := Try.underlying64
  a53 := Try.isAgg64
  z53 := Try.sizeOf64
  v53 := Try.zeroValue64 }
theorem lz_any (x : Int) (w : World) (h0 : 0 ≤ x) (h1 : x ≤ 18446744073709551615) :
    Calls Try.prog 87 #[.int .u64 x] w fun e w' => e = .returned (.int .i64 (64 - (Lib.bitLen x.toNat : Int))) ∧ w' = w :=
  Any.bits_LeadingZeros64 (P := Try.prog) (ρ := ren) lays134 x w h0 h1
/-- a number has as many bits as it needs -/
theorem len_pow (x : Nat) (h0 : x ≠ 0) (hx : x < 2 ^ 64) : ∃ k, k < 64 ∧ Lib.bitLen x = k + 1 ∧ 2 ^ k ≤ x ∧ x < 2 ^ (k + 1) := by
  have h1 := Lib.bitLen_le x 64 (Nat.le_refl _) hx
  refine ⟨Nat.log2 x, ?_, ?_, ?_, ?_⟩
  · exact (Nat.log2_lt h0).mpr hx
  · have hl : 2 ^ Nat.log2 x ≤ x := Nat.log2_self_le h0
    have hu : x < 2 ^ (Nat.log2 x + 1) := Nat.lt_log2_self
    rw [Lib.bitLen_shift (Nat.log2 x) x hl hx]
    have e : x / 2 ^ Nat.log2 x = 1 := by
      have hp := Nat.two_pow_pos (Nat.log2 x)
      rw [Nat.pow_succ] at hu
      generalize 2 ^ Nat.log2 x = P at hl hu hp ⊢
      apply Nat.div_eq_of_lt_le <;> omega
    rw [e]; rfl
  · exact Nat.log2_self_le h0
  · exact Nat.lt_log2_self
/-- how far a number is moved so that its topmost bit is 1 -/
theorem lz_is (Y : Nat) (h0 : Y ≠ 0) (hY : Y < 2 ^ 64) : ∃ s : Nat, s < 64 ∧ 2 ^ 63 ≤ Y * 2 ^ s ∧ Y * 2 ^ s < 2 ^ 64 ∧ ∀ w, Calls Try.prog 87 #[.int .u64 Y] w fun e w' => e = .returned (.int .i64 (s : Int)) ∧ w' = w := by
  obtain ⟨k, hk, hb, hl, hu⟩ := len_pow Y h0 hY
  refine ⟨63 - k, by omega, ?_, ?_, fun w => ?_⟩
  · have e : (2 : Nat) ^ 63 = 2 ^ k * 2 ^ (63 - k) := by rw [← Nat.pow_add]; congr 1; omega
    rw [e]; exact Nat.mul_le_mul_right _ hl
  · have e : (2 : Nat) ^ 64 = 2 ^ (k + 1) * 2 ^ (63 - k) := by rw [← Nat.pow_add]; congr 1; omega
    rw [e]; exact Nat.mul_lt_mul_of_pos_right hu (Nat.two_pow_pos _)
  · have h := lz_any (Y : Int) w (by omega) (by omega)
    have e : (64 : Int) - (Lib.bitLen (Y : Int).toNat : Int) = ((63 - k : Nat) : Int) := by
      rw [Int.toNat_natCast, hb]; omega
    rw [e] at h; exact h
end Go.Proofs.Ytielpebokbolbaa.Fg
namespace Go.Proofs.Ytielpebokbolbaa.Fg
open Go.RowKit

/-- what holds while a digit is corrected: u·2^32 + c is divided by A, a is the guess, b the rest that goes with it -/
def K1 (y1 u c A a b : Nat) : Prop := a * y1 + b = u ∧ (u * 4294967296 + c) / A ≤ a ∧ b < 4294967296
/-- the divisor: two digits, the topmost bit is 1 -/
structure Dv (A y1 y0 : Nat) : Prop where
  eq : A = y1 * 4294967296 + y0
  low : y0 < 4294967296
  top : 2147483648 ≤ y1
  lt : y1 < 4294967296

theorem Dv.pos {A y1 y0 : Nat} (h : Dv A y1 y0) : 0 < A := by have := h.eq; have := h.top; omega
theorem mul_dv {A y1 y0 : Nat} (h : Dv A y1 y0) (a : Nat) : a * A = a * y1 * 4294967296 + a * y0 := by
  rw [h.eq, Nat.mul_add, Nat.mul_assoc]
theorem kn_start {A y1 y0 u c : Nat} (h : Dv A y1 y0) (hc : c < 4294967296) : K1 y1 u c A (u / y1) (u % y1) := by
  refine ⟨?_, ?_, Nat.lt_trans (Nat.mod_lt _ (by have := h.top; omega)) h.lt⟩
  · rw [Nat.mul_comm]; exact Nat.div_add_mod u y1
  · apply Nat.le_of_lt_succ
    rw [Nat.div_lt_iff_lt_mul h.pos]
    show _ < (u / y1 + 1) * A
    rw [mul_dv h]
    have h1 : u < (u / y1 + 1) * y1 := by
      have := Nat.div_add_mod u y1
      have h2 := Nat.mod_lt u (show 0 < y1 by have := h.top; omega)
      rw [Nat.add_mul, Nat.one_mul, Nat.mul_comm]; omega
    generalize (u / y1 + 1) * y1 = P at *
    omega
theorem kn_big {A y1 y0 u c a b : Nat} (h : Dv A y1 y0) (hc : c < 4294967296) (hu : u < A) (_k : K1 y1 u c A a b) (ha : 4294967296 ≤ a) : (u * 4294967296 + c) / A < a := by
  refine Nat.lt_of_lt_of_le ?_ ha
  rw [Nat.div_lt_iff_lt_mul h.pos]; omega
theorem kn_more {A y1 y0 u c a b : Nat} (h : Dv A y1 y0) (k : K1 y1 u c A a b) (ha : 4294967296 * b + c < a * y0) : (u * 4294967296 + c) / A < a := by
  rw [Nat.div_lt_iff_lt_mul h.pos, mul_dv h]
  have := k.1
  generalize a * y1 = P at *
  generalize a * y0 = P0 at *
  omega
theorem kn_step {A y1 u c a b : Nat} (k : K1 y1 u c A a b) (ha : (u * 4294967296 + c) / A < a) : (a - 1) * y1 + (b + y1) = u ∧ (u * 4294967296 + c) / A ≤ a - 1 := by
  have h0 : 0 < a := Nat.lt_of_le_of_lt (Nat.zero_le _) ha
  refine ⟨?_, Nat.le_sub_one_of_lt ha⟩
  clear ha
  obtain ⟨n, rfl⟩ : ∃ n, a = n + 1 := ⟨a - 1, by omega⟩
  have := k.1
  rw [Nat.add_mul, Nat.one_mul] at this
  show n * y1 + _ = _
  omega
theorem kn_end {A y1 y0 u c a b : Nat} (h : Dv A y1 y0) (k1 : a * y1 + b = u) (k2 : (u * 4294967296 + c) / A ≤ a) (ha : a * y0 ≤ 4294967296 * b + c) : a = (u * 4294967296 + c) / A := by
  apply Nat.le_antisymm _ k2
  rw [Nat.le_div_iff_mul_le h.pos, mul_dv h]
  generalize a * y1 = P at *
  generalize a * y0 = P0 at *
  omega
theorem kn_break {A y1 y0 u c a b : Nat} (h : Dv A y1 y0) (hu : u < A) (k1 : a * y1 + b = u) (k2 : (u * 4294967296 + c) / A ≤ a) (hb : 4294967296 ≤ b) : a = (u * 4294967296 + c) / A := by
  refine kn_end h k1 k2 ?_
  have e := h.eq
  have hl := h.low
  have h1 : a * y1 < 4294967296 * y1 := by generalize a * y1 = P at *; omega
  have h2 : a < 4294967296 := Nat.lt_of_mul_lt_mul_right h1
  have h3 : a * y0 ≤ a * 4294967296 := Nat.mul_le_mul_left _ (Nat.le_of_lt hl)
  generalize a * y0 = P0 at *
  omega
theorem kn_rest (A u c : Nat) : u * 4294967296 + c - (u * 4294967296 + c) / A * A = (u * 4294967296 + c) % A := by
  rw [Nat.mod_eq_sub_div_mul]
theorem kn_lt {A y1 y0 u c : Nat} (h : Dv A y1 y0) (hc : c < 4294967296) (hu : u < A) : (u * 4294967296 + c) / A < 4294967296 := by
  rw [Nat.div_lt_iff_lt_mul h.pos]; omega
/-- digit by digit is at once -/
theorem kn_two (A U c0 : Nat) (hA : 0 < A) :
    U / A * 4294967296 + (U % A * 4294967296 + c0) / A = (U * 4294967296 + c0) / A ∧ (U % A * 4294967296 + c0) % A = (U * 4294967296 + c0) % A := by
  have e : U * 4294967296 + c0 = (U % A * 4294967296 + c0) + A * (U / A * 4294967296) := by
    have h := Nat.div_add_mod U A
    have e3 : A * (U / A * 4294967296) = A * (U / A) * 4294967296 := (Nat.mul_assoc A (U / A) 4294967296).symm
    rw [e3]
    generalize A * (U / A) = P at h ⊢
    omega
  constructor
  · rw [e, Nat.add_mul_div_left _ _ hA, Nat.add_comm]
  · rw [e, Nat.add_mul_mod_self_left]
theorem two64 : (2 : Nat) ^ 64 = 18446744073709551616 := by decide
/-- the number that is divided, moved by s -/
theorem kn_move (H L s : Nat) (hs : s ≤ 64) :
    (H * 2 ^ s + L / 2 ^ (64 - s)) * 18446744073709551616 + L * 2 ^ s % 18446744073709551616 = (H * 18446744073709551616 + L) * 2 ^ s := by
  have e : L / 2 ^ (64 - s) = L * 2 ^ s / 18446744073709551616 := by
    rw [← two64, show (2 : Nat) ^ 64 = 2 ^ (64 - s) * 2 ^ s by rw [← Nat.pow_add]; congr 1; omega, Nat.mul_div_mul_right _ _ (Nat.two_pow_pos s)]
  rw [e]
  have h := Nat.div_add_mod (L * 2 ^ s) 18446744073709551616
  rw [Nat.add_mul, Nat.add_mul]
  have e2 : H * 2 ^ s * 18446744073709551616 = H * 18446744073709551616 * 2 ^ s := by rw [Nat.mul_assoc, Nat.mul_comm (2 ^ s), ← Nat.mul_assoc]
  rw [e2]
  generalize L * 2 ^ s = X at *
  generalize H * 18446744073709551616 * 2 ^ s = Z at *
  omega
theorem kn_lt_u (H L Y s : Nat) (hs : s ≤ 64) (hL : L < 18446744073709551616) (hH : H < Y) : H * 2 ^ s + L / 2 ^ (64 - s) < Y * 2 ^ s := by
  have h1 : L / 2 ^ (64 - s) < 2 ^ s := by
    apply Nat.div_lt_of_lt_mul
    rw [← Nat.pow_add, show 64 - s + s = 64 by omega, two64]; exact hL
  have h2 : (H + 1) * 2 ^ s ≤ Y * 2 ^ s := Nat.mul_le_mul_right _ hH
  rw [Nat.add_mul, Nat.one_mul] at h2
  omega
theorem wrapN (z : Int) : ∃ m : Nat, IntKind.u64.wrap z = (m : Int) ∧ (m : Int) = z % 18446744073709551616 := by
  refine ⟨(z % 18446744073709551616).toNat, ?_, ?_⟩
  · rw [un_wrap]; simp only [un]; omega
  · omega
theorem wrap_nat (n : Nat) (h : n < 18446744073709551616) : IntKind.u64.wrap (n : Int) = (n : Int) := by
  rw [un_wrap]; simp only [un]; omega
end Go.Proofs.Ytielpebokbolbaa.Fg
