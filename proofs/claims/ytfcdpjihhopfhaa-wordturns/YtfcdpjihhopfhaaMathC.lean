/-
  Plain facts about bits (no program): And, Or, Xor, shifts and turns of a width, by the natural number that the bits of a value are.
-/
import Derived.Test.YtfcdpjihhopfhaaDivides
namespace Go.Proofs.Ytfcdpjihhopfhaa
open Go.RowKit

/-- the natural number that the bits of a value are, at a width -/
def R (wide : Bool) (x : Int) : Nat := (x % md wide).toNat

theorem md_pow (wide : Bool) : md wide = ((2 ^ wd wide : Nat) : Int) := by cases wide <;> decide
theorem R_lt (wide : Bool) (x : Int) : R wide x < 2 ^ wd wide := by
  cases wide
  · simp only [R, md_no, wd_no]; omega
  · simp only [R, md_yes, wd_yes]; omega
theorem R_tr (wide : Bool) (x : Int) : R wide (tr wide x) = R wide x := by
  cases wide
  · simp only [R, md_no, tr, Bool.false_eq_true, if_false]; omega
  · simp only [R, tr, if_true]
theorem R_M (wide : Bool) (n : Nat) : R wide (M wide n) = n % 2 ^ wd wide := by
  cases wide
  · simp only [R, md_no, M_no, wd_no]; omega
  · simp only [R, md_yes, M_yes, wd_yes, wrap64]; omega
theorem M_R (wide : Bool) (x : Int) : M wide (R wide x) = M wide x := by
  apply M_eq
  cases wide
  · simp only [R, md_no]; omega
  · simp only [R, md_yes]; omega
theorem M_mod (wide : Bool) (n : Nat) : M wide ((n % 2 ^ wd wide : Nat) : Int) = M wide n := by
  apply M_eq
  cases wide
  · rw [md_no, wd_no]; omega
  · rw [md_yes, wd_yes]; omega
theorem un_R (wide : Bool) (x : Int) (h : Wd wide x) : un x = (R wide x : Int) := by
  cases wide
  · simp only [Wd, Bool.false_eq_true, if_false] at h; simp only [R, md_no, un]; omega
  · simp only [R, md_yes, un]; omega
theorem ofInt_R (wide : Bool) (x : Int) (h : Wd wide x) : (BitVec.ofInt 64 x).toNat = R wide x := by
  rw [BitVec.toNat_ofInt]
  have e3 : ((2 ^ 64 : Nat) : Int) = 18446744073709551616 := by decide
  rw [e3]
  have := un_R wide x h
  simp only [un] at this
  omega

theorem bits_and (wide : Bool) (x y : Int) (hx : Wd wide x) (hy : Wd wide y) : bits .and .i64 x y = wrap64 ((R wide x &&& R wide y : Nat) : Int) := by
  show IntKind.i64.wrap ((BitVec.ofInt 64 x &&& BitVec.ofInt 64 y).toNat : Int) = _
  rw [BitVec.toNat_and, ofInt_R wide x hx, ofInt_R wide y hy, i64_wrap]
theorem bits_or (wide : Bool) (x y : Int) (hx : Wd wide x) (hy : Wd wide y) : bits .or .i64 x y = wrap64 ((R wide x ||| R wide y : Nat) : Int) := by
  show IntKind.i64.wrap ((BitVec.ofInt 64 x ||| BitVec.ofInt 64 y).toNat : Int) = _
  rw [BitVec.toNat_or, ofInt_R wide x hx, ofInt_R wide y hy, i64_wrap]
theorem bits_xor (wide : Bool) (x y : Int) (hx : Wd wide x) (hy : Wd wide y) : bits .xor .i64 x y = wrap64 ((R wide x ^^^ R wide y : Nat) : Int) := by
  show IntKind.i64.wrap ((BitVec.ofInt 64 x ^^^ BitVec.ofInt 64 y).toNat : Int) = _
  rw [BitVec.toNat_xor, ofInt_R wide x hx, ofInt_R wide y hy, i64_wrap]

theorem ee_and (wide : Bool) (a b : Int) (ha : I64 a) (hb : I64 b) : (ee 113 wide a b).1 = M wide ((R wide a &&& R wide b : Nat) : Int) := by
  show tr wide (bits .and .i64 (tr wide a) (tr wide b)) = _
  rw [bits_and wide _ _ (tr_wd wide a ha) (tr_wd wide b hb), R_tr, R_tr]; rfl
theorem ee_or (wide : Bool) (a b : Int) (ha : I64 a) (hb : I64 b) : (ee 114 wide a b).1 = M wide ((R wide a ||| R wide b : Nat) : Int) := by
  show tr wide (bits .or .i64 (tr wide a) (tr wide b)) = _
  rw [bits_or wide _ _ (tr_wd wide a ha) (tr_wd wide b hb), R_tr, R_tr]; rfl
theorem ee_xor (wide : Bool) (a b : Int) (ha : I64 a) (hb : I64 b) : (ee 115 wide a b).1 = M wide ((R wide a ^^^ R wide b : Nat) : Int) := by
  show tr wide (bits .xor .i64 (tr wide a) (tr wide b)) = _
  rw [bits_xor wide _ _ (tr_wd wide a ha) (tr_wd wide b hb), R_tr, R_tr]; rfl

theorem far_tr (wide : Bool) (b : Int) : far wide (tr wide b) = far wide b := by
  cases wide
  · simp only [far, wd_no, tr, un, Bool.false_eq_true, if_false]; omega
  · simp only [tr, if_true]

theorem M_shl (wide : Bool) (x : Int) (n : Nat) : M wide (x * 2 ^ n) = M wide ((R wide x * 2 ^ n : Nat) : Int) := by
  rw [← M_mul, ← M_R wide x, M_mul, Int.natCast_mul, Int.natCast_pow]; rfl
theorem ee_shl (wide : Bool) (a b : Int) : (ee 116 wide a b).1 = M wide ((R wide a * 2 ^ far wide b : Nat) : Int) := by
  show tr wide (sh 116 wide (tr wide a) (far wide (tr wide b))) = _
  rw [far_tr, sh_116]
  show M wide _ = _
  rw [M_shl, R_tr]
theorem ee_shr (wide : Bool) (a b : Int) (ha : I64 a) : (ee 118 wide a b).1 = M wide ((R wide a / 2 ^ far wide b : Nat) : Int) := by
  show tr wide (sh 118 wide (tr wide a) (far wide (tr wide b))) = _
  rw [far_tr, sh_118, un_R wide _ (tr_wd wide a ha), R_tr]
  show M wide _ = _
  rw [Int.natCast_ediv, Int.natCast_pow]; rfl

/-- turned to the left by n, of N bits -/
def turn (N A n : Nat) : Nat := A % 2 ^ (N - n) * 2 ^ n + A / 2 ^ (N - n)

theorem pow_split {N n : Nat} (h : n ≤ N) : 2 ^ N = 2 ^ (N - n) * 2 ^ n := by rw [← Nat.pow_add]; congr 1; omega
theorem turn_lt (N A n : Nat) (h : n ≤ N) (hA : A < 2 ^ N) : turn N A n < 2 ^ N := by
  have h1 : A % 2 ^ (N - n) < 2 ^ (N - n) := Nat.mod_lt _ (Nat.two_pow_pos _)
  have h2 : A / 2 ^ (N - n) < 2 ^ n := by
    apply Nat.div_lt_of_lt_mul; rw [← pow_split h]; exact hA
  have h3 : A % 2 ^ (N - n) * 2 ^ n + 2 ^ n ≤ 2 ^ (N - n) * 2 ^ n := by
    rw [← Nat.succ_mul]; exact Nat.mul_le_mul_right _ h1
  rw [pow_split h]
  simp only [turn]; omega
theorem turn_back (N A n : Nat) (h : n < N) (hA : A < 2 ^ N) : turn N (turn N A n) ((N - n) % N) = A := by
  by_cases h0 : n = 0
  · subst h0
    have e : (N - 0) % N = 0 := by rw [Nat.sub_zero, Nat.mod_self]
    rw [e]
    have e1 : turn N A 0 = A := by
      simp only [turn, Nat.sub_zero, Nat.pow_zero, Nat.mul_one]
      rw [Nat.mod_eq_of_lt hA, Nat.div_eq_of_lt hA, Nat.add_zero]
    rw [e1, e1]
  · have e : (N - n) % N = N - n := Nat.mod_eq_of_lt (by omega)
    have e2 : N - (N - n) = n := by omega
    have h2 : A / 2 ^ (N - n) < 2 ^ n := by
      apply Nat.div_lt_of_lt_mul; rw [← pow_split (by omega)]; exact hA
    rw [e]
    have hB1 : turn N A n % 2 ^ n = A / 2 ^ (N - n) := by
      simp only [turn]
      rw [Nat.add_comm, Nat.add_mul_mod_self_right, Nat.mod_eq_of_lt h2]
    have hB2 : turn N A n / 2 ^ n = A % 2 ^ (N - n) := by
      simp only [turn]
      rw [Nat.add_comm, Nat.add_mul_div_right _ _ (Nat.two_pow_pos n), Nat.div_eq_of_lt h2, Nat.zero_add]
    show turn N A n % 2 ^ (N - (N - n)) * 2 ^ (N - n) + turn N A n / 2 ^ (N - (N - n)) = A
    rw [e2, hB1, hB2, Nat.mul_comm]
    exact Nat.div_add_mod A (2 ^ (N - n))
end Go.Proofs.Ytfcdpjihhopfhaa
