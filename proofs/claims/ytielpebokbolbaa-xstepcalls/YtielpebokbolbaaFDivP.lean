/-
  Plain facts (no program): a number of two digits divided by one of two digits, digit by digit, as math/bits divides: the guess for a digit, its correction, the rest; the number moved so that the divisor's topmost bit is 1.
-/
import Derived.Test.YtielpebokbolbaaFMath
namespace Go.Proofs.Ytielpebokbolbaa.Fg
open Go.RowKit

/-- what holds while a digit is corrected: u·2^32 + c is divided by A, a is the guess, b the rest that goes with it -/
def K1 (y1 u c A a b : Nat) : Prop := a * y1 + b = u ∧ (u * 4294967296 + c) / A ≤ a ∧ b < 4294967296
/-- the divisor: two digits, the topmost bit is 1 -/
structure Dv (A y1 y0 : Nat) : Prop where
  eq : A = y1 * 4294967296 + y0
  low : y0 < 4294967296
  top : 2147483648 ≤ y1
  lt : y1 < 4294967296

theorem Dv.pos {A y1 y0 : Nat} (h : Dv A y1 y0) : 0 < A := by have := h.eq; have := h.top; omega
theorem mul_dv {A y1 y0 : Nat} (h : Dv A y1 y0) (a : Nat) : a * A = a * y1 * 4294967296 + a * y0 := by
  rw [h.eq, Nat.mul_add, Nat.mul_assoc]
theorem kn_start {A y1 y0 u c : Nat} (h : Dv A y1 y0) (hc : c < 4294967296) : K1 y1 u c A (u / y1) (u % y1) := by
  refine ⟨?_, ?_, Nat.lt_trans (Nat.mod_lt _ (by have := h.top; omega)) h.lt⟩
  · rw [Nat.mul_comm]; exact Nat.div_add_mod u y1
  · apply Nat.le_of_lt_succ
    rw [Nat.div_lt_iff_lt_mul h.pos]
    show _ < (u / y1 + 1) * A
    rw [mul_dv h]
    have h1 : u < (u / y1 + 1) * y1 := by
      have := Nat.div_add_mod u y1
      have h2 := Nat.mod_lt u (show 0 < y1 by have := h.top; omega)
      rw [Nat.add_mul, Nat.one_mul, Nat.mul_comm]; omega
    generalize (u / y1 + 1) * y1 = P at *
    omega
theorem kn_big {A y1 y0 u c a b : Nat} (h : Dv A y1 y0) (hc : c < 4294967296) (hu : u < A) (_k : K1 y1 u c A a b) (ha : 4294967296 ≤ a) : (u * 4294967296 + c) / A < a := by
  refine Nat.lt_of_lt_of_le ?_ ha
  rw [Nat.div_lt_iff_lt_mul h.pos]; omega
theorem kn_more {A y1 y0 u c a b : Nat} (h : Dv A y1 y0) (k : K1 y1 u c A a b) (ha : 4294967296 * b + c < a * y0) : (u * 4294967296 + c) / A < a := by
  rw [Nat.div_lt_iff_lt_mul h.pos, mul_dv h]
  have := k.1
  generalize a * y1 = P at *
  generalize a * y0 = P0 at *
  omega
theorem kn_step {A y1 u c a b : Nat} (k : K1 y1 u c A a b) (ha : (u * 4294967296 + c) / A < a) : (a - 1) * y1 + (b + y1) = u ∧ (u * 4294967296 + c) / A ≤ a - 1 := by
  have h0 : 0 < a := Nat.lt_of_le_of_lt (Nat.zero_le _) ha
  refine ⟨?_, Nat.le_sub_one_of_lt ha⟩
  clear ha
  obtain ⟨n, rfl⟩ : ∃ n, a = n + 1 := ⟨a - 1, by omega⟩
  have := k.1
  rw [Nat.add_mul, Nat.one_mul] at this
  show n * y1 + _ = _
  omega
theorem kn_end {A y1 y0 u c a b : Nat} (h : Dv A y1 y0) (k1 : a * y1 + b = u) (k2 : (u * 4294967296 + c) / A ≤ a) (ha : a * y0 ≤ 4294967296 * b + c) : a = (u * 4294967296 + c) / A := by
  apply Nat.le_antisymm _ k2
  rw [Nat.le_div_iff_mul_le h.pos, mul_dv h]
  generalize a * y1 = P at *
  generalize a * y0 = P0 at *
  omega
theorem kn_break {A y1 y0 u c a b : Nat} (h : Dv A y1 y0) (hu : u < A) (k1 : a * y1 + b = u) (k2 : (u * 4294967296 + c) / A ≤ a) (hb : 4294967296 ≤ b) : a = (u * 4294967296 + c) / A := by
  refine kn_end h k1 k2 ?_
  have e := h.eq
  have hl := h.low
  have h1 : a * y1 < 4294967296 * y1 := by generalize a * y1 = P at *; omega
  have h2 : a < 4294967296 := Nat.lt_of_mul_lt_mul_right h1
  have h3 : a * y0 ≤ a * 4294967296 := Nat.mul_le_mul_left _ (Nat.le_of_lt hl)
  generalize a * y0 = P0 at *
  omega
theorem kn_rest (A u c : Nat) : u * 4294967296 + c - (u * 4294967296 + c) / A * A = (u * 4294967296 + c) % A := by
  rw [Nat.mod_eq_sub_div_mul]
theorem kn_lt {A y1 y0 u c : Nat} (h : Dv A y1 y0) (hc : c < 4294967296) (hu : u < A) : (u * 4294967296 + c) / A < 4294967296 := by
  rw [Nat.div_lt_iff_lt_mul h.pos]; omega
/-- digit by digit is at once -/
theorem kn_two (A U c0 : Nat) (hA : 0 < A) :
    U / A * 4294967296 + (U % A * 4294967296 + c0) / A = (U * 4294967296 + c0) / A ∧ (U % A * 4294967296 + c0) % A = (U * 4294967296 + c0) % A := by
  have e : U * 4294967296 + c0 = (U % A * 4294967296 + c0) + A * (U / A * 4294967296) := by
    have h := Nat.div_add_mod U A
    have e3 : A * (U / A * 4294967296) = A * (U / A) * 4294967296 := (Nat.mul_assoc A (U / A) 4294967296).symm
    rw [e3]
    generalize A * (U / A) = P at h ⊢
    omega
  constructor
  · rw [e, Nat.add_mul_div_left _ _ hA, Nat.add_comm]
  · rw [e, Nat.add_mul_mod_self_left]
theorem two64 : (2 : Nat) ^ 64 = 18446744073709551616 := by decide
/-- the number that is divided, moved by s -/
theorem kn_move (H L s : Nat) (hs : s ≤ 64) :
    (H * 2 ^ s + L / 2 ^ (64 - s)) * 18446744073709551616 + L * 2 ^ s % 18446744073709551616 = (H * 18446744073709551616 + L) * 2 ^ s := by
  have e : L / 2 ^ (64 - s) = L * 2 ^ s / 18446744073709551616 := by
    rw [← two64, show (2 : Nat) ^ 64 = 2 ^ (64 - s) * 2 ^ s by rw [← Nat.pow_add]; congr 1; omega, Nat.mul_div_mul_right _ _ (Nat.two_pow_pos s)]
  rw [e]
  have h := Nat.div_add_mod (L * 2 ^ s) 18446744073709551616
  rw [Nat.add_mul, Nat.add_mul]
  have e2 : H * 2 ^ s * 18446744073709551616 = H * 18446744073709551616 * 2 ^ s := by rw [Nat.mul_assoc, Nat.mul_comm (2 ^ s), ← Nat.mul_assoc]
  rw [e2]
  generalize L * 2 ^ s = X at *
  generalize H * 18446744073709551616 * 2 ^ s = Z at *
  omega
theorem kn_lt_u (H L Y s : Nat) (hs : s ≤ 64) (hL : L < 18446744073709551616) (hH : H < Y) : H * 2 ^ s + L / 2 ^ (64 - s) < Y * 2 ^ s := by
  have h1 : L / 2 ^ (64 - s) < 2 ^ s := by
    apply Nat.div_lt_of_lt_mul
    rw [← Nat.pow_add, show 64 - s + s = 64 by omega, two64]; exact hL
  have h2 : (H + 1) * 2 ^ s ≤ Y * 2 ^ s := Nat.mul_le_mul_right _ hH
  rw [Nat.add_mul, Nat.one_mul] at h2
  omega
theorem wrapN (z : Int) : ∃ m : Nat, IntKind.u64.wrap z = (m : Int) ∧ (m : Int) = z % 18446744073709551616 := by
  refine ⟨(z % 18446744073709551616).toNat, ?_, ?_⟩
  · rw [un_wrap]; simp only [un]; omega
  · omega
theorem wrap_nat (n : Nat) (h : n < 18446744073709551616) : IntKind.u64.wrap (n : Int) = (n : Int) := by
  rw [un_wrap]; simp only [un]; omega
end Go.Proofs.Ytielpebokbolbaa.Fg
