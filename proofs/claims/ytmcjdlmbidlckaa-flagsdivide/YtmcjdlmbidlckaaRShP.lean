/-
  Plain facts (no program): a value moved or turned by one more, bit by bit, is moved or turned by so many.
-/
import Derived.Test.YtmcjdlmbidlckaaShift
namespace Go.Proofs.Ytmcjdlmbidlckaa
open Go.RowKit

theorem turn_pq (A p q : Nat) (hp : 0 < p) (ha : A / (2 * p) < q) :
    (A % (2 * p) * q + A / (2 * p)) % (p * q) * 2 + (A % (2 * p) * q + A / (2 * p)) / (p * q) = A % p * (2 * q) + A / p := by
  have h1 := Nat.div_add_mod A (2 * p)
  generalize A / (2 * p) = a at *
  have hb := Nat.mod_lt A (show 0 < 2 * p by omega)
  generalize A % (2 * p) = b at *
  have h2 := Nat.div_add_mod b p
  have hc := Nat.mod_lt b hp
  have ht : b / p < 2 := by rw [Nat.div_lt_iff_lt_mul hp]; exact hb
  generalize b / p = t at *
  generalize b % p = c at *
  subst h2
  have e1 : A = c + p * (2 * a + t) := by
    rw [← h1, Nat.mul_add, ← Nat.mul_assoc p 2 a, Nat.mul_comm p 2]; omega
  have e2 : A / p = 2 * a + t := by rw [e1, Nat.add_mul_div_left _ _ hp, Nat.div_eq_of_lt hc, Nat.zero_add]
  have e3 : A % p = c := by rw [e1, Nat.add_mul_mod_self_left, Nat.mod_eq_of_lt hc]
  have hlt : c * q + a < p * q := by
    have : (c + 1) * q ≤ p * q := Nat.mul_le_mul_right _ hc
    rw [Nat.add_mul, Nat.one_mul] at this; omega
  have e4 : (p * t + c) * q + a = c * q + a + p * q * t := by
    rw [Nat.add_mul, Nat.mul_right_comm]; omega
  have hpq : 0 < p * q := by omega
  rw [e2, e3, e4, Nat.add_mul_div_left _ _ hpq, Nat.add_mul_mod_self_left, Nat.mod_eq_of_lt hlt, Nat.div_eq_of_lt hlt]
  have e5 : c * (2 * q) = c * q * 2 := by rw [Nat.mul_comm 2 q, Nat.mul_assoc]
  rw [e5]; omega
theorem turn_one (N A j : Nat) (hj : j < N) (hA : A < 2 ^ N) : turn N A (j + 1) = turn N A j % 2 ^ (N - 1) * 2 + turn N A j / 2 ^ (N - 1) := by
  have e1 : 2 ^ (N - j) = 2 * 2 ^ (N - (j + 1)) := by rw [show N - j = (N - (j + 1)) + 1 by omega, Nat.pow_succ]; omega
  have e2 : 2 ^ (N - 1) = 2 ^ (N - (j + 1)) * 2 ^ j := by rw [← Nat.pow_add]; congr 1; omega
  have e3 : 2 ^ (j + 1) = 2 * 2 ^ j := by rw [Nat.pow_succ]; omega
  have h := turn_pq A (2 ^ (N - (j + 1))) (2 ^ j) (Nat.two_pow_pos _) (by
    rw [← e1]; apply Nat.div_lt_of_lt_mul; rw [← pow_split (Nat.le_of_lt hj)]; exact hA)
  simp only [turn]
  rw [e1, e2, e3]; exact h.symm
theorem turn_left (N A j : Nat) (hj : j < N) (hA : A < 2 ^ N) : turn N A (N - (j + 1)) = turn N A (N - j) / 2 + turn N A (N - j) % 2 * 2 ^ (N - 1) := by
  have h := turn_one N A (N - (j + 1)) (by omega) hA
  rw [show N - (j + 1) + 1 = N - j by omega] at h
  have hl := turn_lt N A (N - (j + 1)) (by omega) hA
  rw [h]
  generalize turn N A (N - (j + 1)) = C at *
  have e : 2 ^ N = 2 ^ (N - 1) * 2 := by rw [← Nat.pow_succ]; congr 1; omega
  rw [e] at hl
  have hp := Nat.two_pow_pos (N - 1)
  generalize 2 ^ (N - 1) = p at *
  have hm := Nat.div_add_mod C p
  have ht : C / p < 2 := by rw [Nat.div_lt_iff_lt_mul hp, Nat.mul_comm]; exact hl
  have hc := Nat.mod_lt C hp
  generalize C / p = t at *
  generalize C % p = c at *
  rw [show (c * 2 + t) / 2 = c by omega, show (c * 2 + t) % 2 = t by omega, Nat.mul_comm t p]
  omega
theorem turn_zero (N A : Nat) (hA : A < 2 ^ N) : turn N A 0 = A := by
  simp only [turn, Nat.sub_zero, Nat.pow_zero, Nat.mul_one]
  rw [Nat.mod_eq_of_lt hA, Nat.div_eq_of_lt hA, Nat.add_zero]
theorem turn_all (N A : Nat) : turn N A N = A := by
  simp [turn, Nat.mod_one]

/-- a number of a width, as the program bears it -/
def val (wide : Bool) (n : Nat) : Int := M wide (n : Int)
theorem val_R (wide : Bool) (n : Nat) (h : n < 2 ^ wd wide) : R wide (val wide n) = n := by unfold val; rw [R_M, Nat.mod_eq_of_lt h]
theorem val_no (n : Nat) (h : n < 2 ^ 32) : val false n = n := by unfold val; rw [M_no]; omega
theorem val_yes (n : Nat) : val true n = wrap64 n := by unfold val; exact M_yes _
theorem or_one (x : Int) (h : I64 x) (he : x % 2 = 0) : bits .or .i64 x 1 = x + 1 := by
  rw [bits_or true x 1 h ⟨by decide, by decide⟩]
  have e : R true 1 = 1 := by decide
  have h2 : R true x % 2 = 0 := by simp only [R, md_yes]; omega
  rw [e, nat_join1 _ _ h2 (by decide)]
  obtain ⟨h3, h4⟩ := h
  simp only [R, md_yes, wrap64]; omega
theorem or_top_no (x : Int) (h0 : 0 ≤ x) (h1 : x < 2147483648) : bits .or .i64 x 2147483648 = x + 2147483648 := by
  rw [bits_or true x 2147483648 ⟨by omega, by omega⟩ ⟨by decide, by decide⟩]
  have e : R true 2147483648 = 2147483648 := by decide
  have e2 : R true x = x.toNat := by simp only [R, md_yes]; omega
  rw [e, e2, Nat.or_comm, nat_join 31 _ _ (by decide) (by omega)]
  simp only [wrap64]; omega
theorem or_top_yes (x : Int) (h0 : 0 ≤ x) (h1 : x < 9223372036854775808) : bits .or .i64 x (-9223372036854775808) = x - 9223372036854775808 := by
  rw [bits_or true x (-9223372036854775808) ⟨by omega, by omega⟩ ⟨by decide, by decide⟩]
  have e : R true (-9223372036854775808) = 9223372036854775808 := by decide
  have e2 : R true x = x.toNat := by simp only [R, md_yes]; omega
  rw [e, e2, Nat.or_comm, nat_join 63 _ _ (by decide) (by omega)]
  simp only [wrap64]; omega
end Go.Proofs.Ytmcjdlmbidlckaa
