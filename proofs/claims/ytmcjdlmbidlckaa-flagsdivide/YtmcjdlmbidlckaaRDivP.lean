/-
  Plain facts (no program): a number divided bit by bit, as the document divides.
-/
import Derived.Test.YtmcjdlmbidlckaaDiv
namespace Go.Proofs.Ytmcjdlmbidlckaa
open Go.RowKit

/-- what is left of the number when c bits are still to come -/
def vc (H L K c : Nat) : Nat := (H * 2 ^ K + L) / 2 ^ c
/-- what holds then: a and b are quotient and rest of it -/
def DI (H L D K c a b : Nat) : Prop := a * D + b = vc H L K c ∧ b < D
theorem vc_start (H L K : Nat) (hL : L < 2 ^ K) : vc H L K K = H := by
  unfold vc
  rw [Nat.add_comm, Nat.add_mul_div_right _ _ (Nat.two_pow_pos K), Nat.div_eq_of_lt hL, Nat.zero_add]
theorem vc_end (H L K : Nat) : vc H L K 0 = H * 2 ^ K + L := by unfold vc; rw [Nat.pow_zero, Nat.div_one]
theorem vc_step (H L K c : Nat) (hc : c < K) : vc H L K c = 2 * vc H L K (c + 1) + L / 2 ^ c % 2 := by
  have e : vc H L K (c + 1) = vc H L K c / 2 := by unfold vc; rw [Nat.pow_succ, Nat.div_div_eq_div_mul]
  have e2 : vc H L K c % 2 = L / 2 ^ c % 2 := by
    unfold vc
    have e3 : H * 2 ^ K = H * 2 ^ (K - c) * 2 ^ c := by rw [Nat.mul_assoc, ← Nat.pow_add]; congr 2; omega
    rw [e3, Nat.add_comm, Nat.add_mul_div_right _ _ (Nat.two_pow_pos c)]
    have e4 : 2 ^ (K - c) = 2 * 2 ^ (K - c - 1) := by rw [show K - c = (K - c - 1) + 1 by omega, Nat.pow_succ]; simp only [Nat.add_sub_cancel]; omega
    rw [e4, ← Nat.mul_assoc, Nat.mul_comm H 2, Nat.mul_assoc, Nat.add_mul_mod_self_left]
  rw [e]; omega
theorem vc_lt (H L D K c : Nat) (hc : c ≤ K) (hL : L < 2 ^ K) (hH : H < D) : vc H L K c < D * 2 ^ (K - c) := by
  unfold vc
  rw [Nat.div_lt_iff_lt_mul (Nat.two_pow_pos c), Nat.mul_assoc, ← Nat.pow_add, show K - c + c = K by omega]
  have : (H + 1) * 2 ^ K ≤ D * 2 ^ K := Nat.mul_le_mul_right _ hH
  rw [Nat.add_mul, Nat.one_mul] at this
  omega
theorem di_start (H L D K : Nat) (hL : L < 2 ^ K) (hH : H < D) : DI H L D K K 0 H := by
  refine ⟨?_, hH⟩
  rw [vc_start H L K hL, Nat.zero_mul, Nat.zero_add]
theorem di_small {H L D K c a b : Nat} (hK : K ≤ 64) (hc : c < K) (hL : L < 2 ^ K) (hH : H < D) (h : DI H L D K (c + 1) a b) : a < 9223372036854775808 := by
  have h1 := vc_lt H L D K (c + 1) hc hL hH
  rw [← h.1] at h1
  have h2 : a * D < 2 ^ (K - (c + 1)) * D := by rw [Nat.mul_comm (2 ^ _)]; omega
  have h3 : a < 2 ^ (K - (c + 1)) := Nat.lt_of_mul_lt_mul_right h2
  have h4 : 2 ^ (K - (c + 1)) ≤ 2 ^ 63 := Nat.pow_le_pow_right (by decide) (by omega)
  have e63 : (2 : Nat) ^ 63 = 9223372036854775808 := by decide
  rw [e63] at h4
  exact Nat.lt_of_lt_of_le h3 h4
theorem di_more {H L D K c a b : Nat} (hc : c < K) (h : DI H L D K (c + 1) a b) (hd : D ≤ 2 * b + L / 2 ^ c % 2) : DI H L D K c (2 * a + 1) (2 * b + L / 2 ^ c % 2 - D) := by
  have hs := vc_step H L K c hc
  rw [← h.1] at hs
  have hb := h.2
  have hx : L / 2 ^ c % 2 < 2 := Nat.mod_lt _ (by decide)
  generalize L / 2 ^ c % 2 = x at *
  refine ⟨?_, by omega⟩
  rw [hs, Nat.add_mul, Nat.one_mul, Nat.mul_assoc]
  generalize a * D = P at *
  omega
theorem di_less {H L D K c a b : Nat} (hc : c < K) (h : DI H L D K (c + 1) a b) (hd : ¬ D ≤ 2 * b + L / 2 ^ c % 2) : DI H L D K c (2 * a) (2 * b + L / 2 ^ c % 2) := by
  have hs := vc_step H L K c hc
  rw [← h.1] at hs
  generalize L / 2 ^ c % 2 = x at *
  refine ⟨?_, by omega⟩
  rw [hs, Nat.mul_assoc]
  generalize a * D = P at *
  omega
theorem di_end {H L D K a b : Nat} (h : DI H L D K 0 a b) : a = (H * 2 ^ K + L) / D ∧ b = (H * 2 ^ K + L) % D := by
  have h1 := h.1
  rw [vc_end] at h1
  have hb := h.2
  rw [← h1]
  constructor
  · rw [Nat.add_comm, Nat.add_mul_div_right _ _ (by omega), Nat.div_eq_of_lt hb, Nat.zero_add]
  · rw [Nat.add_comm, Nat.add_mul_mod_self_right, Nat.mod_eq_of_lt hb]
/-- the numbers that one round of the document's Div makes -/
theorem round_facts {H L D K c a b : Nat} (hK : K ≤ 64) (hc : c < K) (hL : L < 2 ^ K) (hD : D < 18446744073709551616) (hH : H < D) (h : DI H L D K (c + 1) a b) :
    ∃ o b2 l1 x r1 a2 : Nat, (b : Int) / 9223372036854775808 = (o : Int) ∧ IntKind.u64.wrap ((b : Int) * 2) = (b2 : Int) ∧ (L : Int) / 2 ^ c = (l1 : Int) ∧ bits .and .u64 (l1 : Int) 1 = (x : Int)
      ∧ bits .or .u64 (b2 : Int) (x : Int) = (r1 : Int) ∧ IntKind.u64.wrap ((a : Int) * 2) = (a2 : Int) ∧ bits .or .u64 (a2 : Int) 1 = ((2 * a + 1 : Nat) : Int)
      ∧ a2 = 2 * a ∧ x = L / 2 ^ c % 2
      ∧ ((o = 1 ∧ IntKind.u64.wrap ((r1 : Int) - D) = ((2 * b + x - D : Nat) : Int) ∧ D ≤ 2 * b + x)
        ∨ (o = 0 ∧ r1 = 2 * b + x ∧ (D ≤ r1 → IntKind.u64.wrap ((r1 : Int) - D) = ((2 * b + x - D : Nat) : Int)))) := by
  have ha := di_small hK hc hL hH h
  have hb := h.2
  have hx : L / 2 ^ c % 2 < 2 := Nat.mod_lt _ (by decide)
  have hl1 : L / 2 ^ c < 18446744073709551616 := by
    have h1 : L / 2 ^ c ≤ L := Nat.div_le_self _ _
    have h2 : 2 ^ K ≤ 2 ^ 64 := Nat.pow_le_pow_right (by decide) hK
    rw [two64] at h2
    exact Nat.lt_of_le_of_lt h1 (Nat.lt_of_lt_of_le hL h2)
  refine ⟨b / 9223372036854775808, 2 * b % 18446744073709551616, L / 2 ^ c, L / 2 ^ c % 2, 2 * b % 18446744073709551616 + L / 2 ^ c % 2, 2 * a, ?_, ?_, ?_, ?_, ?_, ?_, ?_, rfl, rfl, ?_⟩
  · rw [Int.natCast_ediv]; rfl
  · rw [un_wrap]; simp only [un]; omega
  · rw [Int.natCast_ediv, Int.natCast_pow]; rfl
  · have e := u64_and_nat (L / 2 ^ c) 1 hl1 (by decide)
    rw [show ((1 : Nat) : Int) = 1 from rfl] at e
    rw [e, show (1 : Nat) = 2 ^ 1 - 1 by decide, Nat.and_two_pow_sub_one_eq_mod]
  · generalize L / 2 ^ c % 2 = x at hx
    rw [u64_or_nat _ _ (by omega) (by omega), nat_join1 _ _ (by omega) hx]
  · rw [un_wrap]; simp only [un]; omega
  · have e := u64_or_nat (2 * a) 1 (by omega) (by decide)
    rw [show ((1 : Nat) : Int) = 1 from rfl] at e
    rw [e, nat_join1 _ _ (by omega) (by decide)]
  · generalize L / 2 ^ c % 2 = x at hx
    by_cases h1 : b < 9223372036854775808
    · refine Or.inr ⟨by omega, by omega, fun h2 => ?_⟩
      rw [un_wrap]; simp only [un]; omega
    · refine Or.inl ⟨by omega, ?_, by omega⟩
      rw [un_wrap]; simp only [un]; omega
end Go.Proofs.Ytmcjdlmbidlckaa
