/-
  Plain: whether a cell is in a set; what clashes, gathered cell by cell. No program.
-/
import Derived.Test.YtjgaaofpfepfhaaDoorFix
namespace Go.Proofs.YtjgaaofpfepfhaaDoor
open Go.RowKit
set_option linter.unusedSimpArgs false
set_option linter.unusedVariables false
theorem bit_at {s : Nat} (n : Nat) (hs : s < lim) : (bits .and .i64 ((s : Int) / 2 ^ n) 1 == 1) = s.testBit n := by
  have e : ((s : Int) / 2 ^ n) = ((s / 2 ^ n : Nat) : Int) := by push_cast; rfl
  have h1 : s / 2 ^ n < lim := Nat.lt_of_le_of_lt (Nat.div_le_self _ _) hs
  have h2 := bits_and h1 (t := 1) (by decide)
  rw [Nat.and_one_is_mod] at h2
  rw [e, show (1 : Int) = ((1 : Nat) : Int) from rfl, h2, Nat.testBit_eq_decide_div_mod_eq]
  generalize s / 2 ^ n % 2 = z
  rw [Bool.eq_iff_iff, beq_iff_eq, decide_eq_true_eq]
  omega
/-- All cells below n. -/
def full (n : Nat) : Nat := 2 ^ n - 1
theorem full_lim {n : Nat} (h : n ≤ 60) : full n < lim := by
  unfold full
  rw [lim_is]
  have : 2 ^ n ≤ 2 ^ 60 := Nat.pow_le_pow_right (by omega) h
  have : 0 < 2 ^ n := Nat.pos_of_ne_zero (by simp)
  omega
theorem full_bit (n i : Nat) : (full n).testBit i = decide (i < n) := by unfold full; rw [Nat.testBit_two_pow_sub_one]
theorem full_is {n : Nat} (h : n ≤ 60) : IntKind.i64.wrap (wrap64 (2 ^ n) - 1) = ((full n : Nat) : Int) := by
  have h1 : (2 : Nat) ^ n ≤ 2 ^ 60 := Nat.pow_le_pow_right (by omega) h
  have h2 : 0 < 2 ^ n := Nat.pos_of_ne_zero (by simp)
  have e : ((2 : Int) ^ n) = ((2 ^ n : Nat) : Int) := by push_cast; rfl
  have h3 : (2 : Nat) ^ 60 = 1152921504606846976 := by decide
  unfold full
  rw [e, i64_wrap]
  unfold wrap64
  omega
/-- What is behind the first k that write n. -/
def acc (wr : Nat → Int) (F : Nat → Nat) (n : Nat) : Nat → Nat
  | 0 => 0
  | k + 1 => if wr k = (n : Int) then acc wr F n k ||| F k else acc wr F n k
theorem acc_is (wr : Nat → Int) (F : Nat → Nat) (n k : Nat) : acc wr F n (k + 1) = if wr k = (n : Int) then acc wr F n k ||| F k else acc wr F n k := rfl
theorem acc_lim {wr : Nat → Int} {F : Nat → Nat} {n m : Nat} (h : ∀ i, i < m → F i < lim) : ∀ k, k ≤ m → acc wr F n k < lim
  | 0, _ => by simp [acc]; decide
  | k + 1, hk => by
    unfold acc
    split
    · exact or_lim (acc_lim h k (by omega)) (h k (by omega))
    · exact acc_lim h k (by omega)
theorem acc_bit (wr : Nat → Int) (F : Nat → Nat) (n i : Nat) : ∀ k, (acc wr F n k).testBit i = (List.range k).any fun j => decide (wr j = (n : Int)) && (F j).testBit i
  | 0 => by simp [acc]
  | k + 1 => by
    rw [List.range_succ, List.any_append, ← acc_bit wr F n i k, acc_is]
    by_cases h : wr k = (n : Int)
    · rw [if_pos h, Nat.testBit_or]; simp [h]
    · rw [if_neg h]; simp [h]
/-- As far as place k, what is said of two cells is said of both, and of none with itself. -/
def mu (A : Nat → Nat → Bool) (k i j : Nat) : Bool := if i < k ∧ j < k then decide (i ≠ j) && (A i j || A j i) else A i j
/-- And of cell k with the first m. -/
def mv (A : Nat → Nat → Bool) (k m i j : Nat) : Bool :=
  if i = k ∧ j = k then false
  else if (i = k ∧ j < m) ∨ (j = k ∧ i < m) then A i j || A j i
  else mu A k i j
theorem mu_zero (A : Nat → Nat → Bool) (i j : Nat) : mu A 0 i j = A i j := by simp [mu]
theorem mv_zero (A : Nat → Nat → Bool) (k i j : Nat) : mv A k 0 i j = if i = k ∧ j = k then false else mu A k i j := by simp [mv]
theorem mv_all (A : Nat → Nat → Bool) (k i j : Nat) : mv A k k i j = mu A (k + 1) i j := by
  unfold mv mu
  by_cases hi : i = k <;> by_cases hj : j = k
  · subst hi; subst hj; simp
  · subst hi
    by_cases h : j < i
    · have : j < i + 1 := by omega
      have : i ≠ j := by omega
      simp [*]
    · have : ¬ j < i + 1 := by omega
      simp [*]
  · subst hj
    by_cases h : i < j
    · have : i < j + 1 := by omega
      simp [*]
    · have : ¬ i < j + 1 := by omega
      simp [*]
  · have e1 : (i < k + 1) ↔ i < k := by omega
    have e2 : (j < k + 1) ↔ j < k := by omega
    simp [hi, hj, e1, e2]
theorem mv_now (A : Nat → Nat → Bool) {k m : Nat} (h : m < k) : mv A k m k m = A k m ∧ mv A k m m k = A m k := by
  have h1 : ¬ m = k := by omega
  have h2 : ¬ k < m := by omega
  constructor <;> simp [mv, mu, h1, h2]
/-- Both are said of each other. -/
theorem mv_yes (A : Nat → Nat → Bool) {k m : Nat} (h : m < k) (t : (A k m || A m k) = true) (i j : Nat) : mv A k (m + 1) i j = if (i = k ∧ j = m) ∨ (i = m ∧ j = k) then true else mv A k m i j := by
  unfold mv
  by_cases h1 : i = k ∧ j = m
  · obtain ⟨rfl, rfl⟩ := h1
    have : ¬ j = i := by omega
    simp [this, t]
  · by_cases h2 : i = m ∧ j = k
    · obtain ⟨rfl, rfl⟩ := h2
      have e : ¬ i = j := by omega
      rw [Bool.or_comm] at t
      simp [e, t]
    · have e1 : ((i = k ∧ j < m + 1) ∨ (j = k ∧ i < m + 1)) ↔ ((i = k ∧ j < m) ∨ (j = k ∧ i < m)) := by omega
      rw [if_neg (c := (i = k ∧ j = m) ∨ (i = m ∧ j = k)) (by omega)]
      simp only [e1]
theorem mv_no (A : Nat → Nat → Bool) {k m : Nat} (h : m < k) (t : (A k m || A m k) = false) (i j : Nat) : mv A k (m + 1) i j = mv A k m i j := by
  unfold mv
  rw [Bool.or_eq_false_iff] at t
  by_cases h1 : i = k ∧ j = m
  · obtain ⟨rfl, rfl⟩ := h1
    have : ¬ j = i := by omega
    simp [this, t, mu]
  · by_cases h2 : i = m ∧ j = k
    · obtain ⟨rfl, rfl⟩ := h2
      have e : ¬ i = j := by omega
      simp [e, t, mu]
    · have e1 : ((i = k ∧ j < m + 1) ∨ (j = k ∧ i < m + 1)) ↔ ((i = k ∧ j < m) ∨ (j = k ∧ i < m)) := by omega
      simp only [e1]
end Go.Proofs.YtjgaaofpfepfhaaDoor
