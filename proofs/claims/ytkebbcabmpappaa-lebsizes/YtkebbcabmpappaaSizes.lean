/-
  A greater number never has fewer bytes; each seven bits more are one byte more; all bytes but the last one have 128 more, for all numbers: the walk of the statement LebSizes.
-/
import Derived.Test.YtkebbcabmpappaaBack
namespace Go.Proofs.Ytkebbcabmpappaa
open Go.RowKit

theorem szA_neg : ∀ (f k : Nat) (n : Int), szA f k (-n - 1) = szA f k n
  | 0, _, _ => rfl
  | f + 1, k, n => by
    rw [szA, szA]
    by_cases c : -64 ≤ n ∧ n ≤ 63
    · rw [if_pos c, if_pos (by omega)]
    · rw [if_neg c, if_neg (by omega), show (-n - 1) / 128 = -(n / 128) - 1 by omega, szA_neg f]
theorem szA_mono : ∀ (f k : Nat) (n m : Int), 0 ≤ n → n ≤ m → szA f k n ≤ szA f k m
  | 0, _, _, _, _, _ => Nat.le_refl _
  | f + 1, k, n, m, h0, h => by
    rw [szA, szA]
    by_cases c : -64 ≤ n ∧ n ≤ 63
    · rw [if_pos c]
      by_cases d : -64 ≤ m ∧ m ≤ 63
      · rw [if_pos d]; exact Nat.le_refl _
      · rw [if_neg d]; have := szA_bd f (k + 1) (m / 128); omega
    · rw [if_neg c, if_neg (by omega)]
      exact szA_mono f (k + 1) (n / 128) (m / 128) (by omega) (by omega)
theorem szA_succ : ∀ (f k : Nat) (n : Int), szA f (k + 1) n = szA f k n + 1
  | 0, _, _ => rfl
  | f + 1, k, n => by
    rw [szA, szA]
    by_cases c : -64 ≤ n ∧ n ≤ 63
    · rw [if_pos c, if_pos c]
    · rw [if_neg c, if_neg c, szA_succ f]
theorem szA_eq (f k : Nat) (n : Int) : szA (f + 1) k n = if -64 ≤ n ∧ n ≤ 63 then k + 1 else szA f (k + 1) (n / 128) := rfl
theorem szA_fuel : ∀ (f k : Nat) (n : Int), 0 ≤ n → n < 64 * 2 ^ (7 * f) → szA (f + 1) k n = szA f k n
  | 0, k, n, h0, h => by
    rw [szA, szA, if_pos (by simp at h; omega)]
  | f + 1, k, n, h0, h => by
    rw [szA_eq (f + 1) k n, szA_eq f k n]
    by_cases c : -64 ≤ n ∧ n ≤ 63
    · rw [if_pos c, if_pos c]
    · rw [if_neg c, if_neg c]
      refine szA_fuel f (k + 1) (n / 128) (by omega) ?_
      rw [pow_step] at h
      generalize (2 : Int) ^ (7 * f) = P at *
      omega
theorem szS_neg (n : Int) : szS (-n - 1) = szS n := szA_neg 9 0 n
theorem szS_mono {n m : Int} (h0 : 0 ≤ n) (h : n ≤ m) : szS n ≤ szS m := szA_mono 9 0 n m h0 h
theorem szS_shift {n : Int} (h0 : 1 ≤ n) (h : n < 36028797018963968) : szS (n * 128) = szS n + 1 := by
  unfold szS
  have e : szA 9 0 (n * 128) = szA 8 1 n := by
    rw [szA, if_neg (by omega), show n * 128 / 128 = n by omega]
  have hp : (64 : Int) * 2 ^ (7 * 8) = 4611686018427387904 := by decide
  rw [e, ← szA_succ, szA_fuel 8 1 n (by omega) (by omega)]

theorem neg_one {n : Int} (h0 : 0 ≤ n) (h1 : n ≤ 9223372036854775807) : wrap64 (-wrap64 (n + 1)) = -n - 1 := by
  rw [w64_is, w64_is]; unfold w64; omega

theorem byte_more (n : Int) (k : Nat) (h : k < (str (enc n (szS n))).size) (hs : k + 1 < szS n) : (128 : Int) ≤ ((str (enc n (szS n)))[k].toNat : Int) := by
  have hl : k < (enc n (szS n)).length := by rw [enc_length]; omega
  have := enc_more n (szS n) k hl hs
  show (128 : Int) ≤ (((enc n (szS n))[k]'hl).toNat : Int)
  omega
theorem byte_last (n : Int) (k : Nat) (h : k < (str (enc n (szS n))).size) (hs : ¬ k + 1 < szS n) : ((str (enc n (szS n)))[k].toNat : Int) < 128 := by
  have hl : k < (enc n (szS n)).length := by rw [← str_size]; exact h
  have := enc_last n (szS n) k hl hs
  show (((enc n (szS n))[k]'hl).toNat : Int) < 128
  omega
theorem len_strS (n : Int) : (str (enc n (szS n))).size = szS n := by rw [str_size, enc_length]

end Go.Proofs.Ytkebbcabmpappaa
