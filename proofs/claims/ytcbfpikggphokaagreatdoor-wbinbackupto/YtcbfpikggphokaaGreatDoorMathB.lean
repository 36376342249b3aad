/-
  Plain mathematics, second part: what was written is read as it was, and of two numbers neither's bytes begin with the other's; numbers of 64 bits; no program.
-/
import Derived.Test.YtcbfpikggphokaaGreatDoorMath
namespace Go.Proofs.YtcbfpikggphokaaGreatDoor

theorem spn_char : ∀ (j f k : Nat) (l : List UInt8), j < f → (hj : j < l.length) → (∀ i (hi : i < j), 128 ≤ (l[i]'(by omega)).toNat) → l[j].toNat < 128 → spn f k l = k + j + 1
  | 0, f + 1, k, c :: r, _, _, _, h => by rw [spn, if_pos (by simpa using h)]
  | j + 1, f + 1, k, c :: r, hf, hj, hi, h => by
    have h0 := hi 0 (by omega)
    rw [spn, if_neg (by simp at h0; omega), spn_char j f (k + 1) r (by omega) (by simp at hj; omega) (fun i hh => by have := hi (i + 1) (by omega); simpa using this) (by simpa using h)]
    omega
theorem spn_none : ∀ (f k : Nat) (l : List UInt8), (∀ i (hi : i < l.length), 128 ≤ l[i].toNat) → spn f k l = 0
  | 0, _, _, _ => rfl
  | _ + 1, _, [], _ => rfl
  | f + 1, k, c :: r, h => by
    have h0 := h 0 (by simp)
    rw [spn, if_neg (by simp at h0; omega), spn_none f (k + 1) r (fun i hi => by have := h (i + 1) (by simp; omega); simpa using this)]

theorem enc_more (n : Int) (size i : Nat) (h : i < (enc n size).length) (hs : i + 1 < size) : 128 ≤ (enc n size)[i].toNat := by
  have e := enc_get n size i h
  unfold wb at e
  rw [if_pos hs] at e
  omega
theorem enc_last (n : Int) (size i : Nat) (h : i < (enc n size).length) (hs : ¬ i + 1 < size) : (enc n size)[i].toNat < 128 := by
  have e := enc_get n size i h
  unfold wb at e
  rw [if_neg hs] at e
  omega
theorem spn_enc (n : Int) (size : Nat) (r : List UInt8) (h1 : 1 ≤ size) (h10 : size ≤ 10) : spn 10 0 (enc n size ++ r) = size := by
  have hl := enc_length n size
  rw [spn_char (size - 1) 10 0 (enc n size ++ r) (by omega) (by simp [hl]; omega) (fun i hi => by
    rw [List.getElem_append_left (by omega)]
    exact enc_more n size i _ (by omega)) (by
    rw [List.getElem_append_left (by omega)]
    exact enc_last n size _ _ (by omega))]
  omega

theorem emod_step (n a : Int) (ha : 0 < a) : n % (a * 128) = n % a + n / a % 128 * a := by
  have e : n / (a * 128) = n / a / 128 := (Int.ediv_ediv_of_nonneg (Int.le_of_lt ha)).symm
  rw [Int.emod_def n (a * 128), Int.emod_def n a, Int.emod_def (n / a) 128, e, Int.sub_mul, Int.mul_assoc a, Int.mul_comm 128 (n / a / 128), Int.mul_assoc, Int.mul_comm (n / a / 128) (128 * a), Int.mul_comm 128 a, Int.mul_assoc, Int.mul_comm (n / a) a, Int.mul_comm (n / a / 128) 128]
  omega
theorem jl_enc_take (n : Int) (size : Nat) : ∀ j, j ≤ size → jl ((enc n size).take j) = n % 2 ^ (7 * j)
  | 0, _ => by simp [jl, Int.emod_one]
  | j + 1, h => by
    have hj : j < (enc n size).length := by rw [enc_length]; omega
    rw [jl_take hj, jl_enc_take n size j (by omega), enc_get n size j hj, wb_mod, pow_step, emod_step n _ (pow_pos2 _)]
theorem jl_enc (n : Int) (size : Nat) : jl (enc n size) = n % 2 ^ (7 * size) := by
  have h := jl_enc_take n size size (Nat.le_refl _)
  rwa [List.take_of_length_le (by rw [enc_length]; exact Nat.le_refl _)] at h

theorem szA_range : ∀ (f k : Nat) (n : Int), szA f k n ≤ k + f → -64 * 2 ^ (7 * (szA f k n - 1 - k)) ≤ n ∧ n < 64 * 2 ^ (7 * (szA f k n - 1 - k))
  | 0, k, n => by intro h; rw [szA] at h; omega
  | f + 1, k, n => by
    intro h
    rw [szA] at h ⊢
    by_cases c : -64 ≤ n ∧ n ≤ 63
    · rw [if_pos c] at h ⊢
      simp; omega
    · rw [if_neg c] at h ⊢
      have ih := szA_range f (k + 1) (n / 128) (by omega)
      have hb := szA_bd f (k + 1) (n / 128)
      rw [show szA f (k + 1) (n / 128) - 1 - k = (szA f (k + 1) (n / 128) - 1 - (k + 1)) + 1 by omega, pow_step]
      generalize (2 : Int) ^ (7 * (szA f (k + 1) (n / 128) - 1 - (k + 1))) = P at *
      omega
theorem pow_half (s : Nat) (h : 1 ≤ s) : (64 : Int) * 2 ^ (7 * (s - 1)) = 2 ^ (7 * s - 1) := by
  rw [show 7 * s - 1 = 6 + 7 * (s - 1) by omega, Int.pow_add]; rfl
theorem pow_whole (s : Nat) (h : 1 ≤ s) : (2 : Int) ^ (7 * s) = 2 * 2 ^ (7 * s - 1) := by
  rw [show 7 * s = 1 + (7 * s - 1) by omega, Int.pow_add]; simp
theorem szS_range (n : Int) (h : szS n ≤ 9) : -2 ^ (7 * szS n - 1) ≤ n ∧ n < 2 ^ (7 * szS n - 1) := by
  have r := szA_range 9 0 n (by unfold szS at h; omega)
  have b := szS_bd n
  have e : szA 9 0 n = szS n := rfl
  rw [e, Nat.sub_zero] at r
  rw [← pow_half _ b.1]
  omega

/-- A number of 64 bits. -/
def I64 (n : Int) : Prop := -9223372036854775808 ≤ n ∧ n ≤ 9223372036854775807

theorem vS_at (n : Int) (s : Nat) (hs : s ≤ 9) (h1 : 1 ≤ s) (h0 : -2 ^ (7 * s - 1) ≤ n) (h2 : n < 2 ^ (7 * s - 1)) : spd (w64 (n % 2 ^ (7 * s))) s = n := by
  have hq : (2 : Int) ^ (7 * s) ≤ 9223372036854775808 := by
    have : (2 : Int) ^ (7 * s) ≤ 2 ^ 63 := by exact_mod_cast Nat.pow_le_pow_right (by decide) (by omega)
    exact this
  have hp := pow_pos2 (7 * s - 1)
  have hw := pow_whole s h1
  have e1 : w64 (n % 2 ^ (7 * s)) = n % 2 ^ (7 * s) := by
    have := Int.emod_nonneg n (Int.ne_of_gt (pow_pos2 (7 * s)))
    have := Int.emod_lt_of_pos n (pow_pos2 (7 * s))
    unfold w64; omega
  rw [e1]
  unfold spd
  by_cases hn : 0 ≤ n
  · have e2 : n % 2 ^ (7 * s) = n := Int.emod_eq_of_lt hn (by omega)
    rw [e2, Int.ediv_eq_zero_of_lt hn h2, if_neg (by omega)]
  · have e2 : n % 2 ^ (7 * s) = n + 2 ^ (7 * s) := by
      rw [← Int.add_emod_right, Int.emod_eq_of_lt (by omega) (by omega)]
    have e3 : (n + 2 ^ (7 * s)) / 2 ^ (7 * s - 1) = 1 := by
      rw [hw]
      generalize (2 : Int) ^ (7 * s - 1) = P at *
      rw [show n + 2 * P = (n + P) + 1 * P by omega, Int.add_mul_ediv_right _ _ (by omega), Int.ediv_eq_zero_of_lt (by omega) (by omega)]
      rfl
    rw [e2, e3, if_pos ⟨h1, hs, rfl⟩]
    omega
theorem vS_enc (n : Int) (r : List UInt8) (hn : I64 n) : vS (enc n (szS n) ++ r) = n := by
  have b := szS_bd n
  unfold vS
  rw [spn_enc n _ r b.1 b.2, List.take_left' (enc_length _ _), jl_enc]
  by_cases h9 : szS n ≤ 9
  · have := szS_range n h9
    exact vS_at n _ h9 b.1 this.1 this.2
  · have e : szS n = 10 := by omega
    rw [e]
    have e1 : (2 : Int) ^ (7 * 10) = 1180591620717411303424 := by decide
    rw [e1]
    unfold spd
    rw [if_neg (by omega)]
    unfold I64 at hn
    unfold w64
    omega

theorem uzA_range : ∀ (f k : Nat) (n : Int), 0 ≤ n → uzA f k n ≤ k + f → n < 128 * 2 ^ (7 * (uzA f k n - 1 - k))
  | 0, k, n => by intro _ h; rw [uzA] at h; omega
  | f + 1, k, n => by
    intro h0 h
    rw [uzA] at h ⊢
    by_cases c : 0 ≤ n ∧ n ≤ 127
    · rw [if_pos c] at h ⊢
      simp; omega
    · rw [if_neg c] at h ⊢
      have ih := uzA_range f (k + 1) (n / 128) (by omega) (by omega)
      have hb := uzA_bd f (k + 1) (n / 128)
      rw [show uzA f (k + 1) (n / 128) - 1 - k = (uzA f (k + 1) (n / 128) - 1 - (k + 1)) + 1 by omega, pow_step]
      generalize (2 : Int) ^ (7 * (uzA f (k + 1) (n / 128) - 1 - (k + 1))) = P at *
      omega
theorem szU_range (n : Int) (h0 : 0 ≤ n) (h : n ≤ 9223372036854775807) : n < 2 ^ (7 * szU n) := by
  have b := szU_bd n
  by_cases h8 : szU n ≤ 8
  · have r := uzA_range 8 0 n h0 (by unfold szU at h8; omega)
    have e : uzA 8 0 n = szU n := rfl
    rw [e, Nat.sub_zero] at r
    have e2 : (2 : Int) ^ (7 * szU n) = 128 * 2 ^ (7 * (szU n - 1)) := by
      rw [show 7 * szU n = 7 + 7 * (szU n - 1) by omega, Int.pow_add]; rfl
    omega
  · have e : szU n = 9 := by omega
    rw [e]
    have e1 : (2 : Int) ^ (7 * 9) = 9223372036854775808 := by decide
    omega
/-- What stands at the head, without a sign. -/
def vU (l : List UInt8) : Int := w64 (jl (l.take (spn 10 0 l)))
theorem vU_enc (n : Int) (r : List UInt8) (h0 : 0 ≤ n) (h : n ≤ 9223372036854775807) : vU (enc n (szU n) ++ r) = n := by
  have b := szU_bd n
  unfold vU
  rw [spn_enc n _ r b.1 (by omega), List.take_left' (enc_length _ _), jl_enc, Int.emod_eq_of_lt h0 (szU_range n h0 h)]
  unfold w64
  omega

/-- Bytes that begin with the other's: then what is read of them is the same. -/
theorem split_at {a b : List UInt8} {k : Nat} (hk : k = a.length) (h : a.take k = b.take k) : b = a ++ b.drop k := by
  have e : a.take k = a := List.take_of_length_le (by omega)
  rw [← e, h, List.take_append_drop]
theorem apart_of (V : List UInt8 → Int) (E : Int → List UInt8) {n m : Int} (hn : ∀ r, V (E n ++ r) = n) (hm : ∀ r, V (E m ++ r) = m) {k : Nat} (hk : k = min (E n).length (E m).length)
    (h : (E n).take k = (E m).take k) : n = m := by
  have h1 := hn []
  have h2 := hm []
  rw [List.append_nil] at h1 h2
  rcases Nat.le_total (E n).length (E m).length with c | c
  · have := split_at (a := E n) (b := E m) (by omega) h
    rw [← hn ((E m).drop k), ← this, h2]
  · have := split_at (a := E m) (b := E n) (by omega) h.symm
    rw [← hm ((E n).drop k), ← this, h1]
theorem apartS {n m : Int} (hn : I64 n) (hm : I64 m) {k : Nat} (hk : k = min (szS n) (szS m)) : (enc n (szS n)).take k = (enc m (szS m)).take k ↔ n = m :=
  ⟨fun h => apart_of vS (fun x => enc x (szS x)) (fun r => vS_enc n r hn) (fun r => vS_enc m r hm) (by simp only [enc_length]; exact hk) h, fun h => by rw [h]⟩
theorem apartU {n m : Int} (h0 : 0 ≤ n) (h : n ≤ 9223372036854775807) (g0 : 0 ≤ m) (g : m ≤ 9223372036854775807) {k : Nat} (hk : k = min (szU n) (szU m)) : (enc n (szU n)).take k = (enc m (szU m)).take k ↔ n = m :=
  ⟨fun e => apart_of vU (fun x => enc x (szU x)) (fun r => vU_enc n r h0 h) (fun r => vU_enc m r g0 g) (by simp only [enc_length]; exact hk) e, fun e => by rw [e]⟩
end Go.Proofs.YtcbfpikggphokaaGreatDoor
