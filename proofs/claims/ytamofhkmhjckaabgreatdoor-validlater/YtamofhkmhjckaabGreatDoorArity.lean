/-
  Plain mathematics of numbers written seven bits a byte: how many bytes a number needs, which bytes they are, how they are read again; no condition, no program.
  The program's functions that only reckon: signAlone, Size, sizeU, span and join answer what the plain functions of the text Math answer, and change nothing.
  Plain mathematics, second part: what was written is read as it was, and of two numbers neither's bytes begin with the other's; numbers of 64 bits; no program.
  The program's function Arity answers what the plain function ar answers, and Right of types whether it is one of four; they change nothing.
-/
import Derived.Test.YtamofhkmhjckaabGreatDoorRows
import Derived.WalkKit
import Derived.WalkSpells
import Derived.Handy
import Derived.PlainAid
import Derived.Laws.BitsAllLaws
namespace Go.Proofs.YtamofhkmhjckaabGreatDoor

/-- How many bytes a signed number needs, by at most so many steps, k bytes lying before. -/
def szA : Nat → Nat → Int → Nat
  | 0, k, _ => k + 1
  | f + 1, k, n => if -64 ≤ n ∧ n ≤ 63 then k + 1 else szA f (k + 1) (n / 128)
def szS (n : Int) : Nat := szA 9 0 n

/-- The same of a number without a sign. -/
def uzA : Nat → Nat → Int → Nat
  | 0, k, _ => k + 1
  | f + 1, k, n => if 0 ≤ n ∧ n ≤ 127 then k + 1 else uzA f (k + 1) (n / 128)
def szU (n : Int) : Nat := uzA 8 0 n

theorem pow_step (k : Nat) : (2 : Int) ^ (7 * (k + 1)) = 2 ^ (7 * k) * 128 := by
  rw [show 7 * (k + 1) = 7 * k + 7 by omega, Int.pow_add]; rfl
theorem pow_pos2 (k : Nat) : (0 : Int) < 2 ^ k := Int.pow_pos (by decide)
theorem div_step (n : Int) (k : Nat) : n / 2 ^ (7 * k) / 128 = n / 2 ^ (7 * (k + 1)) := by
  rw [pow_step, Int.ediv_ediv_of_nonneg (Int.le_of_lt (pow_pos2 _))]
theorem div_six (n : Int) (k : Nat) : n / 2 ^ (7 * k + 6) = n / 2 ^ (7 * k) / 64 := by
  rw [Int.pow_add, Int.ediv_ediv_of_nonneg (Int.le_of_lt (pow_pos2 _))]; rfl
theorem div_seven (n : Int) (k : Nat) : n / 2 ^ (7 * k + 7) = n / 2 ^ (7 * k) / 128 := by
  rw [Int.pow_add, Int.ediv_ediv_of_nonneg (Int.le_of_lt (pow_pos2 _))]; rfl
theorem div_zero (n : Int) : n / 2 ^ (7 * 0) = n := by simp

theorem szA_go {n : Int} {k : Nat} (hk : k < 9) (h : szS n = szA (9 - k) k (n / 2 ^ (7 * k))) (hno : ¬ (-64 ≤ n / 2 ^ (7 * k) ∧ n / 2 ^ (7 * k) ≤ 63)) :
    szS n = szA (9 - (k + 1)) (k + 1) (n / 2 ^ (7 * (k + 1))) := by
  rw [h, show 9 - k = (9 - (k + 1)) + 1 by omega, szA, if_neg hno, div_step]
theorem szA_yes {n : Int} {k : Nat} (hk : k < 9) (h : szS n = szA (9 - k) k (n / 2 ^ (7 * k))) (hy : -64 ≤ n / 2 ^ (7 * k) ∧ n / 2 ^ (7 * k) ≤ 63) :
    szS n = k + 1 := by
  rw [h, show 9 - k = (9 - (k + 1)) + 1 by omega, szA, if_pos hy]
theorem szA_end {n : Int} {k : Nat} (hk : ¬ k < 9) (h9 : k ≤ 9) (h : szS n = szA (9 - k) k (n / 2 ^ (7 * k))) : szS n = 10 := by
  have : k = 9 := by omega
  subst this
  rw [h]; rfl
theorem uzA_go {n : Int} {k : Nat} (hk : k < 8) (h : szU n = uzA (8 - k) k (n / 2 ^ (7 * k))) (hno : ¬ (0 ≤ n / 2 ^ (7 * k) ∧ n / 2 ^ (7 * k) ≤ 127)) :
    szU n = uzA (8 - (k + 1)) (k + 1) (n / 2 ^ (7 * (k + 1))) := by
  rw [h, show 8 - k = (8 - (k + 1)) + 1 by omega, uzA, if_neg hno, div_step]
theorem uzA_yes {n : Int} {k : Nat} (hk : k < 8) (h : szU n = uzA (8 - k) k (n / 2 ^ (7 * k))) (hy : 0 ≤ n / 2 ^ (7 * k) ∧ n / 2 ^ (7 * k) ≤ 127) :
    szU n = k + 1 := by
  rw [h, show 8 - k = (8 - (k + 1)) + 1 by omega, uzA, if_pos hy]
theorem uzA_end {n : Int} {k : Nat} (hk : ¬ k < 8) (h8 : k ≤ 8) (h : szU n = uzA (8 - k) k (n / 2 ^ (7 * k))) : szU n = 9 := by
  have : k = 8 := by omega
  subst this
  rw [h]; rfl

theorem szA_bd : ∀ f k n, k + 1 ≤ szA f k n ∧ szA f k n ≤ k + f + 1
  | 0, k, n => by simp [szA]
  | f + 1, k, n => by
    rw [szA]
    split
    · omega
    · have := szA_bd f (k + 1) (n / 128); omega
theorem szS_bd (n : Int) : 1 ≤ szS n ∧ szS n ≤ 10 := by have := szA_bd 9 0 n; unfold szS; omega
theorem uzA_bd : ∀ f k n, k + 1 ≤ uzA f k n ∧ uzA f k n ≤ k + f + 1
  | 0, k, n => by simp [uzA]
  | f + 1, k, n => by
    rw [uzA]
    split
    · omega
    · have := uzA_bd f (k + 1) (n / 128); omega
theorem szU_bd (n : Int) : 1 ≤ szU n ∧ szU n ≤ 9 := by have := uzA_bd 8 0 n; unfold szU; omega

/-- A byte out of a number. -/
def byI (x : Int) : UInt8 := UInt8.ofNat x.toNat
theorem byI_val {x : Int} (h0 : 0 ≤ x) (h1 : x ≤ 255) : ((byI x).toNat : Int) = x := by
  unfold byI
  rw [UInt8.toNat_ofNat_of_lt' (by simp [UInt8.size]; omega)]; omega

/-- Byte i of n written in so many bytes. -/
def wb (n : Int) (size i : Nat) : Int := if i + 1 < size then n / 2 ^ (7 * i) % 128 + 128 else n / 2 ^ (7 * i) % 128
theorem wb_bd (n : Int) (size i : Nat) : 0 ≤ wb n size i ∧ wb n size i ≤ 255 := by unfold wb; split <;> omega
theorem wb_mod (n : Int) (size i : Nat) : wb n size i % 128 = n / 2 ^ (7 * i) % 128 := by unfold wb; split <;> omega
/-- n written in so many bytes. -/
def enc (n : Int) (size : Nat) : List UInt8 := (List.range size).map fun i => byI (wb n size i)
theorem enc_length (n : Int) (size : Nat) : (enc n size).length = size := by simp [enc]
theorem enc_get (n : Int) (size i : Nat) (h : i < (enc n size).length) : ((enc n size)[i].toNat : Int) = wb n size i := by
  simp only [enc, List.getElem_map, List.getElem_range]
  have := wb_bd n size i
  exact byI_val this.1 this.2

/-- How many bytes the number has that begins here (f: how many it may have; k lie before); 0: none. -/
def spn : Nat → Nat → List UInt8 → Nat
  | 0, _, _ => 0
  | _ + 1, _, [] => 0
  | f + 1, k, c :: r => if c.toNat < 128 then k + 1 else spn f (k + 1) r
theorem spn_go {l : List UInt8} {k : Nat} (hk : k < 10) (hl : k < l.length) (h : spn 10 0 l = spn (10 - k) k (l.drop k)) (hno : 128 ≤ (l[k].toNat : Int)) :
    spn 10 0 l = spn (10 - (k + 1)) (k + 1) (l.drop (k + 1)) := by
  rw [h, show 10 - k = (10 - (k + 1)) + 1 by omega, List.drop_eq_getElem_cons hl, spn, if_neg (by omega)]
theorem spn_yes {l : List UInt8} {k : Nat} (hk : k < 10) (hl : k < l.length) (h : spn 10 0 l = spn (10 - k) k (l.drop k)) (hy : (l[k].toNat : Int) < 128) :
    spn 10 0 l = k + 1 := by
  rw [h, show 10 - k = (10 - (k + 1)) + 1 by omega, List.drop_eq_getElem_cons hl, spn, if_pos (by omega)]
theorem spn_end {l : List UInt8} {k : Nat} (hk : ¬ (k < 10 ∧ k < l.length)) (h : spn 10 0 l = spn (10 - k) k (l.drop k)) : spn 10 0 l = 0 := by
  rw [h]
  by_cases h10 : k < 10
  · rw [List.drop_of_length_le (by omega), show 10 - k = (10 - (k + 1)) + 1 by omega, spn]
  · rw [show 10 - k = 0 by omega, spn]
theorem spn_le : ∀ f k l, spn f k l ≤ k + l.length ∧ spn f k l ≤ k + f
  | 0, k, l => by simp [spn]
  | f + 1, k, [] => by simp [spn]
  | f + 1, k, c :: r => by
    rw [spn]
    split
    · simp
    · have := spn_le f (k + 1) r; simp; omega
theorem span_le (l : List UInt8) : spn 10 0 l ≤ l.length ∧ spn 10 0 l ≤ 10 := by have := spn_le 10 0 l; omega

/-- The bytes' seven bits put together. -/
def jl : List UInt8 → Int
  | [] => 0
  | c :: r => (c.toNat : Int) % 128 + 128 * jl r
theorem jl_snoc : ∀ (l : List UInt8) (c : UInt8), jl (l ++ [c]) = jl l + (c.toNat : Int) % 128 * 2 ^ (7 * l.length)
  | [], c => by simp [jl]
  | a :: l, c => by
    simp only [List.cons_append, jl, jl_snoc l c, List.length_cons, pow_step, Int.mul_add, Int.add_assoc]
    congr 2
    rw [← Int.mul_assoc, Int.mul_comm 128, Int.mul_assoc, Int.mul_comm 128]
theorem jl_bd : ∀ l : List UInt8, 0 ≤ jl l ∧ jl l < 2 ^ (7 * l.length)
  | [] => by simp [jl]
  | c :: l => by
    have := jl_bd l
    simp only [jl, List.length_cons, pow_step]
    omega
theorem jl_take {l : List UInt8} {k : Nat} (hk : k < l.length) : jl (l.take (k + 1)) = jl (l.take k) + (l[k].toNat : Int) % 128 * 2 ^ (7 * k) := by
  rw [List.take_succ_eq_append_getElem hk, jl_snoc, List.length_take_of_le (by omega)]

/-- 64 bits, signed. -/
def w64 (x : Int) : Int := (x + 9223372036854775808) % 18446744073709551616 - 9223372036854775808

/-- The uppermost bit that so many bytes have, spread over all above. -/
def spd (n : Int) (size : Nat) : Int := if 1 ≤ size ∧ size ≤ 9 ∧ n / 2 ^ (7 * size - 1) % 2 = 1 then n - 2 ^ (7 * size) else n

/-- What is read, without a sign. -/
def tkU (l : List UInt8) (bits : Int) : Int × List UInt8 × Int :=
  if bits < 1 ∨ 63 < bits then (0, [], 4)
  else if 0 ≤ w64 (jl (l.take (spn 10 0 l))) ∧ enc (w64 (jl (l.take (spn 10 0 l)))) (szU (w64 (jl (l.take (spn 10 0 l))))) = l.take (spn 10 0 l) ∧ w64 (jl (l.take (spn 10 0 l))) / 2 ^ bits.toNat = 0
    then (w64 (jl (l.take (spn 10 0 l))), l.drop (spn 10 0 l), 0) else (0, [], 6)
/-- The number that stands at the head, with a sign, whatever its form. -/
def vS (l : List UInt8) : Int := spd (w64 (jl (l.take (spn 10 0 l)))) (spn 10 0 l)
/-- What is read, with a sign. -/
def tkS (l : List UInt8) (bits : Int) : Int × List UInt8 × Int :=
  if bits < 1 ∨ 64 < bits then (0, [], 4)
  else if enc (vS l) (szS (vS l)) = l.take (spn 10 0 l) ∧ (vS l / 2 ^ (bits.toNat - 1) = 0 ∨ vS l / 2 ^ (bits.toNat - 1) = -1)
    then (vS l, l.drop (spn 10 0 l), 0) else (0, [], 6)
end Go.Proofs.YtamofhkmhjckaabGreatDoor
namespace Go.Proofs.YtamofhkmhjckaabGreatDoor
open Go.RowKit

theorem hide {p : Prop} (h : p) : Hid p := h
theorem ret_int {k : IntKind} {a b : Int} (h : a = b) : Ending.returned (.int k a) = .returned (.int k b) := by rw [h]

end Go.Proofs.YtamofhkmhjckaabGreatDoor
namespace Go.Proofs.YtamofhkmhjckaabGreatDoor

theorem spn_char : ∀ (j f k : Nat) (l : List UInt8), j < f → (hj : j < l.length) → (∀ i (hi : i < j), 128 ≤ (l[i]'(by omega)).toNat) → l[j].toNat < 128 → spn f k l = k + j + 1
  | 0, f + 1, k, c :: r, _, _, _, h => by rw [spn, if_pos (by simpa using h)]
  | j + 1, f + 1, k, c :: r, hf, hj, hi, h => by
    have h0 := hi 0 (by omega)
    rw [spn, if_neg (by simp at h0; omega), spn_char j f (k + 1) r (by omega) (by simp at hj; omega) (fun i hh => by have := hi (i + 1) (by omega); simpa using this) (by simpa using h)]
    omega
theorem spn_none : ∀ (f k : Nat) (l : List UInt8), (∀ i (hi : i < l.length), 128 ≤ l[i].toNat) → spn f k l = 0
  | 0, _, _, _ => rfl
  | _ + 1, _, [], _ => rfl
  | f + 1, k, c :: r, h => by
    have h0 := h 0 (by simp)
    rw [spn, if_neg (by simp at h0; omega), spn_none f (k + 1) r (fun i hi => by have := h (i + 1) (by simp; omega); simpa using this)]

theorem enc_more (n : Int) (size i : Nat) (h : i < (enc n size).length) (hs : i + 1 < size) : 128 ≤ (enc n size)[i].toNat := by
  have e := enc_get n size i h
  unfold wb at e
  rw [if_pos hs] at e
  omega
theorem enc_last (n : Int) (size i : Nat) (h : i < (enc n size).length) (hs : ¬ i + 1 < size) : (enc n size)[i].toNat < 128 := by
  have e := enc_get n size i h
  unfold wb at e
  rw [if_neg hs] at e
  omega
theorem spn_enc (n : Int) (size : Nat) (r : List UInt8) (h1 : 1 ≤ size) (h10 : size ≤ 10) : spn 10 0 (enc n size ++ r) = size := by
  have hl := enc_length n size
  rw [spn_char (size - 1) 10 0 (enc n size ++ r) (by omega) (by simp [hl]; omega) (fun i hi => by
    rw [List.getElem_append_left (by omega)]
    exact enc_more n size i _ (by omega)) (by
    rw [List.getElem_append_left (by omega)]
    exact enc_last n size _ _ (by omega))]
  omega

theorem emod_step (n a : Int) (ha : 0 < a) : n % (a * 128) = n % a + n / a % 128 * a := by
  have e : n / (a * 128) = n / a / 128 := (Int.ediv_ediv_of_nonneg (Int.le_of_lt ha)).symm
  rw [Int.emod_def n (a * 128), Int.emod_def n a, Int.emod_def (n / a) 128, e, Int.sub_mul, Int.mul_assoc a, Int.mul_comm 128 (n / a / 128), Int.mul_assoc, Int.mul_comm (n / a / 128) (128 * a), Int.mul_comm 128 a, Int.mul_assoc, Int.mul_comm (n / a) a, Int.mul_comm (n / a / 128) 128]
  omega
theorem jl_enc_take (n : Int) (size : Nat) : ∀ j, j ≤ size → jl ((enc n size).take j) = n % 2 ^ (7 * j)
  | 0, _ => by simp [jl, Int.emod_one]
  | j + 1, h => by
    have hj : j < (enc n size).length := by rw [enc_length]; omega
    rw [jl_take hj, jl_enc_take n size j (by omega), enc_get n size j hj, wb_mod, pow_step, emod_step n _ (pow_pos2 _)]
theorem jl_enc (n : Int) (size : Nat) : jl (enc n size) = n % 2 ^ (7 * size) := by
  have h := jl_enc_take n size size (Nat.le_refl _)
  rwa [List.take_of_length_le (by rw [enc_length]; exact Nat.le_refl _)] at h

theorem szA_range : ∀ (f k : Nat) (n : Int), szA f k n ≤ k + f → -64 * 2 ^ (7 * (szA f k n - 1 - k)) ≤ n ∧ n < 64 * 2 ^ (7 * (szA f k n - 1 - k))
  | 0, k, n => by intro h; rw [szA] at h; omega
  | f + 1, k, n => by
    intro h
    rw [szA] at h ⊢
    by_cases c : -64 ≤ n ∧ n ≤ 63
    · rw [if_pos c] at h ⊢
      simp; omega
    · rw [if_neg c] at h ⊢
      have ih := szA_range f (k + 1) (n / 128) (by omega)
      have hb := szA_bd f (k + 1) (n / 128)
      rw [show szA f (k + 1) (n / 128) - 1 - k = (szA f (k + 1) (n / 128) - 1 - (k + 1)) + 1 by omega, pow_step]
      generalize (2 : Int) ^ (7 * (szA f (k + 1) (n / 128) - 1 - (k + 1))) = P at *
      omega
theorem pow_half (s : Nat) (h : 1 ≤ s) : (64 : Int) * 2 ^ (7 * (s - 1)) = 2 ^ (7 * s - 1) := by
  rw [show 7 * s - 1 = 6 + 7 * (s - 1) by omega, Int.pow_add]; rfl
theorem pow_whole (s : Nat) (h : 1 ≤ s) : (2 : Int) ^ (7 * s) = 2 * 2 ^ (7 * s - 1) := by
  rw [show 7 * s = 1 + (7 * s - 1) by omega, Int.pow_add]; simp
theorem szS_range (n : Int) (h : szS n ≤ 9) : -2 ^ (7 * szS n - 1) ≤ n ∧ n < 2 ^ (7 * szS n - 1) := by
  have r := szA_range 9 0 n (by unfold szS at h; omega)
  have b := szS_bd n
  have e : szA 9 0 n = szS n := rfl
  rw [e, Nat.sub_zero] at r
  rw [← pow_half _ b.1]
  omega

/-- A number of 64 bits. -/
def I64 (n : Int) : Prop := -9223372036854775808 ≤ n ∧ n ≤ 9223372036854775807

theorem vS_at (n : Int) (s : Nat) (hs : s ≤ 9) (h1 : 1 ≤ s) (h0 : -2 ^ (7 * s - 1) ≤ n) (h2 : n < 2 ^ (7 * s - 1)) : spd (w64 (n % 2 ^ (7 * s))) s = n := by
  have hq : (2 : Int) ^ (7 * s) ≤ 9223372036854775808 := by
    have : (2 : Int) ^ (7 * s) ≤ 2 ^ 63 := by exact_mod_cast Nat.pow_le_pow_right (by decide) (by omega)
    exact this
  have hp := pow_pos2 (7 * s - 1)
  have hw := pow_whole s h1
  have e1 : w64 (n % 2 ^ (7 * s)) = n % 2 ^ (7 * s) := by
    have := Int.emod_nonneg n (Int.ne_of_gt (pow_pos2 (7 * s)))
    have := Int.emod_lt_of_pos n (pow_pos2 (7 * s))
    unfold w64; omega
  rw [e1]
  unfold spd
  by_cases hn : 0 ≤ n
  · have e2 : n % 2 ^ (7 * s) = n := Int.emod_eq_of_lt hn (by omega)
    rw [e2, Int.ediv_eq_zero_of_lt hn h2, if_neg (by omega)]
  · have e2 : n % 2 ^ (7 * s) = n + 2 ^ (7 * s) := by
      rw [← Int.add_emod_right, Int.emod_eq_of_lt (by omega) (by omega)]
    have e3 : (n + 2 ^ (7 * s)) / 2 ^ (7 * s - 1) = 1 := by
      rw [hw]
      generalize (2 : Int) ^ (7 * s - 1) = P at *
      rw [show n + 2 * P = (n + P) + 1 * P by omega, Int.add_mul_ediv_right _ _ (by omega), Int.ediv_eq_zero_of_lt (by omega) (by omega)]
      rfl
    rw [e2, e3, if_pos ⟨h1, hs, rfl⟩]
    omega
theorem vS_enc (n : Int) (r : List UInt8) (hn : I64 n) : vS (enc n (szS n) ++ r) = n := by
  have b := szS_bd n
  unfold vS
  rw [spn_enc n _ r b.1 b.2, List.take_left' (enc_length _ _), jl_enc]
  by_cases h9 : szS n ≤ 9
  · have := szS_range n h9
    exact vS_at n _ h9 b.1 this.1 this.2
  · have e : szS n = 10 := by omega
    rw [e]
    have e1 : (2 : Int) ^ (7 * 10) = 1180591620717411303424 := by decide
    rw [e1]
    unfold spd
    rw [if_neg (by omega)]
    unfold I64 at hn
    unfold w64
    omega

theorem uzA_range : ∀ (f k : Nat) (n : Int), 0 ≤ n → uzA f k n ≤ k + f → n < 128 * 2 ^ (7 * (uzA f k n - 1 - k))
  | 0, k, n => by intro _ h; rw [uzA] at h; omega
  | f + 1, k, n => by
    intro h0 h
    rw [uzA] at h ⊢
    by_cases c : 0 ≤ n ∧ n ≤ 127
    · rw [if_pos c] at h ⊢
      simp; omega
    · rw [if_neg c] at h ⊢
      have ih := uzA_range f (k + 1) (n / 128) (by omega) (by omega)
      have hb := uzA_bd f (k + 1) (n / 128)
      rw [show uzA f (k + 1) (n / 128) - 1 - k = (uzA f (k + 1) (n / 128) - 1 - (k + 1)) + 1 by omega, pow_step]
      generalize (2 : Int) ^ (7 * (uzA f (k + 1) (n / 128) - 1 - (k + 1))) = P at *
      omega
theorem szU_range (n : Int) (h0 : 0 ≤ n) (h : n ≤ 9223372036854775807) : n < 2 ^ (7 * szU n) := by
  have b := szU_bd n
  by_cases h8 : szU n ≤ 8
  · have r := uzA_range 8 0 n h0 (by unfold szU at h8; omega)
    have e : uzA 8 0 n = szU n := rfl
    rw [e, Nat.sub_zero] at r
    have e2 : (2 : Int) ^ (7 * szU n) = 128 * 2 ^ (7 * (szU n - 1)) := by
      rw [show 7 * szU n = 7 + 7 * (szU n - 1) by omega, Int.pow_add]; rfl
    omega
  · have e : szU n = 9 := by omega
    rw [e]
    have e1 : (2 : Int) ^ (7 * 9) = 9223372036854775808 := by decide
    omega
/-- What stands at the head, without a sign. -/
def vU (l : List UInt8) : Int := w64 (jl (l.take (spn 10 0 l)))
theorem vU_enc (n : Int) (r : List UInt8) (h0 : 0 ≤ n) (h : n ≤ 9223372036854775807) : vU (enc n (szU n) ++ r) = n := by
  have b := szU_bd n
  unfold vU
  rw [spn_enc n _ r b.1 (by omega), List.take_left' (enc_length _ _), jl_enc, Int.emod_eq_of_lt h0 (szU_range n h0 h)]
  unfold w64
  omega

/-- Bytes that begin with the other's: then what is read of them is the same. -/
theorem split_at {a b : List UInt8} {k : Nat} (hk : k = a.length) (h : a.take k = b.take k) : b = a ++ b.drop k := by
  have e : a.take k = a := List.take_of_length_le (by omega)
  rw [← e, h, List.take_append_drop]
theorem apart_of (V : List UInt8 → Int) (E : Int → List UInt8) {n m : Int} (hn : ∀ r, V (E n ++ r) = n) (hm : ∀ r, V (E m ++ r) = m) {k : Nat} (hk : k = min (E n).length (E m).length)
    (h : (E n).take k = (E m).take k) : n = m := by
  have h1 := hn []
  have h2 := hm []
  rw [List.append_nil] at h1 h2
  rcases Nat.le_total (E n).length (E m).length with c | c
  · have := split_at (a := E n) (b := E m) (by omega) h
    rw [← hn ((E m).drop k), ← this, h2]
  · have := split_at (a := E m) (b := E n) (by omega) h.symm
    rw [← hm ((E n).drop k), ← this, h1]
theorem apartS {n m : Int} (hn : I64 n) (hm : I64 m) {k : Nat} (hk : k = min (szS n) (szS m)) : (enc n (szS n)).take k = (enc m (szS m)).take k ↔ n = m :=
  ⟨fun h => apart_of vS (fun x => enc x (szS x)) (fun r => vS_enc n r hn) (fun r => vS_enc m r hm) (by simp only [enc_length]; exact hk) h, fun h => by rw [h]⟩
theorem apartU {n m : Int} (h0 : 0 ≤ n) (h : n ≤ 9223372036854775807) (g0 : 0 ≤ m) (g : m ≤ 9223372036854775807) {k : Nat} (hk : k = min (szU n) (szU m)) : (enc n (szU n)).take k = (enc m (szU m)).take k ↔ n = m :=
  ⟨fun e => apart_of vU (fun x => enc x (szU x)) (fun r => vU_enc n r h0 h) (fun r => vU_enc m r g0 g) (by simp only [enc_length]; exact hk) e, fun e => by rw [e]⟩
end Go.Proofs.YtamofhkmhjckaabGreatDoor
namespace Go.Proofs.YtamofhkmhjckaabGreatDoor
open Go.RowKit

theorem within_yes (a b c : Int) (w : World) (h : b ≤ a ∧ a ≤ c) :
    Calls Tryz.prog 100 #[.int .i64 a, .int .i64 b, .int .i64 c] w fun e w' => e = .returned (.bool true) ∧ w' = w := by
  obtain ⟨h1, h2⟩ := h
  go_enter Tryz.func100, Tryz.ntmps100
  go_wp2
  go_ret
  exact ⟨rfl, rfl⟩
theorem within_no (a b c : Int) (w : World) (h : ¬ (b ≤ a ∧ a ≤ c)) :
    Calls Tryz.prog 100 #[.int .i64 a, .int .i64 b, .int .i64 c] w fun e w' => e = .returned (.bool false) ∧ w' = w := by
  by_cases h1 : b ≤ a
  · have h2 : decide (a ≤ c) = false := by simp; omega
    clear h
    go_enter Tryz.func100, Tryz.ntmps100
    go_wp2
    go_ret
    exact ⟨rfl, rfl⟩
  · clear h
    go_enter Tryz.func100, Tryz.ntmps100
    go_wp2
    go_ret
    exact ⟨rfl, rfl⟩
def ar (op : Int) : Int × Int × Int × Bool :=
  if op = 69 then (1, 0, 0, true) else if op = 80 ∨ op = 167 then (1, 1, 0, true) else if op = 172 ∨ op = 173 then (1, 0, 1, true)
  else if (70 ≤ op ∧ op ≤ 79) ∨ (106 ≤ op ∧ op ≤ 120) then (2, 0, 0, true) else if 81 ≤ op ∧ op ≤ 90 then (2, 1, 0, true)
  else if 124 ≤ op ∧ op ≤ 138 then (2, 1, 1, true) else (0, 0, 0, false)

/-- the four results, as the call hands them back -/
def four (r : Int × Int × Int × Bool) : Ending := .returned (.tuple #[.int .i64 r.1, .int .i64 r.2.1, .int .i64 r.2.2.1, .bool r.2.2.2])

theorem results_tmp4 {fn : Func} {s t u v : Tmp} (h : fn.results = #[.tmp s, .tmp t, .tmp u, .tmp v]) (tmps : Array Value) (P : Program) (w : World) :
    (results fn tmps).run P w = .ok (.tuple #[tmps.getD s undef, tmps.getD t undef, tmps.getD u undef, tmps.getD v undef]) w := by
  simp [results, h]
theorem arity_69 (w : World) :
    Calls Tryz.prog 94 #[.int .i64 69] w fun e w' => e = four (1, 0, 0, true) ∧ w' = w := by
  go_enter Tryz.func94, Tryz.ntmps94
  go_wp2_with fail
  (try simp only [Exit.inBlock, Exit.then])
  refine bodyPost_ret (results_tmp4 rfl _ _ _) rfl ?_
  exact ⟨rfl, rfl⟩
theorem arity_80 (w : World) :
    Calls Tryz.prog 94 #[.int .i64 80] w fun e w' => e = four (1, 1, 0, true) ∧ w' = w := by
  go_enter Tryz.func94, Tryz.ntmps94
  go_wp2_with fail
  (try simp only [Exit.inBlock, Exit.then])
  refine bodyPost_ret (results_tmp4 rfl _ _ _) rfl ?_
  exact ⟨rfl, rfl⟩
theorem arity_167 (w : World) :
    Calls Tryz.prog 94 #[.int .i64 167] w fun e w' => e = four (1, 1, 0, true) ∧ w' = w := by
  go_enter Tryz.func94, Tryz.ntmps94
  go_wp2_with fail
  (try simp only [Exit.inBlock, Exit.then])
  refine bodyPost_ret (results_tmp4 rfl _ _ _) rfl ?_
  exact ⟨rfl, rfl⟩
theorem arity_172 (w : World) :
    Calls Tryz.prog 94 #[.int .i64 172] w fun e w' => e = four (1, 0, 1, true) ∧ w' = w := by
  go_enter Tryz.func94, Tryz.ntmps94
  go_wp2_with fail
  (try simp only [Exit.inBlock, Exit.then])
  refine bodyPost_ret (results_tmp4 rfl _ _ _) rfl ?_
  exact ⟨rfl, rfl⟩
theorem arity_173 (w : World) :
    Calls Tryz.prog 94 #[.int .i64 173] w fun e w' => e = four (1, 0, 1, true) ∧ w' = w := by
  go_enter Tryz.func94, Tryz.ntmps94
  go_wp2_with fail
  (try simp only [Exit.inBlock, Exit.then])
  refine bodyPost_ret (results_tmp4 rfl _ _ _) rfl ?_
  exact ⟨rfl, rfl⟩
theorem arity_c32 (op : Int) (w : World) (h : 70 ≤ op ∧ op ≤ 79) :
    Calls Tryz.prog 94 #[.int .i64 op] w fun e w' => e = four (2, 0, 0, true) ∧ w' = w := by
  have n1 : (op == 69) = false := by simp; omega
  have n2 : (op == 80) = false := by simp; omega
  have n3 : (op == 167) = false := by simp; omega
  have n4 : (op == 172) = false := by simp; omega
  have n5 : (op == 173) = false := by simp; omega
  have h' := hide h
  clear h
  go_enter Tryz.func94, Tryz.ntmps94
  go_wp2_with fail
  refine (within_yes _ _ _ _ (by have := h'.out; omega)).mono ?_
  rintro e w1 ⟨rfl, rfl⟩
  go_wp2_with fail
  (try simp only [Exit.inBlock, Exit.then])
  refine bodyPost_ret (results_tmp4 rfl _ _ _) rfl ?_
  exact ⟨rfl, rfl⟩
theorem arity_s32 (op : Int) (w : World) (h : 106 ≤ op ∧ op ≤ 120) :
    Calls Tryz.prog 94 #[.int .i64 op] w fun e w' => e = four (2, 0, 0, true) ∧ w' = w := by
  have n1 : (op == 69) = false := by simp; omega
  have n2 : (op == 80) = false := by simp; omega
  have n3 : (op == 167) = false := by simp; omega
  have n4 : (op == 172) = false := by simp; omega
  have n5 : (op == 173) = false := by simp; omega
  have h' := hide h
  clear h
  go_enter Tryz.func94, Tryz.ntmps94
  go_wp2_with fail
  refine (within_no _ _ _ _ (by have := h'.out; omega)).mono ?_
  rintro e w1 ⟨rfl, rfl⟩
  go_wp2_with fail
  refine (within_yes _ _ _ _ (by have := h'.out; omega)).mono ?_
  rintro e w1 ⟨rfl, rfl⟩
  go_wp2_with fail
  (try simp only [Exit.inBlock, Exit.then])
  refine bodyPost_ret (results_tmp4 rfl _ _ _) rfl ?_
  exact ⟨rfl, rfl⟩
theorem arity_c64 (op : Int) (w : World) (h : 81 ≤ op ∧ op ≤ 90) :
    Calls Tryz.prog 94 #[.int .i64 op] w fun e w' => e = four (2, 1, 0, true) ∧ w' = w := by
  have n1 : (op == 69) = false := by simp; omega
  have n2 : (op == 80) = false := by simp; omega
  have n3 : (op == 167) = false := by simp; omega
  have n4 : (op == 172) = false := by simp; omega
  have n5 : (op == 173) = false := by simp; omega
  have h' := hide h
  clear h
  go_enter Tryz.func94, Tryz.ntmps94
  go_wp2_with fail
  refine (within_no _ _ _ _ (by have := h'.out; omega)).mono ?_
  rintro e w1 ⟨rfl, rfl⟩
  go_wp2_with fail
  refine (within_no _ _ _ _ (by have := h'.out; omega)).mono ?_
  rintro e w1 ⟨rfl, rfl⟩
  go_wp2_with fail
  refine (within_yes _ _ _ _ (by have := h'.out; omega)).mono ?_
  rintro e w1 ⟨rfl, rfl⟩
  go_wp2_with fail
  (try simp only [Exit.inBlock, Exit.then])
  refine bodyPost_ret (results_tmp4 rfl _ _ _) rfl ?_
  exact ⟨rfl, rfl⟩
theorem arity_s64 (op : Int) (w : World) (h : 124 ≤ op ∧ op ≤ 138) :
    Calls Tryz.prog 94 #[.int .i64 op] w fun e w' => e = four (2, 1, 1, true) ∧ w' = w := by
  have n1 : (op == 69) = false := by simp; omega
  have n2 : (op == 80) = false := by simp; omega
  have n3 : (op == 167) = false := by simp; omega
  have n4 : (op == 172) = false := by simp; omega
  have n5 : (op == 173) = false := by simp; omega
  have h' := hide h
  clear h
  go_enter Tryz.func94, Tryz.ntmps94
  go_wp2_with fail
  refine (within_no _ _ _ _ (by have := h'.out; omega)).mono ?_
  rintro e w1 ⟨rfl, rfl⟩
  go_wp2_with fail
  refine (within_no _ _ _ _ (by have := h'.out; omega)).mono ?_
  rintro e w1 ⟨rfl, rfl⟩
  go_wp2_with fail
  refine (within_no _ _ _ _ (by have := h'.out; omega)).mono ?_
  rintro e w1 ⟨rfl, rfl⟩
  go_wp2_with fail
  refine (within_yes _ _ _ _ (by have := h'.out; omega)).mono ?_
  rintro e w1 ⟨rfl, rfl⟩
  go_wp2_with fail
  (try simp only [Exit.inBlock, Exit.then])
  refine bodyPost_ret (results_tmp4 rfl _ _ _) rfl ?_
  exact ⟨rfl, rfl⟩
theorem arity_none (op : Int) (w : World) (h : ¬ (69 ≤ op ∧ op ≤ 90 ∨ 106 ≤ op ∧ op ≤ 120 ∨ 124 ≤ op ∧ op ≤ 138 ∨ op = 167 ∨ op = 172 ∨ op = 173)) :
    Calls Tryz.prog 94 #[.int .i64 op] w fun e w' => e = four (0, 0, 0, false) ∧ w' = w := by
  have n1 : (op == 69) = false := by simp; omega
  have n2 : (op == 80) = false := by simp; omega
  have n3 : (op == 167) = false := by simp; omega
  have n4 : (op == 172) = false := by simp; omega
  have n5 : (op == 173) = false := by simp; omega
  have h' := hide h
  clear h
  go_enter Tryz.func94, Tryz.ntmps94
  go_wp2_with fail
  refine (within_no _ _ _ _ (by have := h'.out; omega)).mono ?_
  rintro e w1 ⟨rfl, rfl⟩
  go_wp2_with fail
  refine (within_no _ _ _ _ (by have := h'.out; omega)).mono ?_
  rintro e w1 ⟨rfl, rfl⟩
  go_wp2_with fail
  refine (within_no _ _ _ _ (by have := h'.out; omega)).mono ?_
  rintro e w1 ⟨rfl, rfl⟩
  go_wp2_with fail
  refine (within_no _ _ _ _ (by have := h'.out; omega)).mono ?_
  rintro e w1 ⟨rfl, rfl⟩
  go_wp2_with fail
  (try simp only [Exit.inBlock, Exit.then])
  refine bodyPost_ret (results_tmp4 rfl _ _ _) rfl ?_
  exact ⟨rfl, rfl⟩
theorem arity_any (op : Int) (w : World) :
    Calls Tryz.prog 94 #[.int .i64 op] w fun e w' => e = four (ar op) ∧ w' = w := by
  by_cases h1 : op = 69
  · subst h1; exact arity_69 w
  by_cases h2 : op = 80
  · subst h2; exact arity_80 w
  by_cases h3 : op = 167
  · subst h3; exact arity_167 w
  by_cases h4 : op = 172
  · subst h4; exact arity_172 w
  by_cases h5 : op = 173
  · subst h5; exact arity_173 w
  by_cases h6 : 70 ≤ op ∧ op ≤ 79
  · rw [show ar op = (2, 0, 0, true) by simp [ar, h1, h2, h3, h4, h5, h6]]; exact arity_c32 op w h6
  by_cases h7 : 106 ≤ op ∧ op ≤ 120
  · rw [show ar op = (2, 0, 0, true) by simp [ar, h1, h2, h3, h4, h5, h7]]; exact arity_s32 op w h7
  by_cases h8 : 81 ≤ op ∧ op ≤ 90
  · rw [show ar op = (2, 1, 0, true) by simp only [ar]; rw [if_neg h1, if_neg (by omega), if_neg (by omega), if_neg (by omega), if_pos h8]]; exact arity_c64 op w h8
  by_cases h9 : 124 ≤ op ∧ op ≤ 138
  · rw [show ar op = (2, 1, 1, true) by simp only [ar]; rw [if_neg h1, if_neg (by omega), if_neg (by omega), if_neg (by omega), if_neg h8, if_pos h9]]; exact arity_s64 op w h9
  · rw [show ar op = (0, 0, 0, false) by simp only [ar]; rw [if_neg h1, if_neg (by omega), if_neg (by omega), if_neg (by omega), if_neg h8, if_neg h9]]; exact arity_none op w (by omega)

def ri (t : Int) : Bool := decide (0 ≤ t) && decide (t ≤ 3)
theorem ri_iff (t : Int) : ri t = true ↔ t = 0 ∨ t = 1 ∨ t = 2 ∨ t = 3 := by
  simp only [ri, Bool.and_eq_true, decide_eq_true_eq]; omega
theorem ri_no {t : Int} (h : ri t = false) : t ≠ 0 ∧ t ≠ 1 ∧ t ≠ 2 ∧ t ≠ 3 := by
  have : ¬ ri t = true := by rw [h]; simp
  rw [ri_iff] at this; omega
theorem low_of (x : BitVec 64) (h : x &&& ~~~(3#64) = 0#64) : x.toNat < 4 := by
  have e : x = x &&& 3#64 := by
    have e1 : x = (x &&& 3#64) ||| (x &&& ~~~(3#64)) := by
      rw [← BitVec.and_or_distrib_left]
      have : (3#64 ||| ~~~(3#64)) = BitVec.allOnes 64 := by decide
      rw [this, BitVec.and_allOnes]
    rw [h] at e1
    simpa using e1
  have e2 := congrArg BitVec.toNat e
  rw [BitVec.toNat_and] at e2
  have e3 : (3#64).toNat = 2 ^ 2 - 1 := by decide
  rw [e3, Nat.and_two_pow_sub_one_eq_mod] at e2
  omega

theorem andNot3 (t : Int) (ht : I64 t) : (bits .andNot .i64 t 3 == 0) = ri t := by
  cases hr : ri t
  · have hn := ri_no hr
    have hd : ¬ (0 ≤ t ∧ t ≤ 3) := by
      intro h
      have : ri t = true := by simp [ri, h]
      rw [hr] at this; cases this
    rw [beq_eq_false_iff_ne]
    intro h
    change IntKind.i64.wrap ((BitVec.ofInt 64 t &&& ~~~(BitVec.ofInt 64 3)).toNat : Int) = 0 at h
    obtain ⟨h1, h2⟩ := ht
    have hb : BitVec.ofInt 64 3 = 3#64 := by decide
    rw [hb] at h
    have hz : (BitVec.ofInt 64 t &&& ~~~(3#64)) = 0#64 := by
      apply BitVec.eq_of_toNat_eq
      have hlt := (BitVec.ofInt 64 t &&& ~~~(3#64)).isLt
      generalize (BitVec.ofInt 64 t &&& ~~~(3#64)).toNat = y at h hlt ⊢
      simp [IntKind.wrap, IntKind.bits, IntKind.signed] at h
      show y = 0
      omega
    have hl := low_of _ hz
    rw [BitVec.toNat_ofInt] at hl
    have e3 : ((2 ^ 64 : Nat) : Int) = 18446744073709551616 := by decide
    rw [e3] at hl
    omega
  · rcases (ri_iff t).mp hr with rfl | rfl | rfl | rfl <;> decide
theorem ret_bool {a b : Bool} (h : a = b) : Ending.returned (.bool a) = .returned (.bool b) := by rw [h]
theorem right_any (t : Int) (w : World) (ht : I64 t) :
    Calls Tryz.prog 10 #[.int .i64 t] w fun e w' => e = .returned (.bool (ri t)) ∧ w' = w := by
  have h := hide (andNot3 t ht)
  clear ht
  go_enter Tryz.func10, Tryz.ntmps10
  go_wp2
  go_ret
  exact ⟨ret_bool h.out, rfl⟩
theorem right_is (t : Int) (r : Bool) (w : World) (ht : I64 t) (h : ri t = r) :
    Calls Tryz.prog 10 #[.int .i64 t] w fun e w' => e = .returned (.bool r) ∧ w' = w := by
  rw [← h]; exact right_any t w ht

end Go.Proofs.YtamofhkmhjckaabGreatDoor
