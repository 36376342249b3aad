/-
  Plain mathematics of numbers written seven bits a byte: how many bytes a number needs, which bytes they are, how they are read again; no condition, no program.
-/
namespace Go.Proofs.YtcbfpikggphokaaGreatDoor

/-- How many bytes a signed number needs, by at most so many steps, k bytes lying before. -/
def szA : Nat → Nat → Int → Nat
  | 0, k, _ => k + 1
  | f + 1, k, n => if -64 ≤ n ∧ n ≤ 63 then k + 1 else szA f (k + 1) (n / 128)
def szS (n : Int) : Nat := szA 9 0 n

/-- The same of a number without a sign. -/
def uzA : Nat → Nat → Int → Nat
  | 0, k, _ => k + 1
  | f + 1, k, n => if 0 ≤ n ∧ n ≤ 127 then k + 1 else uzA f (k + 1) (n / 128)
def szU (n : Int) : Nat := uzA 8 0 n

theorem pow_step (k : Nat) : (2 : Int) ^ (7 * (k + 1)) = 2 ^ (7 * k) * 128 := by
  rw [show 7 * (k + 1) = 7 * k + 7 by omega, Int.pow_add]; rfl
theorem pow_pos2 (k : Nat) : (0 : Int) < 2 ^ k := Int.pow_pos (by decide)
theorem div_step (n : Int) (k : Nat) : n / 2 ^ (7 * k) / 128 = n / 2 ^ (7 * (k + 1)) := by
  rw [pow_step, Int.ediv_ediv_of_nonneg (Int.le_of_lt (pow_pos2 _))]
theorem div_six (n : Int) (k : Nat) : n / 2 ^ (7 * k + 6) = n / 2 ^ (7 * k) / 64 := by
  rw [Int.pow_add, Int.ediv_ediv_of_nonneg (Int.le_of_lt (pow_pos2 _))]; rfl
theorem div_seven (n : Int) (k : Nat) : n / 2 ^ (7 * k + 7) = n / 2 ^ (7 * k) / 128 := by
  rw [Int.pow_add, Int.ediv_ediv_of_nonneg (Int.le_of_lt (pow_pos2 _))]; rfl
theorem div_zero (n : Int) : n / 2 ^ (7 * 0) = n := by simp

theorem szA_go {n : Int} {k : Nat} (hk : k < 9) (h : szS n = szA (9 - k) k (n / 2 ^ (7 * k))) (hno : ¬ (-64 ≤ n / 2 ^ (7 * k) ∧ n / 2 ^ (7 * k) ≤ 63)) :
    szS n = szA (9 - (k + 1)) (k + 1) (n / 2 ^ (7 * (k + 1))) := by
  rw [h, show 9 - k = (9 - (k + 1)) + 1 by omega, szA, if_neg hno, div_step]
theorem szA_yes {n : Int} {k : Nat} (hk : k < 9) (h : szS n = szA (9 - k) k (n / 2 ^ (7 * k))) (hy : -64 ≤ n / 2 ^ (7 * k) ∧ n / 2 ^ (7 * k) ≤ 63) :
    szS n = k + 1 := by
  rw [h, show 9 - k = (9 - (k + 1)) + 1 by omega, szA, if_pos hy]
theorem szA_end {n : Int} {k : Nat} (hk : ¬ k < 9) (h9 : k ≤ 9) (h : szS n = szA (9 - k) k (n / 2 ^ (7 * k))) : szS n = 10 := by
  have : k = 9 := by omega
  subst this
  rw [h]; rfl
theorem uzA_go {n : Int} {k : Nat} (hk : k < 8) (h : szU n = uzA (8 - k) k (n / 2 ^ (7 * k))) (hno : ¬ (0 ≤ n / 2 ^ (7 * k) ∧ n / 2 ^ (7 * k) ≤ 127)) :
    szU n = uzA (8 - (k + 1)) (k + 1) (n / 2 ^ (7 * (k + 1))) := by
  rw [h, show 8 - k = (8 - (k + 1)) + 1 by omega, uzA, if_neg hno, div_step]
theorem uzA_yes {n : Int} {k : Nat} (hk : k < 8) (h : szU n = uzA (8 - k) k (n / 2 ^ (7 * k))) (hy : 0 ≤ n / 2 ^ (7 * k) ∧ n / 2 ^ (7 * k) ≤ 127) :
    szU n = k + 1 := by
  rw [h, show 8 - k = (8 - (k + 1)) + 1 by omega, uzA, if_pos hy]
theorem uzA_end {n : Int} {k : Nat} (hk : ¬ k < 8) (h8 : k ≤ 8) (h : szU n = uzA (8 - k) k (n / 2 ^ (7 * k))) : szU n = 9 := by
  have : k = 8 := by omega
  subst this
  rw [h]; rfl

theorem szA_bd : ∀ f k n, k + 1 ≤ szA f k n ∧ szA f k n ≤ k + f + 1
  | 0, k, n => by simp [szA]
  | f + 1, k, n => by
    rw [szA]
    split
    · omega
    · have := szA_bd f (k + 1) (n / 128); omega
theorem szS_bd (n : Int) : 1 ≤ szS n ∧ szS n ≤ 10 := by have := szA_bd 9 0 n; unfold szS; omega
theorem uzA_bd : ∀ f k n, k + 1 ≤ uzA f k n ∧ uzA f k n ≤ k + f + 1
  | 0, k, n => by simp [uzA]
  | f + 1, k, n => by
    rw [uzA]
    split
    · omega
    · have := uzA_bd f (k + 1) (n / 128); omega
theorem szU_bd (n : Int) : 1 ≤ szU n ∧ szU n ≤ 9 := by have := uzA_bd 8 0 n; unfold szU; omega

/-- A byte out of a number. -/
def byI (x : Int) : UInt8 := UInt8.ofNat x.toNat
theorem byI_val {x : Int} (h0 : 0 ≤ x) (h1 : x ≤ 255) : ((byI x).toNat : Int) = x := by
  unfold byI
  rw [UInt8.toNat_ofNat_of_lt' (by simp [UInt8.size]; omega)]; omega

/-- Byte i of n written in so many bytes. -/
def wb (n : Int) (size i : Nat) : Int := if i + 1 < size then n / 2 ^ (7 * i) % 128 + 128 else n / 2 ^ (7 * i) % 128
theorem wb_bd (n : Int) (size i : Nat) : 0 ≤ wb n size i ∧ wb n size i ≤ 255 := by unfold wb; split <;> omega
theorem wb_mod (n : Int) (size i : Nat) : wb n size i % 128 = n / 2 ^ (7 * i) % 128 := by unfold wb; split <;> omega
/-- n written in so many bytes. -/
def enc (n : Int) (size : Nat) : List UInt8 := (List.range size).map fun i => byI (wb n size i)
theorem enc_length (n : Int) (size : Nat) : (enc n size).length = size := by simp [enc]
theorem enc_get (n : Int) (size i : Nat) (h : i < (enc n size).length) : ((enc n size)[i].toNat : Int) = wb n size i := by
  simp only [enc, List.getElem_map, List.getElem_range]
  have := wb_bd n size i
  exact byI_val this.1 this.2

/-- How many bytes the number has that begins here (f: how many it may have; k lie before); 0: none. -/
def spn : Nat → Nat → List UInt8 → Nat
  | 0, _, _ => 0
  | _ + 1, _, [] => 0
  | f + 1, k, c :: r => if c.toNat < 128 then k + 1 else spn f (k + 1) r
theorem spn_go {l : List UInt8} {k : Nat} (hk : k < 10) (hl : k < l.length) (h : spn 10 0 l = spn (10 - k) k (l.drop k)) (hno : 128 ≤ (l[k].toNat : Int)) :
    spn 10 0 l = spn (10 - (k + 1)) (k + 1) (l.drop (k + 1)) := by
  rw [h, show 10 - k = (10 - (k + 1)) + 1 by omega, List.drop_eq_getElem_cons hl, spn, if_neg (by omega)]
theorem spn_yes {l : List UInt8} {k : Nat} (hk : k < 10) (hl : k < l.length) (h : spn 10 0 l = spn (10 - k) k (l.drop k)) (hy : (l[k].toNat : Int) < 128) :
    spn 10 0 l = k + 1 := by
  rw [h, show 10 - k = (10 - (k + 1)) + 1 by omega, List.drop_eq_getElem_cons hl, spn, if_pos (by omega)]
theorem spn_end {l : List UInt8} {k : Nat} (hk : ¬ (k < 10 ∧ k < l.length)) (h : spn 10 0 l = spn (10 - k) k (l.drop k)) : spn 10 0 l = 0 := by
  rw [h]
  by_cases h10 : k < 10
  · rw [List.drop_of_length_le (by omega), show 10 - k = (10 - (k + 1)) + 1 by omega, spn]
  · rw [show 10 - k = 0 by omega, spn]
theorem spn_le : ∀ f k l, spn f k l ≤ k + l.length ∧ spn f k l ≤ k + f
  | 0, k, l => by simp [spn]
  | f + 1, k, [] => by simp [spn]
  | f + 1, k, c :: r => by
    rw [spn]
    split
    · simp
    · have := spn_le f (k + 1) r; simp; omega
theorem span_le (l : List UInt8) : spn 10 0 l ≤ l.length ∧ spn 10 0 l ≤ 10 := by have := spn_le 10 0 l; omega

/-- The bytes' seven bits put together. -/
def jl : List UInt8 → Int
  | [] => 0
  | c :: r => (c.toNat : Int) % 128 + 128 * jl r
theorem jl_snoc : ∀ (l : List UInt8) (c : UInt8), jl (l ++ [c]) = jl l + (c.toNat : Int) % 128 * 2 ^ (7 * l.length)
  | [], c => by simp [jl]
  | a :: l, c => by
    simp only [List.cons_append, jl, jl_snoc l c, List.length_cons, pow_step, Int.mul_add, Int.add_assoc]
    congr 2
    rw [← Int.mul_assoc, Int.mul_comm 128, Int.mul_assoc, Int.mul_comm 128]
theorem jl_bd : ∀ l : List UInt8, 0 ≤ jl l ∧ jl l < 2 ^ (7 * l.length)
  | [] => by simp [jl]
  | c :: l => by
    have := jl_bd l
    simp only [jl, List.length_cons, pow_step]
    omega
theorem jl_take {l : List UInt8} {k : Nat} (hk : k < l.length) : jl (l.take (k + 1)) = jl (l.take k) + (l[k].toNat : Int) % 128 * 2 ^ (7 * k) := by
  rw [List.take_succ_eq_append_getElem hk, jl_snoc, List.length_take_of_le (by omega)]

/-- 64 bits, signed. -/
def w64 (x : Int) : Int := (x + 9223372036854775808) % 18446744073709551616 - 9223372036854775808

/-- The uppermost bit that so many bytes have, spread over all above. -/
def spd (n : Int) (size : Nat) : Int := if 1 ≤ size ∧ size ≤ 9 ∧ n / 2 ^ (7 * size - 1) % 2 = 1 then n - 2 ^ (7 * size) else n

/-- What is read, without a sign. -/
def tkU (l : List UInt8) (bits : Int) : Int × List UInt8 × Int :=
  if bits < 1 ∨ 63 < bits then (0, [], 4)
  else if 0 ≤ w64 (jl (l.take (spn 10 0 l))) ∧ enc (w64 (jl (l.take (spn 10 0 l)))) (szU (w64 (jl (l.take (spn 10 0 l))))) = l.take (spn 10 0 l) ∧ w64 (jl (l.take (spn 10 0 l))) / 2 ^ bits.toNat = 0
    then (w64 (jl (l.take (spn 10 0 l))), l.drop (spn 10 0 l), 0) else (0, [], 6)
/-- The number that stands at the head, with a sign, whatever its form. -/
def vS (l : List UInt8) : Int := spd (w64 (jl (l.take (spn 10 0 l)))) (spn 10 0 l)
/-- What is read, with a sign. -/
def tkS (l : List UInt8) (bits : Int) : Int × List UInt8 × Int :=
  if bits < 1 ∨ 64 < bits then (0, [], 4)
  else if enc (vS l) (szS (vS l)) = l.take (spn 10 0 l) ∧ (vS l / 2 ^ (bits.toNat - 1) = 0 ∨ vS l / 2 ^ (bits.toNat - 1) = -1)
    then (vS l, l.drop (spn 10 0 l), 0) else (0, [], 6)
end Go.Proofs.YtcbfpikggphokaaGreatDoor
