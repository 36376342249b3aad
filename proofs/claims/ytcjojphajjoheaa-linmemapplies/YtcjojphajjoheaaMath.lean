/-
  Numbers as bytes, the least first. No program.
-/
import Derived.RowKit
namespace Go.Proofs.Ytcjojphajjoheaa

/-- The number that bytes are. -/
def le : List UInt8 → Nat
  | [] => 0
  | b :: l => b.toNat + 256 * le l
theorem le_append (a b : List UInt8) : le (a ++ b) = le a + 256 ^ a.length * le b := by
  induction a with
  | nil => simp [le]
  | cons x a ih =>
    simp only [List.cons_append, le, ih, List.length_cons, Nat.pow_succ]
    rw [Nat.mul_add, Nat.add_assoc]; congr 2
    rw [Nat.mul_comm _ 256, Nat.mul_assoc]
theorem le_lt (l : List UInt8) : le l < 256 ^ l.length := by
  induction l with
  | nil => simp [le]
  | cons x l ih =>
    have := x.toNat_lt
    simp only [le, List.length_cons, Nat.pow_succ]
    omega
theorem le_zeros (n : Nat) : le (List.replicate n 0) = 0 := by
  induction n with
  | zero => rfl
  | succ n ih => simp [List.replicate_succ, le, ih]
theorem le_take_succ (l : List UInt8) (k : Nat) (h : k < l.length) : le (l.take (k + 1)) = le (l.take k) + 256 ^ k * l[k].toNat := by
  rw [List.take_succ_eq_append_getElem h, le_append]
  simp [le, Nat.min_eq_left (Nat.le_of_lt h)]
/-- The low n bytes of a number. -/
def by8 (v : Int) : UInt8 := UInt8.ofNat (v % 256).toNat
def bys : Nat → Int → List UInt8
  | 0, _ => []
  | n + 1, v => by8 v :: bys n (v / 256)
theorem bys_len (n : Nat) : ∀ v, (bys n v).length = n := by
  induction n with
  | zero => intro v; rfl
  | succ n ih => intro v; simp [bys, ih]
theorem by8_val (v : Int) : ((by8 v).toNat : Int) = v % 256 := by
  unfold by8
  have h : (v % 256).toNat < 256 := by omega
  rw [UInt8.toNat_ofNat']
  simp only [Nat.reducePow]
  omega
theorem le_bys (n : Nat) : ∀ v : Int, (le (bys n v) : Int) = v % 256 ^ n := by
  induction n with
  | zero => intro v; simp [bys, le]
  | succ n ih =>
    intro v
    simp only [bys, le, Int.natCast_add, Int.natCast_mul, ih, by8_val]
    have e : (256 : Int) ^ (n + 1) = 256 * 256 ^ n := by rw [Int.pow_succ, Int.mul_comm]
    rw [e]
    generalize (256 : Int) ^ n = M
    rw [Int.emod_def v (256 * M), ← Int.ediv_ediv_of_nonneg (by decide), Int.emod_def (v / 256) M, Int.emod_def v 256, Int.mul_assoc]
    generalize M * (v / 256 / M) = X
    omega
theorem bys_get (n : Nat) : ∀ (v : Int) (k : Nat) (h : k < (bys n v).length), (bys n v)[k] = by8 (v / 256 ^ k) := by
  induction n with
  | zero => intro v k h; simp [bys] at h
  | succ n ih =>
    intro v k h
    cases k with
    | zero => simp [bys]
    | succ k =>
      simp only [bys, List.getElem_cons_succ]
      rw [ih]
      congr 1
      rw [Int.pow_succ, Int.mul_comm, ← Int.ediv_ediv_of_nonneg (by decide)]
theorem le_inj : ∀ (a b : List UInt8), a.length = b.length → le a = le b → a = b
  | [], [], _, _ => rfl
  | x :: a, y :: b, h, e => by
    simp only [le] at e
    have hx := x.toNat_lt
    have hy := y.toNat_lt
    have e1 : x.toNat = y.toNat := by omega
    have e2 : le a = le b := by omega
    rw [le_inj a b (by simpa using h) e2, UInt8.toNat_inj.1 e1]
/-- Bytes are those of their number. -/
theorem bys_le (l : List UInt8) (v : Int) (h : v % 256 ^ l.length = le l) : bys l.length v = l := by
  apply le_inj
  · rw [bys_len]
  · have := le_bys l.length v
    omega
end Go.Proofs.Ytcjojphajjoheaa
