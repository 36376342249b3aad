/-
  Plain: instructions of the lowered code, what they read and write; sets of cells as numbers. No program.
-/
import Derived.RowKit
import Derived.WalkKit
import Derived.Laws.BitsAllLaws
import Derived.Lib.SlicesCompact
namespace Go.Proofs.YtjgaaofpfepfhaaDoor
open Go.RowKit
set_option linter.unusedSimpArgs false
set_option linter.unusedVariables false
def I64 (n : Int) : Prop := -9223372036854775808 ≤ n ∧ n ≤ 9223372036854775807
/-- An instruction. -/
structure Ir where
  op : Int
  dst : Int
  a : Int
  b : Int
  c : Int
  n : Int
  m : Int
def Ir.ok (x : Ir) : Prop := I64 x.op ∧ I64 x.dst ∧ I64 x.a ∧ I64 x.b ∧ I64 x.c ∧ I64 x.n ∧ I64 x.m
def xc (x : Ir) : Array Value := #[.int .i64 x.op, .int .i64 x.dst, .int .i64 x.a, .int .i64 x.b, .int .i64 x.c, .int .i64 x.n, .int .i64 x.m]
def xv (x : Ir) : Value := .agg (xc x)
/-- What it writes; -1: nothing. -/
def df (x : Ir) : Int := if x.op = 1 ∨ x.op = 2 ∨ x.op = 3 ∨ x.op = 4 ∨ x.op = 5 ∨ x.op = 7 ∨ x.op = 14 then x.dst else -1
/-- What it reads, as it stands. -/
def raw (x : Ir) : List Int :=
  if x.op = 15 then (if 0 ≤ x.a then [x.a] else [])
  else if x.op = 4 then [x.c, x.b, x.a]
  else if x.op = 3 ∨ x.op = 6 then [x.b, x.a]
  else if x.op = 2 ∨ x.op = 8 ∨ x.op = 11 ∨ x.op = 12 ∨ x.op = 13 ∨ x.op = 5 then [x.a]
  else []
/-- In order, each once. -/
def sc (l : List Int) : List Int := Lib.compact (l.mergeSort fun x y => decide (x ≤ y))
def us (x : Ir) : List Int := sc (raw x)
theorem upto_mem (d : Array Int) (m : Nat) (y : Int) : y ∈ Lib.compactUpTo d m ↔ ∃ j, j < m ∧ d[j]! = y := by
  unfold Lib.compactUpTo
  simp only [List.mem_map, List.mem_filter, List.mem_range]
  constructor
  · rintro ⟨j, ⟨h, _⟩, e⟩; exact ⟨j, h, e⟩
  · rintro ⟨j, h, e⟩
    induction j with
    | zero => exact ⟨0, ⟨h, by simp [Lib.keeps]⟩, e⟩
    | succ j ih =>
      by_cases k : d[j + 1]! = d[j]!
      · exact ih (by omega) (k.symm.trans e)
      · exact ⟨j + 1, ⟨h, by simp only [Lib.keeps, decide_eq_true_eq]; exact Or.inr k⟩, e⟩
theorem compact_mem (l : List Int) (y : Int) : y ∈ Lib.compact l ↔ y ∈ l := by
  unfold Lib.compact
  rw [upto_mem]
  constructor
  · rintro ⟨j, h, rfl⟩
    have : l.toArray[j]! = l[j] := by simp [h]
    rw [this]; exact List.getElem_mem _
  · intro h
    obtain ⟨j, hj, rfl⟩ := List.mem_iff_getElem.1 h
    exact ⟨j, hj, by simp [hj]⟩
theorem sc_mem (l : List Int) (y : Int) : y ∈ sc l ↔ y ∈ l := by
  unfold sc; rw [compact_mem, List.mem_mergeSort]
theorem us_mem (x : Ir) (y : Int) : y ∈ us x ↔ y ∈ raw x := sc_mem _ _
theorem raw_len (x : Ir) : (raw x).length ≤ 3 := by
  unfold raw
  repeat' split
  all_goals simp
/-- Sets of cells below 60: one cell; the other ones. -/
def dn (s t : Nat) : Nat := (BitVec.ofNat 64 s &&& ~~~(BitVec.ofNat 64 t)).toNat
def lim : Nat := 1152921504606846976
theorem lim_is : lim = 2 ^ 60 := by decide
theorem or_lim {s t : Nat} (h : s < lim) (k : t < lim) : s ||| t < lim := by
  rw [lim_is] at *; exact Nat.or_lt_two_pow h k
theorem dn_bit {s t : Nat} (h : s < lim) (k : t < lim) (i : Nat) : (dn s t).testBit i = (s.testBit i && !t.testBit i) := by
  unfold dn
  show (BitVec.ofNat 64 s &&& ~~~(BitVec.ofNat 64 t)).getLsbD i = _
  rw [BitVec.getLsbD_and, BitVec.getLsbD_not, BitVec.getLsbD_ofNat, BitVec.getLsbD_ofNat]
  rcases Nat.lt_or_ge i 64 with hi | hi
  · simp [hi]
  · have : s.testBit i = false := Nat.testBit_lt_two_pow (Nat.lt_of_lt_of_le h (by rw [lim_is]; exact Nat.pow_le_pow_right (by omega) (by omega)))
    simp [this]
theorem dn_lim {s t : Nat} (h : s < lim) (k : t < lim) : dn s t < lim := by
  rw [lim_is]
  refine Nat.lt_pow_two_of_testBit _ fun i hi => ?_
  rw [dn_bit h k, Nat.testBit_lt_two_pow (Nat.lt_of_lt_of_le h (by rw [lim_is]; exact Nat.pow_le_pow_right (by omega) hi))]
  rfl
theorem ofInt_lim {s : Nat} : BitVec.ofInt 64 (s : Int) = BitVec.ofNat 64 s := by
  apply BitVec.eq_of_toNat_eq
  rw [BitVec.toNat_ofInt, BitVec.toNat_ofNat]
  have e3 : ((2 ^ 64 : Nat) : Int) = 18446744073709551616 := by decide
  omega
theorem toNat_lim {s : Nat} (h : s < lim) : (BitVec.ofNat 64 s).toNat = s := by
  rw [BitVec.toNat_ofNat]; unfold lim at h; omega
theorem i64_wrap (x : Int) : IntKind.i64.wrap x = wrap64 x := by
  simp [IntKind.wrap, IntKind.signed, IntKind.bits, wrap64]; try omega
theorem wrap_lim {s : Nat} (h : s < lim) : IntKind.i64.wrap (s : Int) = (s : Int) := by
  unfold lim at h
  rw [i64_wrap]
  unfold wrap64
  omega
theorem bits_or {s t : Nat} (h : s < lim) (k : t < lim) : bits .or .i64 (s : Int) (t : Int) = ((s ||| t : Nat) : Int) := by
  show IntKind.i64.wrap ((BitVec.ofInt 64 (s : Int) ||| BitVec.ofInt 64 (t : Int)).toNat : Int) = _
  rw [ofInt_lim, ofInt_lim, BitVec.toNat_or, toNat_lim h, toNat_lim k, wrap_lim (or_lim h k)]
theorem bits_dn {s t : Nat} (h : s < lim) (k : t < lim) : bits .andNot .i64 (s : Int) (t : Int) = ((dn s t : Nat) : Int) := by
  show IntKind.i64.wrap ((BitVec.ofInt 64 (s : Int) &&& ~~~(BitVec.ofInt 64 (t : Int))).toNat : Int) = _
  rw [ofInt_lim, ofInt_lim]
  exact wrap_lim (dn_lim h k)
theorem bits_and {s t : Nat} (h : s < lim) (k : t < lim) : bits .and .i64 (s : Int) (t : Int) = ((s &&& t : Nat) : Int) := by
  show IntKind.i64.wrap ((BitVec.ofInt 64 (s : Int) &&& BitVec.ofInt 64 (t : Int)).toNat : Int) = _
  rw [ofInt_lim, ofInt_lim, BitVec.toNat_and, toNat_lim h, toNat_lim k, wrap_lim (Nat.lt_of_le_of_lt Nat.and_le_left h)]
/-- The set that has one cell. -/
def one (n : Int) : Nat := 2 ^ n.toNat
theorem one_lim {n : Int} (h : n < 60) : one n < lim := by
  rw [lim_is]; exact Nat.pow_lt_pow_right (by omega) (by omega)
theorem one_bit (n : Int) (i : Nat) : (one n).testBit i = decide (n.toNat = i) := by unfold one; rw [Nat.testBit_two_pow]
/-- What is in one is in the other one. -/
def sub (s t : Nat) : Prop := ∀ i, s.testBit i = true → t.testBit i = true
theorem sub.refl (s : Nat) : sub s s := fun _ h => h
theorem sub.trans {s t u : Nat} (h : sub s t) (k : sub t u) : sub s u := fun i hi => k i (h i hi)
theorem sub.le {s t : Nat} (h : sub s t) : s ≤ t := by
  have : s ||| t = t := by
    refine Nat.eq_of_testBit_eq fun i => ?_
    rw [Nat.testBit_or]
    have := h i
    cases e : s.testBit i <;> simp_all
  rw [← this]; exact Nat.left_le_or
theorem sub.antisymm {s t : Nat} (h : sub s t) (k : sub t s) : s = t := Nat.le_antisymm h.le k.le
theorem sub.orl (s t : Nat) : sub s (s ||| t) := fun i h => by rw [Nat.testBit_or, h]; rfl
theorem sub.orr (s t : Nat) : sub t (s ||| t) := fun i h => by rw [Nat.testBit_or, h]; simp
theorem sub.or {s t u : Nat} (h : sub s u) (k : sub t u) : sub (s ||| t) u := fun i hi => by
  rw [Nat.testBit_or, Bool.or_eq_true] at hi
  rcases hi with hi | hi
  · exact h i hi
  · exact k i hi
theorem sub.or2 {s t u v : Nat} (h : sub s u) (k : sub t v) : sub (s ||| t) (u ||| v) := sub.or (h.trans (sub.orl _ _)) (k.trans (sub.orr _ _))
theorem sub.dn {s t u : Nat} (hs : s < lim) (hu : u < lim) (ht : t < lim) (h : sub s u) : sub (dn s t) (dn u t) := fun i hi => by
  rw [dn_bit hs ht, Bool.and_eq_true] at hi
  rw [dn_bit hu ht, h i hi.1, hi.2]; rfl
/-- All of a list of sets. -/
def ors (l : List Nat) : Nat := l.foldl (· ||| ·) 0
theorem foldl_or (l : List Nat) (s : Nat) : l.foldl (· ||| ·) s = s ||| ors l := by
  unfold ors
  induction l generalizing s with
  | nil => simp
  | cons x l ih => rw [List.foldl_cons, List.foldl_cons, ih, ih (0 ||| x), Nat.zero_or, Nat.or_assoc]
theorem ors_snoc (l : List Nat) (x : Nat) : ors (l ++ [x]) = ors l ||| x := by unfold ors; rw [List.foldl_append]; rfl
theorem ors_bit (l : List Nat) (i : Nat) : (ors l).testBit i = l.any (·.testBit i) := by
  induction l with
  | nil => simp [ors]
  | cons x l ih =>
    rw [List.any_cons, ← ih]
    unfold ors
    rw [List.foldl_cons, foldl_or, Nat.zero_or, Nat.testBit_or]; rfl
theorem ors_lim {l : List Nat} (h : ∀ x ∈ l, x < lim) : ors l < lim := by
  induction l with
  | nil => decide
  | cons x l ih =>
    unfold ors
    rw [List.foldl_cons, foldl_or, Nat.zero_or]
    exact or_lim (h x (List.mem_cons_self ..)) (ih fun y hy => h y (List.mem_cons_of_mem _ hy))
theorem sub_ors {l : List Nat} {s : Nat} (h : s ∈ l) : sub s (ors l) := fun i hi => by
  rw [ors_bit, List.any_eq_true]; exact ⟨s, h, hi⟩
theorem ors_sub {l : List Nat} {t : Nat} (h : ∀ s ∈ l, sub s t) : sub (ors l) t := fun i hi => by
  rw [ors_bit, List.any_eq_true] at hi
  obtain ⟨s, hs, hi⟩ := hi
  exact h s hs i hi
end Go.Proofs.YtjgaaofpfepfhaaDoor
