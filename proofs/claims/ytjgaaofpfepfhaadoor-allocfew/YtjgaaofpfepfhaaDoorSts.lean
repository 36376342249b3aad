/-
  The program's clash.Sets.
-/
import Derived.Test.YtjgaaofpfepfhaaDoorCst
namespace Go.Proofs.YtjgaaofpfepfhaaDoor
open Go.RowKit
set_option linter.unusedSimpArgs false
set_option linter.unusedVariables false
/-- Whether both are there from the beginning, and one of them is needed. -/
def giv (d : Cd) (n : Nat) (A : Nat → Nat) (a b : Int) : Bool := decide (max a b < d.params) && (decide (0 < n) && decide (A 0 &&& (one a ||| one b) ≠ 0))
/-- Whether a is needed behind what writes b. -/
def spl (l : List Ir) (F : Nat → Nat) (a b : Int) (i : Nat) : Bool := decide (df (l.getD i ir0) = b) && decide (F i &&& one a ≠ 0)
def spo (l : List Ir) (F : Nat → Nat) (a b : Int) : Bool := (List.range l.length).any (spl l F a b)
/-- What Clash brings, where it brings something. -/
def cls (d : Cd) (l : List Ir) (A F : Nat → Nat) (a b : Int) : Bool := giv d l.length A a b || (spo l F a b || spo l F b a)
theorem and_zero {s t : Nat} : s &&& t = 0 ↔ ∀ i, ¬ (s.testBit i = true ∧ t.testBit i = true) := by
  constructor
  · intro h i ⟨h1, h2⟩
    have := congrArg (fun z => z.testBit i) h
    simp [h1, h2] at this
  · intro h
    refine Nat.eq_of_testBit_eq fun i => ?_
    have := h i
    rw [Nat.testBit_and, Nat.zero_testBit]
    cases hs : s.testBit i <;> cases ht : t.testBit i <;> simp_all
theorem and_one (s : Nat) (a : Nat) : decide (s &&& one (a : Int) ≠ 0) = s.testBit a := by
  rw [Bool.eq_iff_iff, decide_eq_true_eq, Ne, and_zero]
  constructor
  · intro h
    refine Classical.byContradiction fun hn => h fun i hi => ?_
    rw [one_nat, decide_eq_true_eq] at hi
    rw [hi.2] at hn
    exact hn hi.1
  · intro h k
    exact k a ⟨h, by rw [one_nat]; simp⟩
theorem and_two (s : Nat) (a b : Nat) : decide (s &&& (one (a : Int) ||| one (b : Int)) ≠ 0) = (s.testBit a || s.testBit b) := by
  rw [Bool.eq_iff_iff, decide_eq_true_eq, Bool.or_eq_true, Ne, and_zero]
  constructor
  · intro h
    refine Classical.byContradiction fun hn => h fun i hi => ?_
    rw [Nat.testBit_or, one_nat, one_nat, Bool.or_eq_true, decide_eq_true_eq, decide_eq_true_eq] at hi
    rcases hi.2 with e | e
    · rw [e] at hn; exact hn (Or.inl hi.1)
    · rw [e] at hn; exact hn (Or.inr hi.1)
  · intro h k
    rcases h with h | h
    · exact k a ⟨h, by rw [Nat.testBit_or, one_nat]; simp⟩
    · exact k b ⟨h, by rw [Nat.testBit_or, one_nat, one_nat]; simp⟩
/-- What each writes. -/
def wri (l : List Ir) (k : Nat) : Int := df (l.getD k ir0)
theorem acc_spo (l : List Ir) (F : Nat → Nat) (i j : Nat) : (acc (wri l) F i l.length).testBit j = spo l F (j : Int) (i : Int) := by
  rw [acc_bit]
  unfold spo
  congr 1
  funext k
  unfold spl wri
  rw [and_one]
/-- The sets ahead of both being said of each other. -/
def stB (l : List Ir) (A F : Nat → Nat) (m i j : Nat) : Bool := (gvn (fun i => acc (wri l) F i l.length) (if 0 < l.length then A 0 else 0) m m i).testBit j
theorem stB_is (l : List Ir) (A F : Nat → Nat) (m i j : Nat) : stB l A F m i j = (spo l F (j : Int) (i : Int) || (decide (i < m) && (decide (0 < l.length) && ((A 0).testBit i && decide (j < m))))) := by
  unfold stB gvn
  by_cases h0 : 0 < l.length
  · rw [if_pos h0]
    by_cases h : i < m ∧ (A 0).testBit i = true
    · rw [if_pos h, Nat.testBit_or, full_bit, acc_spo]
      simp [h.1, h.2, h0]
    · rw [if_neg h, acc_spo]
      rw [not_and] at h
      by_cases hi : i < m
      · have := h hi
        simp [hi, this]
      · simp [hi]
  · rw [if_neg h0, if_neg (by simp), acc_spo]
    simp [h0]
theorem st_cls {d : Cd} {l : List Ir} {A F : Nat → Nat} {n m i j : Nat} (hm : d.params = (m : Int)) (hi : i < n) (hj : j < n) : mu (stB l A F m) n i j = (decide (i ≠ j) && cls d l A F (i : Int) (j : Int)) := by
  unfold mu
  rw [if_pos ⟨hi, hj⟩, stB_is, stB_is]
  congr 1
  unfold cls giv
  rw [hm, and_two]
  have e : decide (max (i : Int) (j : Int) < (m : Int)) = (decide (i < m) && decide (j < m)) := by
    rw [Bool.eq_iff_iff, Bool.and_eq_true, decide_eq_true_eq, decide_eq_true_eq, decide_eq_true_eq]; omega
  rw [e]
  cases spo l F (j : Int) (i : Int) <;> cases spo l F (i : Int) (j : Int) <;> cases decide (i < m) <;> cases decide (j < m) <;> cases decide (0 < l.length) <;> cases (A 0).testBit i <;> cases (A 0).testBit j <;> rfl
end Go.Proofs.YtjgaaofpfepfhaaDoor
