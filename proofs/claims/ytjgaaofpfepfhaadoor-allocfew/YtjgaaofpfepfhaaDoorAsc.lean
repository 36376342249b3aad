/-
  Plain: rows in order, each number once, are told by what they hold. No program.
-/
import Derived.Test.YtjgaaofpfepfhaaDoorNext
namespace Go.Proofs.YtjgaaofpfepfhaaDoor
open Go.RowKit
set_option linter.unusedSimpArgs false
set_option linter.unusedVariables false
theorem upto_asc (d : Array Int) (m : Nat) (h : ∀ i j, i < j → j < m → d[i]! ≤ d[j]!) : (Lib.compactUpTo d m).Pairwise (· < ·) := by
  unfold Lib.compactUpTo
  rw [List.pairwise_map, List.pairwise_filter]
  refine List.Pairwise.imp_of_mem ?_ (List.pairwise_lt_range (n := m))
  intro i j hi hj hij ki kj
  rw [List.mem_range] at hi hj
  match j, hij with
  | j + 1, hij =>
    simp only [Lib.keeps, decide_eq_true_eq] at kj
    have k : d[j + 1]! ≠ d[j]! := by
      rcases kj with k | k
      · omega
      · simpa using k
    have h1 : d[j]! ≤ d[j + 1]! := h j (j + 1) (by omega) hj
    rcases Nat.lt_or_ge i j with e | e
    · have := h i j e (by omega); omega
    · obtain rfl : i = j := by omega
      omega
theorem sc_asc (l : List Int) : (sc l).Pairwise (· < ·) := by
  unfold sc Lib.compact
  have hs : (l.mergeSort fun x y => decide (x ≤ y)).Pairwise (fun x y => decide (x ≤ y) = true) := List.pairwise_mergeSort (by intro a b c; simp; omega) (by intro a b; simp; omega) _
  generalize l.mergeSort (fun x y => decide (x ≤ y)) = s at *
  refine upto_asc _ _ fun i j hij hj => ?_
  have hj' : j < s.length := by simpa using hj
  have := List.pairwise_iff_getElem.1 hs i j (by omega) hj' hij
  have e1 : s.toArray[i]! = s[i]'(by omega) := by simp [show i < s.length by omega]
  have e2 : s.toArray[j]! = s[j] := by simp [hj']
  rw [e1, e2]
  simpa using this
theorem asc_uniq : ∀ {l m : List Int}, l.Pairwise (· < ·) → m.Pairwise (· < ·) → (∀ y, y ∈ l ↔ y ∈ m) → l = m
  | [], [], _, _, _ => rfl
  | [], y :: m, _, _, h => absurd ((h y).2 (List.mem_cons_self ..)) (by simp)
  | x :: l, [], _, _, h => absurd ((h x).1 (List.mem_cons_self ..)) (by simp)
  | x :: l, y :: m, h1, h2, h => by
    rw [List.pairwise_cons] at h1 h2
    have hxy : x = y := by
      have hx := (h x).1 (List.mem_cons_self ..)
      have hy := (h y).2 (List.mem_cons_self ..)
      rw [List.mem_cons] at hx hy
      rcases hx with e | hx
      · exact e
      · rcases hy with e | hy
        · exact e.symm
        · have := h1.1 y hy; have := h2.1 x hx; omega
    subst hxy
    rw [asc_uniq h1.2 h2.2 fun z => ?_]
    have hz := h z
    rw [List.mem_cons, List.mem_cons] at hz
    constructor
    · intro hm
      rcases hz.1 (Or.inr hm) with e | e
      · subst e; have := h1.1 z hm; omega
      · exact e
    · intro hm
      rcases hz.2 (Or.inr hm) with e | e
      · subst e; have := h2.1 z hm; omega
      · exact e
theorem sc_is {l m : List Int} (h : m.Pairwise (· < ·)) (k : ∀ y, y ∈ l ↔ y ∈ m) : sc l = m := asc_uniq (sc_asc l) h fun y => (sc_mem l y).trans (k y)
theorem sc_nil : sc [] = [] := sc_is (by simp) (by simp)
theorem sc_one (a : Int) : sc [a] = [a] := sc_is (by simp) (by simp)
theorem sc_lt {a b : Int} (h : a < b) : sc [a, b] = [a, b] := sc_is (by simp [h]) (by simp)
theorem sc_gt {a b : Int} (h : b < a) : sc [a, b] = [b, a] := sc_is (by simp [h]) (by intro y; simp; omega)
theorem sc_same (a : Int) : sc [a, a] = [a] := sc_is (by simp) (by simp)
end Go.Proofs.YtjgaaofpfepfhaaDoor
