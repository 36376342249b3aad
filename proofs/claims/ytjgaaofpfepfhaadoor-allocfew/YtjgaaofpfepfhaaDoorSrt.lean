/-
  The library's Sort and Compact of a row of one's own.
-/
import Derived.Test.YtjgaaofpfepfhaaDoorNums
import Derived.Sort.OwnSortedInts
namespace Go.Proofs.YtjgaaofpfepfhaaDoor
open Go.RowKit Go.Sort
set_option linter.unusedSimpArgs false
set_option linter.unusedVariables false
def ss (ns : List Int) : List Int := ns.mergeSort fun x y => decide (x ≤ y)
theorem ss_len (ns : List Int) : (ss ns).length = ns.length := List.length_mergeSort ..
theorem sort_any {B : Nat} {v : Value} {ns : List Int} {w : World} (h : NR B v ns w) (hB : B ≤ w.heap.size) (hl : ns.length ≤ 1000) :
    Calls Tryd.prog 60 #[v] w fun e w' => (∃ u, e = .returned u) ∧ NR B v (ss ns) w' ∧ Below B w w' := by
  rcases h.2 with ⟨rfl, e⟩ | ⟨g, cap, cur, rfl, hbase, hb, h1, h2, h3, h4⟩
  · have : ns = [] := List.length_eq_zero_iff.1 e
    subst this
    refine (sort_none none 0 w).mono ?_
    rintro e w' ⟨hu, rfl⟩
    exact ⟨hu, by rw [show ss [] = [] by simp [ss]]; exact NR.nil _ _, Below.refl _ _⟩
  · refine (Tryd.slices_Sort_int g 0 cap ns w (holds_of_blockI hb (by simpa using h4)) (Array.getElem?_eq_some_iff.1 hb).1 (by omega)).mono ?_
    rintro e w' ⟨rfl, n, os, rfl⟩
    refine ⟨⟨_, rfl⟩, ?_, (Below.refl B w).grown (grownBy_sortedI _) hB fun j hj => by cases hj; exact hbase⟩
    have := ownsRow_sortedI (n := n) (os := os) (ss := ns) (ts := ss ns) (ss_len ns) hbase hb h1 h2 h3
    unfold NR
    rw [ss_len]
    exact this
theorem compact_any {B : Nat} {v : Value} {ns : List Int} {w : World} (h : NR B v ns w) (hB : B ≤ w.heap.size) (hl : ns.length ≤ 1000) :
    Calls Tryd.prog 61 #[v] w fun e w' => ∃ v', e = .returned v' ∧ Nv B v' (Lib.compact ns) w' ∧ Below B w w' := by
  rcases h.2 with ⟨rfl, e⟩ | ⟨g, cap, cur, rfl, hbase, hb, h1, h2, h3, h4⟩
  · have : ns = [] := List.length_eq_zero_iff.1 e
    subst this
    refine (Tryd.slices_Compact_int_empty none 0 w).mono ?_
    rintro e w' ⟨rfl, rfl⟩
    exact ⟨_, rfl, Or.inl ⟨by simp [Lib.compact, Lib.compactUpTo], _, _, rfl⟩, Below.refl _ _⟩
  · have hH := holds_of_blockI (ss := ns) hb (by simpa using h4)
    have hg := (Array.getElem?_eq_some_iff.1 hb).1
    refine (Tryd.slices_Compact_int g 0 cap ns w hH (by omega) h1).mono ?_
    rintro e w' ⟨rfl, q, rfl⟩
    have hcl := Lib.compact_length_le ns
    refine ⟨_, rfl, Or.inr ⟨g, cap, rfl, hbase, by simp [putRow, mapBlock, Sort.ahead]; exact hg, fun j hj => ?_⟩, ?_⟩
    · have hsz : ((Lib.compact ns ++ List.replicate (ns.length - (Lib.compact ns).length) 0).toArray).size = ns.toArray.size := by simp; omega
      have := cell?_putRow (Value.int .i64) (Sort.ahead w q) g 0 ns.toArray (Lib.compact ns ++ List.replicate (ns.length - (Lib.compact ns).length) 0).toArray (fun j hj => hH j hj) hsz j (by simp; omega)
      rw [Nat.zero_add] at this
      rw [this]
      simp [hj]
      rw [List.getElem?_append_left hj, List.getElem?_eq_getElem hj]
      rfl
    · have := (Below.refl B w).grown (grownBy_sortedI (g := g) (n := q) (os := #[]) (Lib.compact ns ++ List.replicate (ns.length - (Lib.compact ns).length) 0).toArray) hB fun j hj => by cases hj; exact hbase
      rwa [grow_empty] at this
end Go.Proofs.YtjgaaofpfepfhaaDoor
