/-
  Plain: a round over places in whatever order. No program.
-/
import Derived.Test.YtjgaaofpfepfhaaDoorFix
namespace Go.Proofs.YtjgaaofpfepfhaaDoor
open Go.RowKit
set_option linter.unusedSimpArgs false
set_option linter.unusedVariables false
/-- A round, the places of D being done. -/
structure Pd (S : Sy) (A0 : Nat → Nat) (D : Nat → Prop) (ch : Bool) (A F : Nat → Nat) : Prop where
  inv : Inv S A F
  ge : tot A0 S.n ≤ tot A S.n
  no : ch = false → ∀ j, D j → j < S.n → (∀ p ∈ S.nx j, sub (A p) (F j)) ∧ A j = lv S j (F j)
  yes : ch = true → tot A0 S.n < tot A S.n
section
variable {S : Sy} {A F A0 : Nat → Nat} {i : Nat} {D : Nat → Prop}
theorem Pd.start (h : Inv S A F) : Pd S A (fun _ => False) false A F := ⟨h, Nat.le_refl _, fun _ j h => h.elim, fun e => by cases e⟩
theorem Pd.next (ok : S.ok) {ch : Bool} (h : Pd S A0 D ch A F) (hi : i < S.n) {G : Nat → Nat} (hG : Inv S A G) (ho : ∀ j, j ≠ i → G j = F j) (hg : ∀ p ∈ S.nx i, sub (A p) (G i)) :
    Pd S A0 (fun j => D j ∨ j = i) (ch || (lv S i (G i) != A i)) (upd A i (lv S i (G i))) G := by
  have hs := hG.ale i hi
  have hmono : ∀ j, j < S.n → A j ≤ upd A i (lv S i (G i)) j := fun j _ => (sub_upd hG hs j).le
  refine ⟨hG.setA ok hi, Nat.le_trans h.ge (tot_mono hmono), fun e => ?_, fun e => ?_⟩
  · rw [Bool.or_eq_false_iff] at e
    have e2 : lv S i (G i) = A i := by simpa using e.2
    have eA : upd A i (lv S i (G i)) = A := by
      funext j
      by_cases h : j = i
      · rw [h, upd_same, e2]
      · rw [upd_other A _ h]
    rw [eA]
    intro j hD h2
    by_cases hj : j = i
    · subst hj; exact ⟨hg, e2.symm⟩
    · rw [ho j hj]; exact h.no e.1 j (hD.resolve_right hj) h2
  · cases ch with
    | true => exact Nat.lt_of_lt_of_le (h.yes rfl) (tot_mono hmono)
    | false =>
      have e2 : lv S i (G i) ≠ A i := by simpa using e
      refine Nat.lt_of_le_of_lt h.ge (tot_lt hmono hi ?_)
      rw [upd_same]
      exact Nat.lt_of_le_of_ne hs.le (Ne.symm e2)
theorem Pd.mono {D' : Nat → Prop} {ch : Bool} (h : Pd S A0 D ch A F) (k : ∀ j, D' j → D j) : Pd S A0 D' ch A F := ⟨h.inv, h.ge, fun e j hj hl => h.no e j (k j hj) hl, h.yes⟩
theorem Pd.sol (h : Pd S A0 D false A F) (hD : ∀ j, j < S.n → D j) : Sol S A F := by
  have k := h.no rfl
  refine ⟨h.inv.la, h.inv.lf, fun i hi => (h.inv.fle i hi).antisymm (ors_sub fun s hs => ?_), fun i hi => (k i (hD i hi) hi).2, h.inv.least⟩
  obtain ⟨p, hp, rfl⟩ := List.mem_map.1 hs
  exact (k i (hD i hi) hi).1 p hp
end
end Go.Proofs.YtjgaaofpfepfhaaDoor
