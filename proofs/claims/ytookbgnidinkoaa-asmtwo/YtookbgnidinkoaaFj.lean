/-
  Items that come in: a slice that is nil has no room.
-/
import Derived.Test.YtookbgnidinkoaaFi
namespace Go.Proofs.Ytookbgnidinkoaa
open Go.ChangeShapes Go.WideShapes Go.ChangeAt Go.RowKit Go.Joins
open Xc
set_option linter.unusedSimpArgs false
set_option linter.unusedVariables false
theorem open_nil {H : Type} {enc : TypeId × Value → H} {W : World} {a : Option Addr} {n c : Nat} {d : DataW H} {p : List MemPlace} (h : DataW.Trod enc Try.prog W 0 (fun _ => true) true 22 (.slice a n c) d p) (ha : a = none) : c = 0 := by
  obtain ⟨fuel, hf⟩ := h
  rcases Deep.open_slice Try.underlying22 hf with ⟨hcs, hx⟩ | ⟨a', len', cap', m, n', D, Pl, hcs, _, hl, hm, hmm, hx, hcell⟩
  · simp [Value.cells] at hcs
    exact hcs.2.2
  · simp [Value.cells] at hcs
    rw [ha] at hcs
    cases hcs.1
end Go.Proofs.Ytookbgnidinkoaa
