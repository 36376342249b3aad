/-
  What crosses and what is named, of the program and of the document, side by side.
-/
import Derived.Test.YtjgaaofpfepfhaaDoorExm
import Derived.Test.YtjgaaofpfepfhaaDoorRcr
import Derived.Test.YtjgaaofpfepfhaaDoorRnm
import Derived.Test.YtjgaaofpfepfhaaDoorCrn
namespace Go.Proofs.YtjgaaofpfepfhaaDoor
open Go.RowKit
set_option linter.unusedSimpArgs false
set_option linter.unusedVariables false
theorem cross_both {d : Cd} {l : List Ir} {w w1 w2 : World} {e e2 : Ending} (h : CrEnds d l w e w1) (k : RCrEnds d l w1 e2 w2) :
    ∃ (x n : Int) (b : Bool), e = .returned (.tuple #[.int .i64 x, .int .i64 n]) ∧ e2 = .returned (.tuple #[.int .i64 x, .bool b]) ∧ ((fitb d l = true ∧ b = true ∧ n = 0) ∨ (fitb d l = false ∧ b = false ∧ n = 4)) ∧ Below w.heap.size w w1 ∧ Below w1.heap.size w1 w2 := by
  rcases h with ⟨hf, rfl, b1⟩ | ⟨hf, A, F, rfl, hs, b1⟩ <;> rcases k with ⟨kf, rfl, b2⟩ | ⟨kf, A', F', rfl, ks, b2⟩
  · exact ⟨_, _, _, rfl, rfl, Or.inr ⟨hf, rfl, rfl⟩, b1, b2⟩
  · rw [hf] at kf; cases kf
  · rw [hf] at kf; cases kf
  · refine ⟨_, _, _, rfl, ?_, Or.inl ⟨hf, rfl, rfl⟩, b1, b2⟩
    rw [crT_same (fun i hi => (hs.one ks (show i < (sy l).n from hi)).2) l.length (Nat.le_refl _)]
theorem named_both {d : Cd} {l : List Ir} {w w1 w2 : World} {e e2 : Ending} (h : NmEnds d l w e w1) (k : RNmEnds d l w1 e2 w2) :
    ∃ (x n : Int) (b : Bool), e = .returned (.tuple #[.int .i64 x, .int .i64 n]) ∧ e2 = .returned (.tuple #[.int .i64 x, .bool b]) ∧ ((fitb d l = true ∧ b = true ∧ n = 0) ∨ (fitb d l = false ∧ b = false ∧ n = 4)) ∧ Below w.heap.size w w1 ∧ Below w1.heap.size w1 w2 := by
  rcases h with ⟨hf, rfl, b1⟩ | ⟨hf, m, hm, rfl, b1⟩ <;> rcases k with ⟨kf, rfl, b2⟩ | ⟨kf, m', hm', rfl, b2⟩
  · exact ⟨_, _, _, rfl, rfl, Or.inr ⟨hf, rfl, rfl⟩, b1, b2⟩
  · rw [hf] at kf; cases kf
  · rw [hf] at kf; cases kf
  · obtain rfl : m' = m := by omega
    exact ⟨_, _, _, rfl, rfl, Or.inl ⟨hf, rfl, rfl⟩, b1, b2⟩
/-- The two places' rows, and their owners, whether the code fits or not. -/
theorem alloc_rows {d : Cd} {l : List Ir} {w w1 w2 : World} {e e2 : Ending} (h : AEnds d l w e w1) (k : RAEnds d l w1 e2 w2) (hc : d.cells ≤ 60 ∨ fitb d l = false) :
    ∃ (v v2 : Value) (n : Int) (b : Bool), e = .returned (.tuple #[v, .int .i64 n]) ∧ e2 = .returned (.tuple #[v2, .bool b]) ∧ ((b = true ∧ n = 0) ∨ (b = false ∧ n = 4)) ∧ Below w.heap.size w w1 ∧ Below w1.heap.size w1 w2 ∧
      ∀ W, Below w2.heap.size w2 W → Calls Tryd.prog 9 #[v, v2] W fun e w' => e = .returned (.bool true) ∧ Below W.heap.size W w' := by
  rcases alloc_both h k with ⟨hf, rfl, rfl, b1, b2⟩ | ⟨hf, r, n, v, ns, hn, hl, rfl, rfl, hr, hv, nv, b1, b2⟩
  · exact ⟨_, _, _, _, rfl, rfl, Or.inr ⟨rfl, rfl⟩, b1, b2, fun W _ => numbers_none _ _ _ _ W⟩
  · refine ⟨_, _, _, _, rfl, rfl, Or.inl ⟨rfl, rfl⟩, b1, b2, fun W hW => numbers_nv ((vrow_nv (c := n) hl hv).kept (b2.trans (hW.mono b2.size))) (nv.kept hW) ?_⟩
    rcases hc with hc | hc
    · omega
    · rw [hf] at hc; cases hc
end Go.Proofs.YtjgaaofpfepfhaaDoor
