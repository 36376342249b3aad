/-
  A code's box whose body was cut.
-/
import Derived.Test.YtjgaaofpfepfhaaDoorPr3
import Derived.Test.YtjgaaofpfepfhaaDoorSlx
import Derived.Test.YtjgaaofpfepfhaaDoorAlo
import Derived.Test.YtjgaaofpfepfhaaDoorRal
namespace Go.Proofs.YtjgaaofpfepfhaaDoor
open Go.RowKit
set_option linter.unusedSimpArgs false
set_option linter.unusedVariables false
/-- The box. -/
structure FQ (cs ps ls : Int) (q : Option Addr) (n cap q0 : Nat) (w W : World) : Prop where
  b : Below w.heap.size w W
  lt : q0 < W.heap.size
  c0 : W.cell? ⟨q0, 0, none⟩ = some (.int .i64 cs)
  c1 : W.cell? ⟨q0, 1, none⟩ = some (.int .i64 ps)
  c2 : W.cell? ⟨q0, 2, none⟩ = some (.slice q n cap)
  c3 : W.cell? ⟨q0, 3, none⟩ = some (.int .i64 ls)
theorem FQ.bel {cs ps ls : Int} {q : Option Addr} {n cap q0 : Nat} {w W U : World} (h : FQ cs ps ls q n cap q0 w W) (k : Below W.heap.size W U) : FQ cs ps ls q n cap q0 w U :=
  ⟨h.b.trans (k.mono h.b.size), Nat.lt_of_lt_of_le h.lt k.size, (k.cell (p := ⟨q0, 0, none⟩) h.lt).trans h.c0, (k.cell (p := ⟨q0, 1, none⟩) h.lt).trans h.c1, (k.cell (p := ⟨q0, 2, none⟩) h.lt).trans h.c2, (k.cell (p := ⟨q0, 3, none⟩) h.lt).trans h.c3⟩
theorem IR.take {n₀ : Nat} {W : World} {a : Option Addr} {l : List Ir} (h : IR n₀ W a l) (m : Nat) : IR n₀ W a (l.take m) := fun j hj => by
  rw [List.length_take] at hj
  rw [List.getElem_take]
  exact h j (by omega)
theorem cells_60 (d : Cd) (l : List Ir) : d.cells ≤ 60 ∨ fitb d l = false := by
  cases hf : fitb d l
  · exact Or.inr rfl
  · have FP := fit_parts hf
    exact Or.inl (by omega)
theorem alloc_any (d : Cd) (q : Option Addr) (cap : Nat) (l : List Ir) (w : World) (hl : l.length ≤ 1000) (hr : IR w.heap.size w q l) (hT : Laid w) (hw0 : 0 < w.heap.size) :
    Calls Tryd.prog 7 #[cv d q l.length cap] w (AEnds d l w) := callsIn_wide.1 (alloc_in 4 (by omega) d q cap l w hl hr hT hw0)
end Go.Proofs.YtjgaaofpfepfhaaDoor
