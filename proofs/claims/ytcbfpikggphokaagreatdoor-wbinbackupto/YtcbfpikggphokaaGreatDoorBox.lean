/-
  What walks over boxed instructions and builders meet: an instruction in a block of its own, kept by whatever keeps older memory, and turned by a store; a builder kept; no program but the library's contracts.
-/
import Derived.Test.YtcbfpikggphokaaGreatDoorRight
import Derived.Test.YtcbfpikggphokaaGreatDoorShelf
import Derived.Test.YtcbfpikggphokaaGreatDoorTakeS
namespace Go.Proofs.YtcbfpikggphokaaGreatDoor
open Go.RowKit

/-- An instruction lies in block b. -/
def Box (b : Nat) (op n m : Int) (w : World) : Prop := w.heap[b]? = some (.cells #[.int .i64 op, .int .i64 n, .int .i64 m] 52 (0, 0))
theorem Box.c0 {b : Nat} {op n m : Int} {w : World} (h : Box b op n m w) : w.cell? ⟨b, 0, none⟩ = some (.int .i64 op) := by
  simp only [Box] at h; simp [World.cell?, h]
theorem Box.c1 {b : Nat} {op n m : Int} {w : World} (h : Box b op n m w) : w.cell? ⟨b, 1, none⟩ = some (.int .i64 n) := by
  simp only [Box] at h; simp [World.cell?, h]
theorem Box.c2 {b : Nat} {op n m : Int} {w : World} (h : Box b op n m w) : w.cell? ⟨b, 2, none⟩ = some (.int .i64 m) := by
  simp only [Box] at h; simp [World.cell?, h]
theorem Box.fr {b : Nat} {op n m : Int} {w : World} (h : Box b op n m w) (j : Nat) : w.frozen? ⟨b, j, none⟩ = false := by
  simp only [Box] at h; simp [World.frozen?, h]
theorem Box.lt {b : Nat} {op n m : Int} {w : World} (h : Box b op n m w) : b < w.heap.size := by
  rcases Nat.lt_or_ge b w.heap.size with h' | h'
  · exact h'
  · simp [Box, Array.getElem?_eq_none h'] at h
theorem Box.below {B b : Nat} {op n m : Int} {w w' : World} (h : Box b op n m w) (k : Below B w w') (hb : b < B) : Box b op n m w' := by
  unfold Box at *; rw [k.block b hb]; exact h
theorem Box.kept {b : Nat} {op n m : Int} {w w' : World} (h : Box b op n m w) (k : Below w.heap.size w w') : Box b op n m w' := h.below k h.lt
theorem Box.made (w : World) (op n m : Int) : Box w.heap.size op n m (w.alloc (.cells #[.int .i64 op, .int .i64 n, .int .i64 m] 52)) := heap_alloc_new w _
theorem Box.alloc {b : Nat} {op n m : Int} {w : World} (h : Box b op n m w) (o : Obj) : Box b op n m (w.alloc o) := by
  unfold Box at *; rw [Below.heap_alloc w o b (Box.lt h)]; exact h
theorem Box.set1 {b : Nat} {op n m : Int} {w : World} (h : Box b op n m w) (x : Int) : Box b op x m (w.setCell ⟨b, 1, none⟩ (.int .i64 x)) := by
  unfold Box at *; simp [World.setCell, Array.getElem?_modify, h]
theorem Box.set2 {b : Nat} {op n m : Int} {w : World} (h : Box b op n m w) (x : Int) : Box b op n x (w.setCell ⟨b, 2, none⟩ (.int .i64 x)) := by
  unfold Box at *; simp [World.setCell, Array.getElem?_modify, h]
theorem Box.other {b c : Nat} {op n m : Int} {w : World} (h : Box b op n m w) (j : Nat) (x : Value) (hc : b ≠ c) : Box b op n m (w.setCell ⟨c, j, none⟩ x) := by
  unfold Box at *; rw [Below.heap_setCell w _ x b hc]; exact h
theorem Box.drewN {b : Nat} {op n m : Int} {w : World} (h : Box b op n m w) (k : Nat) : Box b op n m (w.drewN k) := h

theorem builder_kept {B b : Nat} {bs : List Value} {w w' : World} (h : Lib.IsBuilder 177 5 B b bs w) (k : Below w.heap.size w w') : Lib.IsBuilder 177 5 B b bs w' := by
  have key : ∀ p, Lib.BuilderAt 177 5 B b p bs w → Lib.BuilderAt 177 5 B b p bs w' := by
    intro p hp
    have hlt := hp.lt
    obtain ⟨hB, v, hh, hown, hne⟩ := hp
    refine ⟨hB, v, ?_, ?_, hne⟩
    · rw [k.block b hlt]; exact hh
    · refine hown.kept (row := none) ⟨k.os, k.tape, k.output, k.size, fun i hi _ => k.block i hi⟩ ?_
      cases v.ownBlock
      · exact Or.inl rfl
      · exact Or.inr (by simp)
  rcases h with h | h
  · exact Or.inl (key _ h)
  · exact Or.inr (key _ h)
theorem builder_fresh (w : World) : Lib.IsBuilder 177 5 w.heap.size w.heap.size (Lib.byteCells []) (w.alloc (.cells #[.pointer none, .slice none 0 0] 177)) := Lib.fresh_isBuilder 177 5 w
/-- A byte more in a builder. -/
theorem at_byte {B b : Nat} {l : List UInt8} {c : Int} {p : Value} {w : World} (h : Lib.BuilderAt 177 5 B b p (Lib.byteCells l ++ [.int .u8 c]) w) (hp : p = .pointer (some ⟨b, 0, none⟩)) (h0 : 0 ≤ c) (h1 : c ≤ 255) : Lib.IsBuilder 177 5 B b (Lib.byteCells (l ++ [byI c])) w := by
  subst hp
  refine Or.inr ?_
  have e : Lib.byteCells (l ++ [byI c]) = Lib.byteCells l ++ [.int .u8 c] := by
    rw [Lib.byteCells_append]; simp [Lib.byteCells, byI_val h0 h1]
  rw [e]; exact h
/-- Bytes more in a builder. -/
theorem at_text {B b : Nat} {l r : List UInt8} {p : Value} {w : World} (h : Lib.BuilderAt 177 5 B b p (Lib.byteCells l ++ Lib.strCells (str r)) w) (hp : p = .pointer (some ⟨b, 0, none⟩)) : Lib.IsBuilder 177 5 B b (Lib.byteCells (l ++ r)) w := by
  subst hp
  refine Or.inr ?_
  rw [Lib.byteCells_append]; exact h
end Go.Proofs.YtcbfpikggphokaaGreatDoor
