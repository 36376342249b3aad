/-
  What the walks of FlagsCompare keep: the flags, the list of answers, the list of conditions; plain facts on a comparison's flags.
-/
import Derived.Test.YtmcjdlmbidlckaaIs
import Derived.Test.YtmcjdlmbidlckaaHold
namespace Go.Proofs.Ytmcjdlmbidlckaa
open Go.RowKit

structure Cin (w0 w : World) (g : Nat) (Z S C O e0 e1 e2 e3 e4 e5 e6 e7 e8 e9 : Bool) : Prop where
  bel : Below w0.heap.size w0 w
  fl : Fl g Z S C O w
  want : w.heap[g + 1]? = some (.cells #[.bool e0, .bool e1, .bool e2, .bool e3, .bool e4, .bool e5, .bool e6, .bool e7, .bool e8, .bool e9] 4)
  cond : w.heap[g + 1 + 1]? = some (.cells #[.int .i64 2, .int .i64 3, .int .i64 4, .int .i64 5, .int .i64 6, .int .i64 7, .int .i64 12, .int .i64 13, .int .i64 14, .int .i64 15] 3)
theorem at_lt {w : World} {g : Nat} {o : Obj} (h : w.heap[g]? = some o) : g < w.heap.size := by
  rcases Nat.lt_or_ge g w.heap.size with h' | h'
  · exact h'
  · simp [Array.getElem?_eq_none h'] at h
theorem at_kept {w w' : World} {g : Nat} {o : Obj} (h : w.heap[g]? = some o) (k : Below w.heap.size w w') : w'.heap[g]? = some o := by
  rw [k.block g (at_lt h)]; exact h
theorem cin_start (w0 w : World) (Z S C O e0 e1 e2 e3 e4 e5 e6 e7 e8 e9 : Bool) (h : Below w0.heap.size w0 w) :
    Cin w0 (((w.alloc (.cells #[.bool Z, .bool S, .bool C, .bool O] 24)).alloc (.cells #[.bool e0, .bool e1, .bool e2, .bool e3, .bool e4, .bool e5, .bool e6, .bool e7, .bool e8, .bool e9] 4)).alloc (.cells #[.int .i64 2, .int .i64 3, .int .i64 4, .int .i64 5, .int .i64 6, .int .i64 7, .int .i64 12, .int .i64 13, .int .i64 14, .int .i64 15] 3)) w.heap.size Z S C O e0 e1 e2 e3 e4 e5 e6 e7 e8 e9 := by
  refine ⟨bel_al (bel_al (bel_al h _) _) _, ((Fl.made w Z S C O).alloc _).alloc _, ?_, ?_⟩
  · have h1 := heap_alloc_new (w.alloc (.cells #[.bool Z, .bool S, .bool C, .bool O] 24)) (.cells #[.bool e0, .bool e1, .bool e2, .bool e3, .bool e4, .bool e5, .bool e6, .bool e7, .bool e8, .bool e9] 4)
    have e : (w.alloc (.cells #[.bool Z, .bool S, .bool C, .bool O] 24)).heap.size = w.heap.size + 1 := by simp
    rw [e] at h1
    exact at_kept h1 (bel_one _ _)
  · have h1 := heap_alloc_new ((w.alloc (.cells #[.bool Z, .bool S, .bool C, .bool O] 24)).alloc (.cells #[.bool e0, .bool e1, .bool e2, .bool e3, .bool e4, .bool e5, .bool e6, .bool e7, .bool e8, .bool e9] 4)) (.cells #[.int .i64 2, .int .i64 3, .int .i64 4, .int .i64 5, .int .i64 6, .int .i64 7, .int .i64 12, .int .i64 13, .int .i64 14, .int .i64 15] 3)
    have e : ((w.alloc (.cells #[.bool Z, .bool S, .bool C, .bool O] 24)).alloc (.cells #[.bool e0, .bool e1, .bool e2, .bool e3, .bool e4, .bool e5, .bool e6, .bool e7, .bool e8, .bool e9] 4)).heap.size = w.heap.size + 1 + 1 := by simp
    rw [e] at h1
    exact h1
section
variable {w0 w : World} {g : Nat} {Z S C O e0 e1 e2 e3 e4 e5 e6 e7 e8 e9 : Bool}
theorem Cin.kept {w' : World} (h : Cin w0 w g Z S C O e0 e1 e2 e3 e4 e5 e6 e7 e8 e9) (k : Below w.heap.size w w') : Cin w0 w' g Z S C O e0 e1 e2 e3 e4 e5 e6 e7 e8 e9 :=
  ⟨bel_tr h.bel k, h.fl.kept k, at_kept h.want k, at_kept h.cond k⟩
theorem Cin.drew (h : Cin w0 w g Z S C O e0 e1 e2 e3 e4 e5 e6 e7 e8 e9) : Cin w0 w.drew g Z S C O e0 e1 e2 e3 e4 e5 e6 e7 e8 e9 := ⟨h.bel.drew, h.fl, h.want, h.cond⟩
theorem Cin.c0 (h : Cin w0 w g Z S C O e0 e1 e2 e3 e4 e5 e6 e7 e8 e9) : w.cell? ⟨g + 1 + 1, 0, none⟩ = some (.int .i64 2) := by
  have := h.cond; simp [World.cell?, this]
theorem Cin.x0 (h : Cin w0 w g Z S C O e0 e1 e2 e3 e4 e5 e6 e7 e8 e9) : w.cell? ⟨g + 1, 0, none⟩ = some (.bool e0) := by
  have := h.want; simp [World.cell?, this]
theorem Cin.c1 (h : Cin w0 w g Z S C O e0 e1 e2 e3 e4 e5 e6 e7 e8 e9) : w.cell? ⟨g + 1 + 1, 1, none⟩ = some (.int .i64 3) := by
  have := h.cond; simp [World.cell?, this]
theorem Cin.x1 (h : Cin w0 w g Z S C O e0 e1 e2 e3 e4 e5 e6 e7 e8 e9) : w.cell? ⟨g + 1, 1, none⟩ = some (.bool e1) := by
  have := h.want; simp [World.cell?, this]
theorem Cin.c2 (h : Cin w0 w g Z S C O e0 e1 e2 e3 e4 e5 e6 e7 e8 e9) : w.cell? ⟨g + 1 + 1, 2, none⟩ = some (.int .i64 4) := by
  have := h.cond; simp [World.cell?, this]
theorem Cin.x2 (h : Cin w0 w g Z S C O e0 e1 e2 e3 e4 e5 e6 e7 e8 e9) : w.cell? ⟨g + 1, 2, none⟩ = some (.bool e2) := by
  have := h.want; simp [World.cell?, this]
theorem Cin.c3 (h : Cin w0 w g Z S C O e0 e1 e2 e3 e4 e5 e6 e7 e8 e9) : w.cell? ⟨g + 1 + 1, 3, none⟩ = some (.int .i64 5) := by
  have := h.cond; simp [World.cell?, this]
theorem Cin.x3 (h : Cin w0 w g Z S C O e0 e1 e2 e3 e4 e5 e6 e7 e8 e9) : w.cell? ⟨g + 1, 3, none⟩ = some (.bool e3) := by
  have := h.want; simp [World.cell?, this]
theorem Cin.c4 (h : Cin w0 w g Z S C O e0 e1 e2 e3 e4 e5 e6 e7 e8 e9) : w.cell? ⟨g + 1 + 1, 4, none⟩ = some (.int .i64 6) := by
  have := h.cond; simp [World.cell?, this]
theorem Cin.x4 (h : Cin w0 w g Z S C O e0 e1 e2 e3 e4 e5 e6 e7 e8 e9) : w.cell? ⟨g + 1, 4, none⟩ = some (.bool e4) := by
  have := h.want; simp [World.cell?, this]
theorem Cin.c5 (h : Cin w0 w g Z S C O e0 e1 e2 e3 e4 e5 e6 e7 e8 e9) : w.cell? ⟨g + 1 + 1, 5, none⟩ = some (.int .i64 7) := by
  have := h.cond; simp [World.cell?, this]
theorem Cin.x5 (h : Cin w0 w g Z S C O e0 e1 e2 e3 e4 e5 e6 e7 e8 e9) : w.cell? ⟨g + 1, 5, none⟩ = some (.bool e5) := by
  have := h.want; simp [World.cell?, this]
theorem Cin.c6 (h : Cin w0 w g Z S C O e0 e1 e2 e3 e4 e5 e6 e7 e8 e9) : w.cell? ⟨g + 1 + 1, 6, none⟩ = some (.int .i64 12) := by
  have := h.cond; simp [World.cell?, this]
theorem Cin.x6 (h : Cin w0 w g Z S C O e0 e1 e2 e3 e4 e5 e6 e7 e8 e9) : w.cell? ⟨g + 1, 6, none⟩ = some (.bool e6) := by
  have := h.want; simp [World.cell?, this]
theorem Cin.c7 (h : Cin w0 w g Z S C O e0 e1 e2 e3 e4 e5 e6 e7 e8 e9) : w.cell? ⟨g + 1 + 1, 7, none⟩ = some (.int .i64 13) := by
  have := h.cond; simp [World.cell?, this]
theorem Cin.x7 (h : Cin w0 w g Z S C O e0 e1 e2 e3 e4 e5 e6 e7 e8 e9) : w.cell? ⟨g + 1, 7, none⟩ = some (.bool e7) := by
  have := h.want; simp [World.cell?, this]
theorem Cin.c8 (h : Cin w0 w g Z S C O e0 e1 e2 e3 e4 e5 e6 e7 e8 e9) : w.cell? ⟨g + 1 + 1, 8, none⟩ = some (.int .i64 14) := by
  have := h.cond; simp [World.cell?, this]
theorem Cin.x8 (h : Cin w0 w g Z S C O e0 e1 e2 e3 e4 e5 e6 e7 e8 e9) : w.cell? ⟨g + 1, 8, none⟩ = some (.bool e8) := by
  have := h.want; simp [World.cell?, this]
theorem Cin.c9 (h : Cin w0 w g Z S C O e0 e1 e2 e3 e4 e5 e6 e7 e8 e9) : w.cell? ⟨g + 1 + 1, 9, none⟩ = some (.int .i64 15) := by
  have := h.cond; simp [World.cell?, this]
theorem Cin.x9 (h : Cin w0 w g Z S C O e0 e1 e2 e3 e4 e5 e6 e7 e8 e9) : w.cell? ⟨g + 1, 9, none⟩ = some (.bool e9) := by
  have := h.want; simp [World.cell?, this]
end
end Go.Proofs.Ytmcjdlmbidlckaa
