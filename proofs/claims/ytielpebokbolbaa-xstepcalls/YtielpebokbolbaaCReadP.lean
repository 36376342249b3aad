/-
  What the program's read meets: the world behind its copy, its callees by what they answer.
-/
import Derived.Test.YtielpebokbolbaaCCopy
import Derived.Deep.CutRange
namespace Go.Proofs.Ytielpebokbolbaa.Xc
open Go.RowKit
set_option linter.unusedSimpArgs false
set_option linter.unusedVariables false
/-- What read answers. -/
def RdIs (t : ByteArray) (w : World) : Prop := Calls Try.prog 68 #[.string t] w fun e w' => e = .returned (xv (rd (pad t.data.toList))) ∧ Below w.heap.size w w'
/-- The world behind the copy. -/
theorem copy_world (w w2 : World) (t : ByteArray) (zx : Array Value) (hw2 : w2 = ((w.alloc (.cells zx 49)).alloc (.cells z16 110)).setCells (w.heap.size + 1) 0 (Lib.byteCells (t.data.toList.take 16))) :
    MB (w.heap.size + 1) 0 (pad t.data.toList) w2 ∧ RowX w.heap.size zx w2 ∧ Below w.heap.size w w2 := by
  have e1 : (w.alloc (.cells zx 49)).heap.size = w.heap.size + 1 := by simp
  have hg : ((w.alloc (.cells zx 49)).alloc (.cells z16 110)).heap[w.heap.size + 1]? = some (.cells z16 110) := by rw [← e1]; exact heap_alloc_new _ _
  obtain ⟨h1, h2⟩ := (copied16 _ (w.heap.size + 1) 110 t hg).2.2 w2 hw2
  refine ⟨h1, ?_, ?_⟩
  · unfold RowX
    rw [h2.block w.heap.size (by omega), Below.heap_alloc _ _ _ (by rw [e1]; omega)]
    exact heap_alloc_new _ _
  · exact (((bel_one w _).alloc (by simp) _).trans (h2.mono (by omega)))
theorem upper_any (p k : Int) (w : World) (h0 : 0 ≤ p) (h1 : p ≤ 255) (hk : k = 1 ∨ k = 2 ∨ k = 4) : Calls Try.prog 80 #[.int .i64 p, .int .i64 k] w fun e w' => e = .returned (.int .i64 (upr p k)) ∧ w' = w := by
  rcases hk with rfl | rfl | rfl
  · exact upper_1 p w h0 h1
  · exact upper_2 p w h0 h1
  · exact upper_4 p w h0 h1
theorem gen_world {motive : World → Prop} {w5 : World} (Pr : World → Prop) (h : Pr w5) (k : ∀ x, Pr x → motive x) : motive w5 := k _ h
theorem RowX.of {g : Nat} {cs cs' : Array Value} {w : World} (h : RowX g cs w) (e : cs = cs') : RowX g cs' w := e ▸ h
theorem bit8 : ∀ v : Int, 0 ≤ v → v ≤ 255 → (bits BinOp.and IntKind.i64 v 8 != 0) = decide (v / 8 % 2 = 1) := all256 (by decide +kernel)
theorem upr_bd (p k : Int) : 0 ≤ upr p k ∧ upr p k ≤ 8 := by unfold upr; split <;> decide
theorem MB.bel {g o : Nat} {l : List UInt8} {w w' : World} (h : MB g o l w) (k : Below w.heap.size w w') (hl : 0 < l.length) : MB g o l w' := by
  refine h.blk (k.block g ?_)
  have := h 0 hl
  exact World.block_lt_of_cell? w _ this
theorem RowX.bel {g : Nat} {cs : Array Value} {w w' : World} (h : RowX g cs w) (k : Below w.heap.size w w') : RowX g cs w' := by
  have hl : g < w.heap.size := by
    rcases Nat.lt_or_ge g w.heap.size with h' | h'
    · exact h'
    · simp [RowX, Array.getElem?_eq_none h'] at h
  unfold RowX at *; rw [k.block g hl]; exact h
theorem RowX.cell {g : Nat} {cs : Array Value} {w : World} (h : RowX g cs w) (k : Nat) (v : Value) (hv : cs[k]? = some v) : w.cell? ⟨g, k, none⟩ = some v := by
  simp only [RowX] at h; simp [World.cell?, h, hv]
theorem RowX.fr {g : Nat} {cs : Array Value} {w : World} (h : RowX g cs w) (k : Nat) : w.frozen? ⟨g, k, none⟩ = false := by
  simp only [RowX] at h; simp [World.frozen?, h]
theorem part_len (P : List UInt8) (h : P.length = 16) (k m : Nat) (hk : k + m ≤ 16) : ((P.drop k).take m).length = m := by simp; omega
theorem join_at (g cap k m : Nat) (P : List UInt8) (W : World) (hP : P.length = 16) (hk : k + m ≤ 16) (hm : m ≤ 8) (hM : MB g 0 P W) (X : World) (hX : X.heap[g]? = W.heap[g]?) :
    Calls Try.prog 81 #[.slice (some ⟨g, k, none⟩) m cap] X fun e w' => e = .returned (.int .i64 (jn ((P.drop k).take m))) ∧ w' = X := by
  have h := join_any g k cap ((P.drop k).take m) X (by rw [part_len P hP k m hk]; exact hm) (by have := ((hM.blk hX).part k m); rwa [Nat.zero_add] at this)
  rw [part_len P hP k m hk] at h
  exact h
theorem heap_set1 {W X : World} {g b k : Nat} {v : Value} (h : X.heap[g]? = W.heap[g]?) (hne : g ≠ b) : (X.setCell ⟨b, k, none⟩ v).heap[g]? = W.heap[g]? := (heap_set X ⟨b, k, none⟩ v g hne).trans h
theorem rex_of (P : List UInt8) (g : Nat) (hl : P.length = 16) : ∀ X, MB g 0 P X → Calls Try.prog 76 #[.slice (some ⟨g, 0, none⟩) 16 16] X fun e w' => e = .returned (.tuple #[.int .i64 (rP P), .slice (some ⟨g, rO P, none⟩) (16 - rO P) (16 - rO P)]) ∧ Below X.heap.size X w' :=
  fun X h => takeREX_any g (ga P 0) X (ga_bd P 0).1 (ga_bd P 0).2 (h.at 0 (by omega))
theorem code_of (P : List UInt8) (g : Nat) (hl : P.length = 16) : ∀ X, MB g 0 P X → Calls Try.prog 77 #[.slice (some ⟨g, rO P, none⟩) (16 - rO P) (16 - rO P)] X fun e w' => e = .returned (.tuple #[.int .i64 (rF P), .slice (some ⟨g, rQ P, none⟩) (16 - rQ P) (16 - rQ P)]) ∧ Below X.heap.size X w' :=
  fun X h => takeCode_any g (rO P) (ga P (rO P)) (ga P (rO P + 1)) X (rO_bd P) (ga_bd P _).1 (ga_bd P _).2 (ga_bd P _).1 (ga_bd P _).2 (h.at _ (by have := rO_bd P; omega)) (h.at _ (by have := rO_bd P; omega))
theorem jn_64 (l : List UInt8) : I64 (jn l) := by unfold jn I64 wrap64; omega
end Go.Proofs.Ytielpebokbolbaa.Xc
