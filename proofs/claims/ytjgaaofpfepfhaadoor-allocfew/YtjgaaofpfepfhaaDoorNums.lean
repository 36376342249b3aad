/-
  Numbers in rows; numbers in order, each once; the library's Sort and Compact of few.
-/
import Derived.Test.YtjgaaofpfepfhaaDoorLeaf
import Derived.Test.YtjgaaofpfepfhaaDoorShelf
import Derived.Laws.OwnMore
import Derived.OwnWalk
import Derived.Maps.AppendAt
import Derived.Lib.RowBridge
namespace Go.Proofs.YtjgaaofpfepfhaaDoor
open Go.RowKit Go.Sort
set_option linter.unusedSimpArgs false
set_option linter.unusedVariables false
/-- Numbers in a row of one's own. -/
def NR (B : Nat) (v : Value) (ns : List Int) (w : World) : Prop := w.ownsRow B 3 1 v ns.length (ns.map (Value.int .i64))
section
variable {B e s n : Nat} {v : Value} {xs : List Value} {w w' : World}
theorem own_kept (h : w.ownsRow B e s v n xs) (k : Below w.heap.size w w') : w'.ownsRow B e s v n xs := by
  refine ⟨h.1, ?_⟩
  rcases h.2 with h' | ⟨g, cap, cur, e', h1, h2, h3⟩
  · exact Or.inl h'
  · refine Or.inr ⟨g, cap, cur, e', h1, ?_, h3⟩
    have hg : g < w.heap.size := (h.lt g (by rw [e']; rfl)).2
    rw [k.block g hg]; exact h2
theorem own_bel (hr : w.ownsRow B e s v n xs) (hB : B ≤ w.heap.size) (hg : w.grownBy w' v.ownBlock) : Below B w w' :=
  ⟨hg.os, hg.tape, hg.output, hg.size, fun b hb => hg.block b (by omega) fun e => by have := hr.lt b e.symm; omega⟩
end
theorem NR.kept {B : Nat} {v : Value} {ns : List Int} {w w' : World} (h : NR B v ns w) (k : Below w.heap.size w w') : NR B v ns w' := own_kept h k
theorem NR.nil (B : Nat) (w : World) : NR B (.slice none 0 0) [] w := ⟨rfl, Or.inl ⟨rfl, rfl⟩⟩
theorem NR.form {B : Nat} {v : Value} {ns : List Int} {w : World} (h : NR B v ns w) : ∃ a c, v = .slice a ns.length c := by
  rcases h.2 with ⟨rfl, e⟩ | ⟨g, cap, cur, rfl, _⟩
  · rw [e]; exact ⟨_, _, rfl⟩
  · exact ⟨_, _, rfl⟩
/-- Numbers somewhere at B or beyond, to be read. -/
def Nv (B : Nat) (v : Value) (ns : List Int) (w : World) : Prop :=
  (ns = [] ∧ ∃ a c, v = .slice a 0 c) ∨ ∃ g c, v = .slice (some ⟨g, 0, none⟩) ns.length c ∧ B ≤ g ∧ g < w.heap.size ∧ ∀ j (hj : j < ns.length), w.cell? ⟨g, j, none⟩ = some (.int .i64 ns[j])
theorem Nv.kept {B : Nat} {v : Value} {ns : List Int} {w w' : World} (h : Nv B v ns w) (k : Below w.heap.size w w') : Nv B v ns w' := by
  rcases h with h | ⟨g, c, e, h1, h2, h3⟩
  · exact Or.inl h
  · exact Or.inr ⟨g, c, e, h1, Nat.lt_of_lt_of_le h2 k.size, fun j hj => (k.cell (p := ⟨g, j, none⟩) h2).trans (h3 j hj)⟩
theorem Nv.mono {B B' : Nat} {v : Value} {ns : List Int} {w : World} (h : Nv B v ns w) (k : B' ≤ B) : Nv B' v ns w := by
  rcases h with h | ⟨g, c, e, h1, h2⟩
  · exact Or.inl h
  · exact Or.inr ⟨g, c, e, by omega, h2⟩
theorem Nv.form {B : Nat} {v : Value} {ns : List Int} {w : World} (h : Nv B v ns w) : ∃ a c, v = .slice a ns.length c := by
  rcases h with ⟨rfl, a, c, rfl⟩ | ⟨g, c, e, _⟩
  · exact ⟨a, c, rfl⟩
  · exact ⟨_, c, e⟩
theorem info3 : (Tryd.prog.info? 3).map (fun i => (i.zero, i.size, i.bytes)) = some (some (.int .i64 0), 1, 8) := by kernel_rfl
theorem one_at (w : World) (x : Int) : ∀ j u, [Value.int .i64 x][j]? = some u → (w.alloc (.cells #[.int .i64 x] 3)).cell? ((⟨w.heap.size, 0, none⟩ : Addr).add j) = some u := by
  intro j u h
  have e := heap_alloc_new w (.cells #[.int .i64 x] 3)
  cases j with
  | zero => simp at h; subst h; exact cell_one_new w (.int .i64 x) 3 0 _ rfl
  | succ j => simp at h
theorem one_cell (x : Int) : ∀ u, u ∈ [Value.int .i64 x] → u.oneCell' = true := by
  intro u h; simp at h; subst h; rfl
theorem ins_none (a : Option Addr) (c : Nat) (w : World) : Calls Tryd.prog 69 #[.slice a 0 c, .int .i64 0, .int .i64 0] w fun e w' => (∃ v, e = .returned v) ∧ w' = w := by
  go_enter Tryd.func69, Tryd.ntmps69
  go_wp2_with fail
  go_loopw [6] (fun iv wr => iv = .int .i64 1 ∧ wr = w) (fun _ _ => 0)
  case atStart => exact ⟨rfl, rfl⟩
  case round =>
    obtain ⟨rfl, rfl⟩ := hrel
    go_wp2_with fail
    go_end0
    exact ⟨⟨_, rfl⟩, rfl⟩
theorem pdq_none (a : Option Addr) (c : Nat) (k : Int) (w : World) : Calls Tryd.prog 66 #[.slice a 0 c, .int .i64 0, .int .i64 0, .int .i64 k] w fun e w' => (∃ v, e = .returned v) ∧ w' = w := by
  go_enter Tryd.func66, Tryd.ntmps66
  go_wp2_with fail
  go_loopw [1, 2, 3, 8, 9] (fun s1 s2 s3 s8 s9 wr => s1 = .int .i64 0 ∧ s2 = .int .i64 0 ∧ wr = w) (fun _ _ _ _ _ _ => 0)
  case atStart => exact ⟨rfl, rfl, rfl⟩
  case round =>
    obtain ⟨rfl, rfl, rfl⟩ := hrel
    go_wp2_with fail
    refine (ins_none _ _ _).mono ?_
    rintro e w1 ⟨⟨v, rfl⟩, rfl⟩
    go_wp2_with fail
    refine bodyPost_ret (results_none rfl _ _ _) rfl ?_
    exact ⟨⟨_, rfl⟩, rfl⟩
/-- Sort of none. -/
theorem sort_none (a : Option Addr) (c : Nat) (w : World) : Calls Tryd.prog 60 #[.slice a 0 c] w fun e w' => (∃ v, e = .returned v) ∧ w' = w := by
  go_enter Tryd.func60, Tryd.ntmps60
  go_wp2_with fail
  refine (Tryd.bits_Len 0 _ (by decide) (by decide)).mono ?_
  rintro e w1 ⟨rfl, rfl⟩
  go_wp2_with fail
  refine (pdq_none _ _ _ _).mono ?_
  rintro e w1 ⟨⟨v, rfl⟩, rfl⟩
  go_wp2_with fail
  go_end0
  exact ⟨⟨_, rfl⟩, rfl⟩
theorem scl (l : List Int) : (sc l).length ≤ l.length := by
  unfold sc
  have := Lib.compact_length_le (l.mergeSort fun x y => decide (x ≤ y))
  rw [List.length_mergeSort] at this
  exact this
end Go.Proofs.YtjgaaofpfepfhaaDoor
