/-
  Data and writes, plainly and in memory: what lies where; kept by whatever keeps older memory. No program.
-/
import Derived.Test.YtcjojphajjoheaaStore
namespace Go.Proofs.Ytcjojphajjoheaa
open Go.RowKit

/-- A datum, or a write. -/
structure Da where
  mem : Int
  pos : Int
  bytes : List UInt8
/-- Elements of three cells in memory: a memory's number, a place, a string. -/
def EDa (W : World) (b o : Nat) (x : Da) : Prop :=
  (I64 x.mem ∧ I64 x.pos ∧ x.bytes.length ≤ 9223372036854775807) ∧ W.cell? ⟨b, o, none⟩ = some (.int .i64 x.mem) ∧ W.cell? ⟨b, o + 1, none⟩ = some (.int .i64 x.pos) ∧ W.cell? ⟨b, o + 2, none⟩ = some (.string (str x.bytes))
/-- A slice of them, below block B. -/
def SDa (B : Nat) (W : World) (a : Option Addr) (l : List Da) : Prop :=
  ∀ j (h : j < l.length), ∃ b off, a = some ⟨b, off, none⟩ ∧ b < B ∧ EDa W b (off + j * 3) l[j]
theorem SDa.step {B C : Nat} {A W : World} {a : Option Addr} {l : List Da} (h : SDa B A a l) (k : Below B A W) (hc : B ≤ C) : SDa C W a l := by
  intro j hj
  obtain ⟨b, off, ha, hb, hi, c0, c1, c2⟩ := h j hj
  exact ⟨b, off, ha, Nat.lt_of_lt_of_le hb hc, hi, (k.cell (p := ⟨b, off + j * 3, none⟩) hb).trans c0, (k.cell (p := ⟨b, off + j * 3 + 1, none⟩) hb).trans c1, (k.cell (p := ⟨b, off + j * 3 + 2, none⟩) hb).trans c2⟩
theorem SDa.isNil (B : Nat) (W : World) (a : Option Addr) : SDa B W a [] := fun j h => absurd h (by simp)
/-- A row of cells in a block of its own. -/
def Row (w : World) (b : Nat) (cs : Array Value) (ty : TypeId) : Prop := w.heap[b]? = some (.cells cs ty (0, 0))
theorem Row.c {w : World} {b : Nat} {cs : Array Value} {ty : TypeId} (h : Row w b cs ty) (j : Nat) (v : Value) (hv : cs[j]? = some v) : w.cell? ⟨b, j, none⟩ = some v := by
  simp only [Row] at h; simp [World.cell?, h, hv]
theorem Row.fr {w : World} {b : Nat} {cs : Array Value} {ty : TypeId} (h : Row w b cs ty) (j : Nat) : w.frozen? ⟨b, j, none⟩ = false := by
  simp only [Row] at h; simp [World.frozen?, h]
theorem Row.lt {w : World} {b : Nat} {cs : Array Value} {ty : TypeId} (h : Row w b cs ty) : b < w.heap.size := by
  rcases Nat.lt_or_ge b w.heap.size with h' | h'
  · exact h'
  · simp [Row, Array.getElem?_eq_none h'] at h
theorem Row.below {B : Nat} {w w' : World} {b : Nat} {cs : Array Value} {ty : TypeId} (h : Row w b cs ty) (k : Below B w w') (hb : b < B) : Row w' b cs ty := by
  unfold Row at *; rw [k.block b hb]; exact h
theorem Row.kept {w w' : World} {b : Nat} {cs : Array Value} {ty : TypeId} (h : Row w b cs ty) (k : Below w.heap.size w w') : Row w' b cs ty := h.below k h.lt
theorem Row.made (w : World) (cs : Array Value) (ty : TypeId) : Row (w.alloc (.cells cs ty)) w.heap.size cs ty := heap_alloc_new w _
theorem Row.of_block {w w' : World} {b : Nat} {cs : Array Value} {ty : TypeId} (h : Row w b cs ty) (e : w'.heap[b]? = w.heap[b]?) : Row w' b cs ty := by unfold Row at *; rw [e]; exact h
theorem bel_one (w : World) (o : Obj) : Below w.heap.size w (w.alloc o) := (Below.refl _ _).alloc (Nat.le_refl _) o
theorem str_list (l : List UInt8) : (str l).data.toList = l := by simp [str]
theorem str_size (l : List UInt8) : (str l).size = l.length := by simp [str, ByteArray.size]
theorem str_of (s : ByteArray) : s = str s.data.toList := by simp [str]
/-- The block that a variable of 4096 bytes is: laid by a law of its own. -/
theorem wpList_alloc_row {P : Program} {ops : Array Oper} {rest : List Oper} {o : Oper} {a : Act} {w : World} {Q : Exit → Act → World → Prop} (hgd : o.guard = none) (t : TypeId) (ho : o.op = .alloc t) (cs : Array Value)
    (hrun : (Instr.alloc t true (.tuple #[])).run P w = .ok (.pointer (some ⟨w.heap.size, 0, none⟩)) (w.alloc (.cells cs t)))
    (h : ∀ w', Hid (w' = w.alloc (.cells cs t)) → wpList P ops Q rest (a.put o.dst (.pointer (some ⟨w.heap.size, 0, none⟩))) w') : wpList P ops Q (o :: rest) a w := by
  refine wpList_plain hgd fun K hK => ?_
  unfold Oper.wp
  simp only [execOp, ho, Sem.run_bind, hrun, Result.andThen_ok]
  exact hK _ _ (h _ rfl)
theorem alloc54 (w : World) : (Instr.alloc 54 true (.tuple #[])).run Try.prog w = .ok (.pointer (some ⟨w.heap.size, 0, none⟩)) (w.alloc (.cells (Array.replicate 4096 (.int .u8 0)) 54)) := by kernel_rfl
end Go.Proofs.Ytcjojphajjoheaa
