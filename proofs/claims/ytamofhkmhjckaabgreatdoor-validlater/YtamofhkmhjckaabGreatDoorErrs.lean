/-
  An error that is none or a Fault that wraps its code: what errors.As, errors.Is, the program's kind and fault, and the statements' told answer of it; memory that was there stays as it was.
-/
import Derived.Test.YtamofhkmhjckaabGreatDoorAs
namespace Go.Proofs.YtamofhkmhjckaabGreatDoor
open Go.RowKit Go.Extern.Stop Go.Stop Go.Extern

/-- The one package-level variable that errors.As reads. -/
def Laid (w : World) : Prop := w.cell? ⟨0, 0, none⟩ = some (.iface 105 (.agg #[.pointer (some ⟨1, 32, none⟩)]))
theorem Laid.pos {w : World} (h : Laid w) : 0 < w.heap.size := by
  rcases Nat.eq_zero_or_pos w.heap.size with h0 | h'
  · simp [Laid, World.cell?, h0] at h
  · exact h'
theorem Laid.below {B : Nat} {w w' : World} (h : Laid w) (k : Below B w w') (hB : 0 < B) : Laid w' := (k.cell (p := ⟨0, 0, none⟩) hB).trans h
theorem Laid.kept {w w' : World} (h : Laid w) (k : Below w.heap.size w w') : Laid w' := h.below k h.pos

/-- A Fault in a block of its own. -/
def FaultAt (w : World) (p : Nat) (code at_ : Int) : Prop := w.heap[p]? = some (.cells #[.int .i64 code, .int .i64 at_, .iface 63 (.int .i64 code)] 71 (0, 0))
theorem FaultAt.lt {w : World} {p : Nat} {c a : Int} (h : FaultAt w p c a) : p < w.heap.size := by
  rcases Nat.lt_or_ge p w.heap.size with h' | h'
  · exact h'
  · simp [FaultAt, Array.getElem?_eq_none h'] at h
theorem FaultAt.c0 {w : World} {p : Nat} {c a : Int} (h : FaultAt w p c a) : w.cell? ⟨p, 0, none⟩ = some (.int .i64 c) := by
  simp only [FaultAt] at h; simp [World.cell?, h]
theorem FaultAt.c1 {w : World} {p : Nat} {c a : Int} (h : FaultAt w p c a) : w.cell? ⟨p, 1, none⟩ = some (.int .i64 a) := by
  simp only [FaultAt] at h; simp [World.cell?, h]
theorem FaultAt.c2 {w : World} {p : Nat} {c a : Int} (h : FaultAt w p c a) : w.cell? ⟨p, 2, none⟩ = some (.iface 63 (.int .i64 c)) := by
  simp only [FaultAt] at h; simp [World.cell?, h]
theorem FaultAt.below {B : Nat} {w w' : World} {p : Nat} {c a : Int} (h : FaultAt w p c a) (k : Below B w w') (hp : p < B) : FaultAt w' p c a := by
  unfold FaultAt at *; rw [k.block p hp]; exact h
theorem FaultAt.kept {w w' : World} {p : Nat} {c a : Int} (h : FaultAt w p c a) (k : Below w.heap.size w w') : FaultAt w' p c a := h.below k h.lt
theorem FaultAt.made (w : World) (c a : Int) : FaultAt (w.alloc (.cells #[.int .i64 c, .int .i64 a, .iface 63 (.int .i64 c)] 71)) w.heap.size c a := heap_alloc_new w _
/-- A Fault as an error. -/
def flt (p : Nat) : Value := .iface 61 (.pointer (some ⟨p, 0, none⟩))

theorem Tryz.isTypeOf (v : Value) (w : World) : (Extern.ReflectliteType.typeOf #[.iface 63 v]).run Tryz.prog w = .ok (.iface 105 (.agg #[.pointer (some ⟨1, 63, none⟩)])) w := by kernel_rfl
def cmpEntry : Array Value → Sem Value := Extern.ReflectliteType.method fun t => do Rtype.noPackHeld "Comparable" t; pure (.bool (← typeInfo t).comparable)
theorem Tryz.isComparable (w : World) : (cmpEntry #[.agg #[.pointer (some ⟨1, 63, none⟩)]]).run Tryz.prog w = .ok (.bool true) w := by kernel_rfl
theorem Tryz.isMethodComparable (v : Value) (w : World) : (Go.method 196 105 v "Comparable").run Tryz.prog w = .ok (128, v) w := by kernel_rfl
theorem Tryz.noIsE (v : Value) (xT : TypeId) (w : World) : (Instr.typeAssert (.iface 63 v) xT 117 true).run Tryz.prog w = .ok (.tuple #[.nilIface, .bool false]) w := run_typeAssert_lacksB Tryz.underlying117 (by kernel_rfl) (by kernel_rfl) v xT w
theorem Tryz.noUnwrapE (v : Value) (xT : TypeId) (w : World) : (Instr.typeAssert (.iface 63 v) xT 112 true).run Tryz.prog w = .ok (.tuple #[.nilIface, .bool false]) w := run_typeAssert_lacksB Tryz.underlying112 (by kernel_rfl) (by kernel_rfl) v xT w
theorem Tryz.noUnwrapsE (v : Value) (xT : TypeId) (w : World) : (Instr.typeAssert (.iface 63 v) xT 114 true).run Tryz.prog w = .ok (.tuple #[.nilIface, .bool false]) w := run_typeAssert_lacksB Tryz.underlying114 (by kernel_rfl) (by kernel_rfl) v xT w
theorem Tryz.noIsW (v : Value) (xT : TypeId) (w : World) : (Instr.typeAssert (.iface 61 v) xT 117 true).run Tryz.prog w = .ok (.tuple #[.nilIface, .bool false]) w := run_typeAssert_lacksB Tryz.underlying117 (by kernel_rfl) (by kernel_rfl) v xT w
theorem Tryz.hasUnwrapW (v : Value) (xT : TypeId) (w : World) : (Instr.typeAssert (.iface 61 v) xT 112 true).run Tryz.prog w = .ok (.tuple #[.iface 61 v, .bool true]) w := run_typeAssert_hasB Tryz.underlying112 (by kernel_rfl) v xT w
theorem Tryz.methodUnwrap (v : Value) (w : World) : (Go.method 196 61 v "Unwrap").run Tryz.prog w = .ok (121, v) w := by kernel_rfl
theorem unwrap_any (p : Nat) (c a : Int) (w : World) (h : FaultAt w p c a) : Calls Tryz.prog 121 #[.pointer (some ⟨p, 0, none⟩)] w fun e w' => e = .returned (.iface 63 (.int .i64 c)) ∧ w' = w := by
  have c2 := h.c2
  go_enter Tryz.func121, Tryz.ntmps121
  go_wp2
  go_ret
  exact ⟨rfl, rfl⟩
theorem run_eql_errno (x y : Int) (w : World) : (binOp .eql 32 (.iface 63 (.int .i64 x)) (.iface 63 (.int .i64 y))).run Tryz.prog w = .ok (.bool (x == y)) w := by
  have hc : (Tryz.prog.info? 63).map (·.comparable) = some true := by kernel_rfl
  obtain ⟨i, hi, hcmp⟩ := Option.map_eq_some_iff.1 hc
  have h : ∀ d : Nat, (Op.equalIn (d + 2) 32 (.iface 63 (.int .i64 x)) (.iface 63 (.int .i64 y))).run Tryz.prog w = .ok (x == y) w := fun d => by
    simp [Op.equalIn, run_underlying Tryz.underlying32, typeInfo, hi, hcmp]
  simp only [binOp]
  simp [Op.equal, Op.maxDepth, h 9998]
theorem is_nil (c : Int) (w : World) :
    Calls Tryz.prog 21 #[.nilIface, .iface 63 (.int .i64 c)] w fun e w' => e = .returned (.bool false) ∧ w' = w := by
  have hn := run_eql_iface_nil_left (P := Tryz.prog) w 63 (.int .i64 c) Tryz.underlying32
  go_enter Tryz.func21, Tryz.ntmps21
  go_wp2
  go_ret
  exact ⟨rfl, rfl⟩
set_option maxHeartbeats 1600000 in
theorem is_fault (p : Nat) (c a d : Int) (w : World) (hf : FaultAt w p c a) :
    Calls Tryz.prog 21 #[flt p, .iface 63 (.int .i64 d)] w fun e w' => e = .returned (.bool (c == d)) ∧ w' = w := by
  unfold flt
  have h57 := @run_callFunc_extern Tryz.prog 33 _ Extern.ReflectliteType.typeOf Tryz.func33 (by kernel_rfl) (by kernel_rfl) (by kernel_rfl) (by kernel_rfl)
  have h186 := @run_callFunc_extern Tryz.prog 128 _ cmpEntry Tryz.func128 (by kernel_rfl) (by kernel_rfl) (by kernel_rfl) (by kernel_rfl)
  have tT := Tryz.isTypeOf
  have cT := Tryz.isComparable
  have mR := Tryz.isMethodComparable
  have nE := Tryz.noIsE
  have uE := Tryz.noUnwrapE
  have vE := Tryz.noUnwrapsE
  have nW := Tryz.noIsW
  have uW := Tryz.hasUnwrapW
  have mU := Tryz.methodUnwrap
  have c2 := hf.c2
  clear hf
  have hty := run_eql_iface_types (P := Tryz.prog) 61 63 (.pointer (some ⟨p, 0, none⟩)) (.int .i64 d) Tryz.underlying32 (by decide) w
  have heq := run_eql_errno c d w
  cases hb : (c == d) with
  | true =>
    rw [hb] at heq
    clear hb
    go_enter Tryz.func21, Tryz.ntmps21
    go_wp2
    refine wp_loop_rounds 2 ?_
    rw [rounds_succ]
    go_wp2
    rw [rounds_succ]
    go_wp2
    go_ret
    exact ⟨rfl, rfl⟩
  | false =>
    rw [hb] at heq
    clear hb
    go_enter Tryz.func21, Tryz.ntmps21
    go_wp2
    refine wp_loop_rounds 2 ?_
    rw [rounds_succ]
    go_wp2
    rw [rounds_succ]
    go_wp2
    go_ret
    exact ⟨rfl, rfl⟩
end Go.Proofs.YtamofhkmhjckaabGreatDoor
