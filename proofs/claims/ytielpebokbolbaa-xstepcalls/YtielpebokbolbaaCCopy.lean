/-
  copy of a string's bytes into an array: the bytes that read looks at; an instruction's box that is written.
-/
import Derived.Test.YtielpebokbolbaaCJoin
import Derived.Test.YtielpebokbolbaaCRightA
import Derived.Laws.CopyOwn
import Derived.Laws.IdiomStrings
import Derived.Lib.UnsafeStr
import Derived.Lib.LazyBuf
import Derived.Lib.SlBuf
import Derived.Deep.Upon
namespace Go.Proofs.Ytielpebokbolbaa.Xc
open Go.RowKit
set_option linter.unusedSimpArgs false
set_option linter.unusedVariables false

theorem run_copy_str {P : Program} (w : World) (dT sT ty elem : TypeId) (b o dLen dCap : Nat) (t : ByteArray)
    (hu : P.underlying dT = some (.slice elem)) (hz : ∀ w, (Go.sizeOf elem).run P w = .ok 1 w)
    (hc : ∀ j, j < min t.size dLen → (w.cell? ⟨b, o + j, none⟩).isSome = true) (hf : ∀ j, j < min t.size dLen → w.frozen? ⟨b, o + j, none⟩ = false) :
    (Builtin.copy_ #[dT, sT] ty #[.slice (some ⟨b, o, none⟩) dLen dCap, .string t]).run P w = .ok (goInt ((min t.size dLen : Nat) : Int)) (w.setCells b o (Lib.byteCells (t.data.toList.take dLen))) := by
  have hl : (Lib.byteCells (t.data.toList.take dLen)).length = min t.size dLen := by rw [Lib.byteCells_length, List.length_take, ← Lib.size_eq, Nat.min_comm]
  have hst := run_storeCells_cells (P := P) b o (Lib.byteCells (t.data.toList.take dLen)) 0 w (by rw [hl]; simpa using hc) (by rw [hl]; simpa using hf) (fun v hv => by obtain ⟨x, _, rfl⟩ := List.mem_map.1 hv; rfl)
  have e : ((t.extract 0 (Nat.min t.size dLen)).data.map fun b => Value.int .u8 (b.toNat : Int)).toList = Lib.byteCells (t.data.toList.take dLen) := by
    rw [Array.toList_map]
    unfold Lib.byteCells
    congr 1
    have e1 : t.size = t.data.toList.length := by simp
    apply List.ext_getElem
    · simp; omega
    · intro i h1 h2
      simp [ByteArray.data_extract]
  simp only [Builtin.copy_, Sem.run_bind, run_underlying hu, Builtin.lenOf, Builtin.firstCells, hz, Sem.run_pure, Result.andThen_ok, List.getElem?_toArray, List.getElem?_cons_zero, List.getElem?_cons_succ]
  rw [e, hst]
  rfl
theorem wpList_copy_str {P : Program} {ops : Array Oper} {rest : List Oper} {o : Oper} {a : Act} {w : World} {Q : Exit → Act → World → Prop} (hgd : o.guard = none) (d x : Operand) (dT sT : TypeId)
    (ho : o.op = .call { callee := .builtin .copy, args := #[d, x], argTypes := #[dT, sT] }) (elem : TypeId) (hu : P.underlying dT = some (.slice elem)) (hz : ∀ w, (Go.sizeOf elem).run P w = .ok 1 w)
    (b off dLen dCap : Nat) (hd : a.eval d = .slice (some ⟨b, off, none⟩) dLen dCap) (t : ByteArray) (hx : a.eval x = .string t)
    (hc : ∀ j, j < min t.size dLen → (w.cell? ⟨b, off + j, none⟩).isSome = true) (hf : ∀ j, j < min t.size dLen → w.frozen? ⟨b, off + j, none⟩ = false)
    (h : ∀ w', w' = w.setCells b off (Lib.byteCells (t.data.toList.take dLen)) → wpList P ops Q rest (a.put o.dst (goInt ((min t.size dLen : Nat) : Int))) w') :
    wpList P ops Q (o :: rest) a w := by
  refine wpList_plain hgd fun K hK => ?_
  have hr := run_copy_str (P := P) w dT sT o.type elem b off dLen dCap t hu hz hc hf
  unfold Oper.wp execOp
  simp only [ho, resolve, invoke, builtin, Sem.run_bind, Sem.run_pure, Result.andThen_ok, List.map_toArray, List.map_cons, List.map_nil, hd, hx, hr]
  exact hK _ _ (h _ rfl)
theorem ubytes : Try.prog.underlying 50 = some (.slice 5) := by kernel_rfl
theorem z5 (w : World) : (Go.sizeOf 5).run Try.prog w = .ok 1 w := by kernel_rfl

/-- The sixteen zeros. -/
def z16 : Array Value := #[.int .u8 0, .int .u8 0, .int .u8 0, .int .u8 0, .int .u8 0, .int .u8 0, .int .u8 0, .int .u8 0, .int .u8 0, .int .u8 0, .int .u8 0, .int .u8 0, .int .u8 0, .int .u8 0, .int .u8 0, .int .u8 0]
theorem z16_get (j : Nat) (h : j < 16) : z16[j]? = some (.int .u8 0) := by
  have : j = 0 ∨ j = 1 ∨ j = 2 ∨ j = 3 ∨ j = 4 ∨ j = 5 ∨ j = 6 ∨ j = 7 ∨ j = 8 ∨ j = 9 ∨ j = 10 ∨ j = 11 ∨ j = 12 ∨ j = 13 ∨ j = 14 ∨ j = 15 := by omega
  rcases this with rfl | rfl | rfl | rfl | rfl | rfl | rfl | rfl | rfl | rfl | rfl | rfl | rfl | rfl | rfl | rfl <;> rfl
theorem pad_len (l : List UInt8) : (pad l).length = 16 := by simp [pad]
theorem pad_get (l : List UInt8) (j : Nat) (h : j < 16) : (pad l)[j]'(by rw [pad_len]; exact h) = l.getD j 0 := by
  unfold pad
  simp only [List.getElem_take]
  by_cases hj : j < l.length
  · rw [List.getElem_append_left hj]; simp [hj]
  · rw [List.getElem_append_right (by omega), List.getElem_replicate, List.getD_eq_getElem?_getD, List.getElem?_eq_none (show l.length ≤ j by omega)]; rfl
/-- What the copy leaves: the padded bytes. -/
theorem copied16 (w : World) (g T : Nat) (t : ByteArray) (hg : w.heap[g]? = some (.cells z16 T)) :
    (∀ j, j < min t.size 16 → (w.cell? ⟨g, 0 + j, none⟩).isSome = true) ∧ (∀ j, j < min t.size 16 → w.frozen? ⟨g, 0 + j, none⟩ = false) ∧
    ∀ w', w' = w.setCells g 0 (Lib.byteCells (t.data.toList.take 16)) → MB g 0 (pad t.data.toList) w' ∧ Below g w w' := by
  have hcell : ∀ j, j < 16 → w.cell? ⟨g, j, none⟩ = some (.int .u8 0) := fun j hj => by simp [World.cell?, hg, z16_get j hj]
  have hsz : t.size = t.data.toList.length := by simp
  refine ⟨fun j hj => by rw [Nat.zero_add, hcell j (by omega)]; rfl, fun j hj => by simp [World.frozen?, hg], ?_⟩
  rintro w' rfl
  have hbl : (Lib.byteCells (t.data.toList.take 16)).length = min t.size 16 := by rw [Lib.byteCells_length, List.length_take, ← hsz, Nat.min_comm]
  refine ⟨?_, Lib.below_setCells _ (Nat.le_refl _) _ _ (Below.refl _ _)⟩
  · intro j hj
    rw [pad_len] at hj
    rw [Nat.zero_add, pad_get _ j hj]
    by_cases hin : j < min t.size 16
    · have := World.cell?_setCells_in g (Lib.byteCells (t.data.toList.take 16)) 0 w (fun i hi => by rw [Nat.zero_add, hcell i (by omega)]; rfl) j (by omega)
      rw [Nat.zero_add] at this
      rw [this]
      have hj2 : j < t.data.toList.length := by omega
      simp [Lib.byteCells, List.getD_eq_getElem?_getD, List.getElem?_eq_getElem hj2]
    · rw [World.cell?_setCells_out g (Lib.byteCells (t.data.toList.take 16)) 0 w ⟨g, j, none⟩ (fun _ _ => by rw [hbl]; show j < 0 ∨ 0 + min t.size 16 ≤ j; omega), hcell j hj]
      have : t.data.toList.length ≤ j := by omega
      simp [List.getD_eq_getElem?_getD, List.getElem?_eq_none this]
theorem MB.blk {g o : Nat} {l : List UInt8} {w w' : World} (h : MB g o l w) (e : w'.heap[g]? = w.heap[g]?) : MB g o l w' := fun j hj => by
  rw [World.cell?_of_block (w := w) e]; exact h j hj
theorem MB.part {g o : Nat} {l : List UInt8} {w : World} (h : MB g o l w) (k m : Nat) : MB g (o + k) ((l.drop k).take m) w := fun j hj => by
  simp only [List.length_take, List.length_drop] at hj
  simp only [List.getElem_take, List.getElem_drop]
  rw [Nat.add_assoc]; exact h (k + j) (by omega)
theorem MB.at {g : Nat} {l : List UInt8} {w : World} (h : MB g 0 l w) (k : Nat) (hk : k < l.length) : w.cell? ⟨g, k, none⟩ = some (.int .u8 (ga l k)) := by
  have := h k hk
  rw [Nat.zero_add] at this
  rw [this]
  simp [ga, hk]
theorem ga_bd (l : List UInt8) (k : Nat) : 0 ≤ ga l k ∧ ga l k ≤ 255 := by unfold ga; have := (l.getD k 0).toNat_lt; omega
theorem ga_drop (l : List UInt8) (q k : Nat) : ga (l.drop q) k = ga l (q + k) := by simp [ga, List.getD_eq_getElem?_getD]
/-- An instruction's cells, as they are written. -/
def RowX (g : Nat) (cs : Array Value) (w : World) : Prop := w.heap[g]? = some (.cells cs 49)
theorem RowX.set {g : Nat} {cs : Array Value} {w : World} (h : RowX g cs w) (k : Nat) (v : Value) : RowX g (cs.setIfInBounds k v) (w.setCell ⟨g, k, none⟩ v) := by
  unfold RowX at *; simp [World.setCell, Array.getElem?_modify, h]
theorem heap_set (w : World) (a : Addr) (v : Value) (b : Nat) (h : b ≠ a.block) : (w.setCell a v).heap[b]? = w.heap[b]? := Below.heap_setCell w a v b h
theorem results_x {fn : Func} {p : Tmp} (h : fn.results = #[.cell p 49]) (tmps : Array Value) (w : World) (g : Nat) (x : Xi) (hp : tmps.getD p undef = .pointer (some ⟨g, 0, none⟩)) (hb : RowX g (xc x) w) :
    (results fn tmps).run Try.prog w = .ok (xv x) w := by
  have hl := run_loadVar_row (P := Try.prog) w g 49 49 _ _ _ hb Try.underlying49 rfl (by kernel_rfl)
  have hp' : tmps[p]?.getD undef = .pointer (some ⟨g, 0, none⟩) := by simpa using hp
  simp [results, h, hp', asAddr, hl, xv, xc]
/-- What read has found: REX, the code, and where it goes on. -/
def rP (l : List UInt8) : Int := (tkR (ga l 0)).1
def rO (l : List UInt8) : Nat := (tkR (ga l 0)).2
def rF (l : List UInt8) : Int := (tkC (rO l) (ga l (rO l)) (ga l (rO l + 1))).1
def rQ (l : List UInt8) : Nat := (tkC (rO l) (ga l (rO l)) (ga l (rO l + 1))).2
theorem rd_is (l : List UInt8) : rd l = rdC (rP l) (rF l) (l.drop (rQ l)) := by
  unfold rd rP rF rQ rO tkR
  split
  · rw [rdT]
    simp only [ga_drop, tkC, List.drop_drop, Nat.add_zero]
    split <;> rfl
  · rw [rdT]
    simp only [tkC, Nat.zero_add]
    split <;> rfl
theorem rP_bd (l : List UInt8) : 0 ≤ rP l ∧ rP l ≤ 255 := by
  have := ga_bd l 0
  unfold rP tkR; split <;> (simp only []; omega)
theorem rO_bd (l : List UInt8) : rO l = 0 ∨ rO l = 1 := by unfold rO tkR; split <;> simp
theorem rF_bd (l : List UInt8) : 0 ≤ rF l ∧ rF l ≤ 4095 := by
  have h1 := ga_bd l (rO l)
  have h2 := ga_bd l (rO l + 1)
  exact tkC_bd _ _ _ h1.1 h1.2 h2.1 h2.2
theorem rQ_bd (l : List UInt8) : 1 ≤ rQ l ∧ rQ l ≤ 3 := by
  have := rO_bd l
  unfold rQ tkC; split <;> (simp only []; omega)
theorem if_cases {α : Type} {p : α → Prop} {c : Prop} [Decidable c] {a b : α} (ha : p a) (hb : p b) : p (if c then a else b) := by split <;> assumption
theorem fndP_bd (f : Int) : 0 ≤ fndP f ∧ fndP f ≤ 23 := by
  unfold fndP
  iterate 12 (refine if_cases (p := fun z : Int => 0 ≤ z ∧ z ≤ 23) (by decide) ?_)
  decide
theorem fnd_bd (f mod m : Int) : 0 ≤ (fnd f mod m).1 ∧ (fnd f mod m).1 ≤ 23 := by
  have h := fndP_bd f
  unfold fnd
  refine if_cases (p := fun z : Int × Int => 0 ≤ z.1 ∧ z.1 ≤ 23) (if_cases (p := fun z : Int × Int => 0 ≤ z.1 ∧ z.1 ≤ 23) (by decide) (by decide)) ?_
  refine if_cases (p := fun z : Int × Int => 0 ≤ z.1 ∧ z.1 ≤ 23) (if_cases (p := fun z : Int × Int => 0 ≤ z.1 ∧ z.1 ≤ 23) (by decide) (by decide)) ?_
  iterate 7 (refine if_cases (p := fun z : Int × Int => 0 ≤ z.1 ∧ z.1 ≤ 23) (by simp) ?_)
  exact h
end Go.Proofs.Ytielpebokbolbaa.Xc
