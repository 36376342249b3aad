/-
  What walks over boxed instructions and builders meet: an instruction in a block of its own, kept by whatever keeps older memory, and turned by a store; a builder kept; no program but the library's contracts.
  Modules, plainly and in memory: what lies where; kept by whatever keeps older memory. No program.
  The program's kind and fault, and the statements' told, of an error that is none or a Fault that wraps its code; memory that was there stays as it was.
-/
import Derived.Test.YtamofhkmhjckaabGreatDoorRight
import Derived.Test.YtamofhkmhjckaabGreatDoorErrs
import Derived.BigQuiet
import Derived.Deep.QuietTactic
namespace Go.Proofs.YtamofhkmhjckaabGreatDoor
open Go.RowKit

/-- A string of bytes. -/
def str (l : List UInt8) : ByteArray := ⟨l.toArray⟩
theorem below_next {w a b : World} (h : Below w.heap.size w a) (k : Below a.heap.size a b) : Below w.heap.size w b := h.trans (k.mono h.size)
/-- An instruction lies in block b. -/
def Box (b : Nat) (op n m : Int) (w : World) : Prop := w.heap[b]? = some (.cells #[.int .i64 op, .int .i64 n, .int .i64 m] 44 (0, 0))
theorem Box.c0 {b : Nat} {op n m : Int} {w : World} (h : Box b op n m w) : w.cell? ⟨b, 0, none⟩ = some (.int .i64 op) := by
  simp only [Box] at h; simp [World.cell?, h]
theorem Box.c1 {b : Nat} {op n m : Int} {w : World} (h : Box b op n m w) : w.cell? ⟨b, 1, none⟩ = some (.int .i64 n) := by
  simp only [Box] at h; simp [World.cell?, h]
theorem Box.c2 {b : Nat} {op n m : Int} {w : World} (h : Box b op n m w) : w.cell? ⟨b, 2, none⟩ = some (.int .i64 m) := by
  simp only [Box] at h; simp [World.cell?, h]
theorem Box.fr {b : Nat} {op n m : Int} {w : World} (h : Box b op n m w) (j : Nat) : w.frozen? ⟨b, j, none⟩ = false := by
  simp only [Box] at h; simp [World.frozen?, h]
theorem Box.lt {b : Nat} {op n m : Int} {w : World} (h : Box b op n m w) : b < w.heap.size := by
  rcases Nat.lt_or_ge b w.heap.size with h' | h'
  · exact h'
  · simp [Box, Array.getElem?_eq_none h'] at h
theorem Box.below {B b : Nat} {op n m : Int} {w w' : World} (h : Box b op n m w) (k : Below B w w') (hb : b < B) : Box b op n m w' := by
  unfold Box at *; rw [k.block b hb]; exact h
theorem Box.kept {b : Nat} {op n m : Int} {w w' : World} (h : Box b op n m w) (k : Below w.heap.size w w') : Box b op n m w' := h.below k h.lt
theorem Box.made (w : World) (op n m : Int) : Box w.heap.size op n m (w.alloc (.cells #[.int .i64 op, .int .i64 n, .int .i64 m] 44)) := heap_alloc_new w _
theorem Box.alloc {b : Nat} {op n m : Int} {w : World} (h : Box b op n m w) (o : Obj) : Box b op n m (w.alloc o) := by
  unfold Box at *; rw [Below.heap_alloc w o b (Box.lt h)]; exact h
theorem Box.set1 {b : Nat} {op n m : Int} {w : World} (h : Box b op n m w) (x : Int) : Box b op x m (w.setCell ⟨b, 1, none⟩ (.int .i64 x)) := by
  unfold Box at *; simp [World.setCell, Array.getElem?_modify, h]
theorem Box.set2 {b : Nat} {op n m : Int} {w : World} (h : Box b op n m w) (x : Int) : Box b op n x (w.setCell ⟨b, 2, none⟩ (.int .i64 x)) := by
  unfold Box at *; simp [World.setCell, Array.getElem?_modify, h]
theorem Box.other {b c : Nat} {op n m : Int} {w : World} (h : Box b op n m w) (j : Nat) (x : Value) (hc : b ≠ c) : Box b op n m (w.setCell ⟨c, j, none⟩ x) := by
  unfold Box at *; rw [Below.heap_setCell w _ x b hc]; exact h
theorem Box.drewN {b : Nat} {op n m : Int} {w : World} (h : Box b op n m w) (k : Nat) : Box b op n m (w.drewN k) := h

end Go.Proofs.YtamofhkmhjckaabGreatDoor
namespace Go.Proofs.YtamofhkmhjckaabGreatDoor
open Go.RowKit

structure In where
  op : Int
  n : Int
  m : Int
structure Sg where
  params : List Int
  results : List Int
structure Fn where
  sig : Int
  tr : Bool
  locals : List Int
  body : List In
structure Gl where
  t : Int
  v : Int
structure Da where
  mem : Int
  pos : Int
  bytes : List UInt8
structure Mo where
  sigs : List Sg
  imports : List Int
  funcs : List Fn
  m0 : Int
  m1 : Int
  globals : List Gl
  data : List Da

/-- A slice in memory: its elements, each of sz cells, are told by R, of the blocks that may be met, the world, the block and the place of the element's first cell. -/
def Sl {α : Type} (sz : Nat) (R : (Nat → Prop) → World → Nat → Nat → α → Prop) (S : Nat → Prop) (W : World) (v : Value) (l : List α) : Prop :=
  ∃ a cap, v = .slice a l.length cap ∧ ∀ j (h : j < l.length), ∃ b off, a = some ⟨b, off, none⟩ ∧ S b ∧ R S W b (off + j * sz) l[j]
abbrev Lt (B : Nat) : Nat → Prop := fun b => b < B

def EInt (_ : Nat → Prop) (W : World) (b o : Nat) (x : Int) : Prop := I64 x ∧ W.cell? ⟨b, o, none⟩ = some (.int .i64 x)
abbrev SInts (B : Nat) := Sl 1 EInt (Lt B)
def EIn (_ : Nat → Prop) (W : World) (b o : Nat) (x : In) : Prop :=
  (I64 x.op ∧ I64 x.n ∧ I64 x.m) ∧ W.cell? ⟨b, o, none⟩ = some (.int .i64 x.op) ∧ W.cell? ⟨b, o + 1, none⟩ = some (.int .i64 x.n) ∧ W.cell? ⟨b, o + 2, none⟩ = some (.int .i64 x.m)
abbrev SIns (B : Nat) := Sl 3 EIn (Lt B)
def ESg (S : Nat → Prop) (W : World) (b o : Nat) (x : Sg) : Prop :=
  ∃ vp vr, W.cell? ⟨b, o, none⟩ = some vp ∧ W.cell? ⟨b, o + 1, none⟩ = some vr ∧ Sl 1 EInt S W vp x.params ∧ Sl 1 EInt S W vr x.results
abbrev SSgs (B : Nat) := Sl 2 ESg (Lt B)
def EFn (S : Nat → Prop) (W : World) (b o : Nat) (x : Fn) : Prop :=
  ∃ vl vb, I64 x.sig ∧ W.cell? ⟨b, o, none⟩ = some (.int .i64 x.sig) ∧ W.cell? ⟨b, o + 1, none⟩ = some (.bool x.tr) ∧ W.cell? ⟨b, o + 2, none⟩ = some vl ∧ W.cell? ⟨b, o + 3, none⟩ = some vb ∧ Sl 1 EInt S W vl x.locals ∧ Sl 3 EIn S W vb x.body
abbrev SFns (B : Nat) := Sl 4 EFn (Lt B)
def EGl (_ : Nat → Prop) (W : World) (b o : Nat) (x : Gl) : Prop :=
  (I64 x.t ∧ I64 x.v) ∧ W.cell? ⟨b, o, none⟩ = some (.int .i64 x.t) ∧ W.cell? ⟨b, o + 1, none⟩ = some (.int .i64 x.v)
abbrev SGls (B : Nat) := Sl 2 EGl (Lt B)
def EDa (_ : Nat → Prop) (W : World) (b o : Nat) (x : Da) : Prop :=
  (I64 x.mem ∧ I64 x.pos) ∧ W.cell? ⟨b, o, none⟩ = some (.int .i64 x.mem) ∧ W.cell? ⟨b, o + 1, none⟩ = some (.int .i64 x.pos) ∧ W.cell? ⟨b, o + 2, none⟩ = some (.string (str x.bytes))
abbrev SDas (B : Nat) := Sl 3 EDa (Lt B)

/-- The blocks of S are as they were. -/
def Same (S : Nat → Prop) (A W : World) : Prop := ∀ i, S i → W.heap[i]? = A.heap[i]?
theorem Same.cell {S : Nat → Prop} {A W : World} (h : Same S A W) {b o : Nat} (hb : S b) : W.cell? ⟨b, o, none⟩ = A.cell? ⟨b, o, none⟩ := by
  simp [World.cell?, h b hb]
theorem same_below {B : Nat} {A W : World} (k : Below B A W) : Same (Lt B) A W := fun i hi => k.block i hi
/-- What a predicate on elements must keep. -/
def Keeps {α : Type} (R : (Nat → Prop) → World → Nat → Nat → α → Prop) : Prop :=
  ∀ (S T : Nat → Prop) (A W : World) b o x, Same S A W → (∀ i, S i → T i) → S b → R S A b o x → R T W b o x
theorem Sl.to {α : Type} {sz : Nat} {R : (Nat → Prop) → World → Nat → Nat → α → Prop} (hR : Keeps R) {S T : Nat → Prop} {A W : World} {v : Value} {l : List α}
    (h : Sl sz R S A v l) (k : Same S A W) (hc : ∀ i, S i → T i) : Sl sz R T W v l := by
  obtain ⟨a, cap, hv, he⟩ := h
  refine ⟨a, cap, hv, fun j hj => ?_⟩
  obtain ⟨b, off, ha, hb, hr⟩ := he j hj
  exact ⟨b, off, ha, hc b hb, hR S T A W b _ _ k hc hb hr⟩
theorem Sl.step {α : Type} {sz : Nat} {R : (Nat → Prop) → World → Nat → Nat → α → Prop} (hR : Keeps R) {B C : Nat} {A W : World} {v : Value} {l : List α}
    (h : Sl sz R (Lt B) A v l) (k : Below B A W) (hc : B ≤ C) : Sl sz R (Lt C) W v l := h.to hR (same_below k) (fun _ hi => Nat.lt_of_lt_of_le hi hc)
theorem keeps_int : Keeps EInt := fun _ _ _ _ _ _ _ k _ hb ⟨i, c⟩ => ⟨i, (k.cell hb).trans c⟩
theorem keeps_in : Keeps EIn := fun _ _ _ _ _ _ _ k _ hb ⟨i, c0, c1, c2⟩ => ⟨i, (k.cell hb).trans c0, (k.cell hb).trans c1, (k.cell hb).trans c2⟩
theorem keeps_gl : Keeps EGl := fun _ _ _ _ _ _ _ k _ hb ⟨i, c0, c1⟩ => ⟨i, (k.cell hb).trans c0, (k.cell hb).trans c1⟩
theorem keeps_da : Keeps EDa := fun _ _ _ _ _ _ _ k _ hb ⟨i, c0, c1, c2⟩ => ⟨i, (k.cell hb).trans c0, (k.cell hb).trans c1, (k.cell hb).trans c2⟩
theorem keeps_sg : Keeps ESg := fun _ _ _ _ _ _ _ k hc hb ⟨vp, vr, c0, c1, hp, hr⟩ => ⟨vp, vr, (k.cell hb).trans c0, (k.cell hb).trans c1, hp.to keeps_int k hc, hr.to keeps_int k hc⟩
theorem keeps_fn : Keeps EFn := fun _ _ _ _ _ _ _ k hc hb ⟨vl, vb, i, c0, c1, c2, c3, hl, hbd⟩ => ⟨vl, vb, i, (k.cell hb).trans c0, (k.cell hb).trans c1, (k.cell hb).trans c2, (k.cell hb).trans c3, hl.to keeps_int k hc, hbd.to keeps_in k hc⟩

/-- A row of cells in a block of its own. -/
def Row (w : World) (b : Nat) (cs : Array Value) (ty : TypeId) : Prop := w.heap[b]? = some (.cells cs ty (0, 0))
theorem Row.c {w : World} {b : Nat} {cs : Array Value} {ty : TypeId} (h : Row w b cs ty) (j : Nat) (v : Value) (hv : cs[j]? = some v) : w.cell? ⟨b, j, none⟩ = some v := by
  simp only [Row] at h; simp [World.cell?, h, hv]
theorem Row.fr {w : World} {b : Nat} {cs : Array Value} {ty : TypeId} (h : Row w b cs ty) (j : Nat) : w.frozen? ⟨b, j, none⟩ = false := by
  simp only [Row] at h; simp [World.frozen?, h]
theorem Row.lt {w : World} {b : Nat} {cs : Array Value} {ty : TypeId} (h : Row w b cs ty) : b < w.heap.size := by
  rcases Nat.lt_or_ge b w.heap.size with h' | h'
  · exact h'
  · simp [Row, Array.getElem?_eq_none h'] at h
theorem Row.below {B : Nat} {w w' : World} {b : Nat} {cs : Array Value} {ty : TypeId} (h : Row w b cs ty) (k : Below B w w') (hb : b < B) : Row w' b cs ty := by
  unfold Row at *; rw [k.block b hb]; exact h
theorem Row.kept {w w' : World} {b : Nat} {cs : Array Value} {ty : TypeId} (h : Row w b cs ty) (k : Below w.heap.size w w') : Row w' b cs ty := h.below k h.lt
theorem Row.made (w : World) (cs : Array Value) (ty : TypeId) : Row (w.alloc (.cells cs ty)) w.heap.size cs ty := heap_alloc_new w _
theorem Row.alloc {w : World} {b : Nat} {cs : Array Value} {ty : TypeId} (h : Row w b cs ty) (o : Obj) : Row (w.alloc o) b cs ty := h.kept (bel_one w o)
theorem Row.set {w : World} {b : Nat} {cs : Array Value} {ty : TypeId} (h : Row w b cs ty) (j : Nat) (x : Value) : Row (w.setCell ⟨b, j, none⟩ x) b (cs.setIfInBounds j x) ty := by
  unfold Row at *; simp [World.setCell, Array.getElem?_modify, h]
theorem Row.other {w : World} {b c : Nat} {cs : Array Value} {ty : TypeId} (h : Row w b cs ty) (j : Nat) (x : Value) (hc : b ≠ c) : Row (w.setCell ⟨c, j, none⟩ x) b cs ty := by
  unfold Row at *; rw [Below.heap_setCell w _ x b hc]; exact h

/-- The six parts of a module. -/
structure MoV where
  v0 : Value
  v1 : Value
  v2 : Value
  v5 : Value
  v6 : Value
/-- The slices are slices. -/
theorem IsMo_forms_aux {α : Type} {sz : Nat} {R : (Nat → Prop) → World → Nat → Nat → α → Prop} {S : Nat → Prop} {W : World} {v : Value} {l : List α} (h : Sl sz R S W v l) : ∃ a cap, v = .slice a l.length cap := by
  obtain ⟨a, c, e, _⟩ := h; exact ⟨a, c, e⟩
def moV (V : MoV) (M : Mo) : Value := .agg #[V.v0, V.v1, V.v2, .int .i64 M.m0, .int .i64 M.m1, V.v5, V.v6]
/-- A module whose parts lie in memory. -/
structure IsMoS (S : Nat → Prop) (W : World) (V : MoV) (M : Mo) : Prop where
  sigs : Sl 2 ESg S W V.v0 M.sigs
  imports : Sl 1 EInt S W V.v1 M.imports
  funcs : Sl 4 EFn S W V.v2 M.funcs
  mems : I64 M.m0 ∧ I64 M.m1
  globals : Sl 2 EGl S W V.v5 M.globals
  data : Sl 3 EDa S W V.v6 M.data
abbrev IsMo (B : Nat) := IsMoS (Lt B)
theorem IsMoS.to {S T : Nat → Prop} {A W : World} {V : MoV} {M : Mo} (h : IsMoS S A V M) (k : Same S A W) (hc : ∀ i, S i → T i) : IsMoS T W V M :=
  ⟨h.sigs.to keeps_sg k hc, h.imports.to keeps_int k hc, h.funcs.to keeps_fn k hc, h.mems, h.globals.to keeps_gl k hc, h.data.to keeps_da k hc⟩
theorem IsMoS.step {B C : Nat} {A W : World} {V : MoV} {M : Mo} (h : IsMoS (Lt B) A V M) (k : Below B A W) (hc : B ≤ C) : IsMo C W V M := h.to (same_below k) (fun _ hi => Nat.lt_of_lt_of_le hi hc)
theorem IsMoS.forms {S : Nat → Prop} {W : World} {V : MoV} {M : Mo} (h : IsMoS S W V M) : ∃ a0 c0 a1 c1 a2 c2 a5 c5 a6 c6,
    V = ⟨.slice a0 M.sigs.length c0, .slice a1 M.imports.length c1, .slice a2 M.funcs.length c2, .slice a5 M.globals.length c5, .slice a6 M.data.length c6⟩ := by
  obtain ⟨a0, c0, e0⟩ := IsMo_forms_aux h.sigs
  obtain ⟨a1, c1, e1⟩ := IsMo_forms_aux h.imports
  obtain ⟨a2, c2, e2⟩ := IsMo_forms_aux h.funcs
  obtain ⟨a5, c5, e5⟩ := IsMo_forms_aux h.globals
  obtain ⟨a6, c6, e6⟩ := IsMo_forms_aux h.data
  exact ⟨a0, c0, a1, c1, a2, c2, a5, c5, a6, c6, by cases V; simp_all⟩
theorem Sl.isNil {α : Type} {sz : Nat} {R : (Nat → Prop) → World → Nat → Nat → α → Prop} (B : Nat → Prop) (W : World) (a : Option Addr) (cap : Nat) : Sl sz R B W (.slice a 0 cap) ([] : List α) :=
  ⟨a, cap, rfl, fun j h => absurd h (by simp)⟩
def mo0 : Mo := ⟨[], [], [], 0, 0, [], []⟩
def nils : MoV := ⟨.slice none 0 0, .slice none 0 0, .slice none 0 0, .slice none 0 0, .slice none 0 0⟩
theorem nothing (B : Nat → Prop) (W : World) : IsMoS B W nils mo0 :=
  ⟨Sl.isNil _ _ _ _, Sl.isNil _ _ _ _, Sl.isNil _ _ _ _, ⟨⟨by decide, by decide⟩, ⟨by decide, by decide⟩⟩, Sl.isNil _ _ _ _, Sl.isNil _ _ _ _⟩
end Go.Proofs.YtamofhkmhjckaabGreatDoor
namespace Go.Proofs.YtamofhkmhjckaabGreatDoor
open Go.RowKit Go.Extern.Stop Go.Stop Go.Extern

/-- What the target of errors.As is behind it. -/
theorem as_fault (p : Nat) (t : Nat) (w : World) (hL : Laid w) (ht : w.heap[t]? = some (.cells #[.pointer none] 61 (0, 0))) :
    Calls Tryz.prog 20 #[flt p, .iface 68 (.pointer (some ⟨t, 0, none⟩))] w fun e w' => e = .returned (.bool true) ∧ w'.heap[t]? = some (.cells #[.pointer (some ⟨p, 0, none⟩)] 61 (0, 0)) ∧ Below t w w' := by
  have htl : t < w.heap.size := by
    rcases Nat.lt_or_ge t w.heap.size with h | h
    · exact h
    · simp [Array.getElem?_eq_none h] at ht
  have hc : w.cell? ⟨t, 0, none⟩ = some (.pointer none) := by simp [World.cell?, ht]
  have hz : w.frozen? ⟨t, 0, none⟩ = false := by simp [World.frozen?, ht]
  refine (as_hit ⟨p, 0, none⟩ ⟨t, 0, none⟩ (.pointer none) w hL hc hz).mono ?_
  rintro e w' ⟨rfl, rfl⟩
  have hb : Below t w ((((w.alloc (.cells #[.pointer (some ⟨t, 0, none⟩)] 68)).alloc (.cells #[.pointer (some ⟨1, 68, none⟩), .pointer (some ⟨w.heap.size, 0, none⟩), .int .u64 150] 80)).alloc (.cells #[.pointer (some ⟨1, 68, none⟩), .pointer (some ⟨w.heap.size, 0, none⟩), .int .u64 150] 80)).alloc (.cells #[.pointer (some ⟨p, 0, none⟩)] 61)) :=
    ((((Below.refl t w).alloc (by omega) _).alloc (by simp; omega) _).alloc (by simp; omega) _).alloc (by simp; omega) _
  refine ⟨rfl, ?_, hb.setCell (Nat.le_refl _) _⟩
  have hb2 := ((((Below.refl w.heap.size w).alloc (Nat.le_refl _) (.cells #[.pointer (some ⟨t, 0, none⟩)] 68)).alloc (by simp) (.cells #[.pointer (some ⟨1, 68, none⟩), .pointer (some ⟨w.heap.size, 0, none⟩), .int .u64 150] 80)).alloc (by simp; omega) (.cells #[.pointer (some ⟨1, 68, none⟩), .pointer (some ⟨w.heap.size, 0, none⟩), .int .u64 150] 80)).alloc (by simp; omega) (.cells #[.pointer (some ⟨p, 0, none⟩)] 61)
  have hk := (hb2.block t htl).trans ht
  rw [World.setCell]
  simp [Array.getElem?_modify, hk]
theorem fault_any (c a : Int) (w : World) :
    Calls Tryz.prog 45 #[.int .i64 c, .int .i64 a] w fun e w' => e = .returned (flt w.heap.size) ∧ FaultAt w' w.heap.size c a ∧ Below w.heap.size w w' := by
  unfold flt
  go_enter Tryz.func45, Tryz.ntmps45
  go_wp2
  go_ret
  exact ⟨rfl, FaultAt.made w c a, bel_one w _⟩
theorem kind_nil (w : World) : Calls Tryz.prog 36 #[.nilIface] w fun e w' => e = .returned (.int .i64 0) ∧ Below w.heap.size w w' := by
  go_enter Tryz.func36, Tryz.ntmps36
  go_wp2_with fail
  refine (as_nil _ _).mono ?_
  rintro e w1 ⟨rfl, rfl⟩
  go_wp2_with fail
  go_ret
  exact ⟨rfl, bel_one w _⟩
theorem cell_of {w : World} {t : Nat} {v : Value} {ty : TypeId} (h : w.heap[t]? = some (.cells #[v] ty (0, 0))) : w.cell? ⟨t, 0, none⟩ = some v := by simp [World.cell?, h]
theorem kind_fault (p : Nat) (c a : Int) (w : World) (hL : Laid w) (hf : FaultAt w p c a) :
    Calls Tryz.prog 36 #[flt p] w fun e w' => e = .returned (.int .i64 c) ∧ Below w.heap.size w w' := by
  have AS := hide (as_fault p w.heap.size (w.alloc (.cells #[.pointer none] 61)) (hL.kept (bel_one w _)) (heap_alloc_new w _))
  have HF := hide hf
  clear hf
  unfold flt at *
  go_enter Tryz.func36, Tryz.ntmps36
  go_wp2_with fail
  refine AS.out.mono ?_
  rintro e w1 ⟨rfl, h1, b1⟩
  have b2 := (bel_one w _).trans b1
  have c0 := cell_of h1
  have d0 := (HF.out.kept b2).c0
  clear h1 b1 AS
  go_wp2_with fail
  go_ret
  exact ⟨rfl, b2⟩
theorem told_nil (w : World) : Calls Tryz.prog 13 #[.nilIface] w fun e w' => e = .returned (.tuple #[.int .i64 0, .int .i64 0]) ∧ w' = w := by
  go_enter Tryz.func13, Tryz.ntmps13
  go_wp2_with fail
  go_ret2
  exact ⟨rfl, rfl⟩
set_option maxHeartbeats 1600000 in
theorem told_fault (p : Nat) (c a : Int) (w : World) (hL : Laid w) (hf : FaultAt w p c a) (hc : c ≠ 0) :
    Calls Tryz.prog 13 #[flt p] w fun e w' => e = .returned (.tuple #[.int .i64 c, .int .i64 a]) ∧ Below w.heap.size w w' := by
  have AS := hide (as_fault p w.heap.size (w.alloc (.cells #[.pointer none] 61)) (hL.kept (bel_one w _)) (heap_alloc_new w _))
  have HF := hide hf
  have hc' : (c == 0) = false := by simpa using hc
  have hcc : (c == c) = true := by simp
  clear hf hc
  unfold flt at *
  go_enter Tryz.func13, Tryz.ntmps13
  go_wp2_with fail
  refine AS.out.mono ?_
  rintro e w1 ⟨rfl, h1, b1⟩
  have b2 := (bel_one w _).trans b1
  have c0 := cell_of h1
  have d0 := (HF.out.kept b2).c0
  have d1 := (HF.out.kept b2).c1
  have IS := hide (is_fault p c a c w1 (HF.out.kept b2))
  rw [hcc] at IS
  clear h1 b1 AS
  unfold flt at IS
  go_wp2_with fail
  refine IS.out.mono ?_
  rintro e w2 ⟨rfl, rfl⟩
  go_wp2_with fail
  go_region
  go_wp2_with fail
  go_ret2
  exact ⟨rfl, b2.drew⟩
end Go.Proofs.YtamofhkmhjckaabGreatDoor
