/-
  A machine at work in memory: its block, its regions, the bytes that it has of its own.
-/
import Derived.Test.YtielpebokbolbaaJ
namespace Go.Proofs.Ytielpebokbolbaa
open Go.RowKit
open Xc (hide bel_one bel_tr bel_al bel_set le by8 bys jn)
set_option linter.unusedSimpArgs false
set_option linter.unusedVariables false

/-- The worker's cells. -/
def wl (m : Mc) (vr vo : Value) : List Value := m.r.map (Value.int .i64) ++ [.bool m.z, .bool m.s, .bool m.c, .bool m.o, .int .i64 m.at_, vr, .int .i64 m.st, vo]
def wc (m : Mc) (vr vo : Value) : Array Value := (wl m vr vo).toArray
def RowW (B : Nat) (cs : Array Value) (w : World) : Prop := w.heap[B]? = some (.cells cs 72)
theorem RowW.set {g : Nat} {cs : Array Value} {w : World} (h : RowW g cs w) (k : Nat) (v : Value) : RowW g (cs.setIfInBounds k v) (w.setCell ⟨g, k, none⟩ v) := by
  unfold RowW at *; simp [World.setCell, Array.getElem?_modify, h]
theorem RowW.cell {g : Nat} {cs : Array Value} {w : World} (h : RowW g cs w) (k : Nat) (v : Value) (hv : cs[k]? = some v) : w.cell? ⟨g, k, none⟩ = some v := by
  simp only [RowW] at h; simp [World.cell?, h, hv]
theorem RowW.fr {g : Nat} {cs : Array Value} {w : World} (h : RowW g cs w) (k : Nat) : w.frozen? ⟨g, k, none⟩ = false := by
  simp only [RowW] at h; simp [World.frozen?, h]
theorem RowW.lt {g : Nat} {cs : Array Value} {w : World} (h : RowW g cs w) : g < w.heap.size := by
  rcases Nat.lt_or_ge g w.heap.size with h' | h'
  · exact h'
  · simp [RowW, Array.getElem?_eq_none h'] at h
theorem RowW.bel {g : Nat} {cs : Array Value} {w w' : World} (h : RowW g cs w) (k : Below w.heap.size w w') : RowW g cs w' := by
  have hl := h.lt
  unfold RowW at *; rw [k.block g hl]; exact h
theorem wc_r {m : Mc} (h : m.r.length = 16) (vr vo : Value) (k : Nat) (hk : k < 16) : (wc m vr vo)[k]? = some (.int .i64 (m.r.getD k 0)) := by
  simp only [wc, wl, List.getElem?_toArray]
  rw [List.getElem?_append_left (by simp; omega)]
  simp [List.getD_eq_getElem?_getD, List.getElem?_eq_getElem (show k < m.r.length by omega)]
theorem wc_x {m : Mc} (h : m.r.length = 16) (vr vo : Value) (k : Nat) : (wc m vr vo)[16 + k]? = [.bool m.z, .bool m.s, .bool m.c, .bool m.o, .int .i64 m.at_, vr, .int .i64 m.st, vo][k]? := by
  simp only [wc, wl, List.getElem?_toArray]
  rw [List.getElem?_append_right (by simp; omega)]
  simp [h]
theorem wc_set {m : Mc} (h : m.r.length = 16) (vr vo : Value) (k : Nat) (hk : k < 16) (v : Int) : (wc m vr vo).setIfInBounds k (.int .i64 v) = wc { m with r := m.r.set k v } vr vo := by
  simp only [wc, wl, List.setIfInBounds_toArray]
  rw [List.set_append_left _ _ (by simp; omega), List.map_set]
theorem wc_setx {m : Mc} (h : m.r.length = 16) (vr vo : Value) (k : Nat) (v : Value) : (wc m vr vo).setIfInBounds (16 + k) v = (m.r.map (Value.int .i64) ++ [.bool m.z, .bool m.s, .bool m.c, .bool m.o, .int .i64 m.at_, vr, .int .i64 m.st, vo].set k v).toArray := by
  simp only [wc, wl, List.setIfInBounds_toArray]
  rw [List.set_append_right _ _ (by simp; omega)]
  simp [h]
/-- Bytes in a block, none of which is frozen. -/
def BR (w : World) (q : Nat) (l : List UInt8) : Prop := q < w.heap.size ∧ ∀ j (h : j < l.length), w.cell? ⟨q, j, none⟩ = some (.int .u8 (l[j].toNat : Int)) ∧ w.frozen? ⟨q, j, none⟩ = false
theorem BR.of {w w' : World} {q : Nat} {l : List UInt8} (h : BR w q l) (e : w'.heap[q]? = w.heap[q]?) (hs : w.heap.size ≤ w'.heap.size) : BR w' q l := ⟨Nat.lt_of_lt_of_le h.1 hs, fun j hj => by
  rw [World.cell?_of_block (w := w) e]
  refine ⟨(h.2 j hj).1, ?_⟩
  have := (h.2 j hj).2
  unfold World.frozen? at *
  rw [e]; exact this⟩
/-- What stands in the place of a region's own bytes. -/
def ov : Option (Nat × Nat) → Nat → Value
  | none, _ => .slice none 0 0
  | some (q, c), n => .slice (some ⟨q, 0, none⟩) n c
structure Wn (base B rb ob : Nat) (g : List Rg) (ss : Nat → ByteArray) (os : Nat → Option (Nat × Nat)) (w : World) : Prop where
  b1 : base ≤ rb
  b2 : base ≤ ob
  l1 : rb < w.heap.size
  l2 : ob < w.heap.size
  n1 : rb ≠ B
  n2 : ob ≠ B
  n3 : rb ≠ ob
  rl : RL w rb 0 g ss
  rf : ∀ j, w.frozen? ⟨rb, j, none⟩ = false
  of' : ∀ j, w.frozen? ⟨ob, j, none⟩ = false
  oc : ∀ i (h : i < g.length), w.cell? ⟨ob, i, none⟩ = some (ov (os i) g[i].by_.length)
  no : ∀ i (h : i < g.length), os i = none → (ss i).data.toList = g[i].by_
  cd : ∀ i (h : i < g.length), g[i].code = true → os i = none
  ow : ∀ i (h : i < g.length) q c, os i = some (q, c) → base ≤ q ∧ q ≠ B ∧ q ≠ rb ∧ q ≠ ob ∧ BR w q g[i].by_ ∧ 0 < g[i].by_.length
  cp : ∀ i (h : i < g.length) q c, os i = some (q, c) → g[i].by_.length ≤ c
  ap : ∀ i j q c c', i < g.length → j < g.length → os i = some (q, c) → os j = some (q, c') → i = j
theorem frz_of {w w' : World} {b : Nat} (e : w'.heap[b]? = w.heap[b]?) (j : Nat) (h : w.frozen? ⟨b, j, none⟩ = false) : w'.frozen? ⟨b, j, none⟩ = false := by
  unfold World.frozen? at *; rw [e]; exact h
theorem Wn.of {base B rb ob : Nat} {g : List Rg} {ss : Nat → ByteArray} {os : Nat → Option (Nat × Nat)} {w w' : World} (h : Wn base B rb ob g ss os w) (hs : w.heap.size ≤ w'.heap.size) (e : ∀ b, b ≠ B → b < w.heap.size → w'.heap[b]? = w.heap[b]?) : Wn base B rb ob g ss os w' := by
  have e1 := e rb h.n1 h.l1
  have e2 := e ob h.n2 h.l2
  refine ⟨h.b1, h.b2, Nat.lt_of_lt_of_le h.l1 hs, Nat.lt_of_lt_of_le h.l2 hs, h.n1, h.n2, h.n3, h.rl.of e1, fun j => frz_of e1 j (h.rf j), fun j => frz_of e2 j (h.of' j), fun i hi => ?_, h.no, h.cd, fun i hi q c hq => ?_, h.cp, h.ap⟩
  · rw [World.cell?_of_block (w := w) e2]; exact h.oc i hi
  · obtain ⟨a1, a2, a3, a4, a5, a6⟩ := h.ow i hi q c hq
    exact ⟨a1, a2, a3, a4, a5.of (e q a2 a5.1) hs, a6⟩
def Wm (base B : Nat) (ra oa : Option Addr) (g : List Rg) (ss : Nat → ByteArray) (os : Nat → Option (Nat × Nat)) (w : World) : Prop :=
  g = [] ∨ ∃ rb ob, ra = some ⟨rb, 0, none⟩ ∧ oa = some ⟨ob, 0, none⟩ ∧ Wn base B rb ob g ss os w
theorem Wm.of {base B : Nat} {ra oa : Option Addr} {g : List Rg} {ss : Nat → ByteArray} {os : Nat → Option (Nat × Nat)} {w w' : World} (h : Wm base B ra oa g ss os w) (hs : w.heap.size ≤ w'.heap.size) (e : ∀ b, b ≠ B → b < w.heap.size → w'.heap[b]? = w.heap[b]?) : Wm base B ra oa g ss os w' := by
  rcases h with h | ⟨rb, ob, h1, h2, h3⟩
  · exact Or.inl h
  · exact Or.inr ⟨rb, ob, h1, h2, h3.of hs e⟩
theorem Wm.rs {base B : Nat} {ra oa : Option Addr} {g : List Rg} {ss : Nat → ByteArray} {os : Nat → Option (Nat × Nat)} {w : World} (h : Wm base B ra oa g ss os w) : RS w ra g ss := by
  rcases h with h | ⟨rb, ob, h1, h2, h3⟩
  · exact Or.inl h
  · exact Or.inr ⟨rb, 0, h1, h3.rl⟩
/-- The worker in block B shows the machine m; all of its own lies from base on. -/
structure WJ (base B : Nat) (ra oa : Option Addr) (rc : Nat) (ss : Nat → ByteArray) (os : Nat → Option (Nat × Nat)) (m : Mc) (w : World) : Prop where
  row : RowW B (wc m (.slice ra m.g.length rc) (.slice oa m.g.length m.g.length)) w
  le : base ≤ B
  mem : Wm base B ra oa m.g ss os w
  ok : m.ok
  sm : m.g.length ≤ 4398046511104
def WX (base B : Nat) (m : Mc) (w : World) : Prop := ∃ ra oa rc ss os, WJ base B ra oa rc ss os m w
section
variable {base B : Nat} {ra oa : Option Addr} {rc : Nat} {ss : Nat → ByteArray} {os : Nat → Option (Nat × Nat)} {m : Mc} {w w' : World}
theorem WJ.bel (h : WJ base B ra oa rc ss os m w) (k : Below w.heap.size w w') : WJ base B ra oa rc ss os m w' :=
  ⟨h.row.bel k, h.le, h.mem.of k.size fun b _ hb => k.block b hb, h.ok, h.sm⟩
theorem WJ.reg (h : WJ base B ra oa rc ss os m w) (k : Nat) (hk : k < 16) : w.cell? ⟨B, k, none⟩ = some (.int .i64 (m.r.getD k 0)) := h.row.cell k _ (wc_r h.ok.1 _ _ k hk)
theorem WJ.fr (h : WJ base B ra oa rc ss os m w) (k : Nat) : w.frozen? ⟨B, k, none⟩ = false := h.row.fr k
theorem WJ.cz (h : WJ base B ra oa rc ss os m w) : w.cell? ⟨B, 16, none⟩ = some (.bool m.z) := h.row.cell 16 _ (wc_x h.ok.1 _ _ 0)
theorem WJ.cs (h : WJ base B ra oa rc ss os m w) : w.cell? ⟨B, 17, none⟩ = some (.bool m.s) := h.row.cell 17 _ (wc_x h.ok.1 _ _ 1)
theorem WJ.cc (h : WJ base B ra oa rc ss os m w) : w.cell? ⟨B, 18, none⟩ = some (.bool m.c) := h.row.cell 18 _ (wc_x h.ok.1 _ _ 2)
theorem WJ.co (h : WJ base B ra oa rc ss os m w) : w.cell? ⟨B, 19, none⟩ = some (.bool m.o) := h.row.cell 19 _ (wc_x h.ok.1 _ _ 3)
theorem WJ.ca (h : WJ base B ra oa rc ss os m w) : w.cell? ⟨B, 20, none⟩ = some (.int .i64 m.at_) := h.row.cell 20 _ (wc_x h.ok.1 _ _ 4)
theorem WJ.cg (h : WJ base B ra oa rc ss os m w) : w.cell? ⟨B, 21, none⟩ = some (.slice ra m.g.length rc) := h.row.cell 21 _ (wc_x h.ok.1 _ _ 5)
theorem WJ.ct (h : WJ base B ra oa rc ss os m w) : w.cell? ⟨B, 22, none⟩ = some (.int .i64 m.st) := h.row.cell 22 _ (wc_x h.ok.1 _ _ 6)
theorem WJ.cw (h : WJ base B ra oa rc ss os m w) : w.cell? ⟨B, 23, none⟩ = some (.slice oa m.g.length m.g.length) := h.row.cell 23 _ (wc_x h.ok.1 _ _ 7)
theorem WJ.upd {m' : Mc} (h : WJ base B ra oa rc ss os m w) (k : Nat) (v : Value) (e : (wc m (.slice ra m.g.length rc) (.slice oa m.g.length m.g.length)).setIfInBounds k v = wc m' (.slice ra m.g.length rc) (.slice oa m.g.length m.g.length)) (hg : m'.g = m.g) (hok : m'.ok) :
    WJ base B ra oa rc ss os m' (w.setCell ⟨B, k, none⟩ v) := by
  refine ⟨?_, h.le, ?_, hok, by rw [hg]; exact h.sm⟩
  · rw [hg]
    have := h.row.set k v
    rw [e] at this; exact this
  · rw [hg]
    exact h.mem.of (by simp [World.setCell]) fun b hb _ => Below.heap_setCell w ⟨B, k, none⟩ v b hb
theorem Mc.ok_r (h : m.ok) (k : Nat) (v : Int) (hv : I64 v) : ({ m with r := m.r.set k v } : Mc).ok := by
  refine ⟨by simp [h.1], fun x hx => ?_, h.2.2.1, h.2.2.2⟩
  rcases List.mem_or_eq_of_mem_set hx with hx | rfl
  · exact h.2.1 x hx
  · exact hv
theorem WJ.setr (h : WJ base B ra oa rc ss os m w) (k : Nat) (hk : k < 16) (v : Int) (hv : I64 v) : WJ base B ra oa rc ss os { m with r := m.r.set k v } (w.setCell ⟨B, k, none⟩ (.int .i64 v)) :=
  h.upd k _ (wc_set h.ok.1 _ _ k hk v) rfl (Mc.ok_r h.ok k v hv)
theorem WJ.seta (h : WJ base B ra oa rc ss os m w) (v : Int) (hv : I64 v) : WJ base B ra oa rc ss os { m with at_ := v } (w.setCell ⟨B, 20, none⟩ (.int .i64 v)) :=
  h.upd 20 _ (wc_setx h.ok.1 _ _ 4 _) rfl ⟨h.ok.1, h.ok.2.1, hv, h.ok.2.2.2⟩
theorem WJ.sett (h : WJ base B ra oa rc ss os m w) (v : Int) : WJ base B ra oa rc ss os { m with st := v } (w.setCell ⟨B, 22, none⟩ (.int .i64 v)) :=
  h.upd 22 _ (wc_setx h.ok.1 _ _ 6 _) rfl h.ok
theorem WJ.setf (h : WJ base B ra oa rc ss os m w) (z s c o : Bool) : WJ base B ra oa rc ss os { m with z := z, s := s, c := c, o := o } ((((w.setCell ⟨B, 16, none⟩ (.bool z)).setCell ⟨B, 17, none⟩ (.bool s)).setCell ⟨B, 18, none⟩ (.bool c)).setCell ⟨B, 19, none⟩ (.bool o)) := by
  have h1 : WJ base B ra oa rc ss os { m with z := z } (w.setCell ⟨B, 16, none⟩ (.bool z)) := h.upd 16 _ (wc_setx h.ok.1 _ _ 0 _) rfl h.ok
  have h2 : WJ base B ra oa rc ss os { m with z := z, s := s } _ := h1.upd 17 (.bool s) (wc_setx h1.ok.1 _ _ 1 _) rfl h.ok
  have h3 : WJ base B ra oa rc ss os { m with z := z, s := s, c := c } _ := h2.upd 18 (.bool c) (wc_setx h2.ok.1 _ _ 2 _) rfl h.ok
  exact h3.upd 19 (.bool o) (wc_setx h3.ok.1 _ _ 3 _) rfl h.ok
theorem Mc.regs64 (h : m.ok) (k : Nat) : I64 (m.r.getD k 0) := by
  rw [List.getD_eq_getElem?_getD]
  cases e : m.r[k]? with
  | none => exact Xc.zero_I64
  | some v => exact h.2.1 v (List.mem_of_getElem? e)
end
end Go.Proofs.Ytielpebokbolbaa
