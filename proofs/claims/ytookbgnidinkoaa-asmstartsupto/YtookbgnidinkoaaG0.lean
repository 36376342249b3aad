/-
  Merged: Gu0.
-/
import Derived.Test.YtookbgnidinkoaaVA
import Derived.Deep.CutRange
/-
  The document's guess answers what the plain function gu tells.
-/
namespace Go.Proofs.Ytookbgnidinkoaa.Xc
open Go.RowKit
set_option linter.unusedSimpArgs false
set_option linter.unusedVariables false
def zx : Xi := ⟨0, false, 0, 0, 0, 0, 0⟩
/-- The two boxes: the result, and what is guessed. -/
def GW (x : Xi) (w W : World) : Prop := Below w.heap.size w W ∧ RowX w.heap.size (xc zx) W ∧ RowX (w.heap.size + 1) (xc x) W
theorem gw_made (w : World) : GW zx w ((w.alloc (.cells (xc zx) 40)).alloc (.cells (xc zx) 40)) := by
  refine ⟨bel_al (bel_one _ _) _, ?_, row_2 w _ zx⟩
  have h := heap_alloc_new w (.cells (xc zx) 40)
  unfold RowX
  have k := bel_one (w.alloc (.cells (xc zx) 40)) (.cells (xc zx) 40)
  exact (k.block _ (by simp)).trans h
theorem ex_u8 {P : Int → Prop} (h : ∀ n : Fin 256, P (n.val : Int)) : ∀ v : Int, 0 ≤ v → v ≤ 255 → P v := fun v h0 h1 => by
  have := h ⟨v.toNat, by omega⟩
  have e : ((v.toNat : Nat) : Int) = v := by omega
  rwa [show ((⟨v.toNat, by omega⟩ : Fin 256).val : Int) = v from e] at this
theorem u8_8 : ∀ v : Int, 0 ≤ v → v ≤ 255 → (bits BinOp.and IntKind.u8 v 8 != 0) = decide (v / 8 % 2 = 1) := ex_u8 (by decide +kernel)
theorem u8_4 : ∀ v : Int, 0 ≤ v → v ≤ 255 → bits BinOp.and IntKind.u8 v 4 * 2 = upr v 4 := ex_u8 (by decide +kernel)
theorem u8_2 : ∀ v : Int, 0 ≤ v → v ≤ 255 → bits BinOp.and IntKind.u8 v 2 * 4 = upr v 2 := ex_u8 (by decide +kernel)
theorem u8_1 : ∀ v : Int, 0 ≤ v → v ≤ 255 → bits BinOp.and IntKind.u8 v 1 * 8 = upr v 1 := ex_u8 (by decide +kernel)
theorem u8_7 : ∀ v : Int, 0 ≤ v → v ≤ 255 → bits BinOp.and IntKind.u8 v 7 = v % 8 := ex_u8 (by decide +kernel)
theorem u8_37 : ∀ v : Int, 0 ≤ v → v ≤ 255 → bits BinOp.and IntKind.u8 (v / 8) 7 = v / 8 % 8 := ex_u8 (by decide +kernel)
theorem u8_s (m : Int) (h : m = 1 ∨ m = 2 ∨ m = 4) : ∀ v : Int, 0 ≤ v → v ≤ 255 → 0 ≤ bits BinOp.and IntKind.u8 v m ∧ bits BinOp.and IntKind.u8 v m ≤ 7 := by
  rcases h with rfl | rfl | rfl
  · exact ex_u8 (by decide +kernel)
  · exact ex_u8 (by decide +kernel)
  · exact ex_u8 (by decide +kernel)
theorem emp_list (s : ByteArray) : s.toList.isEmpty = decide (s.size = 0) := by
  have h : s.toList = s.data.toList := ByteArray.toList_eq _
  rw [h]
  have hz : s.data.toList.length = s.size := by simp
  cases hl : s.data.toList with
  | nil =>
    rw [hl, List.length_nil] at hz
    rw [decide_eq_true hz.symm]; rfl
  | cons a l =>
    rw [hl, List.length_cons] at hz
    rw [decide_eq_false (by omega)]; rfl
theorem ga_at (s : ByteArray) (k : Nat) (h : k < s.size) : ga s.data.toList k = (s[k].toNat : Int) := by
  have hz : k < s.data.toList.length := by simpa using h
  unfold ga
  rw [List.getD_eq_getElem?_getD, List.getElem?_eq_getElem hz, Option.getD_some, list_get s k h]
theorem nil_iff (s : ByteArray) : s.data.toList = [] ↔ s.size = 0 := by
  have hz : s.data.toList.length = s.size := by simp
  constructor
  · intro h; rw [h] at hz; simpa using hz.symm
  · intro h; exact List.length_eq_zero_iff.1 (by omega)
theorem ext_drop (s : ByteArray) (k : Nat) : (s.extract k s.size).data.toList = s.data.toList.drop k := by
  simp [ByteArray.data_extract, Array.toList_extract]
  exact List.take_of_length_le (by simp)
theorem ext_mid (s : ByteArray) (a b : Nat) : (s.extract a b).data.toList = (s.data.toList.drop a).take (b - a) := by
  simp [ByteArray.data_extract, Array.toList_extract, List.extract_eq_take_drop]
/-- As gNear, of the parts. -/
def GN (p : Int) (wd : Bool) (op reg low mod : Int) (t : List UInt8) : Option Xi :=
  if op = 137 ∧ mod = 3 then some ⟨1, wd, reg, low, 0, 0, 0⟩
  else if (op = 139 ∨ op = 137) ∧ mod = 2 then (if t.length < 6 then none else some ⟨if op = 137 then 12 else 11, wd, reg, ga t 1 % 8 + upr p 1, gI (ga t 1 / 8 % 8 + upr p 2 + 1), 0, v4 ((t.drop 2).take 4)⟩)
  else if 184 ≤ op ∧ op < 192 then (if t.length < 8 then none else some ⟨2, wd, op - 184 + upr p 1, 0, 0, 0, jn (t.take 8)⟩)
  else if op < 64 ∧ op % 8 = 1 then some ⟨3, wd, reg, low, 0, op / 8, 0⟩
  else if op = 129 then (if t.length < 5 then none else some ⟨4, wd, 0, low, 0, reg, v4 ((t.drop 1).take 4)⟩)
  else if op = 133 then some ⟨5, wd, reg, low, 0, 0, 0⟩ else if op = 211 then some ⟨7, wd, 0, low, 0, reg, 0⟩
  else if op = 247 ∧ reg = 6 then some ⟨8, wd, 0, low, 0, 0, 0⟩ else if op = 247 then some ⟨9, wd, 0, low, 0, 0, 0⟩
  else if op = 153 then some ⟨10, wd, 0, 0, 0, 0, 0⟩ else if op = 99 then some ⟨16, wd, reg, low, 0, 0, 0⟩
  else if op = 233 ∨ op = 232 then (if t.length < 4 then none else some ⟨if op = 232 then 19 else 17, wd, 0, 0, 0, 0, v4 (t.take 4)⟩)
  else if op = 195 then some ⟨20, wd, 0, 0, 0, 0, 0⟩ else if op = 244 then some ⟨21, wd, 0, 0, 0, 0, 0⟩ else if op = 204 then some ⟨23, wd, 0, 0, 0, 0, 0⟩ else none
theorem gNear_is (p op : Int) (t : List UInt8) : gNear p op t = GN p (decide (p / 8 % 2 = 1)) op (gReg p t) (gLow p t) (gMod t) t := rfl
theorem GW.set {w W : World} {x x' : Xi} (h : GW x w W) (k : Nat) (v : Value) (e : (xc x).setIfInBounds k v = xc x') : GW x' w (W.setCell ⟨w.heap.size + 1, k, none⟩ v) :=
  ⟨bel_set h.1 (Nat.le_succ _) k v, by unfold RowX; rw [heap_set _ _ _ _ (by show w.heap.size ≠ w.heap.size + 1; omega)]; exact h.2.1, RowX.of (h.2.2.set k v) e⟩
theorem GW.rf {x : Xi} {w W : World} (h : GW x w W) : (∀ k v, (xc zx)[k]? = some v → W.cell? ⟨w.heap.size, k, none⟩ = some v) ∧ (∀ k, W.frozen? ⟨w.heap.size, k, none⟩ = false) := ⟨fun k v hv => h.2.1.cell k v hv, fun k => h.2.1.fr k⟩
theorem GW.xf {x : Xi} {w W : World} (h : GW x w W) : (∀ k v, (xc x)[k]? = some v → W.cell? ⟨w.heap.size + 1, k, none⟩ = some v) ∧ (∀ k, W.frozen? ⟨w.heap.size + 1, k, none⟩ = false) := ⟨fun k v hv => h.2.2.cell k v hv, fun k => h.2.2.fr k⟩
/-- The code's place: behind REX. -/
def ncl (l : List UInt8) : List UInt8 := if ga l 0 / 16 = 4 then l.drop 1 else l
end Go.Proofs.Ytookbgnidinkoaa.Xc
