/-
  What the document's Encode meets.
-/
import Derived.Test.YtookbgnidinkoaaCRRight
import Derived.Test.YtookbgnidinkoaaCRBytes
import Derived.Test.YtookbgnidinkoaaCWriteP
namespace Go.Proofs.Ytookbgnidinkoaa.Xc
open Go.RowKit
set_option linter.unusedSimpArgs false
set_option linter.unusedVariables false

def reB (x : Xi) : Bool := rt x
def ReIs (x : Xi) (w : World) : Prop := Calls Try.prog 22 #[xv x] w fun e w' => e = .returned (.tuple #[.string (str (enS x)), .bool (reB x)]) ∧ Below w.heap.size w w'
theorem rright_is (op : Int) (wd : Bool) (r b i c n : Int) (w : World) {q : Bool} (h : rt ⟨op, wd, r, b, i, c, n⟩ = q) :
    Calls Try.prog 32 #[.agg #[.int .i64 op, .bool wd, .int .i64 r, .int .i64 b, .int .i64 i, .int .i64 c, .int .i64 n]] w fun e w' => e = .returned (.bool q) ∧ Below w.heap.size w w' := by subst h; exact rright_any ⟨op, wd, r, b, i, c, n⟩ w
theorem Bx.draw {g : Nat} {x : Xi} {V w' : World} (hb : Below V.heap.size V w') (h : Bx g x V) : Bx g x w' := h.kept hb
theorem bel_draw' {a V w' : World} (hb : Below V.heap.size V w') (h : Below a.heap.size a V) : Below a.heap.size a w' := bel_tr h hb
theorem Bx.draw2 {g : Nat} {x : Xi} {V w' : World} (hb : Below V.drew.heap.size V.drew w') (h : Bx g x V) : Bx g x w' := Bx.draw hb h
theorem bel_draw2 {a V w' : World} (hb : Below V.drew.heap.size V.drew w') (h : Below a.heap.size a V) : Below a.heap.size a w' := bel_tr h.drew hb
theorem rxb_mid {w : Bool} {m i l : Int} (h : m ≤ 7) : rxb w m i l = rxb w 0 i l := by unfold rxb; rw [up8 h 4, up8 (show (0 : Int) ≤ 7 by decide) 4]
theorem cat_size (a b : ByteArray) : (a ++ b).size = a.size + b.size := ByteArray.size_append
theorem sz_str (l : List UInt8) : (str l).size = l.length := str_size' l
theorem sz_lit (l : List UInt8) : (⟨l.toArray⟩ : ByteArray).size = l.length := by simp [ByteArray.size]
theorem lit_str (l : List UInt8) : (⟨l.toArray⟩ : ByteArray) = str l := rfl
theorem sm_bd15 {c : Int} (h : smK c = true) : 0 ≤ c ∧ c ≤ 15 := by have := sm_bd h; omega
theorem sh_bd15 {c : Int} (h : shK c = true) : 0 ≤ c ∧ c ≤ 15 := by have := sh_bd h; omega
theorem cn_bd15 {c : Int} (h : cnK c = true) : 0 ≤ c ∧ c ≤ 15 := by rcases cn_cases h with rfl | rfl | rfl | rfl | rfl | rfl | rfl | rfl | rfl | rfl <;> decide
theorem rnum_4 (n : Int) (w : World) (hn : I64 n) : Calls Try.prog 36 #[.int .i64 n, .int .i64 4] w fun e w' => e = .returned (.string (str (bys 4 n))) ∧ Below w.heap.size w w' := rnumber_any n 4 w (by decide) hn
theorem rnum_8 (n : Int) (w : World) (hn : I64 n) : Calls Try.prog 36 #[.int .i64 n, .int .i64 8] w fun e w' => e = .returned (.string (str (bys 8 n))) ∧ Below w.heap.size w w' := rnumber_any n 8 w (by decide) hn
theorem ret_sb {a : ByteArray} {b : ByteArray} (h : a = b) : Ending.returned (.tuple #[.string a, .bool true]) = .returned (.tuple #[.string b, .bool true]) := by rw [h]
set_option maxRecDepth 100000 in
set_option maxHeartbeats 2000000 in
theorem renc_no (x : Xi) (w : World) (hx : rt x = false) : ReIs x w := by
  obtain ⟨op, wd, r, b, i, c, n⟩ := x
  have e0 : enS ⟨op, wd, r, b, i, c, n⟩ = [] := by simp [enS, hx]
  have e1 : reB ⟨op, wd, r, b, i, c, n⟩ = false := hx
  unfold ReIs
  rw [e0, e1]
  simp only [xv]
  have RI := hide (fun U => rright_is op wd r b i c n U hx)
  obtain ⟨W, hW⟩ : ∃ W, W = w.alloc (.cells #[.int .i64 op, .bool wd, .int .i64 r, .int .i64 b, .int .i64 i, .int .i64 c, .int .i64 n] 40) := ⟨_, rfl⟩
  have W0 : Hid (Below w.heap.size w W) := by show Below _ _ _; rw [hW]; exact bel_one _ _
  clear hx e0 e1
  go_enter Try.func22, Try.ntmps22
  go_wp2_with fail
  rw [← hW]
  refine (RI.out _).mono ?_
  clear hW
  rintro e w1 ⟨rfl, hb1⟩
  go_wp2_with fail
  go_ret2
  exact ⟨rfl, bel_tr W0.out hb1⟩
end Go.Proofs.Ytookbgnidinkoaa.Xc
