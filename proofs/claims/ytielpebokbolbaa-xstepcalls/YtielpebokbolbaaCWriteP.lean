/-
  What the program's write meets: its callees by what they answer, in the worlds where it calls them.
-/
import Derived.Test.YtielpebokbolbaaCPut
import Derived.Test.YtielpebokbolbaaCCode
namespace Go.Proofs.Ytielpebokbolbaa.Xc
open Go.RowKit
set_option linter.unusedSimpArgs false
set_option linter.unusedVariables false

theorem code_is (op : Int) (wd : Bool) (r b i c n : Int) (h : rt ⟨op, wd, r, b, i, c, n⟩ = true) (k : Int) (hk : cod ⟨op, wd, r, b, i, c, n⟩ = k) (U : World) :
    Calls Try.prog 49 #[.agg #[.int .i64 op, .bool wd, .int .i64 r, .int .i64 b, .int .i64 i, .int .i64 c, .int .i64 n]] U fun e w' => e = .returned (.int .i64 k) ∧ Below U.heap.size U w' := by
  subst hk; exact code_any ⟨op, wd, r, b, i, c, n⟩ U h
theorem bel_draw {W U w2 : World} (hk : Below U.heap.size U w2) (h : Below W.heap.size W U) : Below W.heap.size W w2 := bel_tr h hk
/-- put, of a row that was just laid; U is that world, however often an order was drawn in it. -/
theorem put_at (B : Nat) (v : Value) (l : List UInt8) (p : Int) (os : List Int) (w2 U : World) (row : Array Value) (T : TypeId) (hr : BRow B v l w2) (hB : B ≤ w2.heap.size) (hl : l.length + 7 ≤ 140737488355328)
    (hp0 : 64 ≤ p) (hp1 : p ≤ 79) (hrow : row = (os.map (Value.int .i64)).toArray) (hin : ∀ o ∈ os, 0 ≤ o ∧ o ≤ 4095) (hm : os.length ≤ 3) (hU : Below (w2.alloc (.cells row T)).heap.size (w2.alloc (.cells row T)) U) :
    Calls Try.prog 47 #[v, .int .i64 p, .slice (some ⟨w2.heap.size, 0, none⟩) os.length os.length] U fun e w' => ∃ v', e = .returned v' ∧ BRow B v' (l ++ (pre p ++ twos os)) w' ∧ Gr w2 w' v v' := by
  have hbel := bel_tr (bel_one w2 (.cells row T)) hU
  have hrU := hr.kept hbel
  have hlt : w2.heap.size < U.heap.size := by have := hU.size; simp at this; omega
  have hne : some w2.heap.size ≠ v.ownBlock := by intro e; have := (World.ownsRow.lt hr _ e.symm).2; omega
  have hio : IRow w2.heap.size os U := by
    refine ⟨hlt, fun j hj => ?_⟩
    rw [World.cell?_of_block (w := w2.alloc (.cells row T)) (hU.block w2.heap.size (by simp)), World.cell?_alloc_mark, hrow]
    simp [hj]
  refine (put_any B v l p os w2.heap.size os.length U (Nat.le_trans hB hbel.size) hrU hl hp0 hp1 hio hne hin hm).mono ?_
  rintro e w' ⟨v', rfl, h1, h2⟩
  exact ⟨v', rfl, h1, (Gr.below hbel).trans h2⟩
theorem Bx.gr {g : Nat} {x : Xi} {w w' : World} {v v' : Value} (h : Bx g x w) (k : Gr w w' v v') (hne : some g ≠ v.ownBlock) : Bx g x w' := by
  have hl := h.lt
  unfold Bx at *; rw [k.block hl hne]; exact h
theorem rx_bd (x : Xi) : 64 ≤ rx x ∧ rx x ≤ 79 := by
  obtain ⟨w, m, i, l, e⟩ := rx_is x
  rw [e]; exact rxb_bd w m i l
theorem cod_bd {x : Xi} (h : rt x = true) : 0 ≤ cod x ∧ cod x ≤ 4095 := by
  rcases cod_ok h with h | h <;> omega
theorem mri_4095 {mod m l : Int} (h0 : 0 ≤ mod) (h1 : mod ≤ 3) : 0 ≤ mri mod m l ∧ mri mod m l ≤ 4095 := by
  have := mri_bd (m := m) (l := l) h0 h1; omega
theorem two_mri {mod m l : Int} (h0 : 0 ≤ mod) (h1 : mod ≤ 3) : two (mri mod m l) = [by8 (mri mod m l)] := by
  have := mri_bd (m := m) (l := l) h0 h1
  unfold two; rw [if_neg (by omega)]
theorem in_1 {a : Int} (ha : 0 ≤ a ∧ a ≤ 4095) : ∀ o ∈ [a], 0 ≤ o ∧ o ≤ 4095 := by intro o ho; simp at ho; subst ho; exact ha
theorem in_2 {a b : Int} (ha : 0 ≤ a ∧ a ≤ 4095) (hb : 0 ≤ b ∧ b ≤ 4095) : ∀ o ∈ [a, b], 0 ≤ o ∧ o ≤ 4095 := by intro o ho; simp at ho; rcases ho with rfl | rfl <;> assumption
theorem in_3 {a b c : Int} (ha : 0 ≤ a ∧ a ≤ 4095) (hb : 0 ≤ b ∧ b ≤ 4095) (hc : 0 ≤ c ∧ c ≤ 4095) : ∀ o ∈ [a, b, c], 0 ≤ o ∧ o ≤ 4095 := by intro o ho; simp at ho; rcases ho with rfl | rfl | rfl <;> assumption
/-- put, as write calls it: x lies in a box of write's own. -/
theorem put_in (B : Nat) (v : Value) (l : List UInt8) (p : Int) (os : List Int) (x : Xi) (w W : World) (row : Array Value) (hB : B ≤ w.heap.size) (hr : BRow B v l w) (hl : l.length + 7 ≤ 140737488355328)
    (hx : Bx w.heap.size x W) (hW : Below w.heap.size w W) (hp0 : 64 ≤ p) (hp1 : p ≤ 79) (hrow : row = (os.map (Value.int .i64)).toArray) (hin : ∀ o ∈ os, 0 ≤ o ∧ o ≤ 4095) (hm : os.length ≤ 3) (w2 U : World)
    (hk : Hid (Below W.heap.size W w2)) (hU : Below (w2.alloc (.cells row 3)).heap.size (w2.alloc (.cells row 3)) U) :
    Calls Try.prog 47 #[v, .int .i64 p, .slice (some ⟨w2.heap.size, 0, none⟩) os.length os.length] U fun e w' => ∃ v', e = .returned v' ∧ Hid (BRow B v' (l ++ (pre p ++ twos os)) w' ∧ Below B w w' ∧ Bx w.heap.size x w' ∧ some w.heap.size ≠ v'.ownBlock) := by
  have hb := bel_tr hW hk.out
  have hr2 := hr.kept hb
  have hne : some w.heap.size ≠ v.ownBlock := by intro e; have := (World.ownsRow.lt hr _ e.symm).2; omega
  have hB2 := Nat.le_trans hB hb.size
  refine (put_at B v l p os w2 U row 3 hr2 hB2 hl hp0 hp1 hrow hin hm hU).mono ?_
  rintro e w' ⟨v', rfl, h1, h2⟩
  refine ⟨v', rfl, h1, (hb.mono hB).trans (h2.bel hr2 hB2), (hx.kept hk.out).gr h2 hne, ?_⟩
  rcases h2.2 with h | ⟨k, h, hk2⟩
  · rw [h]; exact hne
  · rw [h]
    have := hx.lt
    have := hk.out.size
    intro e; simp at e; omega
theorem numb_in (B : Nat) (L : List UInt8) (n : Int) (m : Nat) (x : Xi) (w : World) (hB : B ≤ w.heap.size) (hl : L.length + m ≤ 140737488355328) (hm : m ≤ 8) (hn : I64 n) (v3 : Value) (w3 U : World)
    (h : Hid (BRow B v3 L w3 ∧ Below B w w3 ∧ Bx w.heap.size x w3 ∧ some w.heap.size ≠ v3.ownBlock)) (hU : Below w3.heap.size w3 U) :
    Calls Try.prog 46 #[v3, .int .i64 n, .int .i64 (m : Int)] U fun e w' => ∃ v', e = .returned v' ∧ Hid (BRow B v' (L ++ bys m n) w' ∧ Below B w w' ∧ Bx w.heap.size x w') := by
  obtain ⟨h1, h2, h3, h4⟩ := h.out
  have hB3 : B ≤ U.heap.size := Nat.le_trans hB (Nat.le_trans h2.size hU.size)
  have h1U := h1.kept hU
  have h3U := h3.kept hU
  have h2U := h2.trans (hU.mono (Nat.le_trans hB h2.size))
  refine (number_any B v3 L n m U hB3 h1U hl hm hn).mono ?_
  rintro e w' ⟨v', rfl, k1, k2⟩
  exact ⟨v', rfl, k1, h2U.trans (k2.bel h1U hB3), h3U.gr k2 h4⟩
theorem numb_4 (B : Nat) (L : List UInt8) (n : Int) (x : Xi) (w : World) (hB : B ≤ w.heap.size) (hl : L.length + 4 ≤ 140737488355328) (hn : I64 n) (v3 : Value) (w3 U : World)
    (h : Hid (BRow B v3 L w3 ∧ Below B w w3 ∧ Bx w.heap.size x w3 ∧ some w.heap.size ≠ v3.ownBlock)) (hU : Below w3.heap.size w3 U) :
    Calls Try.prog 46 #[v3, .int .i64 n, .int .i64 4] U fun e w' => ∃ v', e = .returned v' ∧ Hid (BRow B v' (L ++ bys 4 n) w' ∧ Below B w w' ∧ Bx w.heap.size x w') := numb_in B L n 4 x w hB hl (by decide) hn v3 w3 U h hU
theorem numb_8 (B : Nat) (L : List UInt8) (n : Int) (x : Xi) (w : World) (hB : B ≤ w.heap.size) (hl : L.length + 8 ≤ 140737488355328) (hn : I64 n) (v3 : Value) (w3 U : World)
    (h : Hid (BRow B v3 L w3 ∧ Below B w w3 ∧ Bx w.heap.size x w3 ∧ some w.heap.size ≠ v3.ownBlock)) (hU : Below w3.heap.size w3 U) :
    Calls Try.prog 46 #[v3, .int .i64 n, .int .i64 8] U fun e w' => ∃ v', e = .returned v' ∧ Hid (BRow B v' (L ++ bys 8 n) w' ∧ Below B w w' ∧ Bx w.heap.size x w') := numb_in B L n 8 x w hB hl (by decide) hn v3 w3 U h hU
theorem s32_64 {n : Int} (h : s32 n = true) : I64 n := by simp only [s32, Bool.and_eq_true, decide_eq_true_eq] at h; exact ⟨by omega, by omega⟩
theorem pre_len (p : Int) : (pre p).length ≤ 1 := by unfold pre; split <;> simp
theorem put_len (l : List UInt8) (p : Int) (os : List Int) (h : os.length ≤ 3) : (l ++ (pre p ++ twos os)).length ≤ l.length + 7 := by
  have h1 := pre_len p
  have h2 := twos_len os
  simp only [List.length_append]; omega
theorem two_3 (m l : Int) : two (mri 3 m l) = [by8 (mri 3 m l)] := two_mri (by decide) (by decide)
theorem two_2 (m l : Int) : two (mri 2 m l) = [by8 (mri 2 m l)] := two_mri (by decide) (by decide)
theorem two_0 (m l : Int) : two (mri 0 m l) = [by8 (mri 0 m l)] := two_mri (by decide) (by decide)
theorem inx_0 {i : Int} (h : 0 ≤ i ∧ i ≤ 16 ∧ i ≠ 5) : 0 ≤ inx i ∧ inx i ≤ 15 := by unfold inx; split <;> omega
theorem index_is (op : Int) (wd : Bool) (r b i c n : Int) (h0 : 0 ≤ i) (h1 : i ≤ 16) (U : World) :
    Calls Try.prog 51 #[.agg #[.int .i64 op, .bool wd, .int .i64 r, .int .i64 b, .int .i64 i, .int .i64 c, .int .i64 n]] U fun e w' => e = .returned (.int .i64 (inx i)) ∧ Below U.heap.size U w' := indexOf_any ⟨op, wd, r, b, i, c, n⟩ U h0 h1
theorem sm_bd {c : Int} (h : smK c = true) : 0 ≤ c ∧ c ≤ 7 := by rcases sm_cases h with rfl | rfl | rfl | rfl | rfl | rfl <;> decide
theorem sh_bd {c : Int} (h : shK c = true) : 0 ≤ c ∧ c ≤ 7 := by rcases sh_cases h with rfl | rfl | rfl | rfl | rfl <;> decide
/-- What write answers. -/
def WrIs (B : Nat) (v : Value) (l : List UInt8) (x : Xi) (w : World) : Prop :=
  Calls Try.prog 30 #[v, xv x] w fun e w' => ∃ v', e = .returned v' ∧ BRow B v' (l ++ enc x) w' ∧ Below B w w'
end Go.Proofs.Ytielpebokbolbaa.Xc
