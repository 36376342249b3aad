/-
  Rows of sets and of parts in memory, and what a step leaves alone.
-/
import Derived.Test.YtjgaaofpfepfhaaDoorNames
namespace Go.Proofs.YtjgaaofpfepfhaaDoor
open Go.RowKit
set_option linter.unusedSimpArgs false
set_option linter.unusedVariables false
/-- All blocks but those of X are as they were. -/
structure Bt (X : Nat → Prop) (w w' : World) : Prop where
  os : w'.os = w.os
  tape : w'.tape = w.tape
  output : w'.output = w.output
  size : w.heap.size ≤ w'.heap.size
  block : ∀ b, b < w.heap.size → ¬ X b → w'.heap[b]? = w.heap[b]?
section
variable {X : Nat → Prop} {w w' w2 : World}
theorem Bt.refl (X : Nat → Prop) (w : World) : Bt X w w := ⟨rfl, rfl, rfl, Nat.le_refl _, fun _ _ _ => rfl⟩
theorem Bt.trans (h : Bt X w w') (k : Bt X w' w2) : Bt X w w2 :=
  ⟨k.os.trans h.os, k.tape.trans h.tape, k.output.trans h.output, Nat.le_trans h.size k.size, fun b hb hx => (k.block b (Nat.lt_of_lt_of_le hb h.size) hx).trans (h.block b hb hx)⟩
theorem Bt.of (h : Below w.heap.size w w') : Bt X w w' := ⟨h.os, h.tape, h.output, h.size, fun b hb _ => h.block b hb⟩
theorem Bt.bel (h : Bt X w w') (k : Below w'.heap.size w' w2) : Bt X w w2 := h.trans (Bt.of k)
theorem Bt.mono {Y : Nat → Prop} (h : Bt X w w') (k : ∀ b, X b → Y b) : Bt Y w w' := ⟨h.os, h.tape, h.output, h.size, fun b hb hy => h.block b hb fun hx => hy (k b hx)⟩
theorem Bt.set (h : Bt X w w') {b : Nat} (hb : X b) (j : Nat) (v : Value) : Bt X w (w'.setCell ⟨b, j, none⟩ v) := by
  refine ⟨h.os, h.tape, h.output, by simpa [World.setCell] using h.size, fun c hc hx => ?_⟩
  have : c ≠ b := fun e => hx (e ▸ hb)
  exact (Below.heap_setCell w' ⟨b, j, none⟩ v c this).trans (h.block c hc hx)
theorem Bt.drew (h : Bt X w w') : Bt X w w'.drew := ⟨h.os, h.tape, h.output, h.size, h.block⟩
theorem Bt.alloc (h : Bt X w w') (o : Obj) : Bt X w (w'.alloc o) := h.bel (bel_one _ _)
theorem Bt.below (h : Bt X w w') {n : Nat} (hn : n ≤ w.heap.size) (hX : ∀ b, b < n → ¬ X b) : Below n w w' := ⟨h.os, h.tape, h.output, h.size, fun b hb => h.block b (by omega) (hX b hb)⟩
theorem Bt.cell (h : Bt X w w') {b : Nat} (hb : b < w.heap.size) (hx : ¬ X b) (j : Nat) : w'.cell? ⟨b, j, none⟩ = w.cell? ⟨b, j, none⟩ := by simp [World.cell?, h.block b hb hx]
theorem Nv.bt {B : Nat} {v : Value} {ns : List Int} (h : Nv B v ns w) (k : Bt X w w') (hX : ∀ b, B ≤ b → ¬ X b) : Nv B v ns w' := by
  rcases h with h | ⟨g, c, e, h1, h2, h3⟩
  · exact Or.inl h
  · exact Or.inr ⟨g, c, e, h1, Nat.lt_of_lt_of_le h2 k.size, fun j hj => (k.cell h2 (hX g h1) j).trans (h3 j hj)⟩
theorem IR.bt {n₀ : Nat} {a : Option Addr} {l : List Ir} (h : IR n₀ w a l) (k : Bt X w w') (hn : n₀ ≤ w.heap.size) (hX : ∀ b, b < n₀ → ¬ X b) : IR n₀ w' a l := h.of fun b hb => k.block b (by omega) (hX b hb)
theorem LMp.bt {B n : Nat} {D : DataW Unit} (h : LMp B D n w) (k : Bt X w w') (hX : ¬ X B) : LMp B D n w' := by
  have hlt := World.ownsMap.lt h
  obtain ⟨es, clock, hb, F, hs, e⟩ := h
  exact ⟨es, clock, (k.block B hlt hX).trans hb, F, hs, e⟩
end
/-- Sets in a row. -/
structure NRow (b n : Nat) (A : Nat → Nat) (W : World) : Prop where
  lt : b < W.heap.size
  c : ∀ i, i < n → W.cell? ⟨b, i, none⟩ = some (.int .i64 ((A i : Nat) : Int))
  f : ∀ j, W.frozen? ⟨b, j, none⟩ = false
section
variable {b n : Nat} {A : Nat → Nat} {W W' : World}
theorem NRow.of (h : NRow b n A W) (k : W'.heap[b]? = W.heap[b]?) : NRow b n A W' := by
  refine ⟨?_, fun i hi => ?_, fun j => ?_⟩
  · rcases Nat.lt_or_ge b W'.heap.size with h' | h'
    · exact h'
    · rw [Array.getElem?_eq_none h'] at k
      have := Array.getElem?_eq_getElem h.lt
      rw [← k] at this; cases this
  · rw [← h.c i hi]; simp [World.cell?, k]
  · rw [← h.f j]; simp [World.frozen?, k]
theorem NRow.set (h : NRow b n A W) {i : Nat} (hi : i < n) (v : Nat) : NRow b n (upd A i v) (W.setCell ⟨b, i, none⟩ (.int .i64 ((v : Nat) : Int))) := by
  refine ⟨by simpa [World.setCell] using h.lt, fun j hj => ?_, fun j => by rw [World.frozen?_setCell]; exact h.f j⟩
  by_cases e : j = i
  · subst e
    rw [upd_same]
    exact World.cell?_setCell_same' W ⟨b, j, none⟩ _ (by rw [h.c j hj]; rfl)
  · rw [upd_other A v e]
    rw [World.cell?_setCell_other W ⟨b, i, none⟩ ⟨b, j, none⟩ _ (fun e' => by injection e' with _ e'; exact e e'.symm)]
    exact h.c j hj
theorem NRow.bt {X : Nat → Prop} (h : NRow b n A W) (k : Bt X W W') (hX : ¬ X b) : NRow b n A W' := h.of (k.block b h.lt hX)
theorem NRow.congr {B : Nat → Nat} (h : NRow b n A W) (e : ∀ i, i < n → A i = B i) : NRow b n B W := ⟨h.lt, fun i hi => by rw [← e i hi]; exact h.c i hi, h.f⟩
end
def upv (A : Nat → Value) (i : Nat) (v : Value) : Nat → Value := fun j => if j = i then v else A j
theorem upv_same (A : Nat → Value) (i : Nat) (v : Value) : upv A i v i = v := if_pos rfl
theorem upv_other (A : Nat → Value) {i j : Nat} (v : Value) (h : j ≠ i) : upv A i v j = A j := if_neg h
/-- Parts in a row. -/
structure PRow (b n : Nat) (vn : Nat → Value) (rd wr : Nat → Nat) (W : World) : Prop where
  lt : b < W.heap.size
  c0 : ∀ i, i < n → W.cell? ⟨b, i * 3, none⟩ = some (vn i)
  c1 : ∀ i, i < n → W.cell? ⟨b, i * 3 + 1, none⟩ = some (.int .i64 ((rd i : Nat) : Int))
  c2 : ∀ i, i < n → W.cell? ⟨b, i * 3 + 2, none⟩ = some (.int .i64 ((wr i : Nat) : Int))
  f : ∀ j, W.frozen? ⟨b, j, none⟩ = false
section
variable {b n : Nat} {vn : Nat → Value} {rd wr : Nat → Nat} {W W' : World}
theorem PRow.of (h : PRow b n vn rd wr W) (k : W'.heap[b]? = W.heap[b]?) : PRow b n vn rd wr W' := by
  have e : ∀ j, W'.cell? ⟨b, j, none⟩ = W.cell? ⟨b, j, none⟩ := fun j => by simp [World.cell?, k]
  refine ⟨?_, fun i hi => (e _).trans (h.c0 i hi), fun i hi => (e _).trans (h.c1 i hi), fun i hi => (e _).trans (h.c2 i hi), fun j => ?_⟩
  · rcases Nat.lt_or_ge b W'.heap.size with h' | h'
    · exact h'
    · rw [Array.getElem?_eq_none h'] at k
      have := Array.getElem?_eq_getElem h.lt
      rw [← k] at this; cases this
  · rw [← h.f j]; simp [World.frozen?, k]
theorem PRow.bt {X : Nat → Prop} (h : PRow b n vn rd wr W) (k : Bt X W W') (hX : ¬ X b) : PRow b n vn rd wr W' := h.of (k.block b h.lt hX)
theorem far (W : World) (b i j : Nat) (v : Value) (h : j ≠ i) : (W.setCell ⟨b, i, none⟩ v).cell? ⟨b, j, none⟩ = W.cell? ⟨b, j, none⟩ :=
  World.cell?_setCell_other W ⟨b, i, none⟩ ⟨b, j, none⟩ _ (fun e' => by injection e' with _ e'; exact h e'.symm)
theorem PRow.setN (h : PRow b n vn rd wr W) {i : Nat} (hi : i < n) (v : Value) : PRow b n (upv vn i v) rd wr (W.setCell ⟨b, i * 3, none⟩ v) := by
  refine ⟨by simpa [World.setCell] using h.lt, fun j hj => ?_, fun j hj => (far _ _ _ _ _ (by omega)).trans (h.c1 j hj), fun j hj => (far _ _ _ _ _ (by omega)).trans (h.c2 j hj), fun j => by rw [World.frozen?_setCell]; exact h.f j⟩
  by_cases e : j = i
  · subst e
    rw [upv_same]
    exact World.cell?_setCell_same' W ⟨b, j * 3, none⟩ _ (by rw [h.c0 j hj]; rfl)
  · rw [upv_other vn v e, far _ _ _ _ _ (by omega)]; exact h.c0 j hj
theorem PRow.setR (h : PRow b n vn rd wr W) {i : Nat} (hi : i < n) (v : Nat) : PRow b n vn (upd rd i v) wr (W.setCell ⟨b, i * 3 + 1, none⟩ (.int .i64 ((v : Nat) : Int))) := by
  refine ⟨by simpa [World.setCell] using h.lt, fun j hj => (far _ _ _ _ _ (by omega)).trans (h.c0 j hj), fun j hj => ?_, fun j hj => (far _ _ _ _ _ (by omega)).trans (h.c2 j hj), fun j => by rw [World.frozen?_setCell]; exact h.f j⟩
  by_cases e : j = i
  · subst e
    rw [upd_same]
    exact World.cell?_setCell_same' W ⟨b, j * 3 + 1, none⟩ _ (by rw [h.c1 j hj]; rfl)
  · rw [upd_other rd v e, far _ _ _ _ _ (by omega)]; exact h.c1 j hj
theorem PRow.setW (h : PRow b n vn rd wr W) {i : Nat} (hi : i < n) (v : Nat) : PRow b n vn rd (upd wr i v) (W.setCell ⟨b, i * 3 + 2, none⟩ (.int .i64 ((v : Nat) : Int))) := by
  refine ⟨by simpa [World.setCell] using h.lt, fun j hj => (far _ _ _ _ _ (by omega)).trans (h.c0 j hj), fun j hj => (far _ _ _ _ _ (by omega)).trans (h.c1 j hj), fun j hj => ?_, fun j => by rw [World.frozen?_setCell]; exact h.f j⟩
  by_cases e : j = i
  · subst e
    rw [upd_same]
    exact World.cell?_setCell_same' W ⟨b, j * 3 + 2, none⟩ _ (by rw [h.c2 j hj]; rfl)
  · rw [upd_other wr v e, far _ _ _ _ _ (by omega)]; exact h.c2 j hj
end
/-- The sets that an instruction reads and writes. -/
def rdS (x : Ir) : Nat := ors ((us x).map one)
def wrS (x : Ir) : Nat := if df x = -1 then 0 else one (df x)
/-- All that is named is below 60. -/
def Ok60 (l : List Ir) : Prop := ∀ x ∈ l, (∀ y ∈ raw x, 0 ≤ y ∧ y < 60) ∧ (df x = -1 ∨ (0 ≤ df x ∧ df x < 60))
theorem Ok60.us {l : List Ir} (h : Ok60 l) {x : Ir} (hx : x ∈ l) : ∀ y ∈ us x, 0 ≤ y ∧ y < 60 := fun y hy => (h x hx).1 y ((us_mem x y).1 hy)
theorem Ok60.rd {l : List Ir} (h : Ok60 l) {x : Ir} (hx : x ∈ l) : rdS x < lim := ors_lim fun s hs => by
  obtain ⟨y, hy, rfl⟩ := List.mem_map.1 hs
  exact one_lim (h.us hx y hy).2
theorem Ok60.wr {l : List Ir} (h : Ok60 l) {x : Ir} (hx : x ∈ l) : wrS x < lim := by
  unfold wrS
  rcases (h x hx).2 with e | ⟨_, h2⟩
  · rw [if_pos e]; decide
  · split
    · decide
    · exact one_lim h2
theorem isc_iff {n m : Int} : isC n m = true ↔ 0 ≤ n ∧ n < m := by simp [isC]
/-- A code that fits names cells below 60. -/
theorem fit_60 {d : Int} {l : List Ir} (hd : d ≤ 60) (h : ∀ x ∈ l, nam x d = true) : Ok60 l := fun x hx => by
  have hn := h x hx
  unfold nam at hn
  rw [Bool.and_eq_true, List.all_eq_true] at hn
  obtain ⟨h1, h2⟩ := hn
  refine ⟨fun y hy => by have := isc_iff.1 (h1 y hy); omega, ?_⟩
  have hw : wrs x = true ↔ (x.op = 1 ∨ x.op = 2 ∨ x.op = 3 ∨ x.op = 4 ∨ x.op = 5 ∨ x.op = 7) := by
    unfold wrs
    simp only [Bool.or_eq_true, beq_iff_eq]
    omega
  unfold df
  split
  · rename_i hop
    by_cases h14 : x.op = 14
    · rw [if_pos h14] at h2
      rw [Bool.or_eq_true, beq_iff_eq] at h2
      rcases h2 with h2 | h2
      · exact Or.inl h2
      · have := isc_iff.1 h2; exact Or.inr (by omega)
    · rw [if_neg h14, if_pos (hw.2 (by omega))] at h2
      have := isc_iff.1 h2; exact Or.inr (by omega)
  · exact Or.inl rfl
end Go.Proofs.YtjgaaofpfepfhaaDoor
