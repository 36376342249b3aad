/-
  Plain: the least sets, come to by a round that lays all anew, until nothing changes. No program.
-/
import Derived.Test.YtjgaaofpfepfhaaDoorSym
import Derived.Test.YtjgaaofpfepfhaaDoorR5
namespace Go.Proofs.YtjgaaofpfepfhaaDoor
open Go.RowKit
set_option linter.unusedSimpArgs false
set_option linter.unusedVariables false
/-- One round, from the end on, as far as place i. -/
structure Pbs (S : Sy) (A0 F0 : Nat → Nat) (i : Nat) (ch : Bool) (A F : Nat → Nat) : Prop where
  inv : Inv S A F
  ge : tot A0 S.n + tot F0 S.n ≤ tot A S.n + tot F S.n
  no : ch = false → ∀ j, i ≤ j → j < S.n → F j = un S A j ∧ A j = lv S j (F j)
  yes : ch = true → tot A0 S.n + tot F0 S.n < tot A S.n + tot F S.n
section
variable {S : Sy} {A F A0 F0 : Nat → Nat} {i : Nat} {ch : Bool}
theorem Pbs.start (h : Inv S A F) : Pbs S A F S.n false A F := ⟨h, Nat.le_refl _, fun _ j h1 h2 => by omega, fun e => by cases e⟩
theorem upd_id {A : Nat → Nat} {i v : Nat} (h : v = A i) : upd A i v = A := by
  funext j
  by_cases e : j = i
  · rw [e, upd_same, h]
  · rw [upd_other A v e]
theorem Pbs.next (ok : S.ok) (h : Pbs S A0 F0 (i + 1) ch A F) (hi : i < S.n) :
    Pbs S A0 F0 i (ch || (un S A i != F i || lv S i (un S A i) != A i)) (upd A i (lv S i (un S A i))) (upd F i (un S A i)) := by
  have hF := h.inv.fle i hi
  have hG := h.inv.setF ok hi hF (sub.refl _)
  have hA : sub (A i) (lv S i (un S A i)) := by have := hG.ale i hi; rwa [upd_same] at this
  have hI := hG.setA ok hi
  rw [upd_same] at hI
  have mF : ∀ j, j < S.n → F j ≤ upd F i (un S A i) j := fun j _ => by
    by_cases e : j = i
    · rw [e, upd_same]; exact hF.le
    · rw [upd_other F _ e]; exact Nat.le_refl _
  have mA : ∀ j, j < S.n → A j ≤ upd A i (lv S i (un S A i)) j := fun j _ => by
    by_cases e : j = i
    · rw [e, upd_same]; exact hA.le
    · rw [upd_other A _ e]; exact Nat.le_refl _
  have tF := tot_mono mF
  have tA := tot_mono mA
  have hge := h.ge
  refine ⟨hI, by omega, fun e => ?_, fun e => ?_⟩
  · rw [Bool.or_eq_false_iff, Bool.or_eq_false_iff] at e
    have e1 : un S A i = F i := by simpa using e.2.1
    have e2 : lv S i (un S A i) = A i := by simpa using e.2.2
    rw [upd_id e2, upd_id e1]
    intro j h1 h2
    by_cases hj : j = i
    · subst hj; exact ⟨e1.symm, by rw [← e1]; exact e2.symm⟩
    · exact h.no e.1 j (by omega) h2
  · cases ch with
    | true => have := h.yes rfl; omega
    | false =>
      rw [Bool.false_or, Bool.or_eq_true] at e
      rcases e with e | e
      · have e1 : un S A i ≠ F i := by simpa using e
        have : tot F S.n < tot (upd F i (un S A i)) S.n := tot_lt mF hi (by rw [upd_same]; exact Nat.lt_of_le_of_ne hF.le (Ne.symm e1))
        omega
      · have e2 : lv S i (un S A i) ≠ A i := by simpa using e
        have : tot A S.n < tot (upd A i (lv S i (un S A i))) S.n := tot_lt mA hi (by rw [upd_same]; exact Nat.lt_of_le_of_ne hA.le (Ne.symm e2))
        omega
theorem Pbs.sol (h : Pbs S A0 F0 0 false A F) : Sol S A F := by
  have k := h.no rfl
  exact ⟨h.inv.la, h.inv.lf, fun i hi => (k i (Nat.zero_le _) hi).1, fun i hi => (k i (Nat.zero_le _) hi).2, h.inv.least⟩
end
theorem dn_zero {s : Nat} (h : s < lim) : dn s 0 = s := by
  refine Nat.eq_of_testBit_eq fun i => ?_
  rw [dn_bit h (by decide)]
  simp
/-- What is live ahead, of what is live behind. -/
theorem lv_none {l : List Ir} {i s : Nat} (hs : s < lim) (h : df (l.getD i ir0) = -1) : lv (sy l) i s = s ||| rdS (l.getD i ir0) := by
  show rdS (l.getD i ir0) ||| dn s (wrS (l.getD i ir0)) = _
  unfold wrS
  rw [if_pos h, dn_zero hs, Nat.or_comm]
theorem lv_some {l : List Ir} {i s : Nat} (h : ¬ df (l.getD i ir0) = -1) : lv (sy l) i s = dn s (one (df (l.getD i ir0))) ||| rdS (l.getD i ir0) := by
  show rdS (l.getD i ir0) ||| dn s (wrS (l.getD i ir0)) = _
  unfold wrS
  rw [if_neg h, Nat.or_comm]
/-- Values in a row. -/
structure VRow (b n : Nat) (vn : Nat → Value) (W : World) : Prop where
  lt : b < W.heap.size
  c : ∀ i, i < n → W.cell? ⟨b, i, none⟩ = some (vn i)
  f : ∀ j, W.frozen? ⟨b, j, none⟩ = false
section
variable {b n : Nat} {vn : Nat → Value} {W W' : World}
theorem VRow.of (h : VRow b n vn W) (k : W'.heap[b]? = W.heap[b]?) : VRow b n vn W' := by
  refine ⟨?_, fun i hi => ?_, fun j => ?_⟩
  · rcases Nat.lt_or_ge b W'.heap.size with h' | h'
    · exact h'
    · rw [Array.getElem?_eq_none h'] at k
      have := Array.getElem?_eq_getElem h.lt
      rw [← k] at this; cases this
  · rw [← h.c i hi]; simp [World.cell?, k]
  · rw [← h.f j]; simp [World.frozen?, k]
theorem VRow.bt {X : Nat → Prop} (h : VRow b n vn W) (k : Bt X W W') (hX : ¬ X b) : VRow b n vn W' := h.of (k.block b h.lt hX)
theorem VRow.set (h : VRow b n vn W) {i : Nat} (hi : i < n) (v : Value) : VRow b n (upv vn i v) (W.setCell ⟨b, i, none⟩ v) := by
  refine ⟨by simpa [World.setCell] using h.lt, fun j hj => ?_, fun j => by rw [World.frozen?_setCell]; exact h.f j⟩
  by_cases e : j = i
  · subst e
    rw [upv_same]
    exact World.cell?_setCell_same' W ⟨b, j, none⟩ _ (by rw [h.c j hj]; rfl)
  · rw [upv_other vn v e, far _ _ _ _ _ e]; exact h.c j hj
end
theorem info26 : (Tryd.prog.info? 25).map (fun i => (i.zero, i.size, i.bytes)) = some (some (.slice none 0 0), 1, 24) := by kernel_rfl
def zs1 : Array Value := #[.slice none 0 0]
theorem make_rows (n : Nat) (hn : n ≤ 1000) (X : World) : (Instr.makeSlice 73 (.int .i64 (n : Int)) (.int .i64 (n : Int))).run Tryd.prog X = .ok (.slice (some ⟨X.heap.size, 0, none⟩) n n) (X.alloc (.cells (madeCells zs1 n) 25)) := by
  obtain ⟨i0, hi, hz0, hz1, hz2⟩ := info_parts info26
  have := run_make X 73 25 i0 _ Tryd.underlying73 hi hz0 .i64 .i64 (n : Int) (n : Int) (by omega) (by omega) (by rw [hz2]; omega) (by omega)
  rw [this, hz1, Nat.mul_one]
  rfl
theorem VRow.made (n : Nat) (X : World) : VRow X.heap.size n (fun _ => .slice none 0 0) (X.alloc (.cells (madeCells zs1 n) 25)) := by
  have e := heap_alloc_new X (.cells (madeCells zs1 n) 25)
  generalize X.alloc (.cells (madeCells zs1 n) 25) = Y at *
  refine ⟨(Array.getElem?_eq_some_iff.1 e).1, fun i hi => ?_, fun j => by simp [World.frozen?, e]⟩
  simp only [World.cell?, e, madeCells, Array.getElem?_map]
  simp [hi, zs1, Nat.mod_one]
end Go.Proofs.YtjgaaofpfepfhaaDoor
