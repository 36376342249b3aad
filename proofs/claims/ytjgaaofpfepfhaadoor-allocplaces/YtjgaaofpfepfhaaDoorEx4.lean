/-
  Plain: the examples' code, and what is live in it.
-/
import Derived.Test.YtjgaaofpfepfhaaDoorSym
import Derived.Test.YtjgaaofpfepfhaaDoorNum
namespace Go.Proofs.YtjgaaofpfepfhaaDoor
open Go.RowKit
set_option linter.unusedSimpArgs false
set_option linter.unusedVariables false
def L4 : List Ir := [⟨1, 0, 0, 0, 0, 0, 0⟩, ⟨1, 1, 0, 0, 0, 0, 0⟩, ⟨3, 0, 0, 1, 0, 0, 0⟩, ⟨15, 0, 0, 0, 0, 0, 0⟩]
theorem n0 : nxt L4 0 = [1] := by kernel_rfl
theorem n1 : nxt L4 1 = [2] := by kernel_rfl
theorem n2 : nxt L4 2 = [3] := by kernel_rfl
theorem n3 : nxt L4 3 = [] := by kernel_rfl
theorem r0 : rdS (L4.getD 0 ir0) = 0 := by kernel_rfl
theorem r1 : rdS (L4.getD 1 ir0) = 0 := by kernel_rfl
theorem ms10 : List.mergeSort [(1 : Int), 0] (fun x y => decide (x ≤ y)) = [0, 1] := by
  have h1 : (List.mergeSort [(1 : Int), 0] (fun x y => decide (x ≤ y))).Pairwise (fun x y => decide (x ≤ y) = true) := List.pairwise_mergeSort (by intro a b c; simp; omega) (by intro a b; simp; omega) _
  have h2 : (List.mergeSort [(1 : Int), 0] (fun x y => decide (x ≤ y))).Perm [1, 0] := List.mergeSort_perm _ _
  have h3 := h2.length_eq
  generalize List.mergeSort [(1 : Int), 0] (fun x y => decide (x ≤ y)) = z at *
  match z, h3 with
  | [p, q], _ =>
    have hp : p ∈ [(1 : Int), 0] := h2.mem_iff.1 (by simp)
    have h0 : (0 : Int) ∈ [p, q] := h2.mem_iff.2 (by simp)
    have h01 : (1 : Int) ∈ [p, q] := h2.mem_iff.2 (by simp)
    simp at hp h0 h01 h1
    rcases hp with rfl | rfl
    · have : q = 0 := by omega
      omega
    · have : q = 1 := by omega
      rw [this]
theorem raw2 : raw (L4.getD 2 ir0) = [1, 0] := by kernel_rfl
theorem r2 : rdS (L4.getD 2 ir0) = 3 := by
  unfold rdS us sc
  rw [raw2, ms10]
  kernel_rfl
theorem w2_ : wrS (L4.getD 2 ir0) = 1 := by kernel_rfl
theorem r3 : rdS (L4.getD 3 ir0) = 1 := by kernel_rfl
theorem fit4 : fitb ⟨2, 0, 0⟩ L4 = true := by kernel_rfl
theorem sol4 {A F : Nat → Nat} (h : Sol (sy L4) A F) : (A 0 = 0 ∧ A 1 = 1 ∧ A 2 = 3 ∧ A 3 = 1) ∧ (F 0 = 1 ∧ F 1 = 3 ∧ F 2 = 1 ∧ F 3 = 0) := by
  have f3 : F 3 = un (sy L4) A 3 := h.f 3 (by decide)
  have f2 : F 2 = un (sy L4) A 2 := h.f 2 (by decide)
  have f1 : F 1 = un (sy L4) A 1 := h.f 1 (by decide)
  have f0 : F 0 = un (sy L4) A 0 := h.f 0 (by decide)
  have a3 : A 3 = rdS (L4.getD 3 ir0) ||| dn (F 3) (wrS (L4.getD 3 ir0)) := h.a 3 (by decide)
  have a2 : A 2 = rdS (L4.getD 2 ir0) ||| dn (F 2) (wrS (L4.getD 2 ir0)) := h.a 2 (by decide)
  have a1 : A 1 = rdS (L4.getD 1 ir0) ||| dn (F 1) (wrS (L4.getD 1 ir0)) := h.a 1 (by decide)
  have a0 : A 0 = rdS (L4.getD 0 ir0) ||| dn (F 0) (wrS (L4.getD 0 ir0)) := h.a 0 (by decide)
  have e3 : un (sy L4) A 3 = 0 := by show ors (((nxt L4 3).map Int.toNat).map A) = 0; rw [n3]; rfl
  have e2 : un (sy L4) A 2 = A 3 := by show ors (((nxt L4 2).map Int.toNat).map A) = A 3; rw [n2]; show 0 ||| A 3 = _; simp
  have e1 : un (sy L4) A 1 = A 2 := by show ors (((nxt L4 1).map Int.toNat).map A) = A 2; rw [n1]; show 0 ||| A 2 = _; simp
  have e0 : un (sy L4) A 0 = A 1 := by show ors (((nxt L4 0).map Int.toNat).map A) = A 1; rw [n0]; show 0 ||| A 1 = _; simp
  have g3 : F 3 = 0 := f3.trans e3
  have h3 : A 3 = 1 := by rw [a3, g3]; kernel_rfl
  have g2 : F 2 = 1 := (f2.trans e2).trans h3
  have h2 : A 2 = 3 := by rw [a2, g2, r2, w2_]; kernel_rfl
  have g1 : F 1 = 3 := (f1.trans e1).trans h2
  have h1 : A 1 = 1 := by rw [a1, g1]; kernel_rfl
  have g0 : F 0 = 1 := (f0.trans e0).trans h1
  have h0 : A 0 = 0 := by rw [a0, g0]; kernel_rfl
  exact ⟨⟨h0, h1, h2, h3⟩, g0, g1, g2, g3⟩
theorem cls4 {A F : Nat → Nat} (h : Sol (sy L4) A F) : cls ⟨2, 0, 0⟩ L4 A F 0 1 = true := by
  obtain ⟨_, g0, g1, _, _⟩ := sol4 h
  have : spo L4 F 0 1 = true := by
    unfold spo
    refine List.any_eq_true.2 ⟨1, by decide, ?_⟩
    unfold spl
    rw [g1]
    kernel_rfl
  unfold cls
  rw [this]
  simp
end Go.Proofs.YtjgaaofpfepfhaaDoor
