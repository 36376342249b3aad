/-
  Plain: items, their sizes and places, labels, and what is assembled.
-/
import Derived.Test.YtookbgnidinkoaaCAllW
namespace Go.Proofs.Ytookbgnidinkoaa
open Go.RowKit
open Xc
set_option linter.unusedSimpArgs false
set_option linter.unusedVariables false
structure It where
  x : Xi
  lb : Int
  tg : Int
def It.ok (t : It) : Prop := t.x.ok ∧ I64 t.lb ∧ I64 t.tg
def nul (x : Xi) : Bool := x.op == 0 && (x.wide == false && (x.r == 0 && (x.b == 0 && (x.i == 0 && (x.c == 0 && x.n == 0)))))
def isL (t : It) : Bool := decide (0 < t.lb) && (nul t.x && t.tg == 0)
def jmp (op : Int) : Bool := op == 17 || (op == 18 || op == 19)
def mG (t : It) : Bool := jmp t.x.op && (decide (0 < t.tg) && t.x.n == 0)
def sOk (t : It) : Bool := if t.lb = 0 then (if t.tg = 0 then rt t.x else mG t && rt t.x) else isL t
def sN (t : It) : Nat := if t.lb = 0 then (if sOk t then (enc t.x).length else 0) else 0
theorem sN_le (t : It) : sN t ≤ 13 := by
  unfold sN
  have := (enc_len t.x).2
  split
  · split <;> omega
  · omega
def pt (l : List It) (k : Nat) : Nat := ((l.take k).map sN).sum
theorem pt_0 (l : List It) : pt l 0 = 0 := by simp [pt]
theorem pt_succ {l : List It} {k : Nat} (h : k < l.length) : pt l (k + 1) = pt l k + sN l[k] := by
  unfold pt
  rw [List.take_succ_eq_append_getElem h, List.map_append, List.sum_append, List.map_cons, List.map_nil, List.sum_cons, List.sum_nil, Nat.add_zero]
theorem pt_le (l : List It) : ∀ k, pt l k ≤ 13 * k
  | 0 => by simp [pt_0]
  | k + 1 => by
    have ih := pt_le l k
    rcases Nat.lt_or_ge k l.length with h | h
    · rw [pt_succ h]
      have := sN_le l[k]
      omega
    · unfold pt at *
      rw [List.take_of_length_le (by omega)]
      rw [List.take_of_length_le h] at ih
      omega
def pOk (l : List It) : Bool := l.all sOk
theorem pOk_no {l : List It} {k : Nat} (h : k < l.length) (hq : sOk l[k] = false) : pOk l = false := by
  cases ha : pOk l
  · rfl
  · unfold pOk at ha
    rw [List.all_eq_true] at ha
    rw [ha _ (List.getElem_mem h)] at hq; cases hq
theorem pOk_yes {l : List It} (h : ∀ j (hj : j < l.length), sOk l[j] = true) : pOk l = true := by
  unfold pOk
  rw [List.all_eq_true]
  intro x hx
  obtain ⟨j, hj, rfl⟩ := List.getElem_of_mem hx
  exact h j hj
theorem pOk_at {l : List It} (h : pOk l = true) {j : Nat} (hj : j < l.length) : sOk l[j] = true := by
  unfold pOk at h
  rw [List.all_eq_true] at h
  exact h _ (List.getElem_mem hj)
/-- The item of a label. -/
def fd (l : List It) (y : Int) : Option Nat := l.findIdx? fun t => t.lb == y
theorem fd_nil (y : Int) : fd [] y = none := rfl
theorem fd_succ {l : List It} {k : Nat} (h : k < l.length) (y : Int) : fd (l.take (k + 1)) y = (fd (l.take k) y).or (if l[k].lb = y then some k else none) := by
  unfold fd
  rw [List.take_succ_eq_append_getElem h, List.findIdx?_append]
  have e : (l.take k).length = k := by simp; omega
  by_cases hy : l[k].lb = y
  · simp [List.findIdx?_cons, hy, e]
  · simp [List.findIdx?_cons, hy]
theorem fd_lt {l : List It} {y : Int} {j : Nat} (h : fd l y = some j) : ∃ hj : j < l.length, l[j].lb = y := by
  unfold fd at h
  rw [List.findIdx?_eq_some_iff_getElem] at h
  obtain ⟨hj, h1, _⟩ := h
  exact ⟨hj, by simpa using h1⟩
theorem fd_none {l : List It} {y : Int} (h : fd l y = none) : ∀ j (hj : j < l.length), l[j].lb ≠ y := by
  intro j hj e
  unfold fd at h
  rw [List.findIdx?_eq_none_iff] at h
  have := h _ (List.getElem_mem hj)
  simp [e] at this
def Uq (l : List It) : Prop := ∀ k (h : k < l.length), l[k].lb ≠ 0 → fd (l.take k) l[k].lb = none
def Lost (l : List It) : Prop := ∃ k, ∃ h : k < l.length, l[k].lb = 0 ∧ l[k].tg ≠ 0 ∧ fd l l[k].tg = none
def jx (l : List It) (k : Nat) (t : It) : Xi := if t.tg = 0 then t.x else { t.x with n := (pt l ((fd l t.tg).getD 0) : Int) - (pt l (k + 1) : Int) }
def one (l : List It) (k : Nat) (t : It) : List Xi := if t.lb = 0 then [jx l k t] else []
def oL (l : List It) : Nat → List Xi
  | 0 => []
  | k + 1 => oL l k ++ (match l[k]? with | some t => one l k t | none => [])
theorem oL_succ {l : List It} {k : Nat} (h : k < l.length) : oL l (k + 1) = oL l k ++ one l k l[k] := by
  simp only [oL, List.getElem?_eq_getElem h]
theorem oL_len (l : List It) : ∀ k, (oL l k).length ≤ k
  | 0 => Nat.le_refl _
  | k + 1 => by
    have ih := oL_len l k
    rcases Nat.lt_or_ge k l.length with h | h
    · rw [oL_succ h]
      unfold one
      split <;> simp <;> omega
    · simp only [oL, List.getElem?_eq_none h]; simp; omega
open Classical in
noncomputable def asR (l : List It) : Option (List Xi) := if pOk l = true ∧ Uq l ∧ ¬ Lost l then some (oL l l.length) else none
noncomputable def asS (l : List It) : List UInt8 := match asR l with | some o => aS o | none => []
noncomputable def asE (l : List It) : Int := match asR l with | some o => aE o | none => 4
theorem asR_no {l : List It} (h : ¬ (pOk l = true ∧ Uq l ∧ ¬ Lost l)) : asS l = [] ∧ asE l = 4 := by
  have : asR l = none := by unfold asR; rw [if_neg h]
  exact ⟨by simp [asS, this], by simp [asE, this]⟩
theorem asR_yes {l : List It} (h1 : pOk l = true) (h2 : Uq l) (h3 : ¬ Lost l) : asS l = aS (oL l l.length) ∧ asE l = aE (oL l l.length) := by
  have : asR l = some (oL l l.length) := by unfold asR; rw [if_pos ⟨h1, h2, h3⟩]
  exact ⟨by simp [asS, this], by simp [asE, this]⟩
theorem jx_ok {l : List It} {k : Nat} (hl : l.length ≤ 1000) (h : k < l.length) (ho : l[k].ok) : (jx l k l[k]).ok := by
  unfold jx
  split
  · exact ho.1
  · obtain ⟨a, b, c, d, e, f⟩ := ho.1
    refine ⟨a, b, c, d, e, ?_⟩
    have h1 := pt_le l (k + 1)
    have h2 : (pt l ((fd l l[k].tg).getD 0)) ≤ 13 * 1000 := by
      cases hf : fd l l[k].tg with
      | none => simp [pt_0]
      | some j =>
        obtain ⟨hj, _⟩ := fd_lt hf
        have := pt_le l j
        simp; omega
    show I64 (_ - _)
    unfold I64
    omega
end Go.Proofs.Ytookbgnidinkoaa
