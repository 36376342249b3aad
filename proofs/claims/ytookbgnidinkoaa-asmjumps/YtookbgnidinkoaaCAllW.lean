/-
  A list of instructions: the program's All, and the document's, write them one behind the other, or refuse.
-/
import Derived.Test.YtookbgnidinkoaaCDec
import Derived.Laws.StructEq
namespace Go.Proofs.Ytookbgnidinkoaa.Xc
open Go.RowKit
set_option linter.unusedSimpArgs false
set_option linter.unusedVariables false

/-- Instructions in a row of memory. -/
def XL (B : Nat) (W : World) (b off : Nat) (l : List Xi) : Prop :=
  ∀ j (h : j < l.length), b < B ∧ l[j].ok ∧ W.cell? ⟨b, off + j * 7, none⟩ = some (.int .i64 l[j].op) ∧ W.cell? ⟨b, off + j * 7 + 1, none⟩ = some (.bool l[j].wide) ∧ W.cell? ⟨b, off + j * 7 + 2, none⟩ = some (.int .i64 l[j].r) ∧ W.cell? ⟨b, off + j * 7 + 3, none⟩ = some (.int .i64 l[j].b) ∧ W.cell? ⟨b, off + j * 7 + 4, none⟩ = some (.int .i64 l[j].i) ∧ W.cell? ⟨b, off + j * 7 + 5, none⟩ = some (.int .i64 l[j].c) ∧ W.cell? ⟨b, off + j * 7 + 6, none⟩ = some (.int .i64 l[j].n)
def encs (l : List Xi) : List UInt8 := l.flatMap enc
theorem encs_snoc (l : List Xi) (k : Nat) (h : k < l.length) : encs (l.take (k + 1)) = encs (l.take k) ++ enc l[k] := by
  show (l.take (k + 1)).flatMap enc = _
  rw [List.take_succ_eq_append_getElem h, List.flatMap_append]; simp [encs]
theorem encs_len (l : List Xi) : (encs l).length ≤ 13 * l.length := by
  induction l with
  | nil => simp [encs]
  | cons x l ih =>
    have := (enc_len x).2
    simp only [encs, List.flatMap_cons, List.length_append, List.length_cons] at *
    omega
theorem encs_pos (l : List Xi) (h : 0 < l.length) : 0 < (encs l).length := by
  cases l with
  | nil => simp at h
  | cons x l =>
    have := (enc_len x).1
    simp only [encs, List.flatMap_cons, List.length_append]
    omega
def aOk (l : List Xi) : Bool := l.all rt
def aS (l : List Xi) : List UInt8 := if aOk l then encs l else []
def aE (l : List Xi) : Int := if aOk l then 0 else 4
theorem aOk_no {l : List Xi} {k : Nat} (h : k < l.length) (hq : rt l[k] = false) : aOk l = false := by
  cases ha : aOk l
  · rfl
  · unfold aOk at ha
    rw [List.all_eq_true] at ha
    rw [ha _ (List.getElem_mem h)] at hq; cases hq
theorem aOk_yes {l : List Xi} (h : ∀ j (hj : j < l.length), rt l[j] = true) : aOk l = true := by
  unfold aOk
  rw [List.all_eq_true]
  intro x hx
  obtain ⟨j, hj, rfl⟩ := List.getElem_of_mem hx
  exact h j hj
theorem cv_nil (w : World) : (convert 59 9 (.slice none 0 0)).run Try.prog w = .ok (.string ⟨#[]⟩) w := by kernel_rfl
end Go.Proofs.Ytookbgnidinkoaa.Xc
