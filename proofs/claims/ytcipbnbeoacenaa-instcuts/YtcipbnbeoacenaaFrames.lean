/-
  An instruction that comes in by value: what it reads as, and that it reads so behind the call; no condition.
-/
import Derived.Test.YtcipbnbeoacenaaRight
import Derived.ProofKit
import Derived.OpenShut
import Derived.Lib.SmallJoins
namespace Go.Proofs.Ytcipbnbeoacenaa
open Go.ChangeShapes Go.WideShapes Go.ChangeAt Go.RowKit Go.Joins

theorem Try.cells23 : Try.prog.cellsOf 23 = 3 := by kernel_rfl
theorem wf_i64 {x : Int} (h : (Lit.int .i64 x).wf = true) : I64 x := by
  simp [Lit.wf, IntKind.min, IntKind.max, IntKind.signed, IntKind.bits] at h
  exact ⟨by omega, by omega⟩
/-- An instruction, as data. -/
def dat (H : Type) (op n m : Int) : DataW H := .agg [.lit (.int .i64 op), .lit (.int .i64 n), .lit (.int .i64 m)]
theorem open_ins {H : Type} {enc : TypeId × Value → H} {W : World} {base : Nat} {v : Value} {d : DataW H} {p : List MemPlace} (hv : Value.okWide Try.prog W .any base 23 v)
    (h : DataW.Trod enc Try.prog W 0 (fun _ => true) true 23 v d p) :
    ∃ op n m, v = ins op n m ∧ d = dat H op n m ∧ p = [] ∧ (Lit.int .i64 op).wf = true ∧ (Lit.int .i64 n).wf = true ∧ (Lit.int .i64 m).wf = true := by
  obtain ⟨c0, c1, c2, y0, y1, y2, k, rfl, rfl, rfl, h0, h1, h2⟩ := open_agg3 Try.underlying23 (by kernel_rfl) Try.cells23 hv h
  obtain ⟨a, e0, rfl, wa⟩ := DataW.trod_int Try.underlying3 h0
  obtain ⟨b, e1, rfl, wb⟩ := DataW.trod_int Try.underlying3 h1
  obtain ⟨c, e2, rfl, wc⟩ := DataW.trod_int Try.underlying3 h2
  simp at e0 e1 e2
  subst e0 e1 e2
  exact ⟨a, b, c, rfl, rfl, rfl, wa, wb, wc⟩
theorem shut_ins {H : Type} {enc : TypeId × Value → H} {W : World} {base : Nat} {spare : Nat → Bool} {held : Bool} {op n m : Int} (wa : (Lit.int .i64 op).wf = true) (wb : (Lit.int .i64 n).wf = true) (wc : (Lit.int .i64 m).wf = true) :
    DataW.Trod enc Try.prog W base spare held 23 (ins op n m) (dat H op n m) [] :=
  shut_agg3 (y0 := (.lit (.int .i64 op), [])) (y1 := (.lit (.int .i64 n), [])) (y2 := (.lit (.int .i64 m), [])) Try.underlying23 (by kernel_rfl) Try.cells23
    ⟨1, by simp [DataW.trod, Try.underlying3, wa]⟩ ⟨1, by simp [DataW.trod, Try.underlying3, wb]⟩ ⟨1, by simp [DataW.trod, Try.underlying3, wc]⟩
end Go.Proofs.Ytcipbnbeoacenaa
