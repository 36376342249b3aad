/-
  An instruction that comes in by value: what it reads as, and that it reads so behind the call; no condition.
-/
import Derived.Test.YtglagdbkcigojaaLists
import Derived.ProofKit
import Derived.OpenShut
import Derived.Lib.SmallJoins
namespace Go.Proofs.Ytglagdbkcigojaa
open Go.ChangeShapes Go.WideShapes Go.ChangeAt Go.RowKit Go.Joins

/-- An instruction, as data. -/
def dat (H : Type) (op n m : Int) : DataW H := .agg [.lit (.int .i64 op), .lit (.int .i64 n), .lit (.int .i64 m)]
theorem open_ins {H : Type} {enc : TypeId × Value → H} {W : World} {base : Nat} {v : Value} {d : DataW H} {p : List MemPlace} (hv : Value.okWide Try.prog W .any base 47 v)
    (h : DataW.Trod enc Try.prog W 0 (fun _ => true) true 47 v d p) :
    ∃ op n m, v = .agg #[.int .i64 op, .int .i64 n, .int .i64 m] ∧ d = dat H op n m ∧ p = [] ∧ (Lit.int .i64 op).wf = true ∧ (Lit.int .i64 n).wf = true ∧ (Lit.int .i64 m).wf = true := by
  obtain ⟨c0, c1, c2, y0, y1, y2, k, rfl, rfl, rfl, h0, h1, h2⟩ := open_agg3 Try.underlying47 (by kernel_rfl) Try.cells47 hv h
  obtain ⟨a, e0, rfl, wa⟩ := DataW.trod_int Try.underlying3 h0
  obtain ⟨b, e1, rfl, wb⟩ := DataW.trod_int Try.underlying3 h1
  obtain ⟨c, e2, rfl, wc⟩ := DataW.trod_int Try.underlying3 h2
  simp at e0 e1 e2
  subst e0 e1 e2
  exact ⟨a, b, c, rfl, rfl, rfl, wa, wb, wc⟩
theorem shut_ins {H : Type} {enc : TypeId × Value → H} {W : World} {base : Nat} {spare : Nat → Bool} {held : Bool} {op n m : Int} (wa : (Lit.int .i64 op).wf = true) (wb : (Lit.int .i64 n).wf = true) (wc : (Lit.int .i64 m).wf = true) :
    DataW.Trod enc Try.prog W base spare held 47 (.agg #[.int .i64 op, .int .i64 n, .int .i64 m]) (dat H op n m) [] :=
  shut_agg3 (y0 := (.lit (.int .i64 op), [])) (y1 := (.lit (.int .i64 n), [])) (y2 := (.lit (.int .i64 m), [])) Try.underlying47 (by kernel_rfl) Try.cells47
    ⟨1, by simp [DataW.trod, Try.underlying3, wa]⟩ ⟨1, by simp [DataW.trod, Try.underlying3, wb]⟩ ⟨1, by simp [DataW.trod, Try.underlying3, wc]⟩
end Go.Proofs.Ytglagdbkcigojaa
