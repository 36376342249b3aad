/-
  The statement WordEvals, walked: any instruction reckons of any values what the chapter says, or traps: for any inputs it returns true; nothing is changed.
-/
import Derived.Test.YtfcdpjihhopfhaaWidths
import Derived.Test.YtfcdpjihhopfhaaRefEvalS
namespace Go.Proofs.Ytfcdpjihhopfhaa
open Go.RowKit

theorem r_e (op a b v t : Int) (w : World) (ha : I64 a) (hb : I64 b) (hr : ev op a b = (v, t)) :
    Calls Try.prog 11 #[.int .i64 op, .int .i64 a, .int .i64 b] w fun e w' => e = .returned (.tuple #[.int .i64 v, .int .i64 t]) ∧ w' = w := by
  have h := r_eval op a b w ha hb
  rw [hr] at h; exact h
theorem t_yes (v : Int) (w : World) : Calls Try.prog 14 #[.bool true, .int .i64 v] w fun e w' => e = .returned (.int .i64 v) ∧ w' = w := trim_any true v w

set_option maxRecDepth 100000 in
set_option maxHeartbeats 2000000 in
theorem evals_from (op a b v t k f o : Int) (ok : Bool) (w : World) (ha : I64 a) (hb : I64 b) (hE : ev op a b = (v, t)) (hA : ar op = (k, f, o, ok)) :
    Calls Try.prog 3 #[.int .i64 op, .int .i64 a, .int .i64 b] w fun e w' => e = .returned (.bool true) ∧ w' = w := by
  have ha' := hide ha
  have hb' := hide hb
  have hE' := hide hE
  have hA' := hide hA
  clear ha hb hE hA
  go_enter Try.func3, Try.ntmps3
  go_wp2_with fail
  refine (examples_any _).mono ?_
  rintro e w1 ⟨rfl, rfl⟩
  go_wp2_with fail
  refine (e_any op a b _ _ _ ha'.out hb'.out hE'.out).mono ?_
  rintro e w1 ⟨rfl, rfl⟩
  go_wp2_with fail
  refine (r_e op a b _ _ _ ha'.out hb'.out hE'.out).mono ?_
  rintro e w1 ⟨rfl, rfl⟩
  go_wp2_with fail
  refine (a_any op _ _ _ _ _ hA'.out).mono ?_
  rintro e w1 ⟨rfl, rfl⟩
  go_wp2_with fail
  refine (r_a op _ _ _ _ _ hA'.out).mono ?_
  rintro e w1 ⟨rfl, rfl⟩
  go_wp2_with fail
  refine (t_yes _ _).mono ?_
  rintro e w1 ⟨rfl, rfl⟩
  go_wp2_with fail
  refine (trim_any _ _ _).mono ?_
  rintro e w1 ⟨rfl, rfl⟩
  go_wp2_with fail
  refine (r_trim _ _ _).mono ?_
  rintro e w1 ⟨rfl, rfl⟩
  go_wp2_with fail
  go_ret
  exact ⟨rfl, rfl⟩

theorem evals_any (op a b : Int) (w : World) (_ho : I64 op) (ha : I64 a) (hb : I64 b) :
    Calls Try.prog 3 #[.int .i64 op, .int .i64 a, .int .i64 b] w fun e w' => e = .returned (.bool true) ∧ w' = w :=
  evals_from op a b (ev op a b).1 (ev op a b).2 (ar op).1 (ar op).2.1 (ar op).2.2.1 (ar op).2.2.2 w ha hb rfl rfl
end Go.Proofs.Ytfcdpjihhopfhaa
