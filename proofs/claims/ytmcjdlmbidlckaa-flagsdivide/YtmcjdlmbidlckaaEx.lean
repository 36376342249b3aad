/-
  The chapter's examples are so: the statements' own function examples answers true; nothing older is changed.
-/
import Derived.Test.YtmcjdlmbidlckaaBox
import Derived.Test.YtmcjdlmbidlckaaIdiv
namespace Go.Proofs.Ytmcjdlmbidlckaa
open Go.RowKit

theorem ex1 (w : World) : Calls Try.prog 10 #[.int .i64 5, .bool false, .int .i64 0, .int .i64 1] w fun e w' => e = .returned (.tuple #[.int .i64 4294967295, .agg #[.bool false, .bool true, .bool true, .bool false], .bool true]) ∧ Below w.heap.size w w' := by
  have h := alu_any 5 false 0 1 w ⟨by decide, by decide⟩ ⟨by decide, by decide⟩
  rw [show aV 5 false (tr false 0) (tr false 1) = 4294967295 by decide +kernel, show aZ 5 false (tr false 0) (tr false 1) = false by decide +kernel, show aS 5 false (tr false 0) (tr false 1) = true by decide +kernel, show aC 5 false (tr false 0) (tr false 1) = true by decide +kernel, show aO 5 false (tr false 0) (tr false 1) = false by decide +kernel] at h
  exact h
theorem ex2 (w : World) : Calls Try.prog 20 #[.bool false, .int .i64 4294967295, .int .i64 2147483648, .int .i64 4294967295] w fun e w' => e = .returned (.tuple #[.int .i64 0, .int .i64 0, .bool false]) ∧ Below w.heap.size w w' := by
  have h := idiv_any false 4294967295 2147483648 4294967295 w ⟨by decide, by decide⟩
  rw [show iQ false 4294967295 2147483648 4294967295 = 0 by decide +kernel, show iM false 4294967295 2147483648 4294967295 = 0 by decide +kernel, show iB false 4294967295 2147483648 4294967295 = false by decide +kernel] at h
  exact h
theorem ex3 (w : World) : Calls Try.prog 18 #[.bool false, .int .i64 1, .int .i64 0, .int .i64 3] w fun e w' => e = .returned (.tuple #[.int .i64 1431655765, .int .i64 1, .bool true]) ∧ Below w.heap.size w w' := by
  have h := div_any false 1 0 3 w ⟨by decide, by decide⟩ ⟨by decide, by decide⟩ ⟨by decide, by decide⟩
  rw [show dQ false 1 0 3 = 1431655765 by decide +kernel, show dM false 1 0 3 = 1 by decide +kernel, show dB false 1 3 = true by decide +kernel] at h
  exact h
set_option maxHeartbeats 1000000 in
theorem examples_any (w : World) :
    Calls Try.prog 9 #[] w fun e w' => e = .returned (.bool true) ∧ Below w.heap.size w w' := by
  go_enter Try.func9, Try.ntmps9
  go_wp2_with (first | (go_at_call 10; refine (ex1 _).mono ?_; rintro e w1 ⟨rfl, B1⟩) | (go_at_call 20; refine (ex2 _).mono ?_; rintro e w2 ⟨rfl, B2⟩; have F2 := hide ((Fl.made w1 _ _ _ _).kept B2); have D2 := hide (bel_tr (bel_al B1 _) B2); clear B1 B2) | (go_at_call 18; refine (ex3 _).mono ?_; rintro e w3 ⟨rfl, B3⟩; have c0 := (F2.out.kept B3).c0; have c1 := (F2.out.kept B3).c1; have c2 := (F2.out.kept B3).c2; have c3 := (F2.out.kept B3).c3; have D3 := hide (bel_tr D2.out B3); clear B3; have q := eql_same false true true false))
  go_ret
  exact ⟨rfl, D3.out⟩
end Go.Proofs.Ytmcjdlmbidlckaa
