/-
  Any instruction is one or not, of a kind, and is written, as the chapter says, or refused: the walk of the statement InstWrites, for every instruction.
-/
import Derived.Test.YtcipbnbeoacenaaExamples
import Derived.Test.YtcipbnbeoacenaaRefBytes
import Derived.Lib.QuietBelow
namespace Go.Proofs.Ytcipbnbeoacenaa
open Go.RowKit

/-- A contract that changes nothing, met in a region that draws. -/
theorem regrown_same {f : FuncId} {args : Array Value} {w : World} {d : Nat} {os : Array Obj} {v : Value}
    (h : Calls Try.prog f args (Sort.grow (redrawn w d) os) fun e w' => e = .returned v ∧ w' = Sort.grow (redrawn w d) os) :
    Calls Try.prog f args (Sort.grow (redrawn w d) os) fun e w'' => e = .returned v ∧ ∃ p : Regrown, w'' = Sort.grow (redrawn w p.d) p.os :=
  h.mono fun _ _ ⟨he, hb⟩ => ⟨he, ⟨d, os⟩, hb⟩
set_option maxRecDepth 100000 in
set_option maxHeartbeats 1600000 in
theorem writes_yes (op n m : Int) (w : World) (hn : I64 n) (hm : I64 m) (h : rt op n m = true) :
    Calls Try.prog 3 #[ins op n m] w fun e w' => e = .returned (.bool true) ∧ Below w.heap.size w w' := by
  have BY := hide (bytes_yes op n m · hn hm h)
  have RB := hide (r_bytes_yes op n m · hn hm h)
  have RT := hide (fun w d os => Calls.regrown_of (w := w) (d := d) (os := os) (right_as op n m true _ hn hm h))
  have RR := hide (fun w d os => Calls.regrown_of (w := w) (d := d) (os := os) (r_right_as op n m true _ h))
  have K1 := hide (fun w d os => regrown_same (w := w) (d := d) (os := os) (kind_any op _))
  have K2 := hide (fun w d os => regrown_same (w := w) (d := d) (os := os) (r_kind_any op _))
  clear hn hm h
  unfold ins at *
  go_enter Try.func3, Try.ntmps3
  go_wp2_with fail
  refine (examples_any _).mono ?_
  rintro e w1 ⟨rfl, b1⟩
  have x1 := (Box.made w op n m).kept b1
  have D1 := below_next (bel_one w _) b1
  clear b1
  have c0 := x1.c0
  have c1 := x1.c1
  have c2 := x1.c2
  go_wp2_with fail
  refine (BY.out _).mono ?_
  rintro e w2 ⟨rfl, b2⟩
  have x2 := x1.kept b2
  have D2 := below_next D1 b2
  clear b2 c0 c1 c2
  have d0 := x2.c0
  have d1 := x2.c1
  have d2 := x2.c2
  go_wp2_with fail
  refine (RB.out _).mono ?_
  rintro e w3 ⟨rfl, b3⟩
  have x3 := x2.kept b3
  have D3 := below_next D2 b3
  clear b3 d0 d1 d2
  have e0 := cell_regrown x3.c0
  have e1 := cell_regrown x3.c1
  have e2 := cell_regrown x3.c2
  go_wp2_with fail
  refine wp_region_quiet_below (by kernel_rfl) (by kernel_rfl) ?_
  repeat (go_big_quiet_step (first | exact RT.out _ _ _ | exact RR.out _ _ _ | exact K1.out _ _ _ | exact K2.out _ _ _))
  refine wpQuiet_nil ?_
  intro _ hw'
  obtain ⟨⟨dq, osq⟩, hw''⟩ := hw'
  subst hw''
  go_wp2
  go_ret
  exact ⟨rfl, below_next D3 (below_regrown w3 dq osq)⟩
set_option maxRecDepth 100000 in
set_option maxHeartbeats 1600000 in
theorem writes_no (op n m : Int) (w : World) (hn : I64 n) (hm : I64 m) (h : rt op n m = false) :
    Calls Try.prog 3 #[ins op n m] w fun e w' => e = .returned (.bool true) ∧ Below w.heap.size w w' := by
  have BY := hide (bytes_no op n m · hn hm h)
  have RB := hide (r_bytes_no op n m · h)
  have RT := hide (fun w d os => Calls.regrown_of (w := w) (d := d) (os := os) (right_as op n m false _ hn hm h))
  have RR := hide (fun w d os => Calls.regrown_of (w := w) (d := d) (os := os) (r_right_as op n m false _ h))
  have K1 := hide (fun w d os => regrown_same (w := w) (d := d) (os := os) (kind_any op _))
  have K2 := hide (fun w d os => regrown_same (w := w) (d := d) (os := os) (r_kind_any op _))
  clear hn hm h
  unfold ins at *
  go_enter Try.func3, Try.ntmps3
  go_wp2_with fail
  refine (examples_any _).mono ?_
  rintro e w1 ⟨rfl, b1⟩
  have x1 := (Box.made w op n m).kept b1
  have D1 := below_next (bel_one w _) b1
  clear b1
  have c0 := x1.c0
  have c1 := x1.c1
  have c2 := x1.c2
  go_wp2_with fail
  refine (BY.out _).mono ?_
  rintro e w2 ⟨rfl, b2⟩
  have x2 := x1.kept b2
  have D2 := below_next D1 b2
  clear b2 c0 c1 c2
  have d0 := x2.c0
  have d1 := x2.c1
  have d2 := x2.c2
  go_wp2_with fail
  refine (RB.out _).mono ?_
  rintro e w3 ⟨rfl, b3⟩
  have x3 := x2.kept b3
  have D3 := below_next D2 b3
  clear b3 d0 d1 d2
  have e0 := cell_regrown x3.c0
  have e1 := cell_regrown x3.c1
  have e2 := cell_regrown x3.c2
  go_wp2_with fail
  refine wp_region_quiet_below (by kernel_rfl) (by kernel_rfl) ?_
  repeat (go_big_quiet_step (first | exact RT.out _ _ _ | exact RR.out _ _ _ | exact K1.out _ _ _ | exact K2.out _ _ _))
  refine wpQuiet_nil ?_
  intro _ hw'
  obtain ⟨⟨dq, osq⟩, hw''⟩ := hw'
  subst hw''
  go_wp2
  go_ret
  exact ⟨rfl, below_next D3 (below_regrown w3 dq osq)⟩
theorem writes_walk (op n m : Int) (w : World) (hn : I64 n) (hm : I64 m) :
    Calls Try.prog 3 #[ins op n m] w fun e w' => e = .returned (.bool true) ∧ Below w.heap.size w w' := by
  cases h : rt op n m with
  | true => exact writes_yes op n m w hn hm h
  | false => exact writes_no op n m w hn hm h
end Go.Proofs.Ytcipbnbeoacenaa
