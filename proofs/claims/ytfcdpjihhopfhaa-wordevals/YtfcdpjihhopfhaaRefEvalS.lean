/-
  The document's own function Eval, at each sum, quotient and shift, answers what the plain function ev answers, and changes nothing.
-/
import Derived.Test.YtfcdpjihhopfhaaRefEvalC
namespace Go.Proofs.Ytfcdpjihhopfhaa
open Go.RowKit
theorem r_dv0 (wide : Bool) (a b : Int) (w : World) (ha : Wd wide a) (hb : Wd wide b) :
    Calls Try.prog 27 #[.int .i64 0, .bool wide, .int .i64 a, .int .i64 b] w fun e w' => e = .returned (.tuple #[.int .i64 (dv 109 wide a b).1, .int .i64 (dv 109 wide a b).2]) ∧ w' = w :=
  r_divided 0 wide a b w (by omega) ha hb
theorem r_dv1 (wide : Bool) (a b : Int) (w : World) (ha : Wd wide a) (hb : Wd wide b) :
    Calls Try.prog 27 #[.int .i64 1, .bool wide, .int .i64 a, .int .i64 b] w fun e w' => e = .returned (.tuple #[.int .i64 (dv 110 wide a b).1, .int .i64 (dv 110 wide a b).2]) ∧ w' = w :=
  r_divided 1 wide a b w (by omega) ha hb
theorem r_dv2 (wide : Bool) (a b : Int) (w : World) (ha : Wd wide a) (hb : Wd wide b) :
    Calls Try.prog 27 #[.int .i64 2, .bool wide, .int .i64 a, .int .i64 b] w fun e w' => e = .returned (.tuple #[.int .i64 (dv 111 wide a b).1, .int .i64 (dv 111 wide a b).2]) ∧ w' = w :=
  r_divided 2 wide a b w (by omega) ha hb
theorem r_dv3 (wide : Bool) (a b : Int) (w : World) (ha : Wd wide a) (hb : Wd wide b) :
    Calls Try.prog 27 #[.int .i64 3, .bool wide, .int .i64 a, .int .i64 b] w fun e w' => e = .returned (.tuple #[.int .i64 (dv 112 wide a b).1, .int .i64 (dv 112 wide a b).2]) ∧ w' = w :=
  r_divided 3 wide a b w (by omega) ha hb
theorem r_sf0 (wide : Bool) (a b : Int) (w : World) (ha : Wd wide a) :
    Calls Try.prog 28 #[.int .i64 0, .bool wide, .int .i64 a, .int .i64 b] w fun e w' => e = .returned (.int .i64 (sh 116 wide a (far wide b))) ∧ w' = w :=
  r_shifted 0 wide a b w (by omega) ha
theorem r_sf1 (wide : Bool) (a b : Int) (w : World) (ha : Wd wide a) :
    Calls Try.prog 28 #[.int .i64 1, .bool wide, .int .i64 a, .int .i64 b] w fun e w' => e = .returned (.int .i64 (sh 117 wide a (far wide b))) ∧ w' = w :=
  r_shifted 1 wide a b w (by omega) ha
theorem r_sf2 (wide : Bool) (a b : Int) (w : World) (ha : Wd wide a) :
    Calls Try.prog 28 #[.int .i64 2, .bool wide, .int .i64 a, .int .i64 b] w fun e w' => e = .returned (.int .i64 (sh 118 wide a (far wide b))) ∧ w' = w :=
  r_shifted 2 wide a b w (by omega) ha
theorem r_sf3 (wide : Bool) (a b : Int) (w : World) (ha : Wd wide a) :
    Calls Try.prog 28 #[.int .i64 3, .bool wide, .int .i64 a, .int .i64 b] w fun e w' => e = .returned (.int .i64 (sh 119 wide a (far wide b))) ∧ w' = w :=
  r_shifted 3 wide a b w (by omega) ha
theorem r_sf4 (wide : Bool) (a b : Int) (w : World) (ha : Wd wide a) :
    Calls Try.prog 28 #[.int .i64 4, .bool wide, .int .i64 a, .int .i64 b] w fun e w' => e = .returned (.int .i64 (sh 120 wide a (far wide b))) ∧ w' = w :=
  r_shifted 4 wide a b w (by omega) ha
set_option maxHeartbeats 400000 in
theorem r_ev_106 (a b : Int) (w : World) (ha : I64 a) (hb : I64 b) :
    Calls Try.prog 11 #[.int .i64 106, .int .i64 a, .int .i64 b] w fun e w' => e = two (tr false (co 106 (tr false a) (tr false b)), 0) ∧ w' = w := by
  have ha' := hide (tr_wd false a ha)
  have hb' := hide (tr_wd false b hb)
  clear ha hb
  go_enter Try.func11, Try.ntmps11
  go_wp2_with fail
  refine (r_a 106 2 0 0 true _ (by decide +kernel)).mono ?_
  rintro e w1 ⟨rfl, rfl⟩
  go_wp2_with fail
  refine (r_trim _ _ _).mono ?_
  rintro e w1 ⟨rfl, rfl⟩
  go_wp2_with fail
  refine (r_trim _ _ _).mono ?_
  rintro e w1 ⟨rfl, rfl⟩
  go_wp2_with fail
  refine (r_trim _ _ _).mono ?_
  rintro e w1 ⟨rfl, rfl⟩
  go_wp2_with fail
  go_ret2
  exact ⟨rfl, rfl⟩
set_option maxHeartbeats 400000 in
theorem r_ev_107 (a b : Int) (w : World) (ha : I64 a) (hb : I64 b) :
    Calls Try.prog 11 #[.int .i64 107, .int .i64 a, .int .i64 b] w fun e w' => e = two (tr false (co 107 (tr false a) (tr false b)), 0) ∧ w' = w := by
  have ha' := hide (tr_wd false a ha)
  have hb' := hide (tr_wd false b hb)
  clear ha hb
  go_enter Try.func11, Try.ntmps11
  go_wp2_with fail
  refine (r_a 107 2 0 0 true _ (by decide +kernel)).mono ?_
  rintro e w1 ⟨rfl, rfl⟩
  go_wp2_with fail
  refine (r_trim _ _ _).mono ?_
  rintro e w1 ⟨rfl, rfl⟩
  go_wp2_with fail
  refine (r_trim _ _ _).mono ?_
  rintro e w1 ⟨rfl, rfl⟩
  go_wp2_with fail
  refine (r_trim _ _ _).mono ?_
  rintro e w1 ⟨rfl, rfl⟩
  go_wp2_with fail
  go_ret2
  exact ⟨rfl, rfl⟩
set_option maxHeartbeats 400000 in
theorem r_ev_108 (a b : Int) (w : World) (ha : I64 a) (hb : I64 b) :
    Calls Try.prog 11 #[.int .i64 108, .int .i64 a, .int .i64 b] w fun e w' => e = two (tr false (co 108 (tr false a) (tr false b)), 0) ∧ w' = w := by
  have ha' := hide (tr_wd false a ha)
  have hb' := hide (tr_wd false b hb)
  clear ha hb
  go_enter Try.func11, Try.ntmps11
  go_wp2_with fail
  refine (r_a 108 2 0 0 true _ (by decide +kernel)).mono ?_
  rintro e w1 ⟨rfl, rfl⟩
  go_wp2_with fail
  refine (r_trim _ _ _).mono ?_
  rintro e w1 ⟨rfl, rfl⟩
  go_wp2_with fail
  refine (r_trim _ _ _).mono ?_
  rintro e w1 ⟨rfl, rfl⟩
  go_wp2_with fail
  refine (r_trim _ _ _).mono ?_
  rintro e w1 ⟨rfl, rfl⟩
  go_wp2_with fail
  go_ret2
  exact ⟨rfl, rfl⟩
set_option maxHeartbeats 400000 in
theorem r_ev_109 (a b : Int) (w : World) (ha : I64 a) (hb : I64 b) :
    Calls Try.prog 11 #[.int .i64 109, .int .i64 a, .int .i64 b] w fun e w' => e = two (tr false (dv 109 false (tr false a) (tr false b)).1, (dv 109 false (tr false a) (tr false b)).2) ∧ w' = w := by
  have ha' := hide (tr_wd false a ha)
  have hb' := hide (tr_wd false b hb)
  clear ha hb
  go_enter Try.func11, Try.ntmps11
  go_wp2_with fail
  refine (r_a 109 2 0 0 true _ (by decide +kernel)).mono ?_
  rintro e w1 ⟨rfl, rfl⟩
  go_wp2_with fail
  refine (r_trim _ _ _).mono ?_
  rintro e w1 ⟨rfl, rfl⟩
  go_wp2_with fail
  refine (r_trim _ _ _).mono ?_
  rintro e w1 ⟨rfl, rfl⟩
  go_wp2_with fail
  refine (r_dv0 _ _ _ _ ha'.out hb'.out).mono ?_
  rintro e w1 ⟨rfl, rfl⟩
  go_wp2_with fail
  refine (r_trim _ _ _).mono ?_
  rintro e w1 ⟨rfl, rfl⟩
  go_wp2_with fail
  go_ret2
  exact ⟨rfl, rfl⟩
set_option maxHeartbeats 400000 in
theorem r_ev_110 (a b : Int) (w : World) (ha : I64 a) (hb : I64 b) :
    Calls Try.prog 11 #[.int .i64 110, .int .i64 a, .int .i64 b] w fun e w' => e = two (tr false (dv 110 false (tr false a) (tr false b)).1, (dv 110 false (tr false a) (tr false b)).2) ∧ w' = w := by
  have ha' := hide (tr_wd false a ha)
  have hb' := hide (tr_wd false b hb)
  clear ha hb
  go_enter Try.func11, Try.ntmps11
  go_wp2_with fail
  refine (r_a 110 2 0 0 true _ (by decide +kernel)).mono ?_
  rintro e w1 ⟨rfl, rfl⟩
  go_wp2_with fail
  refine (r_trim _ _ _).mono ?_
  rintro e w1 ⟨rfl, rfl⟩
  go_wp2_with fail
  refine (r_trim _ _ _).mono ?_
  rintro e w1 ⟨rfl, rfl⟩
  go_wp2_with fail
  refine (r_dv1 _ _ _ _ ha'.out hb'.out).mono ?_
  rintro e w1 ⟨rfl, rfl⟩
  go_wp2_with fail
  refine (r_trim _ _ _).mono ?_
  rintro e w1 ⟨rfl, rfl⟩
  go_wp2_with fail
  go_ret2
  exact ⟨rfl, rfl⟩
set_option maxHeartbeats 400000 in
theorem r_ev_111 (a b : Int) (w : World) (ha : I64 a) (hb : I64 b) :
    Calls Try.prog 11 #[.int .i64 111, .int .i64 a, .int .i64 b] w fun e w' => e = two (tr false (dv 111 false (tr false a) (tr false b)).1, (dv 111 false (tr false a) (tr false b)).2) ∧ w' = w := by
  have ha' := hide (tr_wd false a ha)
  have hb' := hide (tr_wd false b hb)
  clear ha hb
  go_enter Try.func11, Try.ntmps11
  go_wp2_with fail
  refine (r_a 111 2 0 0 true _ (by decide +kernel)).mono ?_
  rintro e w1 ⟨rfl, rfl⟩
  go_wp2_with fail
  refine (r_trim _ _ _).mono ?_
  rintro e w1 ⟨rfl, rfl⟩
  go_wp2_with fail
  refine (r_trim _ _ _).mono ?_
  rintro e w1 ⟨rfl, rfl⟩
  go_wp2_with fail
  refine (r_dv2 _ _ _ _ ha'.out hb'.out).mono ?_
  rintro e w1 ⟨rfl, rfl⟩
  go_wp2_with fail
  refine (r_trim _ _ _).mono ?_
  rintro e w1 ⟨rfl, rfl⟩
  go_wp2_with fail
  go_ret2
  exact ⟨rfl, rfl⟩
set_option maxHeartbeats 400000 in
theorem r_ev_112 (a b : Int) (w : World) (ha : I64 a) (hb : I64 b) :
    Calls Try.prog 11 #[.int .i64 112, .int .i64 a, .int .i64 b] w fun e w' => e = two (tr false (dv 112 false (tr false a) (tr false b)).1, (dv 112 false (tr false a) (tr false b)).2) ∧ w' = w := by
  have ha' := hide (tr_wd false a ha)
  have hb' := hide (tr_wd false b hb)
  clear ha hb
  go_enter Try.func11, Try.ntmps11
  go_wp2_with fail
  refine (r_a 112 2 0 0 true _ (by decide +kernel)).mono ?_
  rintro e w1 ⟨rfl, rfl⟩
  go_wp2_with fail
  refine (r_trim _ _ _).mono ?_
  rintro e w1 ⟨rfl, rfl⟩
  go_wp2_with fail
  refine (r_trim _ _ _).mono ?_
  rintro e w1 ⟨rfl, rfl⟩
  go_wp2_with fail
  refine (r_dv3 _ _ _ _ ha'.out hb'.out).mono ?_
  rintro e w1 ⟨rfl, rfl⟩
  go_wp2_with fail
  refine (r_trim _ _ _).mono ?_
  rintro e w1 ⟨rfl, rfl⟩
  go_wp2_with fail
  go_ret2
  exact ⟨rfl, rfl⟩
set_option maxHeartbeats 400000 in
theorem r_ev_113 (a b : Int) (w : World) (ha : I64 a) (hb : I64 b) :
    Calls Try.prog 11 #[.int .i64 113, .int .i64 a, .int .i64 b] w fun e w' => e = two (tr false (co 113 (tr false a) (tr false b)), 0) ∧ w' = w := by
  have ha' := hide (tr_wd false a ha)
  have hb' := hide (tr_wd false b hb)
  clear ha hb
  go_enter Try.func11, Try.ntmps11
  go_wp2_with fail
  refine (r_a 113 2 0 0 true _ (by decide +kernel)).mono ?_
  rintro e w1 ⟨rfl, rfl⟩
  go_wp2_with fail
  refine (r_trim _ _ _).mono ?_
  rintro e w1 ⟨rfl, rfl⟩
  go_wp2_with fail
  refine (r_trim _ _ _).mono ?_
  rintro e w1 ⟨rfl, rfl⟩
  go_wp2_with fail
  refine (r_trim _ _ _).mono ?_
  rintro e w1 ⟨rfl, rfl⟩
  go_wp2_with fail
  go_ret2
  exact ⟨rfl, rfl⟩
set_option maxHeartbeats 400000 in
theorem r_ev_114 (a b : Int) (w : World) (ha : I64 a) (hb : I64 b) :
    Calls Try.prog 11 #[.int .i64 114, .int .i64 a, .int .i64 b] w fun e w' => e = two (tr false (co 114 (tr false a) (tr false b)), 0) ∧ w' = w := by
  have ha' := hide (tr_wd false a ha)
  have hb' := hide (tr_wd false b hb)
  clear ha hb
  go_enter Try.func11, Try.ntmps11
  go_wp2_with fail
  refine (r_a 114 2 0 0 true _ (by decide +kernel)).mono ?_
  rintro e w1 ⟨rfl, rfl⟩
  go_wp2_with fail
  refine (r_trim _ _ _).mono ?_
  rintro e w1 ⟨rfl, rfl⟩
  go_wp2_with fail
  refine (r_trim _ _ _).mono ?_
  rintro e w1 ⟨rfl, rfl⟩
  go_wp2_with fail
  refine (r_trim _ _ _).mono ?_
  rintro e w1 ⟨rfl, rfl⟩
  go_wp2_with fail
  go_ret2
  exact ⟨rfl, rfl⟩
set_option maxHeartbeats 400000 in
theorem r_ev_115 (a b : Int) (w : World) (ha : I64 a) (hb : I64 b) :
    Calls Try.prog 11 #[.int .i64 115, .int .i64 a, .int .i64 b] w fun e w' => e = two (tr false (co 115 (tr false a) (tr false b)), 0) ∧ w' = w := by
  have ha' := hide (tr_wd false a ha)
  have hb' := hide (tr_wd false b hb)
  clear ha hb
  go_enter Try.func11, Try.ntmps11
  go_wp2_with fail
  refine (r_a 115 2 0 0 true _ (by decide +kernel)).mono ?_
  rintro e w1 ⟨rfl, rfl⟩
  go_wp2_with fail
  refine (r_trim _ _ _).mono ?_
  rintro e w1 ⟨rfl, rfl⟩
  go_wp2_with fail
  refine (r_trim _ _ _).mono ?_
  rintro e w1 ⟨rfl, rfl⟩
  go_wp2_with fail
  refine (r_trim _ _ _).mono ?_
  rintro e w1 ⟨rfl, rfl⟩
  go_wp2_with fail
  go_ret2
  exact ⟨rfl, rfl⟩
set_option maxHeartbeats 400000 in
theorem r_ev_116 (a b : Int) (w : World) (ha : I64 a) (hb : I64 b) :
    Calls Try.prog 11 #[.int .i64 116, .int .i64 a, .int .i64 b] w fun e w' => e = two (tr false (sh 116 false (tr false a) (far false (tr false b))), 0) ∧ w' = w := by
  have ha' := hide (tr_wd false a ha)
  have hb' := hide (tr_wd false b hb)
  clear ha hb
  go_enter Try.func11, Try.ntmps11
  go_wp2_with fail
  refine (r_a 116 2 0 0 true _ (by decide +kernel)).mono ?_
  rintro e w1 ⟨rfl, rfl⟩
  go_wp2_with fail
  refine (r_trim _ _ _).mono ?_
  rintro e w1 ⟨rfl, rfl⟩
  go_wp2_with fail
  refine (r_trim _ _ _).mono ?_
  rintro e w1 ⟨rfl, rfl⟩
  go_wp2_with fail
  refine (r_sf0 _ _ _ _ ha'.out).mono ?_
  rintro e w1 ⟨rfl, rfl⟩
  go_wp2_with fail
  refine (r_trim _ _ _).mono ?_
  rintro e w1 ⟨rfl, rfl⟩
  go_wp2_with fail
  go_ret2
  exact ⟨rfl, rfl⟩
set_option maxHeartbeats 400000 in
theorem r_ev_117 (a b : Int) (w : World) (ha : I64 a) (hb : I64 b) :
    Calls Try.prog 11 #[.int .i64 117, .int .i64 a, .int .i64 b] w fun e w' => e = two (tr false (sh 117 false (tr false a) (far false (tr false b))), 0) ∧ w' = w := by
  have ha' := hide (tr_wd false a ha)
  have hb' := hide (tr_wd false b hb)
  clear ha hb
  go_enter Try.func11, Try.ntmps11
  go_wp2_with fail
  refine (r_a 117 2 0 0 true _ (by decide +kernel)).mono ?_
  rintro e w1 ⟨rfl, rfl⟩
  go_wp2_with fail
  refine (r_trim _ _ _).mono ?_
  rintro e w1 ⟨rfl, rfl⟩
  go_wp2_with fail
  refine (r_trim _ _ _).mono ?_
  rintro e w1 ⟨rfl, rfl⟩
  go_wp2_with fail
  refine (r_sf1 _ _ _ _ ha'.out).mono ?_
  rintro e w1 ⟨rfl, rfl⟩
  go_wp2_with fail
  refine (r_trim _ _ _).mono ?_
  rintro e w1 ⟨rfl, rfl⟩
  go_wp2_with fail
  go_ret2
  exact ⟨rfl, rfl⟩
set_option maxHeartbeats 400000 in
theorem r_ev_118 (a b : Int) (w : World) (ha : I64 a) (hb : I64 b) :
    Calls Try.prog 11 #[.int .i64 118, .int .i64 a, .int .i64 b] w fun e w' => e = two (tr false (sh 118 false (tr false a) (far false (tr false b))), 0) ∧ w' = w := by
  have ha' := hide (tr_wd false a ha)
  have hb' := hide (tr_wd false b hb)
  clear ha hb
  go_enter Try.func11, Try.ntmps11
  go_wp2_with fail
  refine (r_a 118 2 0 0 true _ (by decide +kernel)).mono ?_
  rintro e w1 ⟨rfl, rfl⟩
  go_wp2_with fail
  refine (r_trim _ _ _).mono ?_
  rintro e w1 ⟨rfl, rfl⟩
  go_wp2_with fail
  refine (r_trim _ _ _).mono ?_
  rintro e w1 ⟨rfl, rfl⟩
  go_wp2_with fail
  refine (r_sf2 _ _ _ _ ha'.out).mono ?_
  rintro e w1 ⟨rfl, rfl⟩
  go_wp2_with fail
  refine (r_trim _ _ _).mono ?_
  rintro e w1 ⟨rfl, rfl⟩
  go_wp2_with fail
  go_ret2
  exact ⟨rfl, rfl⟩
set_option maxHeartbeats 400000 in
theorem r_ev_119 (a b : Int) (w : World) (ha : I64 a) (hb : I64 b) :
    Calls Try.prog 11 #[.int .i64 119, .int .i64 a, .int .i64 b] w fun e w' => e = two (tr false (sh 119 false (tr false a) (far false (tr false b))), 0) ∧ w' = w := by
  have ha' := hide (tr_wd false a ha)
  have hb' := hide (tr_wd false b hb)
  clear ha hb
  go_enter Try.func11, Try.ntmps11
  go_wp2_with fail
  refine (r_a 119 2 0 0 true _ (by decide +kernel)).mono ?_
  rintro e w1 ⟨rfl, rfl⟩
  go_wp2_with fail
  refine (r_trim _ _ _).mono ?_
  rintro e w1 ⟨rfl, rfl⟩
  go_wp2_with fail
  refine (r_trim _ _ _).mono ?_
  rintro e w1 ⟨rfl, rfl⟩
  go_wp2_with fail
  refine (r_sf3 _ _ _ _ ha'.out).mono ?_
  rintro e w1 ⟨rfl, rfl⟩
  go_wp2_with fail
  refine (r_trim _ _ _).mono ?_
  rintro e w1 ⟨rfl, rfl⟩
  go_wp2_with fail
  go_ret2
  exact ⟨rfl, rfl⟩
set_option maxHeartbeats 400000 in
theorem r_ev_120 (a b : Int) (w : World) (ha : I64 a) (hb : I64 b) :
    Calls Try.prog 11 #[.int .i64 120, .int .i64 a, .int .i64 b] w fun e w' => e = two (tr false (sh 120 false (tr false a) (far false (tr false b))), 0) ∧ w' = w := by
  have ha' := hide (tr_wd false a ha)
  have hb' := hide (tr_wd false b hb)
  clear ha hb
  go_enter Try.func11, Try.ntmps11
  go_wp2_with fail
  refine (r_a 120 2 0 0 true _ (by decide +kernel)).mono ?_
  rintro e w1 ⟨rfl, rfl⟩
  go_wp2_with fail
  refine (r_trim _ _ _).mono ?_
  rintro e w1 ⟨rfl, rfl⟩
  go_wp2_with fail
  refine (r_trim _ _ _).mono ?_
  rintro e w1 ⟨rfl, rfl⟩
  go_wp2_with fail
  refine (r_sf4 _ _ _ _ ha'.out).mono ?_
  rintro e w1 ⟨rfl, rfl⟩
  go_wp2_with fail
  refine (r_trim _ _ _).mono ?_
  rintro e w1 ⟨rfl, rfl⟩
  go_wp2_with fail
  go_ret2
  exact ⟨rfl, rfl⟩
set_option maxHeartbeats 400000 in
theorem r_ev_124 (a b : Int) (w : World) (ha : I64 a) (hb : I64 b) :
    Calls Try.prog 11 #[.int .i64 124, .int .i64 a, .int .i64 b] w fun e w' => e = two (tr true (co 106 (tr true a) (tr true b)), 0) ∧ w' = w := by
  have ha' := hide (tr_wd true a ha)
  have hb' := hide (tr_wd true b hb)
  clear ha hb
  go_enter Try.func11, Try.ntmps11
  go_wp2_with fail
  refine (r_a 124 2 1 1 true _ (by decide +kernel)).mono ?_
  rintro e w1 ⟨rfl, rfl⟩
  go_wp2_with fail
  refine (r_trim _ _ _).mono ?_
  rintro e w1 ⟨rfl, rfl⟩
  go_wp2_with fail
  refine (r_trim _ _ _).mono ?_
  rintro e w1 ⟨rfl, rfl⟩
  go_wp2_with fail
  refine (r_trim _ _ _).mono ?_
  rintro e w1 ⟨rfl, rfl⟩
  go_wp2_with fail
  go_ret2
  exact ⟨rfl, rfl⟩
set_option maxHeartbeats 400000 in
theorem r_ev_125 (a b : Int) (w : World) (ha : I64 a) (hb : I64 b) :
    Calls Try.prog 11 #[.int .i64 125, .int .i64 a, .int .i64 b] w fun e w' => e = two (tr true (co 107 (tr true a) (tr true b)), 0) ∧ w' = w := by
  have ha' := hide (tr_wd true a ha)
  have hb' := hide (tr_wd true b hb)
  clear ha hb
  go_enter Try.func11, Try.ntmps11
  go_wp2_with fail
  refine (r_a 125 2 1 1 true _ (by decide +kernel)).mono ?_
  rintro e w1 ⟨rfl, rfl⟩
  go_wp2_with fail
  refine (r_trim _ _ _).mono ?_
  rintro e w1 ⟨rfl, rfl⟩
  go_wp2_with fail
  refine (r_trim _ _ _).mono ?_
  rintro e w1 ⟨rfl, rfl⟩
  go_wp2_with fail
  refine (r_trim _ _ _).mono ?_
  rintro e w1 ⟨rfl, rfl⟩
  go_wp2_with fail
  go_ret2
  exact ⟨rfl, rfl⟩
set_option maxHeartbeats 400000 in
theorem r_ev_126 (a b : Int) (w : World) (ha : I64 a) (hb : I64 b) :
    Calls Try.prog 11 #[.int .i64 126, .int .i64 a, .int .i64 b] w fun e w' => e = two (tr true (co 108 (tr true a) (tr true b)), 0) ∧ w' = w := by
  have ha' := hide (tr_wd true a ha)
  have hb' := hide (tr_wd true b hb)
  clear ha hb
  go_enter Try.func11, Try.ntmps11
  go_wp2_with fail
  refine (r_a 126 2 1 1 true _ (by decide +kernel)).mono ?_
  rintro e w1 ⟨rfl, rfl⟩
  go_wp2_with fail
  refine (r_trim _ _ _).mono ?_
  rintro e w1 ⟨rfl, rfl⟩
  go_wp2_with fail
  refine (r_trim _ _ _).mono ?_
  rintro e w1 ⟨rfl, rfl⟩
  go_wp2_with fail
  refine (r_trim _ _ _).mono ?_
  rintro e w1 ⟨rfl, rfl⟩
  go_wp2_with fail
  go_ret2
  exact ⟨rfl, rfl⟩
set_option maxHeartbeats 400000 in
theorem r_ev_127 (a b : Int) (w : World) (ha : I64 a) (hb : I64 b) :
    Calls Try.prog 11 #[.int .i64 127, .int .i64 a, .int .i64 b] w fun e w' => e = two (tr true (dv 109 true (tr true a) (tr true b)).1, (dv 109 true (tr true a) (tr true b)).2) ∧ w' = w := by
  have ha' := hide (tr_wd true a ha)
  have hb' := hide (tr_wd true b hb)
  clear ha hb
  go_enter Try.func11, Try.ntmps11
  go_wp2_with fail
  refine (r_a 127 2 1 1 true _ (by decide +kernel)).mono ?_
  rintro e w1 ⟨rfl, rfl⟩
  go_wp2_with fail
  refine (r_trim _ _ _).mono ?_
  rintro e w1 ⟨rfl, rfl⟩
  go_wp2_with fail
  refine (r_trim _ _ _).mono ?_
  rintro e w1 ⟨rfl, rfl⟩
  go_wp2_with fail
  refine (r_dv0 _ _ _ _ ha'.out hb'.out).mono ?_
  rintro e w1 ⟨rfl, rfl⟩
  go_wp2_with fail
  refine (r_trim _ _ _).mono ?_
  rintro e w1 ⟨rfl, rfl⟩
  go_wp2_with fail
  go_ret2
  exact ⟨rfl, rfl⟩
set_option maxHeartbeats 400000 in
theorem r_ev_128 (a b : Int) (w : World) (ha : I64 a) (hb : I64 b) :
    Calls Try.prog 11 #[.int .i64 128, .int .i64 a, .int .i64 b] w fun e w' => e = two (tr true (dv 110 true (tr true a) (tr true b)).1, (dv 110 true (tr true a) (tr true b)).2) ∧ w' = w := by
  have ha' := hide (tr_wd true a ha)
  have hb' := hide (tr_wd true b hb)
  clear ha hb
  go_enter Try.func11, Try.ntmps11
  go_wp2_with fail
  refine (r_a 128 2 1 1 true _ (by decide +kernel)).mono ?_
  rintro e w1 ⟨rfl, rfl⟩
  go_wp2_with fail
  refine (r_trim _ _ _).mono ?_
  rintro e w1 ⟨rfl, rfl⟩
  go_wp2_with fail
  refine (r_trim _ _ _).mono ?_
  rintro e w1 ⟨rfl, rfl⟩
  go_wp2_with fail
  refine (r_dv1 _ _ _ _ ha'.out hb'.out).mono ?_
  rintro e w1 ⟨rfl, rfl⟩
  go_wp2_with fail
  refine (r_trim _ _ _).mono ?_
  rintro e w1 ⟨rfl, rfl⟩
  go_wp2_with fail
  go_ret2
  exact ⟨rfl, rfl⟩
set_option maxHeartbeats 400000 in
theorem r_ev_129 (a b : Int) (w : World) (ha : I64 a) (hb : I64 b) :
    Calls Try.prog 11 #[.int .i64 129, .int .i64 a, .int .i64 b] w fun e w' => e = two (tr true (dv 111 true (tr true a) (tr true b)).1, (dv 111 true (tr true a) (tr true b)).2) ∧ w' = w := by
  have ha' := hide (tr_wd true a ha)
  have hb' := hide (tr_wd true b hb)
  clear ha hb
  go_enter Try.func11, Try.ntmps11
  go_wp2_with fail
  refine (r_a 129 2 1 1 true _ (by decide +kernel)).mono ?_
  rintro e w1 ⟨rfl, rfl⟩
  go_wp2_with fail
  refine (r_trim _ _ _).mono ?_
  rintro e w1 ⟨rfl, rfl⟩
  go_wp2_with fail
  refine (r_trim _ _ _).mono ?_
  rintro e w1 ⟨rfl, rfl⟩
  go_wp2_with fail
  refine (r_dv2 _ _ _ _ ha'.out hb'.out).mono ?_
  rintro e w1 ⟨rfl, rfl⟩
  go_wp2_with fail
  refine (r_trim _ _ _).mono ?_
  rintro e w1 ⟨rfl, rfl⟩
  go_wp2_with fail
  go_ret2
  exact ⟨rfl, rfl⟩
set_option maxHeartbeats 400000 in
theorem r_ev_130 (a b : Int) (w : World) (ha : I64 a) (hb : I64 b) :
    Calls Try.prog 11 #[.int .i64 130, .int .i64 a, .int .i64 b] w fun e w' => e = two (tr true (dv 112 true (tr true a) (tr true b)).1, (dv 112 true (tr true a) (tr true b)).2) ∧ w' = w := by
  have ha' := hide (tr_wd true a ha)
  have hb' := hide (tr_wd true b hb)
  clear ha hb
  go_enter Try.func11, Try.ntmps11
  go_wp2_with fail
  refine (r_a 130 2 1 1 true _ (by decide +kernel)).mono ?_
  rintro e w1 ⟨rfl, rfl⟩
  go_wp2_with fail
  refine (r_trim _ _ _).mono ?_
  rintro e w1 ⟨rfl, rfl⟩
  go_wp2_with fail
  refine (r_trim _ _ _).mono ?_
  rintro e w1 ⟨rfl, rfl⟩
  go_wp2_with fail
  refine (r_dv3 _ _ _ _ ha'.out hb'.out).mono ?_
  rintro e w1 ⟨rfl, rfl⟩
  go_wp2_with fail
  refine (r_trim _ _ _).mono ?_
  rintro e w1 ⟨rfl, rfl⟩
  go_wp2_with fail
  go_ret2
  exact ⟨rfl, rfl⟩
set_option maxHeartbeats 400000 in
theorem r_ev_131 (a b : Int) (w : World) (ha : I64 a) (hb : I64 b) :
    Calls Try.prog 11 #[.int .i64 131, .int .i64 a, .int .i64 b] w fun e w' => e = two (tr true (co 113 (tr true a) (tr true b)), 0) ∧ w' = w := by
  have ha' := hide (tr_wd true a ha)
  have hb' := hide (tr_wd true b hb)
  clear ha hb
  go_enter Try.func11, Try.ntmps11
  go_wp2_with fail
  refine (r_a 131 2 1 1 true _ (by decide +kernel)).mono ?_
  rintro e w1 ⟨rfl, rfl⟩
  go_wp2_with fail
  refine (r_trim _ _ _).mono ?_
  rintro e w1 ⟨rfl, rfl⟩
  go_wp2_with fail
  refine (r_trim _ _ _).mono ?_
  rintro e w1 ⟨rfl, rfl⟩
  go_wp2_with fail
  refine (r_trim _ _ _).mono ?_
  rintro e w1 ⟨rfl, rfl⟩
  go_wp2_with fail
  go_ret2
  exact ⟨rfl, rfl⟩
set_option maxHeartbeats 400000 in
theorem r_ev_132 (a b : Int) (w : World) (ha : I64 a) (hb : I64 b) :
    Calls Try.prog 11 #[.int .i64 132, .int .i64 a, .int .i64 b] w fun e w' => e = two (tr true (co 114 (tr true a) (tr true b)), 0) ∧ w' = w := by
  have ha' := hide (tr_wd true a ha)
  have hb' := hide (tr_wd true b hb)
  clear ha hb
  go_enter Try.func11, Try.ntmps11
  go_wp2_with fail
  refine (r_a 132 2 1 1 true _ (by decide +kernel)).mono ?_
  rintro e w1 ⟨rfl, rfl⟩
  go_wp2_with fail
  refine (r_trim _ _ _).mono ?_
  rintro e w1 ⟨rfl, rfl⟩
  go_wp2_with fail
  refine (r_trim _ _ _).mono ?_
  rintro e w1 ⟨rfl, rfl⟩
  go_wp2_with fail
  refine (r_trim _ _ _).mono ?_
  rintro e w1 ⟨rfl, rfl⟩
  go_wp2_with fail
  go_ret2
  exact ⟨rfl, rfl⟩
set_option maxHeartbeats 400000 in
theorem r_ev_133 (a b : Int) (w : World) (ha : I64 a) (hb : I64 b) :
    Calls Try.prog 11 #[.int .i64 133, .int .i64 a, .int .i64 b] w fun e w' => e = two (tr true (co 115 (tr true a) (tr true b)), 0) ∧ w' = w := by
  have ha' := hide (tr_wd true a ha)
  have hb' := hide (tr_wd true b hb)
  clear ha hb
  go_enter Try.func11, Try.ntmps11
  go_wp2_with fail
  refine (r_a 133 2 1 1 true _ (by decide +kernel)).mono ?_
  rintro e w1 ⟨rfl, rfl⟩
  go_wp2_with fail
  refine (r_trim _ _ _).mono ?_
  rintro e w1 ⟨rfl, rfl⟩
  go_wp2_with fail
  refine (r_trim _ _ _).mono ?_
  rintro e w1 ⟨rfl, rfl⟩
  go_wp2_with fail
  refine (r_trim _ _ _).mono ?_
  rintro e w1 ⟨rfl, rfl⟩
  go_wp2_with fail
  go_ret2
  exact ⟨rfl, rfl⟩
set_option maxHeartbeats 400000 in
theorem r_ev_134 (a b : Int) (w : World) (ha : I64 a) (hb : I64 b) :
    Calls Try.prog 11 #[.int .i64 134, .int .i64 a, .int .i64 b] w fun e w' => e = two (tr true (sh 116 true (tr true a) (far true (tr true b))), 0) ∧ w' = w := by
  have ha' := hide (tr_wd true a ha)
  have hb' := hide (tr_wd true b hb)
  clear ha hb
  go_enter Try.func11, Try.ntmps11
  go_wp2_with fail
  refine (r_a 134 2 1 1 true _ (by decide +kernel)).mono ?_
  rintro e w1 ⟨rfl, rfl⟩
  go_wp2_with fail
  refine (r_trim _ _ _).mono ?_
  rintro e w1 ⟨rfl, rfl⟩
  go_wp2_with fail
  refine (r_trim _ _ _).mono ?_
  rintro e w1 ⟨rfl, rfl⟩
  go_wp2_with fail
  refine (r_sf0 _ _ _ _ ha'.out).mono ?_
  rintro e w1 ⟨rfl, rfl⟩
  go_wp2_with fail
  refine (r_trim _ _ _).mono ?_
  rintro e w1 ⟨rfl, rfl⟩
  go_wp2_with fail
  go_ret2
  exact ⟨rfl, rfl⟩
set_option maxHeartbeats 400000 in
theorem r_ev_135 (a b : Int) (w : World) (ha : I64 a) (hb : I64 b) :
    Calls Try.prog 11 #[.int .i64 135, .int .i64 a, .int .i64 b] w fun e w' => e = two (tr true (sh 117 true (tr true a) (far true (tr true b))), 0) ∧ w' = w := by
  have ha' := hide (tr_wd true a ha)
  have hb' := hide (tr_wd true b hb)
  clear ha hb
  go_enter Try.func11, Try.ntmps11
  go_wp2_with fail
  refine (r_a 135 2 1 1 true _ (by decide +kernel)).mono ?_
  rintro e w1 ⟨rfl, rfl⟩
  go_wp2_with fail
  refine (r_trim _ _ _).mono ?_
  rintro e w1 ⟨rfl, rfl⟩
  go_wp2_with fail
  refine (r_trim _ _ _).mono ?_
  rintro e w1 ⟨rfl, rfl⟩
  go_wp2_with fail
  refine (r_sf1 _ _ _ _ ha'.out).mono ?_
  rintro e w1 ⟨rfl, rfl⟩
  go_wp2_with fail
  refine (r_trim _ _ _).mono ?_
  rintro e w1 ⟨rfl, rfl⟩
  go_wp2_with fail
  go_ret2
  exact ⟨rfl, rfl⟩
set_option maxHeartbeats 400000 in
theorem r_ev_136 (a b : Int) (w : World) (ha : I64 a) (hb : I64 b) :
    Calls Try.prog 11 #[.int .i64 136, .int .i64 a, .int .i64 b] w fun e w' => e = two (tr true (sh 118 true (tr true a) (far true (tr true b))), 0) ∧ w' = w := by
  have ha' := hide (tr_wd true a ha)
  have hb' := hide (tr_wd true b hb)
  clear ha hb
  go_enter Try.func11, Try.ntmps11
  go_wp2_with fail
  refine (r_a 136 2 1 1 true _ (by decide +kernel)).mono ?_
  rintro e w1 ⟨rfl, rfl⟩
  go_wp2_with fail
  refine (r_trim _ _ _).mono ?_
  rintro e w1 ⟨rfl, rfl⟩
  go_wp2_with fail
  refine (r_trim _ _ _).mono ?_
  rintro e w1 ⟨rfl, rfl⟩
  go_wp2_with fail
  refine (r_sf2 _ _ _ _ ha'.out).mono ?_
  rintro e w1 ⟨rfl, rfl⟩
  go_wp2_with fail
  refine (r_trim _ _ _).mono ?_
  rintro e w1 ⟨rfl, rfl⟩
  go_wp2_with fail
  go_ret2
  exact ⟨rfl, rfl⟩
set_option maxHeartbeats 400000 in
theorem r_ev_137 (a b : Int) (w : World) (ha : I64 a) (hb : I64 b) :
    Calls Try.prog 11 #[.int .i64 137, .int .i64 a, .int .i64 b] w fun e w' => e = two (tr true (sh 119 true (tr true a) (far true (tr true b))), 0) ∧ w' = w := by
  have ha' := hide (tr_wd true a ha)
  have hb' := hide (tr_wd true b hb)
  clear ha hb
  go_enter Try.func11, Try.ntmps11
  go_wp2_with fail
  refine (r_a 137 2 1 1 true _ (by decide +kernel)).mono ?_
  rintro e w1 ⟨rfl, rfl⟩
  go_wp2_with fail
  refine (r_trim _ _ _).mono ?_
  rintro e w1 ⟨rfl, rfl⟩
  go_wp2_with fail
  refine (r_trim _ _ _).mono ?_
  rintro e w1 ⟨rfl, rfl⟩
  go_wp2_with fail
  refine (r_sf3 _ _ _ _ ha'.out).mono ?_
  rintro e w1 ⟨rfl, rfl⟩
  go_wp2_with fail
  refine (r_trim _ _ _).mono ?_
  rintro e w1 ⟨rfl, rfl⟩
  go_wp2_with fail
  go_ret2
  exact ⟨rfl, rfl⟩
set_option maxHeartbeats 400000 in
theorem r_ev_138 (a b : Int) (w : World) (ha : I64 a) (hb : I64 b) :
    Calls Try.prog 11 #[.int .i64 138, .int .i64 a, .int .i64 b] w fun e w' => e = two (tr true (sh 120 true (tr true a) (far true (tr true b))), 0) ∧ w' = w := by
  have ha' := hide (tr_wd true a ha)
  have hb' := hide (tr_wd true b hb)
  clear ha hb
  go_enter Try.func11, Try.ntmps11
  go_wp2_with fail
  refine (r_a 138 2 1 1 true _ (by decide +kernel)).mono ?_
  rintro e w1 ⟨rfl, rfl⟩
  go_wp2_with fail
  refine (r_trim _ _ _).mono ?_
  rintro e w1 ⟨rfl, rfl⟩
  go_wp2_with fail
  refine (r_trim _ _ _).mono ?_
  rintro e w1 ⟨rfl, rfl⟩
  go_wp2_with fail
  refine (r_sf4 _ _ _ _ ha'.out).mono ?_
  rintro e w1 ⟨rfl, rfl⟩
  go_wp2_with fail
  refine (r_trim _ _ _).mono ?_
  rintro e w1 ⟨rfl, rfl⟩
  go_wp2_with fail
  go_ret2
  exact ⟨rfl, rfl⟩

theorem r_eval (op a b : Int) (w : World) (ha : I64 a) (hb : I64 b) :
    Calls Try.prog 11 #[.int .i64 op, .int .i64 a, .int .i64 b] w fun e w' => e = two (ev op a b) ∧ w' = w := by
  by_cases h : 69 ≤ op ∧ op ≤ 90 ∨ 106 ≤ op ∧ op ≤ 120 ∨ 124 ≤ op ∧ op ≤ 138 ∨ op = 167 ∨ op = 172 ∨ op = 173
  · rcases h with h | h | h | rfl | rfl | rfl
    · have h' : op = 69 ∨ op = 70 ∨ op = 71 ∨ op = 72 ∨ op = 73 ∨ op = 74 ∨ op = 75 ∨ op = 76 ∨ op = 77 ∨ op = 78 ∨ op = 79 ∨ op = 80 ∨ op = 81 ∨ op = 82 ∨ op = 83 ∨ op = 84 ∨ op = 85 ∨ op = 86 ∨ op = 87 ∨ op = 88 ∨ op = 89 ∨ op = 90 := by omega
      rcases h' with rfl | rfl | rfl | rfl | rfl | rfl | rfl | rfl | rfl | rfl | rfl | rfl | rfl | rfl | rfl | rfl | rfl | rfl | rfl | rfl | rfl | rfl
      · exact r_ev_69 a b w ha hb
      · exact r_ev_70 a b w ha hb
      · exact r_ev_71 a b w ha hb
      · exact r_ev_72 a b w ha hb
      · exact r_ev_73 a b w ha hb
      · exact r_ev_74 a b w ha hb
      · exact r_ev_75 a b w ha hb
      · exact r_ev_76 a b w ha hb
      · exact r_ev_77 a b w ha hb
      · exact r_ev_78 a b w ha hb
      · exact r_ev_79 a b w ha hb
      · exact r_ev_80 a b w ha hb
      · exact r_ev_81 a b w ha hb
      · exact r_ev_82 a b w ha hb
      · exact r_ev_83 a b w ha hb
      · exact r_ev_84 a b w ha hb
      · exact r_ev_85 a b w ha hb
      · exact r_ev_86 a b w ha hb
      · exact r_ev_87 a b w ha hb
      · exact r_ev_88 a b w ha hb
      · exact r_ev_89 a b w ha hb
      · exact r_ev_90 a b w ha hb
    · have h' : op = 106 ∨ op = 107 ∨ op = 108 ∨ op = 109 ∨ op = 110 ∨ op = 111 ∨ op = 112 ∨ op = 113 ∨ op = 114 ∨ op = 115 ∨ op = 116 ∨ op = 117 ∨ op = 118 ∨ op = 119 ∨ op = 120 := by omega
      rcases h' with rfl | rfl | rfl | rfl | rfl | rfl | rfl | rfl | rfl | rfl | rfl | rfl | rfl | rfl | rfl
      · exact r_ev_106 a b w ha hb
      · exact r_ev_107 a b w ha hb
      · exact r_ev_108 a b w ha hb
      · exact r_ev_109 a b w ha hb
      · exact r_ev_110 a b w ha hb
      · exact r_ev_111 a b w ha hb
      · exact r_ev_112 a b w ha hb
      · exact r_ev_113 a b w ha hb
      · exact r_ev_114 a b w ha hb
      · exact r_ev_115 a b w ha hb
      · exact r_ev_116 a b w ha hb
      · exact r_ev_117 a b w ha hb
      · exact r_ev_118 a b w ha hb
      · exact r_ev_119 a b w ha hb
      · exact r_ev_120 a b w ha hb
    · have h' : op = 124 ∨ op = 125 ∨ op = 126 ∨ op = 127 ∨ op = 128 ∨ op = 129 ∨ op = 130 ∨ op = 131 ∨ op = 132 ∨ op = 133 ∨ op = 134 ∨ op = 135 ∨ op = 136 ∨ op = 137 ∨ op = 138 := by omega
      rcases h' with rfl | rfl | rfl | rfl | rfl | rfl | rfl | rfl | rfl | rfl | rfl | rfl | rfl | rfl | rfl
      · exact r_ev_124 a b w ha hb
      · exact r_ev_125 a b w ha hb
      · exact r_ev_126 a b w ha hb
      · exact r_ev_127 a b w ha hb
      · exact r_ev_128 a b w ha hb
      · exact r_ev_129 a b w ha hb
      · exact r_ev_130 a b w ha hb
      · exact r_ev_131 a b w ha hb
      · exact r_ev_132 a b w ha hb
      · exact r_ev_133 a b w ha hb
      · exact r_ev_134 a b w ha hb
      · exact r_ev_135 a b w ha hb
      · exact r_ev_136 a b w ha hb
      · exact r_ev_137 a b w ha hb
      · exact r_ev_138 a b w ha hb
    · exact r_ev_167 a b w ha hb
    · exact r_ev_172 a b w ha hb
    · exact r_ev_173 a b w ha hb
  · rw [show ev op a b = (0, 0) by simp only [ev]; rw [if_neg (by omega), if_neg (by omega), if_neg (by omega), if_neg (by omega), if_neg (by omega), if_neg (by omega)]]
    exact r_ev_none op a b w (by simp only [ar]; rw [if_neg (by omega), if_neg (by omega), if_neg (by omega), if_neg (by omega), if_neg (by omega), if_neg (by omega)])
end Go.Proofs.Ytfcdpjihhopfhaa
