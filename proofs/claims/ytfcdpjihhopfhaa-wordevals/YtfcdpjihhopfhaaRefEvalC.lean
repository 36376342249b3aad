/-
  The document's own function Eval, at each comparison and at what makes wider or narrower, answers what the plain function ev answers, and changes nothing.
-/
import Derived.Test.YtfcdpjihhopfhaaRefArity
namespace Go.Proofs.Ytfcdpjihhopfhaa
open Go.RowKit
set_option maxHeartbeats 400000 in
theorem r_ev_69 (a b : Int) (w : World) (ha : I64 a) (hb : I64 b) :
    Calls Try.prog 11 #[.int .i64 69, .int .i64 a, .int .i64 b] w fun e w' => e = two (b1 (cm 69 false (tr false a) (tr false b)), 0) ∧ w' = w := by
  have ha' := hide (tr_wd false a ha)
  have hb' := hide (tr_wd false b hb)
  clear ha hb
  go_enter Try.func11, Try.ntmps11
  go_wp2_with fail
  refine (r_a 69 1 0 0 true _ (by decide +kernel)).mono ?_
  rintro e w1 ⟨rfl, rfl⟩
  go_wp2_with fail
  refine (r_trim _ _ _).mono ?_
  rintro e w1 ⟨rfl, rfl⟩
  go_wp2_with fail
  refine (r_trim _ _ _).mono ?_
  rintro e w1 ⟨rfl, rfl⟩
  go_wp2_with fail
  refine (r_cmp0 _ _ _ _ ha'.out hb'.out).mono ?_
  rintro e w1 ⟨rfl, rfl⟩
  go_wp2_with fail
  refine (r_trim _ _ _).mono ?_
  rintro e w1 ⟨rfl, rfl⟩
  go_wp2_with fail
  go_ret2
  exact ⟨ret_ev (tr_b1 _ _) rfl, rfl⟩
set_option maxHeartbeats 400000 in
theorem r_ev_70 (a b : Int) (w : World) (ha : I64 a) (hb : I64 b) :
    Calls Try.prog 11 #[.int .i64 70, .int .i64 a, .int .i64 b] w fun e w' => e = two (b1 (cm 70 false (tr false a) (tr false b)), 0) ∧ w' = w := by
  have ha' := hide (tr_wd false a ha)
  have hb' := hide (tr_wd false b hb)
  clear ha hb
  go_enter Try.func11, Try.ntmps11
  go_wp2_with fail
  refine (r_a 70 2 0 0 true _ (by decide +kernel)).mono ?_
  rintro e w1 ⟨rfl, rfl⟩
  go_wp2_with fail
  refine (r_trim _ _ _).mono ?_
  rintro e w1 ⟨rfl, rfl⟩
  go_wp2_with fail
  refine (r_trim _ _ _).mono ?_
  rintro e w1 ⟨rfl, rfl⟩
  go_wp2_with fail
  refine (r_cmp1 _ _ _ _ ha'.out hb'.out).mono ?_
  rintro e w1 ⟨rfl, rfl⟩
  go_wp2_with fail
  refine (r_trim _ _ _).mono ?_
  rintro e w1 ⟨rfl, rfl⟩
  go_wp2_with fail
  go_ret2
  exact ⟨ret_ev (tr_b1 _ _) rfl, rfl⟩
set_option maxHeartbeats 400000 in
theorem r_ev_71 (a b : Int) (w : World) (ha : I64 a) (hb : I64 b) :
    Calls Try.prog 11 #[.int .i64 71, .int .i64 a, .int .i64 b] w fun e w' => e = two (b1 (cm 71 false (tr false a) (tr false b)), 0) ∧ w' = w := by
  have ha' := hide (tr_wd false a ha)
  have hb' := hide (tr_wd false b hb)
  clear ha hb
  go_enter Try.func11, Try.ntmps11
  go_wp2_with fail
  refine (r_a 71 2 0 0 true _ (by decide +kernel)).mono ?_
  rintro e w1 ⟨rfl, rfl⟩
  go_wp2_with fail
  refine (r_trim _ _ _).mono ?_
  rintro e w1 ⟨rfl, rfl⟩
  go_wp2_with fail
  refine (r_trim _ _ _).mono ?_
  rintro e w1 ⟨rfl, rfl⟩
  go_wp2_with fail
  refine (r_cmp2 _ _ _ _ ha'.out hb'.out).mono ?_
  rintro e w1 ⟨rfl, rfl⟩
  go_wp2_with fail
  refine (r_trim _ _ _).mono ?_
  rintro e w1 ⟨rfl, rfl⟩
  go_wp2_with fail
  go_ret2
  exact ⟨ret_ev (tr_b1 _ _) rfl, rfl⟩
set_option maxHeartbeats 400000 in
theorem r_ev_72 (a b : Int) (w : World) (ha : I64 a) (hb : I64 b) :
    Calls Try.prog 11 #[.int .i64 72, .int .i64 a, .int .i64 b] w fun e w' => e = two (b1 (cm 72 false (tr false a) (tr false b)), 0) ∧ w' = w := by
  have ha' := hide (tr_wd false a ha)
  have hb' := hide (tr_wd false b hb)
  clear ha hb
  go_enter Try.func11, Try.ntmps11
  go_wp2_with fail
  refine (r_a 72 2 0 0 true _ (by decide +kernel)).mono ?_
  rintro e w1 ⟨rfl, rfl⟩
  go_wp2_with fail
  refine (r_trim _ _ _).mono ?_
  rintro e w1 ⟨rfl, rfl⟩
  go_wp2_with fail
  refine (r_trim _ _ _).mono ?_
  rintro e w1 ⟨rfl, rfl⟩
  go_wp2_with fail
  refine (r_cmp3 _ _ _ _ ha'.out hb'.out).mono ?_
  rintro e w1 ⟨rfl, rfl⟩
  go_wp2_with fail
  refine (r_trim _ _ _).mono ?_
  rintro e w1 ⟨rfl, rfl⟩
  go_wp2_with fail
  go_ret2
  exact ⟨ret_ev (tr_b1 _ _) rfl, rfl⟩
set_option maxHeartbeats 400000 in
theorem r_ev_73 (a b : Int) (w : World) (ha : I64 a) (hb : I64 b) :
    Calls Try.prog 11 #[.int .i64 73, .int .i64 a, .int .i64 b] w fun e w' => e = two (b1 (cm 73 false (tr false a) (tr false b)), 0) ∧ w' = w := by
  have ha' := hide (tr_wd false a ha)
  have hb' := hide (tr_wd false b hb)
  clear ha hb
  go_enter Try.func11, Try.ntmps11
  go_wp2_with fail
  refine (r_a 73 2 0 0 true _ (by decide +kernel)).mono ?_
  rintro e w1 ⟨rfl, rfl⟩
  go_wp2_with fail
  refine (r_trim _ _ _).mono ?_
  rintro e w1 ⟨rfl, rfl⟩
  go_wp2_with fail
  refine (r_trim _ _ _).mono ?_
  rintro e w1 ⟨rfl, rfl⟩
  go_wp2_with fail
  refine (r_cmp4 _ _ _ _ ha'.out hb'.out).mono ?_
  rintro e w1 ⟨rfl, rfl⟩
  go_wp2_with fail
  refine (r_trim _ _ _).mono ?_
  rintro e w1 ⟨rfl, rfl⟩
  go_wp2_with fail
  go_ret2
  exact ⟨ret_ev (tr_b1 _ _) rfl, rfl⟩
set_option maxHeartbeats 400000 in
theorem r_ev_74 (a b : Int) (w : World) (ha : I64 a) (hb : I64 b) :
    Calls Try.prog 11 #[.int .i64 74, .int .i64 a, .int .i64 b] w fun e w' => e = two (b1 (cm 74 false (tr false a) (tr false b)), 0) ∧ w' = w := by
  have ha' := hide (tr_wd false a ha)
  have hb' := hide (tr_wd false b hb)
  clear ha hb
  go_enter Try.func11, Try.ntmps11
  go_wp2_with fail
  refine (r_a 74 2 0 0 true _ (by decide +kernel)).mono ?_
  rintro e w1 ⟨rfl, rfl⟩
  go_wp2_with fail
  refine (r_trim _ _ _).mono ?_
  rintro e w1 ⟨rfl, rfl⟩
  go_wp2_with fail
  refine (r_trim _ _ _).mono ?_
  rintro e w1 ⟨rfl, rfl⟩
  go_wp2_with fail
  refine (r_cmp5 _ _ _ _ ha'.out hb'.out).mono ?_
  rintro e w1 ⟨rfl, rfl⟩
  go_wp2_with fail
  refine (r_trim _ _ _).mono ?_
  rintro e w1 ⟨rfl, rfl⟩
  go_wp2_with fail
  go_ret2
  exact ⟨ret_ev (tr_b1 _ _) rfl, rfl⟩
set_option maxHeartbeats 400000 in
theorem r_ev_75 (a b : Int) (w : World) (ha : I64 a) (hb : I64 b) :
    Calls Try.prog 11 #[.int .i64 75, .int .i64 a, .int .i64 b] w fun e w' => e = two (b1 (cm 75 false (tr false a) (tr false b)), 0) ∧ w' = w := by
  have ha' := hide (tr_wd false a ha)
  have hb' := hide (tr_wd false b hb)
  clear ha hb
  go_enter Try.func11, Try.ntmps11
  go_wp2_with fail
  refine (r_a 75 2 0 0 true _ (by decide +kernel)).mono ?_
  rintro e w1 ⟨rfl, rfl⟩
  go_wp2_with fail
  refine (r_trim _ _ _).mono ?_
  rintro e w1 ⟨rfl, rfl⟩
  go_wp2_with fail
  refine (r_trim _ _ _).mono ?_
  rintro e w1 ⟨rfl, rfl⟩
  go_wp2_with fail
  refine (r_cmp6 _ _ _ _ ha'.out hb'.out).mono ?_
  rintro e w1 ⟨rfl, rfl⟩
  go_wp2_with fail
  refine (r_trim _ _ _).mono ?_
  rintro e w1 ⟨rfl, rfl⟩
  go_wp2_with fail
  go_ret2
  exact ⟨ret_ev (tr_b1 _ _) rfl, rfl⟩
set_option maxHeartbeats 400000 in
theorem r_ev_76 (a b : Int) (w : World) (ha : I64 a) (hb : I64 b) :
    Calls Try.prog 11 #[.int .i64 76, .int .i64 a, .int .i64 b] w fun e w' => e = two (b1 (cm 76 false (tr false a) (tr false b)), 0) ∧ w' = w := by
  have ha' := hide (tr_wd false a ha)
  have hb' := hide (tr_wd false b hb)
  clear ha hb
  go_enter Try.func11, Try.ntmps11
  go_wp2_with fail
  refine (r_a 76 2 0 0 true _ (by decide +kernel)).mono ?_
  rintro e w1 ⟨rfl, rfl⟩
  go_wp2_with fail
  refine (r_trim _ _ _).mono ?_
  rintro e w1 ⟨rfl, rfl⟩
  go_wp2_with fail
  refine (r_trim _ _ _).mono ?_
  rintro e w1 ⟨rfl, rfl⟩
  go_wp2_with fail
  refine (r_cmp7 _ _ _ _ ha'.out hb'.out).mono ?_
  rintro e w1 ⟨rfl, rfl⟩
  go_wp2_with fail
  refine (r_trim _ _ _).mono ?_
  rintro e w1 ⟨rfl, rfl⟩
  go_wp2_with fail
  go_ret2
  exact ⟨ret_ev (tr_b1 _ _) rfl, rfl⟩
set_option maxHeartbeats 400000 in
theorem r_ev_77 (a b : Int) (w : World) (ha : I64 a) (hb : I64 b) :
    Calls Try.prog 11 #[.int .i64 77, .int .i64 a, .int .i64 b] w fun e w' => e = two (b1 (cm 77 false (tr false a) (tr false b)), 0) ∧ w' = w := by
  have ha' := hide (tr_wd false a ha)
  have hb' := hide (tr_wd false b hb)
  clear ha hb
  go_enter Try.func11, Try.ntmps11
  go_wp2_with fail
  refine (r_a 77 2 0 0 true _ (by decide +kernel)).mono ?_
  rintro e w1 ⟨rfl, rfl⟩
  go_wp2_with fail
  refine (r_trim _ _ _).mono ?_
  rintro e w1 ⟨rfl, rfl⟩
  go_wp2_with fail
  refine (r_trim _ _ _).mono ?_
  rintro e w1 ⟨rfl, rfl⟩
  go_wp2_with fail
  refine (r_cmp8 _ _ _ _ ha'.out hb'.out).mono ?_
  rintro e w1 ⟨rfl, rfl⟩
  go_wp2_with fail
  refine (r_trim _ _ _).mono ?_
  rintro e w1 ⟨rfl, rfl⟩
  go_wp2_with fail
  go_ret2
  exact ⟨ret_ev (tr_b1 _ _) rfl, rfl⟩
set_option maxHeartbeats 400000 in
theorem r_ev_78 (a b : Int) (w : World) (ha : I64 a) (hb : I64 b) :
    Calls Try.prog 11 #[.int .i64 78, .int .i64 a, .int .i64 b] w fun e w' => e = two (b1 (cm 78 false (tr false a) (tr false b)), 0) ∧ w' = w := by
  have ha' := hide (tr_wd false a ha)
  have hb' := hide (tr_wd false b hb)
  clear ha hb
  go_enter Try.func11, Try.ntmps11
  go_wp2_with fail
  refine (r_a 78 2 0 0 true _ (by decide +kernel)).mono ?_
  rintro e w1 ⟨rfl, rfl⟩
  go_wp2_with fail
  refine (r_trim _ _ _).mono ?_
  rintro e w1 ⟨rfl, rfl⟩
  go_wp2_with fail
  refine (r_trim _ _ _).mono ?_
  rintro e w1 ⟨rfl, rfl⟩
  go_wp2_with fail
  refine (r_cmp9 _ _ _ _ ha'.out hb'.out).mono ?_
  rintro e w1 ⟨rfl, rfl⟩
  go_wp2_with fail
  refine (r_trim _ _ _).mono ?_
  rintro e w1 ⟨rfl, rfl⟩
  go_wp2_with fail
  go_ret2
  exact ⟨ret_ev (tr_b1 _ _) rfl, rfl⟩
set_option maxHeartbeats 400000 in
theorem r_ev_79 (a b : Int) (w : World) (ha : I64 a) (hb : I64 b) :
    Calls Try.prog 11 #[.int .i64 79, .int .i64 a, .int .i64 b] w fun e w' => e = two (b1 (cm 79 false (tr false a) (tr false b)), 0) ∧ w' = w := by
  have ha' := hide (tr_wd false a ha)
  have hb' := hide (tr_wd false b hb)
  clear ha hb
  go_enter Try.func11, Try.ntmps11
  go_wp2_with fail
  refine (r_a 79 2 0 0 true _ (by decide +kernel)).mono ?_
  rintro e w1 ⟨rfl, rfl⟩
  go_wp2_with fail
  refine (r_trim _ _ _).mono ?_
  rintro e w1 ⟨rfl, rfl⟩
  go_wp2_with fail
  refine (r_trim _ _ _).mono ?_
  rintro e w1 ⟨rfl, rfl⟩
  go_wp2_with fail
  refine (r_cmp10 _ _ _ _ ha'.out hb'.out).mono ?_
  rintro e w1 ⟨rfl, rfl⟩
  go_wp2_with fail
  refine (r_trim _ _ _).mono ?_
  rintro e w1 ⟨rfl, rfl⟩
  go_wp2_with fail
  go_ret2
  exact ⟨ret_ev (tr_b1 _ _) rfl, rfl⟩
set_option maxHeartbeats 400000 in
theorem r_ev_80 (a b : Int) (w : World) (ha : I64 a) (hb : I64 b) :
    Calls Try.prog 11 #[.int .i64 80, .int .i64 a, .int .i64 b] w fun e w' => e = two (b1 (cm 69 true (tr true a) (tr true b)), 0) ∧ w' = w := by
  have ha' := hide (tr_wd true a ha)
  have hb' := hide (tr_wd true b hb)
  clear ha hb
  go_enter Try.func11, Try.ntmps11
  go_wp2_with fail
  refine (r_a 80 1 1 0 true _ (by decide +kernel)).mono ?_
  rintro e w1 ⟨rfl, rfl⟩
  go_wp2_with fail
  refine (r_trim _ _ _).mono ?_
  rintro e w1 ⟨rfl, rfl⟩
  go_wp2_with fail
  refine (r_trim _ _ _).mono ?_
  rintro e w1 ⟨rfl, rfl⟩
  go_wp2_with fail
  refine (r_cmp0 _ _ _ _ ha'.out hb'.out).mono ?_
  rintro e w1 ⟨rfl, rfl⟩
  go_wp2_with fail
  refine (r_trim _ _ _).mono ?_
  rintro e w1 ⟨rfl, rfl⟩
  go_wp2_with fail
  go_ret2
  exact ⟨ret_ev (tr_b1 _ _) rfl, rfl⟩
set_option maxHeartbeats 400000 in
theorem r_ev_81 (a b : Int) (w : World) (ha : I64 a) (hb : I64 b) :
    Calls Try.prog 11 #[.int .i64 81, .int .i64 a, .int .i64 b] w fun e w' => e = two (b1 (cm 70 true (tr true a) (tr true b)), 0) ∧ w' = w := by
  have ha' := hide (tr_wd true a ha)
  have hb' := hide (tr_wd true b hb)
  clear ha hb
  go_enter Try.func11, Try.ntmps11
  go_wp2_with fail
  refine (r_a 81 2 1 0 true _ (by decide +kernel)).mono ?_
  rintro e w1 ⟨rfl, rfl⟩
  go_wp2_with fail
  refine (r_trim _ _ _).mono ?_
  rintro e w1 ⟨rfl, rfl⟩
  go_wp2_with fail
  refine (r_trim _ _ _).mono ?_
  rintro e w1 ⟨rfl, rfl⟩
  go_wp2_with fail
  refine (r_cmp1 _ _ _ _ ha'.out hb'.out).mono ?_
  rintro e w1 ⟨rfl, rfl⟩
  go_wp2_with fail
  refine (r_trim _ _ _).mono ?_
  rintro e w1 ⟨rfl, rfl⟩
  go_wp2_with fail
  go_ret2
  exact ⟨ret_ev (tr_b1 _ _) rfl, rfl⟩
set_option maxHeartbeats 400000 in
theorem r_ev_82 (a b : Int) (w : World) (ha : I64 a) (hb : I64 b) :
    Calls Try.prog 11 #[.int .i64 82, .int .i64 a, .int .i64 b] w fun e w' => e = two (b1 (cm 71 true (tr true a) (tr true b)), 0) ∧ w' = w := by
  have ha' := hide (tr_wd true a ha)
  have hb' := hide (tr_wd true b hb)
  clear ha hb
  go_enter Try.func11, Try.ntmps11
  go_wp2_with fail
  refine (r_a 82 2 1 0 true _ (by decide +kernel)).mono ?_
  rintro e w1 ⟨rfl, rfl⟩
  go_wp2_with fail
  refine (r_trim _ _ _).mono ?_
  rintro e w1 ⟨rfl, rfl⟩
  go_wp2_with fail
  refine (r_trim _ _ _).mono ?_
  rintro e w1 ⟨rfl, rfl⟩
  go_wp2_with fail
  refine (r_cmp2 _ _ _ _ ha'.out hb'.out).mono ?_
  rintro e w1 ⟨rfl, rfl⟩
  go_wp2_with fail
  refine (r_trim _ _ _).mono ?_
  rintro e w1 ⟨rfl, rfl⟩
  go_wp2_with fail
  go_ret2
  exact ⟨ret_ev (tr_b1 _ _) rfl, rfl⟩
set_option maxHeartbeats 400000 in
theorem r_ev_83 (a b : Int) (w : World) (ha : I64 a) (hb : I64 b) :
    Calls Try.prog 11 #[.int .i64 83, .int .i64 a, .int .i64 b] w fun e w' => e = two (b1 (cm 72 true (tr true a) (tr true b)), 0) ∧ w' = w := by
  have ha' := hide (tr_wd true a ha)
  have hb' := hide (tr_wd true b hb)
  clear ha hb
  go_enter Try.func11, Try.ntmps11
  go_wp2_with fail
  refine (r_a 83 2 1 0 true _ (by decide +kernel)).mono ?_
  rintro e w1 ⟨rfl, rfl⟩
  go_wp2_with fail
  refine (r_trim _ _ _).mono ?_
  rintro e w1 ⟨rfl, rfl⟩
  go_wp2_with fail
  refine (r_trim _ _ _).mono ?_
  rintro e w1 ⟨rfl, rfl⟩
  go_wp2_with fail
  refine (r_cmp3 _ _ _ _ ha'.out hb'.out).mono ?_
  rintro e w1 ⟨rfl, rfl⟩
  go_wp2_with fail
  refine (r_trim _ _ _).mono ?_
  rintro e w1 ⟨rfl, rfl⟩
  go_wp2_with fail
  go_ret2
  exact ⟨ret_ev (tr_b1 _ _) rfl, rfl⟩
set_option maxHeartbeats 400000 in
theorem r_ev_84 (a b : Int) (w : World) (ha : I64 a) (hb : I64 b) :
    Calls Try.prog 11 #[.int .i64 84, .int .i64 a, .int .i64 b] w fun e w' => e = two (b1 (cm 73 true (tr true a) (tr true b)), 0) ∧ w' = w := by
  have ha' := hide (tr_wd true a ha)
  have hb' := hide (tr_wd true b hb)
  clear ha hb
  go_enter Try.func11, Try.ntmps11
  go_wp2_with fail
  refine (r_a 84 2 1 0 true _ (by decide +kernel)).mono ?_
  rintro e w1 ⟨rfl, rfl⟩
  go_wp2_with fail
  refine (r_trim _ _ _).mono ?_
  rintro e w1 ⟨rfl, rfl⟩
  go_wp2_with fail
  refine (r_trim _ _ _).mono ?_
  rintro e w1 ⟨rfl, rfl⟩
  go_wp2_with fail
  refine (r_cmp4 _ _ _ _ ha'.out hb'.out).mono ?_
  rintro e w1 ⟨rfl, rfl⟩
  go_wp2_with fail
  refine (r_trim _ _ _).mono ?_
  rintro e w1 ⟨rfl, rfl⟩
  go_wp2_with fail
  go_ret2
  exact ⟨ret_ev (tr_b1 _ _) rfl, rfl⟩
set_option maxHeartbeats 400000 in
theorem r_ev_85 (a b : Int) (w : World) (ha : I64 a) (hb : I64 b) :
    Calls Try.prog 11 #[.int .i64 85, .int .i64 a, .int .i64 b] w fun e w' => e = two (b1 (cm 74 true (tr true a) (tr true b)), 0) ∧ w' = w := by
  have ha' := hide (tr_wd true a ha)
  have hb' := hide (tr_wd true b hb)
  clear ha hb
  go_enter Try.func11, Try.ntmps11
  go_wp2_with fail
  refine (r_a 85 2 1 0 true _ (by decide +kernel)).mono ?_
  rintro e w1 ⟨rfl, rfl⟩
  go_wp2_with fail
  refine (r_trim _ _ _).mono ?_
  rintro e w1 ⟨rfl, rfl⟩
  go_wp2_with fail
  refine (r_trim _ _ _).mono ?_
  rintro e w1 ⟨rfl, rfl⟩
  go_wp2_with fail
  refine (r_cmp5 _ _ _ _ ha'.out hb'.out).mono ?_
  rintro e w1 ⟨rfl, rfl⟩
  go_wp2_with fail
  refine (r_trim _ _ _).mono ?_
  rintro e w1 ⟨rfl, rfl⟩
  go_wp2_with fail
  go_ret2
  exact ⟨ret_ev (tr_b1 _ _) rfl, rfl⟩
set_option maxHeartbeats 400000 in
theorem r_ev_86 (a b : Int) (w : World) (ha : I64 a) (hb : I64 b) :
    Calls Try.prog 11 #[.int .i64 86, .int .i64 a, .int .i64 b] w fun e w' => e = two (b1 (cm 75 true (tr true a) (tr true b)), 0) ∧ w' = w := by
  have ha' := hide (tr_wd true a ha)
  have hb' := hide (tr_wd true b hb)
  clear ha hb
  go_enter Try.func11, Try.ntmps11
  go_wp2_with fail
  refine (r_a 86 2 1 0 true _ (by decide +kernel)).mono ?_
  rintro e w1 ⟨rfl, rfl⟩
  go_wp2_with fail
  refine (r_trim _ _ _).mono ?_
  rintro e w1 ⟨rfl, rfl⟩
  go_wp2_with fail
  refine (r_trim _ _ _).mono ?_
  rintro e w1 ⟨rfl, rfl⟩
  go_wp2_with fail
  refine (r_cmp6 _ _ _ _ ha'.out hb'.out).mono ?_
  rintro e w1 ⟨rfl, rfl⟩
  go_wp2_with fail
  refine (r_trim _ _ _).mono ?_
  rintro e w1 ⟨rfl, rfl⟩
  go_wp2_with fail
  go_ret2
  exact ⟨ret_ev (tr_b1 _ _) rfl, rfl⟩
set_option maxHeartbeats 400000 in
theorem r_ev_87 (a b : Int) (w : World) (ha : I64 a) (hb : I64 b) :
    Calls Try.prog 11 #[.int .i64 87, .int .i64 a, .int .i64 b] w fun e w' => e = two (b1 (cm 76 true (tr true a) (tr true b)), 0) ∧ w' = w := by
  have ha' := hide (tr_wd true a ha)
  have hb' := hide (tr_wd true b hb)
  clear ha hb
  go_enter Try.func11, Try.ntmps11
  go_wp2_with fail
  refine (r_a 87 2 1 0 true _ (by decide +kernel)).mono ?_
  rintro e w1 ⟨rfl, rfl⟩
  go_wp2_with fail
  refine (r_trim _ _ _).mono ?_
  rintro e w1 ⟨rfl, rfl⟩
  go_wp2_with fail
  refine (r_trim _ _ _).mono ?_
  rintro e w1 ⟨rfl, rfl⟩
  go_wp2_with fail
  refine (r_cmp7 _ _ _ _ ha'.out hb'.out).mono ?_
  rintro e w1 ⟨rfl, rfl⟩
  go_wp2_with fail
  refine (r_trim _ _ _).mono ?_
  rintro e w1 ⟨rfl, rfl⟩
  go_wp2_with fail
  go_ret2
  exact ⟨ret_ev (tr_b1 _ _) rfl, rfl⟩
set_option maxHeartbeats 400000 in
theorem r_ev_88 (a b : Int) (w : World) (ha : I64 a) (hb : I64 b) :
    Calls Try.prog 11 #[.int .i64 88, .int .i64 a, .int .i64 b] w fun e w' => e = two (b1 (cm 77 true (tr true a) (tr true b)), 0) ∧ w' = w := by
  have ha' := hide (tr_wd true a ha)
  have hb' := hide (tr_wd true b hb)
  clear ha hb
  go_enter Try.func11, Try.ntmps11
  go_wp2_with fail
  refine (r_a 88 2 1 0 true _ (by decide +kernel)).mono ?_
  rintro e w1 ⟨rfl, rfl⟩
  go_wp2_with fail
  refine (r_trim _ _ _).mono ?_
  rintro e w1 ⟨rfl, rfl⟩
  go_wp2_with fail
  refine (r_trim _ _ _).mono ?_
  rintro e w1 ⟨rfl, rfl⟩
  go_wp2_with fail
  refine (r_cmp8 _ _ _ _ ha'.out hb'.out).mono ?_
  rintro e w1 ⟨rfl, rfl⟩
  go_wp2_with fail
  refine (r_trim _ _ _).mono ?_
  rintro e w1 ⟨rfl, rfl⟩
  go_wp2_with fail
  go_ret2
  exact ⟨ret_ev (tr_b1 _ _) rfl, rfl⟩
set_option maxHeartbeats 400000 in
theorem r_ev_89 (a b : Int) (w : World) (ha : I64 a) (hb : I64 b) :
    Calls Try.prog 11 #[.int .i64 89, .int .i64 a, .int .i64 b] w fun e w' => e = two (b1 (cm 78 true (tr true a) (tr true b)), 0) ∧ w' = w := by
  have ha' := hide (tr_wd true a ha)
  have hb' := hide (tr_wd true b hb)
  clear ha hb
  go_enter Try.func11, Try.ntmps11
  go_wp2_with fail
  refine (r_a 89 2 1 0 true _ (by decide +kernel)).mono ?_
  rintro e w1 ⟨rfl, rfl⟩
  go_wp2_with fail
  refine (r_trim _ _ _).mono ?_
  rintro e w1 ⟨rfl, rfl⟩
  go_wp2_with fail
  refine (r_trim _ _ _).mono ?_
  rintro e w1 ⟨rfl, rfl⟩
  go_wp2_with fail
  refine (r_cmp9 _ _ _ _ ha'.out hb'.out).mono ?_
  rintro e w1 ⟨rfl, rfl⟩
  go_wp2_with fail
  refine (r_trim _ _ _).mono ?_
  rintro e w1 ⟨rfl, rfl⟩
  go_wp2_with fail
  go_ret2
  exact ⟨ret_ev (tr_b1 _ _) rfl, rfl⟩
set_option maxHeartbeats 400000 in
theorem r_ev_90 (a b : Int) (w : World) (ha : I64 a) (hb : I64 b) :
    Calls Try.prog 11 #[.int .i64 90, .int .i64 a, .int .i64 b] w fun e w' => e = two (b1 (cm 79 true (tr true a) (tr true b)), 0) ∧ w' = w := by
  have ha' := hide (tr_wd true a ha)
  have hb' := hide (tr_wd true b hb)
  clear ha hb
  go_enter Try.func11, Try.ntmps11
  go_wp2_with fail
  refine (r_a 90 2 1 0 true _ (by decide +kernel)).mono ?_
  rintro e w1 ⟨rfl, rfl⟩
  go_wp2_with fail
  refine (r_trim _ _ _).mono ?_
  rintro e w1 ⟨rfl, rfl⟩
  go_wp2_with fail
  refine (r_trim _ _ _).mono ?_
  rintro e w1 ⟨rfl, rfl⟩
  go_wp2_with fail
  refine (r_cmp10 _ _ _ _ ha'.out hb'.out).mono ?_
  rintro e w1 ⟨rfl, rfl⟩
  go_wp2_with fail
  refine (r_trim _ _ _).mono ?_
  rintro e w1 ⟨rfl, rfl⟩
  go_wp2_with fail
  go_ret2
  exact ⟨ret_ev (tr_b1 _ _) rfl, rfl⟩
set_option maxHeartbeats 400000 in
theorem r_ev_167 (a b : Int) (w : World) (ha : I64 a) (hb : I64 b) :
    Calls Try.prog 11 #[.int .i64 167, .int .i64 a, .int .i64 b] w fun e w' => e = two (tr false a, 0) ∧ w' = w := by
  have ha' := hide (tr_wd true a ha)
  have hb' := hide (tr_wd true b hb)
  clear ha hb
  go_enter Try.func11, Try.ntmps11
  go_wp2_with fail
  refine (r_a 167 1 1 0 true _ (by decide +kernel)).mono ?_
  rintro e w1 ⟨rfl, rfl⟩
  go_wp2_with fail
  refine (r_trim _ _ _).mono ?_
  rintro e w1 ⟨rfl, rfl⟩
  go_wp2_with fail
  refine (r_trim _ _ _).mono ?_
  rintro e w1 ⟨rfl, rfl⟩
  go_wp2_with fail
  refine (r_trim _ _ _).mono ?_
  rintro e w1 ⟨rfl, rfl⟩
  go_wp2_with fail
  go_ret2
  exact ⟨rfl, rfl⟩
set_option maxHeartbeats 400000 in
theorem r_ev_172 (a b : Int) (w : World) (ha : I64 a) (hb : I64 b) :
    Calls Try.prog 11 #[.int .i64 172, .int .i64 a, .int .i64 b] w fun e w' => e = two (sg false (tr false a), 0) ∧ w' = w := by
  have ha' := hide (tr_wd false a ha)
  have hb' := hide (tr_wd false b hb)
  clear ha hb
  go_enter Try.func11, Try.ntmps11
  go_wp2_with fail
  refine (r_a 172 1 0 1 true _ (by decide +kernel)).mono ?_
  rintro e w1 ⟨rfl, rfl⟩
  go_wp2_with fail
  refine (r_trim _ _ _).mono ?_
  rintro e w1 ⟨rfl, rfl⟩
  go_wp2_with fail
  refine (r_trim _ _ _).mono ?_
  rintro e w1 ⟨rfl, rfl⟩
  go_wp2_with fail
  refine (r_signed _ _ _ ha'.out).mono ?_
  rintro e w1 ⟨rfl, rfl⟩
  go_wp2_with fail
  refine (r_trim _ _ _).mono ?_
  rintro e w1 ⟨rfl, rfl⟩
  go_wp2_with fail
  go_ret2
  exact ⟨rfl, rfl⟩
set_option maxHeartbeats 400000 in
theorem r_ev_173 (a b : Int) (w : World) (ha : I64 a) (hb : I64 b) :
    Calls Try.prog 11 #[.int .i64 173, .int .i64 a, .int .i64 b] w fun e w' => e = two (tr false a, 0) ∧ w' = w := by
  have ha' := hide (tr_wd false a ha)
  have hb' := hide (tr_wd false b hb)
  clear ha hb
  go_enter Try.func11, Try.ntmps11
  go_wp2_with fail
  refine (r_a 173 1 0 1 true _ (by decide +kernel)).mono ?_
  rintro e w1 ⟨rfl, rfl⟩
  go_wp2_with fail
  refine (r_trim _ _ _).mono ?_
  rintro e w1 ⟨rfl, rfl⟩
  go_wp2_with fail
  refine (r_trim _ _ _).mono ?_
  rintro e w1 ⟨rfl, rfl⟩
  go_wp2_with fail
  refine (r_trim _ _ _).mono ?_
  rintro e w1 ⟨rfl, rfl⟩
  go_wp2_with fail
  go_ret2
  exact ⟨rfl, rfl⟩
set_option maxHeartbeats 400000 in
theorem r_ev_none (op a b : Int) (w : World) (hA : ar op = (0, 0, 0, false)) :
    Calls Try.prog 11 #[.int .i64 op, .int .i64 a, .int .i64 b] w fun e w' => e = two (0, 0) ∧ w' = w := by
  have hA' := hide hA
  clear hA
  go_enter Try.func11, Try.ntmps11
  go_wp2_with fail
  refine (r_a op _ _ _ _ _ hA'.out).mono ?_
  rintro e w1 ⟨rfl, rfl⟩
  go_wp2_with fail
  go_ret2
  exact ⟨rfl, rfl⟩
end Go.Proofs.Ytfcdpjihhopfhaa
