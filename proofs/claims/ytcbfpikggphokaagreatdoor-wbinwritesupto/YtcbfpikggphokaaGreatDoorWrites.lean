/-
  Any module fits or not, and is written, as the chapter says, or refused: the walk of the statement WbinWrites, for every module whose data have at most 9000000 bytes each.
-/
import Derived.Test.YtcbfpikggphokaaGreatDoorRefD
import Derived.Test.YtcbfpikggphokaaGreatDoorEx2
namespace Go.Proofs.YtcbfpikggphokaaGreatDoor
open Go.RowKit

set_option maxRecDepth 100000 in
set_option maxHeartbeats 3200000 in
theorem writes_no (V : MoV) (M : Mo) (w : World) (hL : Laid w) (h : IsMo w.heap.size w V M) (hf : fitE M ≠ 0) :
    Calls Tryz.prog 3 #[moV V M] w fun e w' => e = .returned (.bool true) ∧ Below w.heap.size w w' := by
  have HM := hide h
  obtain ⟨a0, k0, a1, k1, a2, k2, a5, k5, a6, k6, rfl⟩ := h.forms
  have hb0 := bel_one w (.cells #[.slice a0 M.sigs.length k0, .slice a1 M.imports.length k1, .slice a2 M.funcs.length k2, .int .i64 M.m0, .int .i64 M.m1, .slice a5 M.globals.length k5, .slice a6 M.data.length k6] 29)
  have R0 := hide (Row.made w #[.slice a0 M.sigs.length k0, .slice a1 M.imports.length k1, .slice a2 M.funcs.length k2, .int .i64 M.m0, .int .i64 M.m1, .slice a5 M.globals.length k5, .slice a6 M.data.length k6] 29)
  have EX := hide (examples_any _ (hL.kept hb0))
  have LW := hide hL
  have HF := hide hf
  have EN := hide (fun w1 (b1 : Below w.heap.size w w1) => encode_misfit _ M w1 (HM.out.step b1 b1.size) hf)
  have RE := hide (fun w1 (b1 : Below w.heap.size w w1) => r_encode_no _ M w1 (HM.out.step b1 b1.size) hf)
  have FI := hide (fun w1 (b1 : Below w.heap.size w w1) d os => Calls.regrown_of (w := w1) (d := d) (os := os) (fits_any _ M _ (hL.kept (below_next b1 (below_regrown w1 d os))) (HM.out.step (below_next b1 (below_regrown w1 d os)) (below_next b1 (below_regrown w1 d os)).size)))
  have RF := hide (fun w1 (b1 : Below w.heap.size w w1) d os => Calls.regrown_of (w := w1) (d := d) (os := os) (r_fits _ M _ (HM.out.step (below_next b1 (below_regrown w1 d os)) (below_next b1 (below_regrown w1 d os)).size)))
  clear h HM hL  
  unfold moV at *
  dsimp only at *
  go_enter Tryz.func3, Tryz.ntmps3
  go_wp2_with fail
  refine EX.out.mono ?_
  rintro r w1 ⟨rfl, b1⟩
  have hb1 := below_next hb0 b1
  have R1 := hide (R0.out.kept b1)
  have c0 := R1.out.c 0 (.slice a0 M.sigs.length k0) rfl
  have c1 := R1.out.c 1 (.slice a1 M.imports.length k1) rfl
  have c2 := R1.out.c 2 (.slice a2 M.funcs.length k2) rfl
  have c3 := R1.out.c 3 (.int .i64 M.m0) rfl
  have c4 := R1.out.c 4 (.int .i64 M.m1) rfl
  have c5 := R1.out.c 5 (.slice a5 M.globals.length k5) rfl
  have c6 := R1.out.c 6 (.slice a6 M.data.length k6) rfl
  have E1 := hide (EN.out w1 hb1)
  clear b1 EX R0 EN
  go_wp2_with fail
  refine E1.out.mono ?_
  rintro r w2 ⟨p, rfl, f2, _, b2⟩
  have hb2 := below_next hb1 b2
  have F2 := hide f2
  clear f2
  have R2 := hide (R1.out.kept b2)
  have d0 := R2.out.c 0 (.slice a0 M.sigs.length k0) rfl
  have d1 := R2.out.c 1 (.slice a1 M.imports.length k1) rfl
  have d2 := R2.out.c 2 (.slice a2 M.funcs.length k2) rfl
  have d3 := R2.out.c 3 (.int .i64 M.m0) rfl
  have d4 := R2.out.c 4 (.int .i64 M.m1) rfl
  have d5 := R2.out.c 5 (.slice a5 M.globals.length k5) rfl
  have d6 := R2.out.c 6 (.slice a6 M.data.length k6) rfl
  have RE2 := hide (RE.out w2 hb2)
  clear b2 E1 R1 RE c0 c1 c2 c3 c4 c5 c6
  unfold flt
  go_wp2_with fail
  refine RE2.out.mono ?_
  rintro r w3 ⟨rfl, b3⟩
  have hb3 := below_next hb2 b3
  have R3 := hide (R2.out.kept b3)
  have TF := hide (told_fault p (fitE M) 0 w3 (LW.out.kept hb3) (F2.out.kept b3) HF.out)
  clear b3 RE2 R2 F2 d0 d1 d2 d3 d4 d5 d6
  unfold flt at *
  go_wp2_with fail
  refine TF.out.mono ?_
  rintro r w4 ⟨rfl, b4⟩
  have hb4 := below_next hb3 b4
  have R4 := hide (R3.out.kept b4)
  clear b4 TF
  have e0 := cell_regrown (R4.out.c 0 (.slice a0 M.sigs.length k0) rfl)
  have e1 := cell_regrown (R4.out.c 1 (.slice a1 M.imports.length k1) rfl)
  have e2 := cell_regrown (R4.out.c 2 (.slice a2 M.funcs.length k2) rfl)
  have e3 := cell_regrown (R4.out.c 3 (.int .i64 M.m0) rfl)
  have e4 := cell_regrown (R4.out.c 4 (.int .i64 M.m1) rfl)
  have e5 := cell_regrown (R4.out.c 5 (.slice a5 M.globals.length k5) rfl)
  have e6 := cell_regrown (R4.out.c 6 (.slice a6 M.data.length k6) rfl)
  have D1 := hide (FI.out w4 hb4)
  have D2 := hide (RF.out w4 hb4)
  clear FI RF R3 R4
  go_wp2_with fail
  refine wp_region_quiet_below (by kernel_rfl) (by kernel_rfl) ?_
  repeat (go_big_quiet_step (first | exact D1.out _ _ | exact D2.out _ _))
  refine wpQuiet_nil ?_
  intro _ hw'
  obtain ⟨⟨dq, osq⟩, hw''⟩ := hw'
  subst hw''
  go_wp2
  go_ret
  exact ⟨rfl, below_next hb4 (below_regrown _ dq osq)⟩
set_option maxRecDepth 100000 in
set_option maxHeartbeats 3200000 in
theorem writes_long (V : MoV) (M : Mo) (w : World) (hL : Laid w) (h : IsMo w.heap.size w V M) (hd : ∀ d ∈ M.data, d.bytes.length ≤ 9000000) (hf : fitE M = 0) (hl : 4000 < (encM M).length) :
    Calls Tryz.prog 3 #[moV V M] w fun e w' => e = .returned (.bool true) ∧ Below w.heap.size w w' := by
  have HM := hide h
  obtain ⟨a0, k0, a1, k1, a2, k2, a5, k5, a6, k6, rfl⟩ := h.forms
  have hb0 := bel_one w (.cells #[.slice a0 M.sigs.length k0, .slice a1 M.imports.length k1, .slice a2 M.funcs.length k2, .int .i64 M.m0, .int .i64 M.m1, .slice a5 M.globals.length k5, .slice a6 M.data.length k6] 29)
  have R0 := hide (Row.made w #[.slice a0 M.sigs.length k0, .slice a1 M.imports.length k1, .slice a2 M.funcs.length k2, .int .i64 M.m0, .int .i64 M.m1, .slice a5 M.globals.length k5, .slice a6 M.data.length k6] 29)
  have EX := hide (examples_any _ (hL.kept hb0))
  have LW := hide hL
  have EN := hide (fun w1 (b1 : Below w.heap.size w w1) => encode_long _ M w1 hd (HM.out.step b1 b1.size) hf hl)
  have RE := hide (fun w1 (b1 : Below w.heap.size w w1) => r_encode_yes _ M w1 hd (HM.out.step b1 b1.size) hf [] 1 (fun h => absurd hl h) (fun _ => rfl))
  have FI := hide (fun w1 (b1 : Below w.heap.size w w1) d os => Calls.regrown_of (w := w1) (d := d) (os := os) (fits_any _ M _ (hL.kept (below_next b1 (below_regrown w1 d os))) (HM.out.step (below_next b1 (below_regrown w1 d os)) (below_next b1 (below_regrown w1 d os)).size)))
  have RF := hide (fun w1 (b1 : Below w.heap.size w w1) d os => Calls.regrown_of (w := w1) (d := d) (os := os) (r_fits _ M _ (HM.out.step (below_next b1 (below_regrown w1 d os)) (below_next b1 (below_regrown w1 d os)).size)))
  rw [hf] at FI RF
  clear h HM hL hd hf hl
  unfold moV at *
  dsimp only at *
  go_enter Tryz.func3, Tryz.ntmps3
  go_wp2_with fail
  refine EX.out.mono ?_
  rintro r w1 ⟨rfl, b1⟩
  have hb1 := below_next hb0 b1
  have R1 := hide (R0.out.kept b1)
  have c0 := R1.out.c 0 (.slice a0 M.sigs.length k0) rfl
  have c1 := R1.out.c 1 (.slice a1 M.imports.length k1) rfl
  have c2 := R1.out.c 2 (.slice a2 M.funcs.length k2) rfl
  have c3 := R1.out.c 3 (.int .i64 M.m0) rfl
  have c4 := R1.out.c 4 (.int .i64 M.m1) rfl
  have c5 := R1.out.c 5 (.slice a5 M.globals.length k5) rfl
  have c6 := R1.out.c 6 (.slice a6 M.data.length k6) rfl
  have E1 := hide (EN.out w1 hb1)
  clear b1 EX R0 EN
  go_wp2_with fail
  refine E1.out.mono ?_
  rintro r w2 ⟨p, rfl, f2, _, b2⟩
  have hb2 := below_next hb1 b2
  have F2 := hide f2
  clear f2
  have R2 := hide (R1.out.kept b2)
  have d0 := R2.out.c 0 (.slice a0 M.sigs.length k0) rfl
  have d1 := R2.out.c 1 (.slice a1 M.imports.length k1) rfl
  have d2 := R2.out.c 2 (.slice a2 M.funcs.length k2) rfl
  have d3 := R2.out.c 3 (.int .i64 M.m0) rfl
  have d4 := R2.out.c 4 (.int .i64 M.m1) rfl
  have d5 := R2.out.c 5 (.slice a5 M.globals.length k5) rfl
  have d6 := R2.out.c 6 (.slice a6 M.data.length k6) rfl
  have RE2 := hide (RE.out w2 hb2)
  clear b2 E1 R1 RE c0 c1 c2 c3 c4 c5 c6
  unfold flt
  go_wp2_with fail
  refine RE2.out.mono ?_
  rintro r w3 ⟨rfl, b3⟩
  have hb3 := below_next hb2 b3
  have R3 := hide (R2.out.kept b3)
  have TF := hide (told_fault p 1 0 w3 (LW.out.kept hb3) (F2.out.kept b3) (by decide))
  clear b3 RE2 R2 F2 d0 d1 d2 d3 d4 d5 d6
  unfold flt at *
  go_wp2_with fail
  refine TF.out.mono ?_
  rintro r w4 ⟨rfl, b4⟩
  have hb4 := below_next hb3 b4
  have R4 := hide (R3.out.kept b4)
  clear b4 TF
  have e0 := cell_regrown (R4.out.c 0 (.slice a0 M.sigs.length k0) rfl)
  have e1 := cell_regrown (R4.out.c 1 (.slice a1 M.imports.length k1) rfl)
  have e2 := cell_regrown (R4.out.c 2 (.slice a2 M.funcs.length k2) rfl)
  have e3 := cell_regrown (R4.out.c 3 (.int .i64 M.m0) rfl)
  have e4 := cell_regrown (R4.out.c 4 (.int .i64 M.m1) rfl)
  have e5 := cell_regrown (R4.out.c 5 (.slice a5 M.globals.length k5) rfl)
  have e6 := cell_regrown (R4.out.c 6 (.slice a6 M.data.length k6) rfl)
  have D1 := hide (FI.out w4 hb4)
  have D2 := hide (RF.out w4 hb4)
  clear FI RF R3 R4
  go_wp2_with fail
  refine wp_region_quiet_below (by kernel_rfl) (by kernel_rfl) ?_
  repeat (go_big_quiet_step (first | exact D1.out _ _ | exact D2.out _ _))
  refine wpQuiet_nil ?_
  intro _ hw'
  obtain ⟨⟨dq, osq⟩, hw''⟩ := hw'
  subst hw''
  go_wp2
  go_ret
  exact ⟨rfl, below_next hb4 (below_regrown _ dq osq)⟩
set_option maxRecDepth 100000 in
set_option maxHeartbeats 3200000 in
theorem writes_ok (V : MoV) (M : Mo) (w : World) (hL : Laid w) (h : IsMo w.heap.size w V M) (hd : ∀ d ∈ M.data, d.bytes.length ≤ 9000000) (hf : fitE M = 0) (hl : ¬ 4000 < (encM M).length) :
    Calls Tryz.prog 3 #[moV V M] w fun e w' => e = .returned (.bool true) ∧ Below w.heap.size w w' := by
  have HM := hide h
  obtain ⟨a0, k0, a1, k1, a2, k2, a5, k5, a6, k6, rfl⟩ := h.forms
  have hb0 := bel_one w (.cells #[.slice a0 M.sigs.length k0, .slice a1 M.imports.length k1, .slice a2 M.funcs.length k2, .int .i64 M.m0, .int .i64 M.m1, .slice a5 M.globals.length k5, .slice a6 M.data.length k6] 29)
  have R0 := hide (Row.made w #[.slice a0 M.sigs.length k0, .slice a1 M.imports.length k1, .slice a2 M.funcs.length k2, .int .i64 M.m0, .int .i64 M.m1, .slice a5 M.globals.length k5, .slice a6 M.data.length k6] 29)
  have EX := hide (examples_any _ (hL.kept hb0))
  have LW := hide hL
  have EN := hide (fun w1 (b1 : Below w.heap.size w w1) => encode_ok _ M w1 hd (HM.out.step b1 b1.size) hf hl)
  have RE := hide (fun w1 (b1 : Below w.heap.size w w1) => r_encode_yes _ M w1 hd (HM.out.step b1 b1.size) hf (encM M) 0 (fun _ => rfl) (fun h => absurd h hl))
  have FI := hide (fun w1 (b1 : Below w.heap.size w w1) d os => Calls.regrown_of (w := w1) (d := d) (os := os) (fits_any _ M _ (hL.kept (below_next b1 (below_regrown w1 d os))) (HM.out.step (below_next b1 (below_regrown w1 d os)) (below_next b1 (below_regrown w1 d os)).size)))
  have RF := hide (fun w1 (b1 : Below w.heap.size w w1) d os => Calls.regrown_of (w := w1) (d := d) (os := os) (r_fits _ M _ (HM.out.step (below_next b1 (below_regrown w1 d os)) (below_next b1 (below_regrown w1 d os)).size)))
  rw [hf] at FI RF
  clear h HM hL hd hf hl
  unfold moV at *
  dsimp only at *
  go_enter Tryz.func3, Tryz.ntmps3
  go_wp2_with fail
  refine EX.out.mono ?_
  rintro r w1 ⟨rfl, b1⟩
  have hb1 := below_next hb0 b1
  have R1 := hide (R0.out.kept b1)
  have c0 := R1.out.c 0 (.slice a0 M.sigs.length k0) rfl
  have c1 := R1.out.c 1 (.slice a1 M.imports.length k1) rfl
  have c2 := R1.out.c 2 (.slice a2 M.funcs.length k2) rfl
  have c3 := R1.out.c 3 (.int .i64 M.m0) rfl
  have c4 := R1.out.c 4 (.int .i64 M.m1) rfl
  have c5 := R1.out.c 5 (.slice a5 M.globals.length k5) rfl
  have c6 := R1.out.c 6 (.slice a6 M.data.length k6) rfl
  have E1 := hide (EN.out w1 hb1)
  clear b1 EX R0 EN
  go_wp2_with fail
  refine E1.out.mono ?_
  rintro r w2 ⟨rfl, b2⟩
  have hb2 := below_next hb1 b2
  have R2 := hide (R1.out.kept b2)
  have d0 := R2.out.c 0 (.slice a0 M.sigs.length k0) rfl
  have d1 := R2.out.c 1 (.slice a1 M.imports.length k1) rfl
  have d2 := R2.out.c 2 (.slice a2 M.funcs.length k2) rfl
  have d3 := R2.out.c 3 (.int .i64 M.m0) rfl
  have d4 := R2.out.c 4 (.int .i64 M.m1) rfl
  have d5 := R2.out.c 5 (.slice a5 M.globals.length k5) rfl
  have d6 := R2.out.c 6 (.slice a6 M.data.length k6) rfl
  have RE2 := hide (RE.out w2 hb2)
  clear b2 E1 R1 RE c0 c1 c2 c3 c4 c5 c6
  go_wp2_with fail
  refine RE2.out.mono ?_
  rintro r w3 ⟨rfl, b3⟩
  have hb3 := below_next hb2 b3
  have R3 := hide (R2.out.kept b3)
  clear b3 RE2 R2 d0 d1 d2 d3 d4 d5 d6
  go_wp2_with fail
  refine (told_nil _).mono ?_
  rintro r w4 ⟨rfl, rfl⟩
  have hb4 := hb3
  have R4 := R3
  have e0 := cell_regrown (R4.out.c 0 (.slice a0 M.sigs.length k0) rfl)
  have e1 := cell_regrown (R4.out.c 1 (.slice a1 M.imports.length k1) rfl)
  have e2 := cell_regrown (R4.out.c 2 (.slice a2 M.funcs.length k2) rfl)
  have e3 := cell_regrown (R4.out.c 3 (.int .i64 M.m0) rfl)
  have e4 := cell_regrown (R4.out.c 4 (.int .i64 M.m1) rfl)
  have e5 := cell_regrown (R4.out.c 5 (.slice a5 M.globals.length k5) rfl)
  have e6 := cell_regrown (R4.out.c 6 (.slice a6 M.data.length k6) rfl)
  have D1 := hide (FI.out w4 hb4)
  have D2 := hide (RF.out w4 hb4)
  clear FI RF R3 R4
  go_wp2_with fail
  refine wp_region_quiet_below (by kernel_rfl) (by kernel_rfl) ?_
  repeat (go_big_quiet_step (first | exact D1.out _ _ | exact D2.out _ _))
  refine wpQuiet_nil ?_
  intro _ hw'
  obtain ⟨⟨dq, osq⟩, hw''⟩ := hw'
  subst hw''
  go_wp2
  go_ret
  exact ⟨rfl, below_next hb4 (below_regrown _ dq osq)⟩
theorem writes_walk (V : MoV) (M : Mo) (w : World) (hL : Laid w) (h : IsMo w.heap.size w V M) (hd : ∀ d ∈ M.data, d.bytes.length ≤ 9000000) :
    Calls Tryz.prog 3 #[moV V M] w fun e w' => e = .returned (.bool true) ∧ Below w.heap.size w w' := by
  by_cases hf : fitE M = 0
  · by_cases hl : 4000 < (encM M).length
    · exact writes_long V M w hL h hd hf hl
    · exact writes_ok V M w hL h hd hf hl
  · exact writes_no V M w hL h hf
end Go.Proofs.YtcbfpikggphokaaGreatDoor
