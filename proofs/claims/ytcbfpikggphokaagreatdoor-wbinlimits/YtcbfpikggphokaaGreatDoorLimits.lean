/-
  With one more of something than there may be a module does not fit, whatever else it has: the walk of the statement WbinLimits, for every module and every number.
-/
import Derived.Test.YtcbfpikggphokaaGreatDoorEx2
import Derived.Laws.MakeOwn
namespace Go.Proofs.YtcbfpikggphokaaGreatDoor
open Go.RowKit

/-- A slice of so many of nothing, in a new block. -/
def Made (t : TypeId) (k : Int) (n : Nat) (o : Obj) : Prop := ∀ w : World, (Instr.makeSlice t (.int .i64 k) (.int .i64 k)).run Tryz.prog w = .ok (.slice (some ⟨w.heap.size, 0, none⟩) n n) (w.alloc o)
theorem made22 : ∃ o, Made 22 17 17 o := ⟨.cells (madeCells #[.slice none 0 0, .slice none 0 0] 34) 64, fun w => by kernel_rfl⟩
theorem made23 : ∃ o, Made 23 9 9 o := ⟨.cells (madeCells #[.int .i64 0] 9) 3, fun w => by kernel_rfl⟩
theorem made24 : ∃ o, Made 24 9 9 o := ⟨.cells (madeCells #[.int .i64 0, .bool false, .slice none 0 0, .slice none 0 0] 36) 50, fun w => by kernel_rfl⟩
theorem made26 : ∃ o, Made 26 9 9 o := ⟨.cells (madeCells #[.int .i64 0, .int .i64 0] 18) 70, fun w => by kernel_rfl⟩
theorem made27 : ∃ o, Made 27 9 9 o := ⟨.cells (madeCells #[.int .i64 0, .int .i64 0, .string ⟨#[]⟩] 27) 73, fun w => by kernel_rfl⟩
set_option maxHeartbeats 800000 in
theorem small_big (a0 a1 a2 a5 a6 : Option Addr) (n0 n1 n2 n5 n6 c0 c1 c2 c5 c6 : Nat) (m0 m1 : Int) (w : World) (hb : ¬ (n0 ≤ 16 ∧ n1 ≤ 8 ∧ n2 ≤ 8 ∧ n5 ≤ 8 ∧ n6 ≤ 8)) :
    Calls Tryz.prog 37 #[.agg #[.slice a0 n0 c0, .slice a1 n1 c1, .slice a2 n2 c2, .int .i64 m0, .int .i64 m1, .slice a5 n5 c5, .slice a6 n6 c6]] w fun e w' => e = .returned (.bool false) ∧ Below w.heap.size w w' := by
  by_cases h0 : n0 ≤ 16
  · have g0 : (n0 : Int) ≤ 16 := by omega
    by_cases h1 : n1 ≤ 8
    · have g1 : (n1 : Int) ≤ 8 := by omega
      by_cases h2 : n2 ≤ 8
      · have g2 : (n2 : Int) ≤ 8 := by omega
        by_cases h3 : n5 ≤ 8
        · have g3 : (n5 : Int) ≤ 8 := by omega
          by_cases h4 : n6 ≤ 8
          · have g4 : (n6 : Int) ≤ 8 := by omega
            exact absurd ⟨h0, h1, h2, h3, h4⟩ hb
          · have g4 : ¬ (n6 : Int) ≤ 8 := by omega
            clear hb h0 h1 h2 h3 h4
            go_enter Tryz.func37, Tryz.ntmps37
            go_wp2_with fail
            go_ret
            exact ⟨rfl, bel_one _ _⟩
        · have g3 : ¬ (n5 : Int) ≤ 8 := by omega
          clear hb h0 h1 h2 h3
          go_enter Tryz.func37, Tryz.ntmps37
          go_wp2_with fail
          go_ret
          exact ⟨rfl, bel_one _ _⟩
      · have g2 : ¬ (n2 : Int) ≤ 8 := by omega
        clear hb h0 h1 h2
        go_enter Tryz.func37, Tryz.ntmps37
        go_wp2_with fail
        go_ret
        exact ⟨rfl, bel_one _ _⟩
    · have g1 : ¬ (n1 : Int) ≤ 8 := by omega
      clear hb h0 h1
      go_enter Tryz.func37, Tryz.ntmps37
      go_wp2_with fail
      go_ret
      exact ⟨rfl, bel_one _ _⟩
  · have g0 : ¬ (n0 : Int) ≤ 16 := by omega
    clear hb h0
    go_enter Tryz.func37, Tryz.ntmps37
    go_wp2_with fail
    go_ret
    exact ⟨rfl, bel_one _ _⟩
theorem misfit_big (a0 a1 a2 a5 a6 : Option Addr) (n0 n1 n2 n5 n6 c0 c1 c2 c5 c6 : Nat) (m0 m1 : Int) (w : World) (hb : ¬ (n0 ≤ 16 ∧ n1 ≤ 8 ∧ n2 ≤ 8 ∧ n5 ≤ 8 ∧ n6 ≤ 8)) :
    Calls Tryz.prog 19 #[.agg #[.slice a0 n0 c0, .slice a1 n1 c1, .slice a2 n2 c2, .int .i64 m0, .int .i64 m1, .slice a5 n5 c5, .slice a6 n6 c6]] w fun e w' => ∃ p, e = .returned (flt p) ∧ FaultAt w' p 1 0 ∧ w.heap.size ≤ p ∧ Below w.heap.size w w' := by
  have S := hide (small_big a0 a1 a2 a5 a6 n0 n1 n2 n5 n6 c0 c1 c2 c5 c6 m0 m1 (w.alloc (.cells #[.slice a0 n0 c0, .slice a1 n1 c1, .slice a2 n2 c2, .int .i64 m0, .int .i64 m1, .slice a5 n5 c5, .slice a6 n6 c6] 29)) hb)
  have hb0 := bel_one w (.cells #[.slice a0 n0 c0, .slice a1 n1 c1, .slice a2 n2 c2, .int .i64 m0, .int .i64 m1, .slice a5 n5 c5, .slice a6 n6 c6] 29)
  clear hb
  go_enter Tryz.func19, Tryz.ntmps19
  go_wp2_with fail
  refine S.out.mono ?_
  rintro r w1 ⟨rfl, b1⟩
  have hb1 := below_next hb0 b1
  have q1 := hb1.size
  go_wp2_with fail
  refine (fault_any 1 0 _).mono ?_
  rintro r w2 ⟨rfl, f2, b2⟩
  go_wp2_with fail
  go_ret
  exact ⟨_, rfl, f2, q1, below_next hb1 b2⟩
theorem fits_big (a0 a1 a2 a5 a6 : Option Addr) (n0 n1 n2 n5 n6 c0 c1 c2 c5 c6 : Nat) (m0 m1 : Int) (w : World) (hL : Laid w) (hb : ¬ (n0 ≤ 16 ∧ n1 ≤ 8 ∧ n2 ≤ 8 ∧ n5 ≤ 8 ∧ n6 ≤ 8)) :
    Calls Tryz.prog 13 #[.agg #[.slice a0 n0 c0, .slice a1 n1 c1, .slice a2 n2 c2, .int .i64 m0, .int .i64 m1, .slice a5 n5 c5, .slice a6 n6 c6]] w fun e w' => e = .returned (.int .i64 1) ∧ Below w.heap.size w w' := by
  have S := hide (misfit_big a0 a1 a2 a5 a6 n0 n1 n2 n5 n6 c0 c1 c2 c5 c6 m0 m1 (w.alloc (.cells #[.slice a0 n0 c0, .slice a1 n1 c1, .slice a2 n2 c2, .int .i64 m0, .int .i64 m1, .slice a5 n5 c5, .slice a6 n6 c6] 29)) hb)
  have hb0 := bel_one w (.cells #[.slice a0 n0 c0, .slice a1 n1 c1, .slice a2 n2 c2, .int .i64 m0, .int .i64 m1, .slice a5 n5 c5, .slice a6 n6 c6] 29)
  have L0 := hide (hL.kept hb0)
  clear hb hL
  go_enter Tryz.func13, Tryz.ntmps13
  go_wp2_with fail
  refine S.out.mono ?_
  rintro r w1 ⟨p, rfl, f1, _, b1⟩
  have hb1 := below_next hb0 b1
  have KF := hide (kind_fault p _ _ _ (L0.out.kept b1) f1)
  clear f1
  unfold flt at *
  go_wp2_with fail
  refine KF.out.mono ?_
  rintro r w2 ⟨rfl, b2⟩
  go_wp2_with fail
  go_ret
  exact ⟨rfl, below_next hb1 b2⟩
theorem encode_big (a0 a1 a2 a5 a6 : Option Addr) (n0 n1 n2 n5 n6 c0 c1 c2 c5 c6 : Nat) (m0 m1 : Int) (w : World) (hb : ¬ (n0 ≤ 16 ∧ n1 ≤ 8 ∧ n2 ≤ 8 ∧ n5 ≤ 8 ∧ n6 ≤ 8)) :
    Calls Tryz.prog 10 #[.agg #[.slice a0 n0 c0, .slice a1 n1 c1, .slice a2 n2 c2, .int .i64 m0, .int .i64 m1, .slice a5 n5 c5, .slice a6 n6 c6]] w fun e w' => ∃ p, e = .returned (.tuple #[.string (str []), flt p]) ∧ FaultAt w' p 1 0 ∧ Below w.heap.size w w' := by
  have S := hide (misfit_big a0 a1 a2 a5 a6 n0 n1 n2 n5 n6 c0 c1 c2 c5 c6 m0 m1 (w.alloc (.cells #[.slice a0 n0 c0, .slice a1 n1 c1, .slice a2 n2 c2, .int .i64 m0, .int .i64 m1, .slice a5 n5 c5, .slice a6 n6 c6] 29)) hb)
  have hb0 := bel_one w (.cells #[.slice a0 n0 c0, .slice a1 n1 c1, .slice a2 n2 c2, .int .i64 m0, .int .i64 m1, .slice a5 n5 c5, .slice a6 n6 c6] 29)
  clear hb
  go_enter Tryz.func10, Tryz.ntmps10
  go_wp2_with fail
  refine S.out.mono ?_
  rintro r w1 ⟨p, rfl, f1, hp, b1⟩
  have hb1 := below_next hb0 b1
  have F1 := hide f1
  clear f1 hp b1 S
  unfold flt
  go_wp2_with fail
  go_ret2
  exact ⟨p, rfl, F1.out, hb1⟩
theorem tm_neg (how k : Int) (h : how < 0) : (how + 1).tmod k = -((-(how + 1)) % k) := by
  rw [← Int.tmod_eq_emod_of_nonneg (show 0 ≤ -(how + 1) by omega), Int.neg_tmod]; omega
/-- A module that does not fit at all. -/
theorem limits_no (V : MoV) (M : Mo) (how : Int) (w : World) (hL : Laid w) (h : IsMo w.heap.size w V M) (hf : fitE M ≠ 0) :
    Calls Tryz.prog 8 #[moV V M, .int .i64 how] w fun e w' => e = .returned (.bool true) ∧ Below w.heap.size w w' := by
  have HM := hide h
  obtain ⟨a0, k0, a1, k1, a2, k2, a5, k5, a6, k6, rfl⟩ := h.forms
  have hb0 := bel_one w (.cells #[.slice a0 M.sigs.length k0, .slice a1 M.imports.length k1, .slice a2 M.funcs.length k2, .int .i64 M.m0, .int .i64 M.m1, .slice a5 M.globals.length k5, .slice a6 M.data.length k6] 29)
  have R0 := hide (Row.made w #[.slice a0 M.sigs.length k0, .slice a1 M.imports.length k1, .slice a2 M.funcs.length k2, .int .i64 M.m0, .int .i64 M.m1, .slice a5 M.globals.length k5, .slice a6 M.data.length k6] 29)
  have EX := hide (examples_any _ (hL.kept hb0))
  have FI := hide (fun w1 (b1 : Below w.heap.size w w1) => fits_any _ M w1 (hL.kept b1) (HM.out.step b1 b1.size))
  have z : (fitE M != 0) = true := by simpa using hf
  clear h hf HM hL
  unfold moV at *
  dsimp only at *
  go_enter Tryz.func8, Tryz.ntmps8
  go_wp2_with fail
  refine EX.out.mono ?_
  rintro r w1 ⟨rfl, b1⟩
  have hb1 := below_next hb0 b1
  have R1 := hide (R0.out.kept b1)
  have c0 := R1.out.c 0 _ rfl
  have c1 := R1.out.c 1 _ rfl
  have c2 := R1.out.c 2 _ rfl
  have c3 := R1.out.c 3 _ rfl
  have c4 := R1.out.c 4 _ rfl
  have c5 := R1.out.c 5 _ rfl
  have c6 := R1.out.c 6 _ rfl
  have F1 := hide (FI.out w1 hb1)
  clear b1 EX R0 FI
  go_wp2_with fail
  refine F1.out.mono ?_
  rintro r w2 ⟨rfl, b2⟩
  have hb2 := below_next hb1 b2
  clear b2 F1
  go_wp2_with fail
  go_ret
  exact ⟨rfl, hb2⟩
set_option maxRecDepth 100000 in
set_option maxHeartbeats 1600000 in
theorem limits_p0 (V : MoV) (M : Mo) (how : Int) (w : World) (hL : Laid w) (h : IsMo w.heap.size w V M) (hf : fitE M = 0) (hn : ¬ how < 0) (hm : how.tmod 6 = 0) :
    Calls Tryz.prog 8 #[moV V M, .int .i64 how] w fun e w' => e = .returned (.bool true) ∧ Below w.heap.size w w' := by
  have HM := hide h
  obtain ⟨a0, k0, a1, k1, a2, k2, a5, k5, a6, k6, rfl⟩ := h.forms
  have hb0 := bel_one w (.cells #[.slice a0 M.sigs.length k0, .slice a1 M.imports.length k1, .slice a2 M.funcs.length k2, .int .i64 M.m0, .int .i64 M.m1, .slice a5 M.globals.length k5, .slice a6 M.data.length k6] 29)
  have R0 := hide (Row.made w #[.slice a0 M.sigs.length k0, .slice a1 M.imports.length k1, .slice a2 M.funcs.length k2, .int .i64 M.m0, .int .i64 M.m1, .slice a5 M.globals.length k5, .slice a6 M.data.length k6] 29)
  have EX := hide (examples_any _ (hL.kept hb0))
  have LW := hide hL
  have FI := hide (fun w1 (b1 : Below w.heap.size w w1) => fits_any _ M w1 (hL.kept b1) (HM.out.step b1 b1.size))
  rw [hf] at FI
  clear h hf hL
  unfold moV at *
  dsimp only at *
  go_enter Tryz.func8, Tryz.ntmps8
  go_wp2_with fail
  refine EX.out.mono ?_
  rintro r w1 ⟨rfl, b1⟩
  have hb1 := below_next hb0 b1
  have R1 := hide (R0.out.kept b1)
  have c0 := R1.out.c 0 _ rfl
  have c1 := R1.out.c 1 _ rfl
  have c2 := R1.out.c 2 _ rfl
  have c3 := R1.out.c 3 _ rfl
  have c4 := R1.out.c 4 _ rfl
  have c5 := R1.out.c 5 _ rfl
  have c6 := R1.out.c 6 _ rfl
  have F1 := hide (FI.out w1 hb1)
  clear b1 EX R0 FI
  go_wp2_with fail
  refine F1.out.mono ?_
  rintro r w2 ⟨rfl, b2⟩
  have hb2 := below_next hb1 b2
  have R2 := hide (R1.out.kept b2)
  clear b2 F1 R1 
  have d0 := R2.out.c 0 _ rfl
  have d1 := R2.out.c 1 _ rfl
  have d2 := R2.out.c 2 _ rfl
  have d3 := R2.out.c 3 _ rfl
  have d4 := R2.out.c 4 _ rfl
  have d5 := R2.out.c 5 _ rfl
  have d6 := R2.out.c 6 _ rfl
  obtain ⟨ob, hob⟩ := made22
  have ho := hob (w2.alloc (.cells #[.slice a0 M.sigs.length k0, .slice a1 M.imports.length k1, .slice a2 M.funcs.length k2, .int .i64 M.m0, .int .i64 M.m1, .slice a5 M.globals.length k5, .slice a6 M.data.length k6] 29))
  have e3 : (w2.alloc (.cells #[.slice a0 M.sigs.length k0, .slice a1 M.imports.length k1, .slice a2 M.funcs.length k2, .int .i64 M.m0, .int .i64 M.m1, .slice a5 M.globals.length k5, .slice a6 M.data.length k6] 29)).heap.size = w2.heap.size + 1 := by simp
  rw [e3] at ho
  have R3 := hide ((Row.made w2 #[.slice (some ⟨w2.heap.size + 1, 0, none⟩) 17 17, .slice a1 M.imports.length k1, .slice a2 M.funcs.length k2, .int .i64 M.m0, .int .i64 M.m1, .slice a5 M.globals.length k5, .slice a6 M.data.length k6] 29).alloc ob)
  have b3 := (bel_one w2 (.cells #[.slice (some ⟨w2.heap.size + 1, 0, none⟩) 17 17, .slice a1 M.imports.length k1, .slice a2 M.funcs.length k2, .int .i64 M.m0, .int .i64 M.m1, .slice a5 M.globals.length k5, .slice a6 M.data.length k6] 29)).alloc (by simp) ob
  have hb3 := below_next hb2 b3
  have L3 := LW.out.kept hb3
  have EB := hide (encode_big (some ⟨w2.heap.size + 1, 0, none⟩) a1 a2 a5 a6 17 M.imports.length M.funcs.length M.globals.length M.data.length 17 k1 k2 k5 k6 M.m0 M.m1 · (by omega))
  have FB := hide (fun w1 (b1 : Below w.heap.size w w1) => fits_big (some ⟨w2.heap.size + 1, 0, none⟩) a1 a2 a5 a6 17 M.imports.length M.funcs.length M.globals.length M.data.length 17 k1 k2 k5 k6 M.m0 M.m1 w1 (LW.out.kept b1) (by omega))
  clear b3 e3 hob L3
  clear c0 c1 c2 c3 c4 c5 c6 R2
  go_wp2_with fail
  refine (EB.out _).mono ?_
  rintro r w4 ⟨p, rfl, f4, b4⟩
  have hb4 := below_next hb3 b4
  have R4 := hide (R3.out.kept b4)
  have TF := hide (told_fault p 1 0 w4 (LW.out.kept hb4) f4 (by decide))
  clear b4 f4 EB R3
  unfold flt at *
  go_wp2_with fail
  refine TF.out.mono ?_
  rintro r w5 ⟨rfl, b5⟩
  have hb5 := below_next hb4 b5
  have R5 := hide (R4.out.kept b5)
  have y0 := R5.out.c 0 (.slice (some ⟨w2.heap.size + 1, 0, none⟩) 17 17) rfl
  have y1 := R5.out.c 1 (.slice a1 M.imports.length k1) rfl
  have y2 := R5.out.c 2 (.slice a2 M.funcs.length k2) rfl
  have y3 := R5.out.c 3 (.int .i64 M.m0) rfl
  have y4 := R5.out.c 4 (.int .i64 M.m1) rfl
  have y5 := R5.out.c 5 (.slice a5 M.globals.length k5) rfl
  have y6 := R5.out.c 6 (.slice a6 M.data.length k6) rfl
  have FB5 := hide (FB.out w5 hb5)
  clear b5 TF FB R4
  go_wp2_with fail
  refine FB5.out.mono ?_
  rintro r w6 ⟨rfl, b6⟩
  have hb6 := below_next hb5 b6
  clear b6 FB5
  go_wp2_with fail
  go_ret
  exact ⟨rfl, hb6⟩
set_option maxRecDepth 100000 in
set_option maxHeartbeats 1600000 in
theorem limits_p1 (V : MoV) (M : Mo) (how : Int) (w : World) (hL : Laid w) (h : IsMo w.heap.size w V M) (hf : fitE M = 0) (hn : ¬ how < 0) (hm : how.tmod 6 = 1) :
    Calls Tryz.prog 8 #[moV V M, .int .i64 how] w fun e w' => e = .returned (.bool true) ∧ Below w.heap.size w w' := by
  have HM := hide h
  obtain ⟨a0, k0, a1, k1, a2, k2, a5, k5, a6, k6, rfl⟩ := h.forms
  have hb0 := bel_one w (.cells #[.slice a0 M.sigs.length k0, .slice a1 M.imports.length k1, .slice a2 M.funcs.length k2, .int .i64 M.m0, .int .i64 M.m1, .slice a5 M.globals.length k5, .slice a6 M.data.length k6] 29)
  have R0 := hide (Row.made w #[.slice a0 M.sigs.length k0, .slice a1 M.imports.length k1, .slice a2 M.funcs.length k2, .int .i64 M.m0, .int .i64 M.m1, .slice a5 M.globals.length k5, .slice a6 M.data.length k6] 29)
  have EX := hide (examples_any _ (hL.kept hb0))
  have LW := hide hL
  have FI := hide (fun w1 (b1 : Below w.heap.size w w1) => fits_any _ M w1 (hL.kept b1) (HM.out.step b1 b1.size))
  rw [hf] at FI
  clear h hf hL
  unfold moV at *
  dsimp only at *
  go_enter Tryz.func8, Tryz.ntmps8
  go_wp2_with fail
  refine EX.out.mono ?_
  rintro r w1 ⟨rfl, b1⟩
  have hb1 := below_next hb0 b1
  have R1 := hide (R0.out.kept b1)
  have c0 := R1.out.c 0 _ rfl
  have c1 := R1.out.c 1 _ rfl
  have c2 := R1.out.c 2 _ rfl
  have c3 := R1.out.c 3 _ rfl
  have c4 := R1.out.c 4 _ rfl
  have c5 := R1.out.c 5 _ rfl
  have c6 := R1.out.c 6 _ rfl
  have F1 := hide (FI.out w1 hb1)
  clear b1 EX R0 FI
  go_wp2_with fail
  refine F1.out.mono ?_
  rintro r w2 ⟨rfl, b2⟩
  have hb2 := below_next hb1 b2
  have R2 := hide (R1.out.kept b2)
  clear b2 F1 R1 
  have d0 := R2.out.c 0 _ rfl
  have d1 := R2.out.c 1 _ rfl
  have d2 := R2.out.c 2 _ rfl
  have d3 := R2.out.c 3 _ rfl
  have d4 := R2.out.c 4 _ rfl
  have d5 := R2.out.c 5 _ rfl
  have d6 := R2.out.c 6 _ rfl
  obtain ⟨ob, hob⟩ := made23
  have ho := hob (w2.alloc (.cells #[.slice a0 M.sigs.length k0, .slice a1 M.imports.length k1, .slice a2 M.funcs.length k2, .int .i64 M.m0, .int .i64 M.m1, .slice a5 M.globals.length k5, .slice a6 M.data.length k6] 29))
  have e3 : (w2.alloc (.cells #[.slice a0 M.sigs.length k0, .slice a1 M.imports.length k1, .slice a2 M.funcs.length k2, .int .i64 M.m0, .int .i64 M.m1, .slice a5 M.globals.length k5, .slice a6 M.data.length k6] 29)).heap.size = w2.heap.size + 1 := by simp
  rw [e3] at ho
  have R3 := hide ((Row.made w2 #[.slice a0 M.sigs.length k0, .slice (some ⟨w2.heap.size + 1, 0, none⟩) 9 9, .slice a2 M.funcs.length k2, .int .i64 M.m0, .int .i64 M.m1, .slice a5 M.globals.length k5, .slice a6 M.data.length k6] 29).alloc ob)
  have b3 := (bel_one w2 (.cells #[.slice a0 M.sigs.length k0, .slice (some ⟨w2.heap.size + 1, 0, none⟩) 9 9, .slice a2 M.funcs.length k2, .int .i64 M.m0, .int .i64 M.m1, .slice a5 M.globals.length k5, .slice a6 M.data.length k6] 29)).alloc (by simp) ob
  have hb3 := below_next hb2 b3
  have L3 := LW.out.kept hb3
  have EB := hide (encode_big a0 (some ⟨w2.heap.size + 1, 0, none⟩) a2 a5 a6 M.sigs.length 9 M.funcs.length M.globals.length M.data.length k0 9 k2 k5 k6 M.m0 M.m1 · (by omega))
  have FB := hide (fun w1 (b1 : Below w.heap.size w w1) => fits_big a0 (some ⟨w2.heap.size + 1, 0, none⟩) a2 a5 a6 M.sigs.length 9 M.funcs.length M.globals.length M.data.length k0 9 k2 k5 k6 M.m0 M.m1 w1 (LW.out.kept b1) (by omega))
  clear b3 e3 hob L3
  clear c0 c1 c2 c3 c4 c5 c6 R2
  go_wp2_with fail
  refine (EB.out _).mono ?_
  rintro r w4 ⟨p, rfl, f4, b4⟩
  have hb4 := below_next hb3 b4
  have R4 := hide (R3.out.kept b4)
  have TF := hide (told_fault p 1 0 w4 (LW.out.kept hb4) f4 (by decide))
  clear b4 f4 EB R3
  unfold flt at *
  go_wp2_with fail
  refine TF.out.mono ?_
  rintro r w5 ⟨rfl, b5⟩
  have hb5 := below_next hb4 b5
  have R5 := hide (R4.out.kept b5)
  have y0 := R5.out.c 0 (.slice a0 M.sigs.length k0) rfl
  have y1 := R5.out.c 1 (.slice (some ⟨w2.heap.size + 1, 0, none⟩) 9 9) rfl
  have y2 := R5.out.c 2 (.slice a2 M.funcs.length k2) rfl
  have y3 := R5.out.c 3 (.int .i64 M.m0) rfl
  have y4 := R5.out.c 4 (.int .i64 M.m1) rfl
  have y5 := R5.out.c 5 (.slice a5 M.globals.length k5) rfl
  have y6 := R5.out.c 6 (.slice a6 M.data.length k6) rfl
  have FB5 := hide (FB.out w5 hb5)
  clear b5 TF FB R4
  go_wp2_with fail
  refine FB5.out.mono ?_
  rintro r w6 ⟨rfl, b6⟩
  have hb6 := below_next hb5 b6
  clear b6 FB5
  go_wp2_with fail
  go_ret
  exact ⟨rfl, hb6⟩
set_option maxRecDepth 100000 in
set_option maxHeartbeats 1600000 in
theorem limits_p2 (V : MoV) (M : Mo) (how : Int) (w : World) (hL : Laid w) (h : IsMo w.heap.size w V M) (hf : fitE M = 0) (hn : ¬ how < 0) (hm : how.tmod 6 = 2) :
    Calls Tryz.prog 8 #[moV V M, .int .i64 how] w fun e w' => e = .returned (.bool true) ∧ Below w.heap.size w w' := by
  have HM := hide h
  obtain ⟨a0, k0, a1, k1, a2, k2, a5, k5, a6, k6, rfl⟩ := h.forms
  have hb0 := bel_one w (.cells #[.slice a0 M.sigs.length k0, .slice a1 M.imports.length k1, .slice a2 M.funcs.length k2, .int .i64 M.m0, .int .i64 M.m1, .slice a5 M.globals.length k5, .slice a6 M.data.length k6] 29)
  have R0 := hide (Row.made w #[.slice a0 M.sigs.length k0, .slice a1 M.imports.length k1, .slice a2 M.funcs.length k2, .int .i64 M.m0, .int .i64 M.m1, .slice a5 M.globals.length k5, .slice a6 M.data.length k6] 29)
  have EX := hide (examples_any _ (hL.kept hb0))
  have LW := hide hL
  have FI := hide (fun w1 (b1 : Below w.heap.size w w1) => fits_any _ M w1 (hL.kept b1) (HM.out.step b1 b1.size))
  rw [hf] at FI
  clear h hf hL
  unfold moV at *
  dsimp only at *
  go_enter Tryz.func8, Tryz.ntmps8
  go_wp2_with fail
  refine EX.out.mono ?_
  rintro r w1 ⟨rfl, b1⟩
  have hb1 := below_next hb0 b1
  have R1 := hide (R0.out.kept b1)
  have c0 := R1.out.c 0 _ rfl
  have c1 := R1.out.c 1 _ rfl
  have c2 := R1.out.c 2 _ rfl
  have c3 := R1.out.c 3 _ rfl
  have c4 := R1.out.c 4 _ rfl
  have c5 := R1.out.c 5 _ rfl
  have c6 := R1.out.c 6 _ rfl
  have F1 := hide (FI.out w1 hb1)
  clear b1 EX R0 FI
  go_wp2_with fail
  refine F1.out.mono ?_
  rintro r w2 ⟨rfl, b2⟩
  have hb2 := below_next hb1 b2
  have R2 := hide (R1.out.kept b2)
  clear b2 F1 R1 
  have d0 := R2.out.c 0 _ rfl
  have d1 := R2.out.c 1 _ rfl
  have d2 := R2.out.c 2 _ rfl
  have d3 := R2.out.c 3 _ rfl
  have d4 := R2.out.c 4 _ rfl
  have d5 := R2.out.c 5 _ rfl
  have d6 := R2.out.c 6 _ rfl
  obtain ⟨ob, hob⟩ := made24
  have ho := hob (w2.alloc (.cells #[.slice a0 M.sigs.length k0, .slice a1 M.imports.length k1, .slice a2 M.funcs.length k2, .int .i64 M.m0, .int .i64 M.m1, .slice a5 M.globals.length k5, .slice a6 M.data.length k6] 29))
  have e3 : (w2.alloc (.cells #[.slice a0 M.sigs.length k0, .slice a1 M.imports.length k1, .slice a2 M.funcs.length k2, .int .i64 M.m0, .int .i64 M.m1, .slice a5 M.globals.length k5, .slice a6 M.data.length k6] 29)).heap.size = w2.heap.size + 1 := by simp
  rw [e3] at ho
  have R3 := hide ((Row.made w2 #[.slice a0 M.sigs.length k0, .slice a1 M.imports.length k1, .slice (some ⟨w2.heap.size + 1, 0, none⟩) 9 9, .int .i64 M.m0, .int .i64 M.m1, .slice a5 M.globals.length k5, .slice a6 M.data.length k6] 29).alloc ob)
  have b3 := (bel_one w2 (.cells #[.slice a0 M.sigs.length k0, .slice a1 M.imports.length k1, .slice (some ⟨w2.heap.size + 1, 0, none⟩) 9 9, .int .i64 M.m0, .int .i64 M.m1, .slice a5 M.globals.length k5, .slice a6 M.data.length k6] 29)).alloc (by simp) ob
  have hb3 := below_next hb2 b3
  have L3 := LW.out.kept hb3
  have EB := hide (encode_big a0 a1 (some ⟨w2.heap.size + 1, 0, none⟩) a5 a6 M.sigs.length M.imports.length 9 M.globals.length M.data.length k0 k1 9 k5 k6 M.m0 M.m1 · (by omega))
  have FB := hide (fun w1 (b1 : Below w.heap.size w w1) => fits_big a0 a1 (some ⟨w2.heap.size + 1, 0, none⟩) a5 a6 M.sigs.length M.imports.length 9 M.globals.length M.data.length k0 k1 9 k5 k6 M.m0 M.m1 w1 (LW.out.kept b1) (by omega))
  clear b3 e3 hob L3
  clear c0 c1 c2 c3 c4 c5 c6 R2
  go_wp2_with fail
  refine (EB.out _).mono ?_
  rintro r w4 ⟨p, rfl, f4, b4⟩
  have hb4 := below_next hb3 b4
  have R4 := hide (R3.out.kept b4)
  have TF := hide (told_fault p 1 0 w4 (LW.out.kept hb4) f4 (by decide))
  clear b4 f4 EB R3
  unfold flt at *
  go_wp2_with fail
  refine TF.out.mono ?_
  rintro r w5 ⟨rfl, b5⟩
  have hb5 := below_next hb4 b5
  have R5 := hide (R4.out.kept b5)
  have y0 := R5.out.c 0 (.slice a0 M.sigs.length k0) rfl
  have y1 := R5.out.c 1 (.slice a1 M.imports.length k1) rfl
  have y2 := R5.out.c 2 (.slice (some ⟨w2.heap.size + 1, 0, none⟩) 9 9) rfl
  have y3 := R5.out.c 3 (.int .i64 M.m0) rfl
  have y4 := R5.out.c 4 (.int .i64 M.m1) rfl
  have y5 := R5.out.c 5 (.slice a5 M.globals.length k5) rfl
  have y6 := R5.out.c 6 (.slice a6 M.data.length k6) rfl
  have FB5 := hide (FB.out w5 hb5)
  clear b5 TF FB R4
  go_wp2_with fail
  refine FB5.out.mono ?_
  rintro r w6 ⟨rfl, b6⟩
  have hb6 := below_next hb5 b6
  clear b6 FB5
  go_wp2_with fail
  go_ret
  exact ⟨rfl, hb6⟩
set_option maxRecDepth 100000 in
set_option maxHeartbeats 1600000 in
theorem limits_p3 (V : MoV) (M : Mo) (how : Int) (w : World) (hL : Laid w) (h : IsMo w.heap.size w V M) (hf : fitE M = 0) (hn : ¬ how < 0) (hm : how.tmod 6 = 3) :
    Calls Tryz.prog 8 #[moV V M, .int .i64 how] w fun e w' => e = .returned (.bool true) ∧ Below w.heap.size w w' := by
  have HM := hide h
  obtain ⟨a0, k0, a1, k1, a2, k2, a5, k5, a6, k6, rfl⟩ := h.forms
  have hb0 := bel_one w (.cells #[.slice a0 M.sigs.length k0, .slice a1 M.imports.length k1, .slice a2 M.funcs.length k2, .int .i64 M.m0, .int .i64 M.m1, .slice a5 M.globals.length k5, .slice a6 M.data.length k6] 29)
  have R0 := hide (Row.made w #[.slice a0 M.sigs.length k0, .slice a1 M.imports.length k1, .slice a2 M.funcs.length k2, .int .i64 M.m0, .int .i64 M.m1, .slice a5 M.globals.length k5, .slice a6 M.data.length k6] 29)
  have EX := hide (examples_any _ (hL.kept hb0))
  have LW := hide hL
  have FI := hide (fun w1 (b1 : Below w.heap.size w w1) => fits_any _ M w1 (hL.kept b1) (HM.out.step b1 b1.size))
  rw [hf] at FI
  clear h hf hL
  unfold moV at *
  dsimp only at *
  go_enter Tryz.func8, Tryz.ntmps8
  go_wp2_with fail
  refine EX.out.mono ?_
  rintro r w1 ⟨rfl, b1⟩
  have hb1 := below_next hb0 b1
  have R1 := hide (R0.out.kept b1)
  have c0 := R1.out.c 0 _ rfl
  have c1 := R1.out.c 1 _ rfl
  have c2 := R1.out.c 2 _ rfl
  have c3 := R1.out.c 3 _ rfl
  have c4 := R1.out.c 4 _ rfl
  have c5 := R1.out.c 5 _ rfl
  have c6 := R1.out.c 6 _ rfl
  have F1 := hide (FI.out w1 hb1)
  clear b1 EX R0 FI
  go_wp2_with fail
  refine F1.out.mono ?_
  rintro r w2 ⟨rfl, b2⟩
  have hb2 := below_next hb1 b2
  have R2 := hide (R1.out.kept b2)
  clear b2 F1 R1 
  have d0 := R2.out.c 0 _ rfl
  have d1 := R2.out.c 1 _ rfl
  have d2 := R2.out.c 2 _ rfl
  have d3 := R2.out.c 3 _ rfl
  have d4 := R2.out.c 4 _ rfl
  have d5 := R2.out.c 5 _ rfl
  have d6 := R2.out.c 6 _ rfl
  obtain ⟨ob, hob⟩ := made26
  have ho := hob (w2.alloc (.cells #[.slice a0 M.sigs.length k0, .slice a1 M.imports.length k1, .slice a2 M.funcs.length k2, .int .i64 M.m0, .int .i64 M.m1, .slice a5 M.globals.length k5, .slice a6 M.data.length k6] 29))
  have e3 : (w2.alloc (.cells #[.slice a0 M.sigs.length k0, .slice a1 M.imports.length k1, .slice a2 M.funcs.length k2, .int .i64 M.m0, .int .i64 M.m1, .slice a5 M.globals.length k5, .slice a6 M.data.length k6] 29)).heap.size = w2.heap.size + 1 := by simp
  rw [e3] at ho
  have R3 := hide ((Row.made w2 #[.slice a0 M.sigs.length k0, .slice a1 M.imports.length k1, .slice a2 M.funcs.length k2, .int .i64 M.m0, .int .i64 M.m1, .slice (some ⟨w2.heap.size + 1, 0, none⟩) 9 9, .slice a6 M.data.length k6] 29).alloc ob)
  have b3 := (bel_one w2 (.cells #[.slice a0 M.sigs.length k0, .slice a1 M.imports.length k1, .slice a2 M.funcs.length k2, .int .i64 M.m0, .int .i64 M.m1, .slice (some ⟨w2.heap.size + 1, 0, none⟩) 9 9, .slice a6 M.data.length k6] 29)).alloc (by simp) ob
  have hb3 := below_next hb2 b3
  have L3 := LW.out.kept hb3
  have EB := hide (encode_big a0 a1 a2 (some ⟨w2.heap.size + 1, 0, none⟩) a6 M.sigs.length M.imports.length M.funcs.length 9 M.data.length k0 k1 k2 9 k6 M.m0 M.m1 · (by omega))
  have FB := hide (fun w1 (b1 : Below w.heap.size w w1) => fits_big a0 a1 a2 (some ⟨w2.heap.size + 1, 0, none⟩) a6 M.sigs.length M.imports.length M.funcs.length 9 M.data.length k0 k1 k2 9 k6 M.m0 M.m1 w1 (LW.out.kept b1) (by omega))
  clear b3 e3 hob L3
  clear c0 c1 c2 c3 c4 c5 c6 R2
  go_wp2_with fail
  refine (EB.out _).mono ?_
  rintro r w4 ⟨p, rfl, f4, b4⟩
  have hb4 := below_next hb3 b4
  have R4 := hide (R3.out.kept b4)
  have TF := hide (told_fault p 1 0 w4 (LW.out.kept hb4) f4 (by decide))
  clear b4 f4 EB R3
  unfold flt at *
  go_wp2_with fail
  refine TF.out.mono ?_
  rintro r w5 ⟨rfl, b5⟩
  have hb5 := below_next hb4 b5
  have R5 := hide (R4.out.kept b5)
  have y0 := R5.out.c 0 (.slice a0 M.sigs.length k0) rfl
  have y1 := R5.out.c 1 (.slice a1 M.imports.length k1) rfl
  have y2 := R5.out.c 2 (.slice a2 M.funcs.length k2) rfl
  have y3 := R5.out.c 3 (.int .i64 M.m0) rfl
  have y4 := R5.out.c 4 (.int .i64 M.m1) rfl
  have y5 := R5.out.c 5 (.slice (some ⟨w2.heap.size + 1, 0, none⟩) 9 9) rfl
  have y6 := R5.out.c 6 (.slice a6 M.data.length k6) rfl
  have FB5 := hide (FB.out w5 hb5)
  clear b5 TF FB R4
  go_wp2_with fail
  refine FB5.out.mono ?_
  rintro r w6 ⟨rfl, b6⟩
  have hb6 := below_next hb5 b6
  clear b6 FB5
  go_wp2_with fail
  go_ret
  exact ⟨rfl, hb6⟩
set_option maxRecDepth 100000 in
set_option maxHeartbeats 1600000 in
theorem limits_p4 (V : MoV) (M : Mo) (how : Int) (w : World) (hL : Laid w) (h : IsMo w.heap.size w V M) (hf : fitE M = 0) (hn : ¬ how < 0) (hm : how.tmod 6 = 4) :
    Calls Tryz.prog 8 #[moV V M, .int .i64 how] w fun e w' => e = .returned (.bool true) ∧ Below w.heap.size w w' := by
  have HM := hide h
  obtain ⟨a0, k0, a1, k1, a2, k2, a5, k5, a6, k6, rfl⟩ := h.forms
  have hb0 := bel_one w (.cells #[.slice a0 M.sigs.length k0, .slice a1 M.imports.length k1, .slice a2 M.funcs.length k2, .int .i64 M.m0, .int .i64 M.m1, .slice a5 M.globals.length k5, .slice a6 M.data.length k6] 29)
  have R0 := hide (Row.made w #[.slice a0 M.sigs.length k0, .slice a1 M.imports.length k1, .slice a2 M.funcs.length k2, .int .i64 M.m0, .int .i64 M.m1, .slice a5 M.globals.length k5, .slice a6 M.data.length k6] 29)
  have EX := hide (examples_any _ (hL.kept hb0))
  have LW := hide hL
  have FI := hide (fun w1 (b1 : Below w.heap.size w w1) => fits_any _ M w1 (hL.kept b1) (HM.out.step b1 b1.size))
  rw [hf] at FI
  clear h hf hL
  unfold moV at *
  dsimp only at *
  go_enter Tryz.func8, Tryz.ntmps8
  go_wp2_with fail
  refine EX.out.mono ?_
  rintro r w1 ⟨rfl, b1⟩
  have hb1 := below_next hb0 b1
  have R1 := hide (R0.out.kept b1)
  have c0 := R1.out.c 0 _ rfl
  have c1 := R1.out.c 1 _ rfl
  have c2 := R1.out.c 2 _ rfl
  have c3 := R1.out.c 3 _ rfl
  have c4 := R1.out.c 4 _ rfl
  have c5 := R1.out.c 5 _ rfl
  have c6 := R1.out.c 6 _ rfl
  have F1 := hide (FI.out w1 hb1)
  clear b1 EX R0 FI
  go_wp2_with fail
  refine F1.out.mono ?_
  rintro r w2 ⟨rfl, b2⟩
  have hb2 := below_next hb1 b2
  have R2 := hide (R1.out.kept b2)
  clear b2 F1 R1 
  have d0 := R2.out.c 0 _ rfl
  have d1 := R2.out.c 1 _ rfl
  have d2 := R2.out.c 2 _ rfl
  have d3 := R2.out.c 3 _ rfl
  have d4 := R2.out.c 4 _ rfl
  have d5 := R2.out.c 5 _ rfl
  have d6 := R2.out.c 6 _ rfl
  obtain ⟨ob, hob⟩ := made27
  have ho := hob (w2.alloc (.cells #[.slice a0 M.sigs.length k0, .slice a1 M.imports.length k1, .slice a2 M.funcs.length k2, .int .i64 M.m0, .int .i64 M.m1, .slice a5 M.globals.length k5, .slice a6 M.data.length k6] 29))
  have e3 : (w2.alloc (.cells #[.slice a0 M.sigs.length k0, .slice a1 M.imports.length k1, .slice a2 M.funcs.length k2, .int .i64 M.m0, .int .i64 M.m1, .slice a5 M.globals.length k5, .slice a6 M.data.length k6] 29)).heap.size = w2.heap.size + 1 := by simp
  rw [e3] at ho
  have R3 := hide ((Row.made w2 #[.slice a0 M.sigs.length k0, .slice a1 M.imports.length k1, .slice a2 M.funcs.length k2, .int .i64 M.m0, .int .i64 M.m1, .slice a5 M.globals.length k5, .slice (some ⟨w2.heap.size + 1, 0, none⟩) 9 9] 29).alloc ob)
  have b3 := (bel_one w2 (.cells #[.slice a0 M.sigs.length k0, .slice a1 M.imports.length k1, .slice a2 M.funcs.length k2, .int .i64 M.m0, .int .i64 M.m1, .slice a5 M.globals.length k5, .slice (some ⟨w2.heap.size + 1, 0, none⟩) 9 9] 29)).alloc (by simp) ob
  have hb3 := below_next hb2 b3
  have L3 := LW.out.kept hb3
  have EB := hide (encode_big a0 a1 a2 a5 (some ⟨w2.heap.size + 1, 0, none⟩) M.sigs.length M.imports.length M.funcs.length M.globals.length 9 k0 k1 k2 k5 9 M.m0 M.m1 · (by omega))
  have FB := hide (fun w1 (b1 : Below w.heap.size w w1) => fits_big a0 a1 a2 a5 (some ⟨w2.heap.size + 1, 0, none⟩) M.sigs.length M.imports.length M.funcs.length M.globals.length 9 k0 k1 k2 k5 9 M.m0 M.m1 w1 (LW.out.kept b1) (by omega))
  clear b3 e3 hob L3
  clear c0 c1 c2 c3 c4 c5 c6 R2
  go_wp2_with fail
  refine (EB.out _).mono ?_
  rintro r w4 ⟨p, rfl, f4, b4⟩
  have hb4 := below_next hb3 b4
  have R4 := hide (R3.out.kept b4)
  have TF := hide (told_fault p 1 0 w4 (LW.out.kept hb4) f4 (by decide))
  clear b4 f4 EB R3
  unfold flt at *
  go_wp2_with fail
  refine TF.out.mono ?_
  rintro r w5 ⟨rfl, b5⟩
  have hb5 := below_next hb4 b5
  have R5 := hide (R4.out.kept b5)
  have y0 := R5.out.c 0 (.slice a0 M.sigs.length k0) rfl
  have y1 := R5.out.c 1 (.slice a1 M.imports.length k1) rfl
  have y2 := R5.out.c 2 (.slice a2 M.funcs.length k2) rfl
  have y3 := R5.out.c 3 (.int .i64 M.m0) rfl
  have y4 := R5.out.c 4 (.int .i64 M.m1) rfl
  have y5 := R5.out.c 5 (.slice a5 M.globals.length k5) rfl
  have y6 := R5.out.c 6 (.slice (some ⟨w2.heap.size + 1, 0, none⟩) 9 9) rfl
  have FB5 := hide (FB.out w5 hb5)
  clear b5 TF FB R4
  go_wp2_with fail
  refine FB5.out.mono ?_
  rintro r w6 ⟨rfl, b6⟩
  have hb6 := below_next hb5 b6
  clear b6 FB5
  go_wp2_with fail
  go_ret
  exact ⟨rfl, hb6⟩
set_option maxRecDepth 100000 in
set_option maxHeartbeats 1600000 in
theorem limits_p5 (V : MoV) (M : Mo) (how : Int) (w : World) (hL : Laid w) (h : IsMo w.heap.size w V M) (hf : fitE M = 0) (hn : ¬ how < 0) (hm : how.tmod 6 = 5) :
    Calls Tryz.prog 8 #[moV V M, .int .i64 how] w fun e w' => e = .returned (.bool true) ∧ Below w.heap.size w w' := by
  have HM := hide h
  obtain ⟨a0, k0, a1, k1, a2, k2, a5, k5, a6, k6, rfl⟩ := h.forms
  have hb0 := bel_one w (.cells #[.slice a0 M.sigs.length k0, .slice a1 M.imports.length k1, .slice a2 M.funcs.length k2, .int .i64 M.m0, .int .i64 M.m1, .slice a5 M.globals.length k5, .slice a6 M.data.length k6] 29)
  have R0 := hide (Row.made w #[.slice a0 M.sigs.length k0, .slice a1 M.imports.length k1, .slice a2 M.funcs.length k2, .int .i64 M.m0, .int .i64 M.m1, .slice a5 M.globals.length k5, .slice a6 M.data.length k6] 29)
  have EX := hide (examples_any _ (hL.kept hb0))
  have LW := hide hL
  have FI := hide (fun w1 (b1 : Below w.heap.size w w1) => fits_any _ M w1 (hL.kept b1) (HM.out.step b1 b1.size))
  rw [hf] at FI
  have h13 : fitE { M with m1 := 13 } = 1 := by
    have hs : small { M with m1 := 13 } = false := by simp [small, smMem]
    simp [fitE, hs]
  have IM := hide (fun w1 (b1 : Below w.heap.size w w1) => (show IsMo w1.heap.size w1 _ { M with m1 := 13 } from
    let k := HM.out.step b1 b1.size; ⟨k.sigs, k.imports, k.funcs, ⟨k.mems.1, ⟨show (-9223372036854775808 : Int) ≤ 13 by decide, show (13 : Int) ≤ 9223372036854775807 by decide⟩⟩, k.globals, k.data⟩))
  have hm2 : how.tmod 2 = 1 := by rw [Int.tmod_eq_emod_of_nonneg (by omega)] at hm ⊢; omega
  clear h hf hL
  unfold moV at *
  dsimp only at *
  go_enter Tryz.func8, Tryz.ntmps8
  go_wp2_with fail
  refine EX.out.mono ?_
  rintro r w1 ⟨rfl, b1⟩
  have hb1 := below_next hb0 b1
  have R1 := hide (R0.out.kept b1)
  have c0 := R1.out.c 0 _ rfl
  have c1 := R1.out.c 1 _ rfl
  have c2 := R1.out.c 2 _ rfl
  have c3 := R1.out.c 3 _ rfl
  have c4 := R1.out.c 4 _ rfl
  have c5 := R1.out.c 5 _ rfl
  have c6 := R1.out.c 6 _ rfl
  have F1 := hide (FI.out w1 hb1)
  clear b1 EX R0 FI
  go_wp2_with fail
  refine F1.out.mono ?_
  rintro r w2 ⟨rfl, b2⟩
  have hb2 := below_next hb1 b2
  have R2 := hide (R1.out.kept b2)
  clear b2 F1 R1 
  have d0 := R2.out.c 0 _ rfl
  have d1 := R2.out.c 1 _ rfl
  have d2 := R2.out.c 2 _ rfl
  have d3 := R2.out.c 3 _ rfl
  have d4 := R2.out.c 4 _ rfl
  have d5 := R2.out.c 5 _ rfl
  have d6 := R2.out.c 6 _ rfl
  have R3 := hide (Row.made w2 #[.slice a0 M.sigs.length k0, .slice a1 M.imports.length k1, .slice a2 M.funcs.length k2, .int .i64 M.m0, .int .i64 13, .slice a5 M.globals.length k5, .slice a6 M.data.length k6] 29)
  have b3 := bel_one w2 (.cells #[.slice a0 M.sigs.length k0, .slice a1 M.imports.length k1, .slice a2 M.funcs.length k2, .int .i64 M.m0, .int .i64 13, .slice a5 M.globals.length k5, .slice a6 M.data.length k6] 29)
  have hb3 := below_next hb2 b3
  have EB := hide (fun w1 (b1 : Below w.heap.size w w1) => encode_misfit _ _ w1 (IM.out w1 b1) (by rw [h13]; decide))
  have FB := hide (fun w1 (b1 : Below w.heap.size w w1) => fits_any _ _ w1 (LW.out.kept b1) (IM.out w1 b1))
  rw [h13] at EB FB
  unfold moV at EB FB
  dsimp only at EB FB
  clear b3 h13 IM
  clear c0 c1 c2 c3 c4 c5 c6 R2
  go_wp2_with fail
  refine (EB.out _ hb3).mono ?_
  rintro r w4 ⟨p, rfl, f4, _, b4⟩
  have hb4 := below_next hb3 b4
  have R4 := hide (R3.out.kept b4)
  have TF := hide (told_fault p 1 0 w4 (LW.out.kept hb4) f4 (by decide))
  clear b4 f4 EB R3
  unfold flt at *
  go_wp2_with fail
  refine TF.out.mono ?_
  rintro r w5 ⟨rfl, b5⟩
  have hb5 := below_next hb4 b5
  have R5 := hide (R4.out.kept b5)
  have y0 := R5.out.c 0 (.slice a0 M.sigs.length k0) rfl
  have y1 := R5.out.c 1 (.slice a1 M.imports.length k1) rfl
  have y2 := R5.out.c 2 (.slice a2 M.funcs.length k2) rfl
  have y3 := R5.out.c 3 (.int .i64 M.m0) rfl
  have y4 := R5.out.c 4 (.int .i64 13) rfl
  have y5 := R5.out.c 5 (.slice a5 M.globals.length k5) rfl
  have y6 := R5.out.c 6 (.slice a6 M.data.length k6) rfl
  have FB5 := hide (FB.out w5 hb5)
  clear b5 TF FB R4
  go_wp2_with fail
  refine FB5.out.mono ?_
  rintro r w6 ⟨rfl, b6⟩
  have hb6 := below_next hb5 b6
  clear b6 FB5
  go_wp2_with fail
  go_ret
  exact ⟨rfl, hb6⟩
set_option maxRecDepth 100000 in
set_option maxHeartbeats 1600000 in
theorem limits_n0 (V : MoV) (M : Mo) (how : Int) (w : World) (hL : Laid w) (hh : I64 how) (h : IsMo w.heap.size w V M) (hf : fitE M = 0) (hn : how < 0) (hm : (how + 1).tmod 6 = 0) :
    Calls Tryz.prog 8 #[moV V M, .int .i64 how] w fun e w' => e = .returned (.bool true) ∧ Below w.heap.size w w' := by
  have HM := hide h
  obtain ⟨a0, k0, a1, k1, a2, k2, a5, k5, a6, k6, rfl⟩ := h.forms
  have hb0 := bel_one w (.cells #[.slice a0 M.sigs.length k0, .slice a1 M.imports.length k1, .slice a2 M.funcs.length k2, .int .i64 M.m0, .int .i64 M.m1, .slice a5 M.globals.length k5, .slice a6 M.data.length k6] 29)
  have R0 := hide (Row.made w #[.slice a0 M.sigs.length k0, .slice a1 M.imports.length k1, .slice a2 M.funcs.length k2, .int .i64 M.m0, .int .i64 M.m1, .slice a5 M.globals.length k5, .slice a6 M.data.length k6] 29)
  have EX := hide (examples_any _ (hL.kept hb0))
  have LW := hide hL
  have FI := hide (fun w1 (b1 : Below w.heap.size w w1) => fits_any _ M w1 (hL.kept b1) (HM.out.step b1 b1.size))
  rw [hf] at FI
  have hw1 : wrap64 (how + 1) = how + 1 := by unfold wrap64; unfold I64 at hh; omega
  have hw2 : wrap64 (-(how + 1)) = -(how + 1) := by unfold wrap64; unfold I64 at hh; omega
  clear h hf hh hL
  unfold moV at *
  dsimp only at *
  go_enter Tryz.func8, Tryz.ntmps8
  go_wp2_with fail
  refine EX.out.mono ?_
  rintro r w1 ⟨rfl, b1⟩
  have hb1 := below_next hb0 b1
  have R1 := hide (R0.out.kept b1)
  have c0 := R1.out.c 0 _ rfl
  have c1 := R1.out.c 1 _ rfl
  have c2 := R1.out.c 2 _ rfl
  have c3 := R1.out.c 3 _ rfl
  have c4 := R1.out.c 4 _ rfl
  have c5 := R1.out.c 5 _ rfl
  have c6 := R1.out.c 6 _ rfl
  have F1 := hide (FI.out w1 hb1)
  clear b1 EX R0 FI
  go_wp2_with fail
  refine F1.out.mono ?_
  rintro r w2 ⟨rfl, b2⟩
  have hb2 := below_next hb1 b2
  have R2 := hide (R1.out.kept b2)
  clear b2 F1 R1 
  have d0 := R2.out.c 0 _ rfl
  have d1 := R2.out.c 1 _ rfl
  have d2 := R2.out.c 2 _ rfl
  have d3 := R2.out.c 3 _ rfl
  have d4 := R2.out.c 4 _ rfl
  have d5 := R2.out.c 5 _ rfl
  have d6 := R2.out.c 6 _ rfl
  obtain ⟨ob, hob⟩ := made22
  have ho := hob (w2.alloc (.cells #[.slice a0 M.sigs.length k0, .slice a1 M.imports.length k1, .slice a2 M.funcs.length k2, .int .i64 M.m0, .int .i64 M.m1, .slice a5 M.globals.length k5, .slice a6 M.data.length k6] 29))
  have e3 : (w2.alloc (.cells #[.slice a0 M.sigs.length k0, .slice a1 M.imports.length k1, .slice a2 M.funcs.length k2, .int .i64 M.m0, .int .i64 M.m1, .slice a5 M.globals.length k5, .slice a6 M.data.length k6] 29)).heap.size = w2.heap.size + 1 := by simp
  rw [e3] at ho
  have R3 := hide ((Row.made w2 #[.slice (some ⟨w2.heap.size + 1, 0, none⟩) 17 17, .slice a1 M.imports.length k1, .slice a2 M.funcs.length k2, .int .i64 M.m0, .int .i64 M.m1, .slice a5 M.globals.length k5, .slice a6 M.data.length k6] 29).alloc ob)
  have b3 := (bel_one w2 (.cells #[.slice (some ⟨w2.heap.size + 1, 0, none⟩) 17 17, .slice a1 M.imports.length k1, .slice a2 M.funcs.length k2, .int .i64 M.m0, .int .i64 M.m1, .slice a5 M.globals.length k5, .slice a6 M.data.length k6] 29)).alloc (by simp) ob
  have hb3 := below_next hb2 b3
  have L3 := LW.out.kept hb3
  have EB := hide (encode_big (some ⟨w2.heap.size + 1, 0, none⟩) a1 a2 a5 a6 17 M.imports.length M.funcs.length M.globals.length M.data.length 17 k1 k2 k5 k6 M.m0 M.m1 · (by omega))
  have FB := hide (fun w1 (b1 : Below w.heap.size w w1) => fits_big (some ⟨w2.heap.size + 1, 0, none⟩) a1 a2 a5 a6 17 M.imports.length M.funcs.length M.globals.length M.data.length 17 k1 k2 k5 k6 M.m0 M.m1 w1 (LW.out.kept b1) (by omega))
  clear b3 e3 hob L3
  clear c0 c1 c2 c3 c4 c5 c6 R2
  go_wp2_with fail
  refine (EB.out _).mono ?_
  rintro r w4 ⟨p, rfl, f4, b4⟩
  have hb4 := below_next hb3 b4
  have R4 := hide (R3.out.kept b4)
  have TF := hide (told_fault p 1 0 w4 (LW.out.kept hb4) f4 (by decide))
  clear b4 f4 EB R3
  unfold flt at *
  go_wp2_with fail
  refine TF.out.mono ?_
  rintro r w5 ⟨rfl, b5⟩
  have hb5 := below_next hb4 b5
  have R5 := hide (R4.out.kept b5)
  have y0 := R5.out.c 0 (.slice (some ⟨w2.heap.size + 1, 0, none⟩) 17 17) rfl
  have y1 := R5.out.c 1 (.slice a1 M.imports.length k1) rfl
  have y2 := R5.out.c 2 (.slice a2 M.funcs.length k2) rfl
  have y3 := R5.out.c 3 (.int .i64 M.m0) rfl
  have y4 := R5.out.c 4 (.int .i64 M.m1) rfl
  have y5 := R5.out.c 5 (.slice a5 M.globals.length k5) rfl
  have y6 := R5.out.c 6 (.slice a6 M.data.length k6) rfl
  have FB5 := hide (FB.out w5 hb5)
  clear b5 TF FB R4
  go_wp2_with fail
  refine FB5.out.mono ?_
  rintro r w6 ⟨rfl, b6⟩
  have hb6 := below_next hb5 b6
  clear b6 FB5
  go_wp2_with fail
  go_ret
  exact ⟨rfl, hb6⟩
set_option maxRecDepth 100000 in
set_option maxHeartbeats 1600000 in
theorem limits_n1 (V : MoV) (M : Mo) (how : Int) (w : World) (hL : Laid w) (hh : I64 how) (h : IsMo w.heap.size w V M) (hf : fitE M = 0) (hn : how < 0) (hm : (how + 1).tmod 6 = -1) :
    Calls Tryz.prog 8 #[moV V M, .int .i64 how] w fun e w' => e = .returned (.bool true) ∧ Below w.heap.size w w' := by
  have HM := hide h
  obtain ⟨a0, k0, a1, k1, a2, k2, a5, k5, a6, k6, rfl⟩ := h.forms
  have hb0 := bel_one w (.cells #[.slice a0 M.sigs.length k0, .slice a1 M.imports.length k1, .slice a2 M.funcs.length k2, .int .i64 M.m0, .int .i64 M.m1, .slice a5 M.globals.length k5, .slice a6 M.data.length k6] 29)
  have R0 := hide (Row.made w #[.slice a0 M.sigs.length k0, .slice a1 M.imports.length k1, .slice a2 M.funcs.length k2, .int .i64 M.m0, .int .i64 M.m1, .slice a5 M.globals.length k5, .slice a6 M.data.length k6] 29)
  have EX := hide (examples_any _ (hL.kept hb0))
  have LW := hide hL
  have FI := hide (fun w1 (b1 : Below w.heap.size w w1) => fits_any _ M w1 (hL.kept b1) (HM.out.step b1 b1.size))
  rw [hf] at FI
  have hw1 : wrap64 (how + 1) = how + 1 := by unfold wrap64; unfold I64 at hh; omega
  have hw2 : wrap64 (-(how + 1)) = -(how + 1) := by unfold wrap64; unfold I64 at hh; omega
  clear h hf hh hL
  unfold moV at *
  dsimp only at *
  go_enter Tryz.func8, Tryz.ntmps8
  go_wp2_with fail
  refine EX.out.mono ?_
  rintro r w1 ⟨rfl, b1⟩
  have hb1 := below_next hb0 b1
  have R1 := hide (R0.out.kept b1)
  have c0 := R1.out.c 0 _ rfl
  have c1 := R1.out.c 1 _ rfl
  have c2 := R1.out.c 2 _ rfl
  have c3 := R1.out.c 3 _ rfl
  have c4 := R1.out.c 4 _ rfl
  have c5 := R1.out.c 5 _ rfl
  have c6 := R1.out.c 6 _ rfl
  have F1 := hide (FI.out w1 hb1)
  clear b1 EX R0 FI
  go_wp2_with fail
  refine F1.out.mono ?_
  rintro r w2 ⟨rfl, b2⟩
  have hb2 := below_next hb1 b2
  have R2 := hide (R1.out.kept b2)
  clear b2 F1 R1 
  have d0 := R2.out.c 0 _ rfl
  have d1 := R2.out.c 1 _ rfl
  have d2 := R2.out.c 2 _ rfl
  have d3 := R2.out.c 3 _ rfl
  have d4 := R2.out.c 4 _ rfl
  have d5 := R2.out.c 5 _ rfl
  have d6 := R2.out.c 6 _ rfl
  obtain ⟨ob, hob⟩ := made23
  have ho := hob (w2.alloc (.cells #[.slice a0 M.sigs.length k0, .slice a1 M.imports.length k1, .slice a2 M.funcs.length k2, .int .i64 M.m0, .int .i64 M.m1, .slice a5 M.globals.length k5, .slice a6 M.data.length k6] 29))
  have e3 : (w2.alloc (.cells #[.slice a0 M.sigs.length k0, .slice a1 M.imports.length k1, .slice a2 M.funcs.length k2, .int .i64 M.m0, .int .i64 M.m1, .slice a5 M.globals.length k5, .slice a6 M.data.length k6] 29)).heap.size = w2.heap.size + 1 := by simp
  rw [e3] at ho
  have R3 := hide ((Row.made w2 #[.slice a0 M.sigs.length k0, .slice (some ⟨w2.heap.size + 1, 0, none⟩) 9 9, .slice a2 M.funcs.length k2, .int .i64 M.m0, .int .i64 M.m1, .slice a5 M.globals.length k5, .slice a6 M.data.length k6] 29).alloc ob)
  have b3 := (bel_one w2 (.cells #[.slice a0 M.sigs.length k0, .slice (some ⟨w2.heap.size + 1, 0, none⟩) 9 9, .slice a2 M.funcs.length k2, .int .i64 M.m0, .int .i64 M.m1, .slice a5 M.globals.length k5, .slice a6 M.data.length k6] 29)).alloc (by simp) ob
  have hb3 := below_next hb2 b3
  have L3 := LW.out.kept hb3
  have EB := hide (encode_big a0 (some ⟨w2.heap.size + 1, 0, none⟩) a2 a5 a6 M.sigs.length 9 M.funcs.length M.globals.length M.data.length k0 9 k2 k5 k6 M.m0 M.m1 · (by omega))
  have FB := hide (fun w1 (b1 : Below w.heap.size w w1) => fits_big a0 (some ⟨w2.heap.size + 1, 0, none⟩) a2 a5 a6 M.sigs.length 9 M.funcs.length M.globals.length M.data.length k0 9 k2 k5 k6 M.m0 M.m1 w1 (LW.out.kept b1) (by omega))
  clear b3 e3 hob L3
  clear c0 c1 c2 c3 c4 c5 c6 R2
  go_wp2_with fail
  refine (EB.out _).mono ?_
  rintro r w4 ⟨p, rfl, f4, b4⟩
  have hb4 := below_next hb3 b4
  have R4 := hide (R3.out.kept b4)
  have TF := hide (told_fault p 1 0 w4 (LW.out.kept hb4) f4 (by decide))
  clear b4 f4 EB R3
  unfold flt at *
  go_wp2_with fail
  refine TF.out.mono ?_
  rintro r w5 ⟨rfl, b5⟩
  have hb5 := below_next hb4 b5
  have R5 := hide (R4.out.kept b5)
  have y0 := R5.out.c 0 (.slice a0 M.sigs.length k0) rfl
  have y1 := R5.out.c 1 (.slice (some ⟨w2.heap.size + 1, 0, none⟩) 9 9) rfl
  have y2 := R5.out.c 2 (.slice a2 M.funcs.length k2) rfl
  have y3 := R5.out.c 3 (.int .i64 M.m0) rfl
  have y4 := R5.out.c 4 (.int .i64 M.m1) rfl
  have y5 := R5.out.c 5 (.slice a5 M.globals.length k5) rfl
  have y6 := R5.out.c 6 (.slice a6 M.data.length k6) rfl
  have FB5 := hide (FB.out w5 hb5)
  clear b5 TF FB R4
  go_wp2_with fail
  refine FB5.out.mono ?_
  rintro r w6 ⟨rfl, b6⟩
  have hb6 := below_next hb5 b6
  clear b6 FB5
  go_wp2_with fail
  go_ret
  exact ⟨rfl, hb6⟩
set_option maxRecDepth 100000 in
set_option maxHeartbeats 1600000 in
theorem limits_n2 (V : MoV) (M : Mo) (how : Int) (w : World) (hL : Laid w) (hh : I64 how) (h : IsMo w.heap.size w V M) (hf : fitE M = 0) (hn : how < 0) (hm : (how + 1).tmod 6 = -2) :
    Calls Tryz.prog 8 #[moV V M, .int .i64 how] w fun e w' => e = .returned (.bool true) ∧ Below w.heap.size w w' := by
  have HM := hide h
  obtain ⟨a0, k0, a1, k1, a2, k2, a5, k5, a6, k6, rfl⟩ := h.forms
  have hb0 := bel_one w (.cells #[.slice a0 M.sigs.length k0, .slice a1 M.imports.length k1, .slice a2 M.funcs.length k2, .int .i64 M.m0, .int .i64 M.m1, .slice a5 M.globals.length k5, .slice a6 M.data.length k6] 29)
  have R0 := hide (Row.made w #[.slice a0 M.sigs.length k0, .slice a1 M.imports.length k1, .slice a2 M.funcs.length k2, .int .i64 M.m0, .int .i64 M.m1, .slice a5 M.globals.length k5, .slice a6 M.data.length k6] 29)
  have EX := hide (examples_any _ (hL.kept hb0))
  have LW := hide hL
  have FI := hide (fun w1 (b1 : Below w.heap.size w w1) => fits_any _ M w1 (hL.kept b1) (HM.out.step b1 b1.size))
  rw [hf] at FI
  have hw1 : wrap64 (how + 1) = how + 1 := by unfold wrap64; unfold I64 at hh; omega
  have hw2 : wrap64 (-(how + 1)) = -(how + 1) := by unfold wrap64; unfold I64 at hh; omega
  clear h hf hh hL
  unfold moV at *
  dsimp only at *
  go_enter Tryz.func8, Tryz.ntmps8
  go_wp2_with fail
  refine EX.out.mono ?_
  rintro r w1 ⟨rfl, b1⟩
  have hb1 := below_next hb0 b1
  have R1 := hide (R0.out.kept b1)
  have c0 := R1.out.c 0 _ rfl
  have c1 := R1.out.c 1 _ rfl
  have c2 := R1.out.c 2 _ rfl
  have c3 := R1.out.c 3 _ rfl
  have c4 := R1.out.c 4 _ rfl
  have c5 := R1.out.c 5 _ rfl
  have c6 := R1.out.c 6 _ rfl
  have F1 := hide (FI.out w1 hb1)
  clear b1 EX R0 FI
  go_wp2_with fail
  refine F1.out.mono ?_
  rintro r w2 ⟨rfl, b2⟩
  have hb2 := below_next hb1 b2
  have R2 := hide (R1.out.kept b2)
  clear b2 F1 R1 
  have d0 := R2.out.c 0 _ rfl
  have d1 := R2.out.c 1 _ rfl
  have d2 := R2.out.c 2 _ rfl
  have d3 := R2.out.c 3 _ rfl
  have d4 := R2.out.c 4 _ rfl
  have d5 := R2.out.c 5 _ rfl
  have d6 := R2.out.c 6 _ rfl
  obtain ⟨ob, hob⟩ := made24
  have ho := hob (w2.alloc (.cells #[.slice a0 M.sigs.length k0, .slice a1 M.imports.length k1, .slice a2 M.funcs.length k2, .int .i64 M.m0, .int .i64 M.m1, .slice a5 M.globals.length k5, .slice a6 M.data.length k6] 29))
  have e3 : (w2.alloc (.cells #[.slice a0 M.sigs.length k0, .slice a1 M.imports.length k1, .slice a2 M.funcs.length k2, .int .i64 M.m0, .int .i64 M.m1, .slice a5 M.globals.length k5, .slice a6 M.data.length k6] 29)).heap.size = w2.heap.size + 1 := by simp
  rw [e3] at ho
  have R3 := hide ((Row.made w2 #[.slice a0 M.sigs.length k0, .slice a1 M.imports.length k1, .slice (some ⟨w2.heap.size + 1, 0, none⟩) 9 9, .int .i64 M.m0, .int .i64 M.m1, .slice a5 M.globals.length k5, .slice a6 M.data.length k6] 29).alloc ob)
  have b3 := (bel_one w2 (.cells #[.slice a0 M.sigs.length k0, .slice a1 M.imports.length k1, .slice (some ⟨w2.heap.size + 1, 0, none⟩) 9 9, .int .i64 M.m0, .int .i64 M.m1, .slice a5 M.globals.length k5, .slice a6 M.data.length k6] 29)).alloc (by simp) ob
  have hb3 := below_next hb2 b3
  have L3 := LW.out.kept hb3
  have EB := hide (encode_big a0 a1 (some ⟨w2.heap.size + 1, 0, none⟩) a5 a6 M.sigs.length M.imports.length 9 M.globals.length M.data.length k0 k1 9 k5 k6 M.m0 M.m1 · (by omega))
  have FB := hide (fun w1 (b1 : Below w.heap.size w w1) => fits_big a0 a1 (some ⟨w2.heap.size + 1, 0, none⟩) a5 a6 M.sigs.length M.imports.length 9 M.globals.length M.data.length k0 k1 9 k5 k6 M.m0 M.m1 w1 (LW.out.kept b1) (by omega))
  clear b3 e3 hob L3
  clear c0 c1 c2 c3 c4 c5 c6 R2
  go_wp2_with fail
  refine (EB.out _).mono ?_
  rintro r w4 ⟨p, rfl, f4, b4⟩
  have hb4 := below_next hb3 b4
  have R4 := hide (R3.out.kept b4)
  have TF := hide (told_fault p 1 0 w4 (LW.out.kept hb4) f4 (by decide))
  clear b4 f4 EB R3
  unfold flt at *
  go_wp2_with fail
  refine TF.out.mono ?_
  rintro r w5 ⟨rfl, b5⟩
  have hb5 := below_next hb4 b5
  have R5 := hide (R4.out.kept b5)
  have y0 := R5.out.c 0 (.slice a0 M.sigs.length k0) rfl
  have y1 := R5.out.c 1 (.slice a1 M.imports.length k1) rfl
  have y2 := R5.out.c 2 (.slice (some ⟨w2.heap.size + 1, 0, none⟩) 9 9) rfl
  have y3 := R5.out.c 3 (.int .i64 M.m0) rfl
  have y4 := R5.out.c 4 (.int .i64 M.m1) rfl
  have y5 := R5.out.c 5 (.slice a5 M.globals.length k5) rfl
  have y6 := R5.out.c 6 (.slice a6 M.data.length k6) rfl
  have FB5 := hide (FB.out w5 hb5)
  clear b5 TF FB R4
  go_wp2_with fail
  refine FB5.out.mono ?_
  rintro r w6 ⟨rfl, b6⟩
  have hb6 := below_next hb5 b6
  clear b6 FB5
  go_wp2_with fail
  go_ret
  exact ⟨rfl, hb6⟩
set_option maxRecDepth 100000 in
set_option maxHeartbeats 1600000 in
theorem limits_n3 (V : MoV) (M : Mo) (how : Int) (w : World) (hL : Laid w) (hh : I64 how) (h : IsMo w.heap.size w V M) (hf : fitE M = 0) (hn : how < 0) (hm : (how + 1).tmod 6 = -3) :
    Calls Tryz.prog 8 #[moV V M, .int .i64 how] w fun e w' => e = .returned (.bool true) ∧ Below w.heap.size w w' := by
  have HM := hide h
  obtain ⟨a0, k0, a1, k1, a2, k2, a5, k5, a6, k6, rfl⟩ := h.forms
  have hb0 := bel_one w (.cells #[.slice a0 M.sigs.length k0, .slice a1 M.imports.length k1, .slice a2 M.funcs.length k2, .int .i64 M.m0, .int .i64 M.m1, .slice a5 M.globals.length k5, .slice a6 M.data.length k6] 29)
  have R0 := hide (Row.made w #[.slice a0 M.sigs.length k0, .slice a1 M.imports.length k1, .slice a2 M.funcs.length k2, .int .i64 M.m0, .int .i64 M.m1, .slice a5 M.globals.length k5, .slice a6 M.data.length k6] 29)
  have EX := hide (examples_any _ (hL.kept hb0))
  have LW := hide hL
  have FI := hide (fun w1 (b1 : Below w.heap.size w w1) => fits_any _ M w1 (hL.kept b1) (HM.out.step b1 b1.size))
  rw [hf] at FI
  have hw1 : wrap64 (how + 1) = how + 1 := by unfold wrap64; unfold I64 at hh; omega
  have hw2 : wrap64 (-(how + 1)) = -(how + 1) := by unfold wrap64; unfold I64 at hh; omega
  clear h hf hh hL
  unfold moV at *
  dsimp only at *
  go_enter Tryz.func8, Tryz.ntmps8
  go_wp2_with fail
  refine EX.out.mono ?_
  rintro r w1 ⟨rfl, b1⟩
  have hb1 := below_next hb0 b1
  have R1 := hide (R0.out.kept b1)
  have c0 := R1.out.c 0 _ rfl
  have c1 := R1.out.c 1 _ rfl
  have c2 := R1.out.c 2 _ rfl
  have c3 := R1.out.c 3 _ rfl
  have c4 := R1.out.c 4 _ rfl
  have c5 := R1.out.c 5 _ rfl
  have c6 := R1.out.c 6 _ rfl
  have F1 := hide (FI.out w1 hb1)
  clear b1 EX R0 FI
  go_wp2_with fail
  refine F1.out.mono ?_
  rintro r w2 ⟨rfl, b2⟩
  have hb2 := below_next hb1 b2
  have R2 := hide (R1.out.kept b2)
  clear b2 F1 R1 
  have d0 := R2.out.c 0 _ rfl
  have d1 := R2.out.c 1 _ rfl
  have d2 := R2.out.c 2 _ rfl
  have d3 := R2.out.c 3 _ rfl
  have d4 := R2.out.c 4 _ rfl
  have d5 := R2.out.c 5 _ rfl
  have d6 := R2.out.c 6 _ rfl
  obtain ⟨ob, hob⟩ := made26
  have ho := hob (w2.alloc (.cells #[.slice a0 M.sigs.length k0, .slice a1 M.imports.length k1, .slice a2 M.funcs.length k2, .int .i64 M.m0, .int .i64 M.m1, .slice a5 M.globals.length k5, .slice a6 M.data.length k6] 29))
  have e3 : (w2.alloc (.cells #[.slice a0 M.sigs.length k0, .slice a1 M.imports.length k1, .slice a2 M.funcs.length k2, .int .i64 M.m0, .int .i64 M.m1, .slice a5 M.globals.length k5, .slice a6 M.data.length k6] 29)).heap.size = w2.heap.size + 1 := by simp
  rw [e3] at ho
  have R3 := hide ((Row.made w2 #[.slice a0 M.sigs.length k0, .slice a1 M.imports.length k1, .slice a2 M.funcs.length k2, .int .i64 M.m0, .int .i64 M.m1, .slice (some ⟨w2.heap.size + 1, 0, none⟩) 9 9, .slice a6 M.data.length k6] 29).alloc ob)
  have b3 := (bel_one w2 (.cells #[.slice a0 M.sigs.length k0, .slice a1 M.imports.length k1, .slice a2 M.funcs.length k2, .int .i64 M.m0, .int .i64 M.m1, .slice (some ⟨w2.heap.size + 1, 0, none⟩) 9 9, .slice a6 M.data.length k6] 29)).alloc (by simp) ob
  have hb3 := below_next hb2 b3
  have L3 := LW.out.kept hb3
  have EB := hide (encode_big a0 a1 a2 (some ⟨w2.heap.size + 1, 0, none⟩) a6 M.sigs.length M.imports.length M.funcs.length 9 M.data.length k0 k1 k2 9 k6 M.m0 M.m1 · (by omega))
  have FB := hide (fun w1 (b1 : Below w.heap.size w w1) => fits_big a0 a1 a2 (some ⟨w2.heap.size + 1, 0, none⟩) a6 M.sigs.length M.imports.length M.funcs.length 9 M.data.length k0 k1 k2 9 k6 M.m0 M.m1 w1 (LW.out.kept b1) (by omega))
  clear b3 e3 hob L3
  clear c0 c1 c2 c3 c4 c5 c6 R2
  go_wp2_with fail
  refine (EB.out _).mono ?_
  rintro r w4 ⟨p, rfl, f4, b4⟩
  have hb4 := below_next hb3 b4
  have R4 := hide (R3.out.kept b4)
  have TF := hide (told_fault p 1 0 w4 (LW.out.kept hb4) f4 (by decide))
  clear b4 f4 EB R3
  unfold flt at *
  go_wp2_with fail
  refine TF.out.mono ?_
  rintro r w5 ⟨rfl, b5⟩
  have hb5 := below_next hb4 b5
  have R5 := hide (R4.out.kept b5)
  have y0 := R5.out.c 0 (.slice a0 M.sigs.length k0) rfl
  have y1 := R5.out.c 1 (.slice a1 M.imports.length k1) rfl
  have y2 := R5.out.c 2 (.slice a2 M.funcs.length k2) rfl
  have y3 := R5.out.c 3 (.int .i64 M.m0) rfl
  have y4 := R5.out.c 4 (.int .i64 M.m1) rfl
  have y5 := R5.out.c 5 (.slice (some ⟨w2.heap.size + 1, 0, none⟩) 9 9) rfl
  have y6 := R5.out.c 6 (.slice a6 M.data.length k6) rfl
  have FB5 := hide (FB.out w5 hb5)
  clear b5 TF FB R4
  go_wp2_with fail
  refine FB5.out.mono ?_
  rintro r w6 ⟨rfl, b6⟩
  have hb6 := below_next hb5 b6
  clear b6 FB5
  go_wp2_with fail
  go_ret
  exact ⟨rfl, hb6⟩
set_option maxRecDepth 100000 in
set_option maxHeartbeats 1600000 in
theorem limits_n4 (V : MoV) (M : Mo) (how : Int) (w : World) (hL : Laid w) (hh : I64 how) (h : IsMo w.heap.size w V M) (hf : fitE M = 0) (hn : how < 0) (hm : (how + 1).tmod 6 = -4) :
    Calls Tryz.prog 8 #[moV V M, .int .i64 how] w fun e w' => e = .returned (.bool true) ∧ Below w.heap.size w w' := by
  have HM := hide h
  obtain ⟨a0, k0, a1, k1, a2, k2, a5, k5, a6, k6, rfl⟩ := h.forms
  have hb0 := bel_one w (.cells #[.slice a0 M.sigs.length k0, .slice a1 M.imports.length k1, .slice a2 M.funcs.length k2, .int .i64 M.m0, .int .i64 M.m1, .slice a5 M.globals.length k5, .slice a6 M.data.length k6] 29)
  have R0 := hide (Row.made w #[.slice a0 M.sigs.length k0, .slice a1 M.imports.length k1, .slice a2 M.funcs.length k2, .int .i64 M.m0, .int .i64 M.m1, .slice a5 M.globals.length k5, .slice a6 M.data.length k6] 29)
  have EX := hide (examples_any _ (hL.kept hb0))
  have LW := hide hL
  have FI := hide (fun w1 (b1 : Below w.heap.size w w1) => fits_any _ M w1 (hL.kept b1) (HM.out.step b1 b1.size))
  rw [hf] at FI
  have hw1 : wrap64 (how + 1) = how + 1 := by unfold wrap64; unfold I64 at hh; omega
  have hw2 : wrap64 (-(how + 1)) = -(how + 1) := by unfold wrap64; unfold I64 at hh; omega
  clear h hf hh hL
  unfold moV at *
  dsimp only at *
  go_enter Tryz.func8, Tryz.ntmps8
  go_wp2_with fail
  refine EX.out.mono ?_
  rintro r w1 ⟨rfl, b1⟩
  have hb1 := below_next hb0 b1
  have R1 := hide (R0.out.kept b1)
  have c0 := R1.out.c 0 _ rfl
  have c1 := R1.out.c 1 _ rfl
  have c2 := R1.out.c 2 _ rfl
  have c3 := R1.out.c 3 _ rfl
  have c4 := R1.out.c 4 _ rfl
  have c5 := R1.out.c 5 _ rfl
  have c6 := R1.out.c 6 _ rfl
  have F1 := hide (FI.out w1 hb1)
  clear b1 EX R0 FI
  go_wp2_with fail
  refine F1.out.mono ?_
  rintro r w2 ⟨rfl, b2⟩
  have hb2 := below_next hb1 b2
  have R2 := hide (R1.out.kept b2)
  clear b2 F1 R1 
  have d0 := R2.out.c 0 _ rfl
  have d1 := R2.out.c 1 _ rfl
  have d2 := R2.out.c 2 _ rfl
  have d3 := R2.out.c 3 _ rfl
  have d4 := R2.out.c 4 _ rfl
  have d5 := R2.out.c 5 _ rfl
  have d6 := R2.out.c 6 _ rfl
  obtain ⟨ob, hob⟩ := made27
  have ho := hob (w2.alloc (.cells #[.slice a0 M.sigs.length k0, .slice a1 M.imports.length k1, .slice a2 M.funcs.length k2, .int .i64 M.m0, .int .i64 M.m1, .slice a5 M.globals.length k5, .slice a6 M.data.length k6] 29))
  have e3 : (w2.alloc (.cells #[.slice a0 M.sigs.length k0, .slice a1 M.imports.length k1, .slice a2 M.funcs.length k2, .int .i64 M.m0, .int .i64 M.m1, .slice a5 M.globals.length k5, .slice a6 M.data.length k6] 29)).heap.size = w2.heap.size + 1 := by simp
  rw [e3] at ho
  have R3 := hide ((Row.made w2 #[.slice a0 M.sigs.length k0, .slice a1 M.imports.length k1, .slice a2 M.funcs.length k2, .int .i64 M.m0, .int .i64 M.m1, .slice a5 M.globals.length k5, .slice (some ⟨w2.heap.size + 1, 0, none⟩) 9 9] 29).alloc ob)
  have b3 := (bel_one w2 (.cells #[.slice a0 M.sigs.length k0, .slice a1 M.imports.length k1, .slice a2 M.funcs.length k2, .int .i64 M.m0, .int .i64 M.m1, .slice a5 M.globals.length k5, .slice (some ⟨w2.heap.size + 1, 0, none⟩) 9 9] 29)).alloc (by simp) ob
  have hb3 := below_next hb2 b3
  have L3 := LW.out.kept hb3
  have EB := hide (encode_big a0 a1 a2 a5 (some ⟨w2.heap.size + 1, 0, none⟩) M.sigs.length M.imports.length M.funcs.length M.globals.length 9 k0 k1 k2 k5 9 M.m0 M.m1 · (by omega))
  have FB := hide (fun w1 (b1 : Below w.heap.size w w1) => fits_big a0 a1 a2 a5 (some ⟨w2.heap.size + 1, 0, none⟩) M.sigs.length M.imports.length M.funcs.length M.globals.length 9 k0 k1 k2 k5 9 M.m0 M.m1 w1 (LW.out.kept b1) (by omega))
  clear b3 e3 hob L3
  clear c0 c1 c2 c3 c4 c5 c6 R2
  go_wp2_with fail
  refine (EB.out _).mono ?_
  rintro r w4 ⟨p, rfl, f4, b4⟩
  have hb4 := below_next hb3 b4
  have R4 := hide (R3.out.kept b4)
  have TF := hide (told_fault p 1 0 w4 (LW.out.kept hb4) f4 (by decide))
  clear b4 f4 EB R3
  unfold flt at *
  go_wp2_with fail
  refine TF.out.mono ?_
  rintro r w5 ⟨rfl, b5⟩
  have hb5 := below_next hb4 b5
  have R5 := hide (R4.out.kept b5)
  have y0 := R5.out.c 0 (.slice a0 M.sigs.length k0) rfl
  have y1 := R5.out.c 1 (.slice a1 M.imports.length k1) rfl
  have y2 := R5.out.c 2 (.slice a2 M.funcs.length k2) rfl
  have y3 := R5.out.c 3 (.int .i64 M.m0) rfl
  have y4 := R5.out.c 4 (.int .i64 M.m1) rfl
  have y5 := R5.out.c 5 (.slice a5 M.globals.length k5) rfl
  have y6 := R5.out.c 6 (.slice (some ⟨w2.heap.size + 1, 0, none⟩) 9 9) rfl
  have FB5 := hide (FB.out w5 hb5)
  clear b5 TF FB R4
  go_wp2_with fail
  refine FB5.out.mono ?_
  rintro r w6 ⟨rfl, b6⟩
  have hb6 := below_next hb5 b6
  clear b6 FB5
  go_wp2_with fail
  go_ret
  exact ⟨rfl, hb6⟩
set_option maxRecDepth 100000 in
set_option maxHeartbeats 1600000 in
theorem limits_n5 (V : MoV) (M : Mo) (how : Int) (w : World) (hL : Laid w) (hh : I64 how) (h : IsMo w.heap.size w V M) (hf : fitE M = 0) (hn : how < 0) (hm : (how + 1).tmod 6 = -5) :
    Calls Tryz.prog 8 #[moV V M, .int .i64 how] w fun e w' => e = .returned (.bool true) ∧ Below w.heap.size w w' := by
  have HM := hide h
  obtain ⟨a0, k0, a1, k1, a2, k2, a5, k5, a6, k6, rfl⟩ := h.forms
  have hb0 := bel_one w (.cells #[.slice a0 M.sigs.length k0, .slice a1 M.imports.length k1, .slice a2 M.funcs.length k2, .int .i64 M.m0, .int .i64 M.m1, .slice a5 M.globals.length k5, .slice a6 M.data.length k6] 29)
  have R0 := hide (Row.made w #[.slice a0 M.sigs.length k0, .slice a1 M.imports.length k1, .slice a2 M.funcs.length k2, .int .i64 M.m0, .int .i64 M.m1, .slice a5 M.globals.length k5, .slice a6 M.data.length k6] 29)
  have EX := hide (examples_any _ (hL.kept hb0))
  have LW := hide hL
  have FI := hide (fun w1 (b1 : Below w.heap.size w w1) => fits_any _ M w1 (hL.kept b1) (HM.out.step b1 b1.size))
  rw [hf] at FI
  have h13 : fitE { M with m1 := 13 } = 1 := by
    have hs : small { M with m1 := 13 } = false := by simp [small, smMem]
    simp [fitE, hs]
  have IM := hide (fun w1 (b1 : Below w.heap.size w w1) => (show IsMo w1.heap.size w1 _ { M with m1 := 13 } from
    let k := HM.out.step b1 b1.size; ⟨k.sigs, k.imports, k.funcs, ⟨k.mems.1, ⟨show (-9223372036854775808 : Int) ≤ 13 by decide, show (13 : Int) ≤ 9223372036854775807 by decide⟩⟩, k.globals, k.data⟩))
  have hm2 : (how + 1).tmod 2 = -1 := by rw [tm_neg how 6 hn] at hm; rw [tm_neg how 2 hn]; omega
  have hw1 : wrap64 (how + 1) = how + 1 := by unfold wrap64; unfold I64 at hh; omega
  have hw2 : wrap64 (-(how + 1)) = -(how + 1) := by unfold wrap64; unfold I64 at hh; omega
  clear h hf hh hL
  unfold moV at *
  dsimp only at *
  go_enter Tryz.func8, Tryz.ntmps8
  go_wp2_with fail
  refine EX.out.mono ?_
  rintro r w1 ⟨rfl, b1⟩
  have hb1 := below_next hb0 b1
  have R1 := hide (R0.out.kept b1)
  have c0 := R1.out.c 0 _ rfl
  have c1 := R1.out.c 1 _ rfl
  have c2 := R1.out.c 2 _ rfl
  have c3 := R1.out.c 3 _ rfl
  have c4 := R1.out.c 4 _ rfl
  have c5 := R1.out.c 5 _ rfl
  have c6 := R1.out.c 6 _ rfl
  have F1 := hide (FI.out w1 hb1)
  clear b1 EX R0 FI
  go_wp2_with fail
  refine F1.out.mono ?_
  rintro r w2 ⟨rfl, b2⟩
  have hb2 := below_next hb1 b2
  have R2 := hide (R1.out.kept b2)
  clear b2 F1 R1 
  have d0 := R2.out.c 0 _ rfl
  have d1 := R2.out.c 1 _ rfl
  have d2 := R2.out.c 2 _ rfl
  have d3 := R2.out.c 3 _ rfl
  have d4 := R2.out.c 4 _ rfl
  have d5 := R2.out.c 5 _ rfl
  have d6 := R2.out.c 6 _ rfl
  have R3 := hide (Row.made w2 #[.slice a0 M.sigs.length k0, .slice a1 M.imports.length k1, .slice a2 M.funcs.length k2, .int .i64 M.m0, .int .i64 13, .slice a5 M.globals.length k5, .slice a6 M.data.length k6] 29)
  have b3 := bel_one w2 (.cells #[.slice a0 M.sigs.length k0, .slice a1 M.imports.length k1, .slice a2 M.funcs.length k2, .int .i64 M.m0, .int .i64 13, .slice a5 M.globals.length k5, .slice a6 M.data.length k6] 29)
  have hb3 := below_next hb2 b3
  have EB := hide (fun w1 (b1 : Below w.heap.size w w1) => encode_misfit _ _ w1 (IM.out w1 b1) (by rw [h13]; decide))
  have FB := hide (fun w1 (b1 : Below w.heap.size w w1) => fits_any _ _ w1 (LW.out.kept b1) (IM.out w1 b1))
  rw [h13] at EB FB
  unfold moV at EB FB
  dsimp only at EB FB
  clear b3 h13 IM
  clear c0 c1 c2 c3 c4 c5 c6 R2
  go_wp2_with fail
  refine (EB.out _ hb3).mono ?_
  rintro r w4 ⟨p, rfl, f4, _, b4⟩
  have hb4 := below_next hb3 b4
  have R4 := hide (R3.out.kept b4)
  have TF := hide (told_fault p 1 0 w4 (LW.out.kept hb4) f4 (by decide))
  clear b4 f4 EB R3
  unfold flt at *
  go_wp2_with fail
  refine TF.out.mono ?_
  rintro r w5 ⟨rfl, b5⟩
  have hb5 := below_next hb4 b5
  have R5 := hide (R4.out.kept b5)
  have y0 := R5.out.c 0 (.slice a0 M.sigs.length k0) rfl
  have y1 := R5.out.c 1 (.slice a1 M.imports.length k1) rfl
  have y2 := R5.out.c 2 (.slice a2 M.funcs.length k2) rfl
  have y3 := R5.out.c 3 (.int .i64 M.m0) rfl
  have y4 := R5.out.c 4 (.int .i64 13) rfl
  have y5 := R5.out.c 5 (.slice a5 M.globals.length k5) rfl
  have y6 := R5.out.c 6 (.slice a6 M.data.length k6) rfl
  have FB5 := hide (FB.out w5 hb5)
  clear b5 TF FB R4
  go_wp2_with fail
  refine FB5.out.mono ?_
  rintro r w6 ⟨rfl, b6⟩
  have hb6 := below_next hb5 b6
  clear b6 FB5
  go_wp2_with fail
  go_ret
  exact ⟨rfl, hb6⟩
theorem limits_walk (V : MoV) (M : Mo) (how : Int) (w : World) (hL : Laid w) (hh : I64 how) (h : IsMo w.heap.size w V M) :
    Calls Tryz.prog 8 #[moV V M, .int .i64 how] w fun e w' => e = .returned (.bool true) ∧ Below w.heap.size w w' := by
  by_cases hf : fitE M = 0
  · by_cases hn : how < 0
    · rcases (show (how + 1).tmod 6 = 0 ∨ (how + 1).tmod 6 = -1 ∨ (how + 1).tmod 6 = -2 ∨ (how + 1).tmod 6 = -3 ∨ (how + 1).tmod 6 = -4 ∨ (how + 1).tmod 6 = -5 by rw [tm_neg how 6 hn]; omega) with hm | hm | hm | hm | hm | hm
      · exact limits_n0 V M how w hL hh h hf hn hm
      · exact limits_n1 V M how w hL hh h hf hn hm
      · exact limits_n2 V M how w hL hh h hf hn hm
      · exact limits_n3 V M how w hL hh h hf hn hm
      · exact limits_n4 V M how w hL hh h hf hn hm
      · exact limits_n5 V M how w hL hh h hf hn hm
    · rcases (show how.tmod 6 = 0 ∨ how.tmod 6 = 1 ∨ how.tmod 6 = 2 ∨ how.tmod 6 = 3 ∨ how.tmod 6 = 4 ∨ how.tmod 6 = 5 by rw [Int.tmod_eq_emod_of_nonneg (by omega)]; omega) with hm | hm | hm | hm | hm | hm
      · exact limits_p0 V M how w hL h hf hn hm
      · exact limits_p1 V M how w hL h hf hn hm
      · exact limits_p2 V M how w hL h hf hn hm
      · exact limits_p3 V M how w hL h hf hn hm
      · exact limits_p4 V M how w hL h hf hn hm
      · exact limits_p5 V M how w hL h hf hn hm
  · exact limits_no V M how w hL h hf
end Go.Proofs.YtcbfpikggphokaaGreatDoor
