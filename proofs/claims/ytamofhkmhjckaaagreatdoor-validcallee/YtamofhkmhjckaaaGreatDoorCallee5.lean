/-
  ValidCallee: whom a call of any number calls.
-/
import Derived.Test.YtamofhkmhjckaaaGreatDoorEx
import Derived.Test.YtamofhkmhjckaaaGreatDoorRCal
namespace Go.Proofs.YtamofhkmhjckaaaGreatDoor
open Go.RowKit

set_option maxRecDepth 100000 in
set_option maxHeartbeats 4000000 in
theorem callee_walk (V : MoV) (M : Mo) (n : Int) (w : World) (hL : Laid w) (h : IsMo w.heap.size w V M) (hS : Small M) (hn : I64 n) :
    Calls Tryz.prog 5 #[moV V M, .int .i64 n] w fun e w' => e = .returned (.bool true) ∧ Below w.heap.size w w' := by
  have HB0 := hide (bel_one w (.cells #[V.v0, V.v1, V.v2, .int .i64 M.m0, .int .i64 M.m1, V.v5, V.v6] 29))
  have R0 := hide (Row.made w #[V.v0, V.v1, V.v2, .int .i64 M.m0, .int .i64 M.m1, V.v5, V.v6] 29)
  have EX := hide (examples_any (w.alloc (.cells #[V.v0, V.v1, V.v2, .int .i64 M.m0, .int .i64 M.m1, V.v5, V.v6] 29)) (hL.kept HB0.out))
  have CA := hide (fun (W : World) (b : Below w.heap.size w W) => callee_any V M n W (h.step b b.size) hS hn)
  have RC := hide (fun (W : World) (b : Below w.heap.size w W) => rcallee_any V M n W (h.step b b.size) hS)
  have HS := hide hS
  obtain ⟨v0, v1, v2, v5, v6⟩ := V
  unfold moV at *
  simp only at *
  clear h hL hS hn
  cases hc : callee M n with
  | none =>
    rw [hc] at CA RC
    clear hc
    go_enter Tryz.func5, Tryz.ntmps5
    go_wp2_with fail
    refine EX.out.mono ?_
    rintro e w1 ⟨rfl, b1⟩
    have R1 := R0.out.kept b1
    have HB1 := hide (below_next HB0.out b1)
    have m0 := R1.c 0 _ rfl
    have m1 := R1.c 1 _ rfl
    have m2 := R1.c 2 _ rfl
    have m3 := R1.c 3 _ rfl
    have m4 := R1.c 4 _ rfl
    have m5 := R1.c 5 _ rfl
    have m6 := R1.c 6 _ rfl
    have HR1 := hide R1
    clear R1 b1 EX
    go_wp2_with fail
    refine (CA.out w1 HB1.out).mono ?_
    rintro e w2 ⟨rfl, b2⟩
    have HB2 := hide (below_next HB1.out (b2.alloc b2.size (.cells #[.slice none 0 0, .slice none 0 0] 45)))
    have R2 := HR1.out.kept (b2.alloc b2.size (.cells #[.slice none 0 0, .slice none 0 0] 45))
    have S2 := hide (Row.made w2 #[.slice none 0 0, .slice none 0 0] 45)
    clear m0 m1 m2 m3 m4 m5 m6 HR1 b2
    have HR2 := hide R2
    have m0 := R2.c 0 _ rfl
    have m1 := R2.c 1 _ rfl
    have m2 := R2.c 2 _ rfl
    have m3 := R2.c 3 _ rfl
    have m4 := R2.c 4 _ rfl
    have m5 := R2.c 5 _ rfl
    have m6 := R2.c 6 _ rfl
    clear R2
    go_wp2_with fail
    refine (RC.out _ HB2.out).mono ?_
    rintro e w3 ⟨rfl, b3⟩
    have b4 := b3.alloc b3.size (.cells #[.slice none 0 0, .slice none 0 0] 45)
    have HB3 := hide (below_next HB2.out b4)
    have T2 := S2.out.kept b4
    have T3 := Row.made w3 #[.slice none 0 0, .slice none 0 0] 45
    clear m0 m1 m2 m3 m4 m5 m6 HR2 b3 b4
    have p0 := T2.c 0 _ rfl
    have p1 := T2.c 1 _ rfl
    have q0 := T3.c 0 _ rfl
    have q1 := T3.c 1 _ rfl
    have HT2 := hide T2
    have HT3 := hide T3
    clear T2 T3
    go_wp2_with fail
    refine (numbers_is _ _ [] [] true _ (by simp) (Sl.isNil _ _ _ _) (Sl.isNil _ _ _ _) rfl).mono ?_
    rintro e w5 ⟨rfl, b5⟩
    have HB5 := hide (below_next HB3.out b5)
    have T2 := HT2.out.kept b5
    have T3 := HT3.out.kept b5
    have p0 := T2.c 0 _ rfl
    have p1 := T2.c 1 _ rfl
    have q0 := T3.c 0 _ rfl
    have q1 := T3.c 1 _ rfl
    clear T2 T3 b5
    go_wp2_with fail
    refine (numbers_is _ _ [] [] true _ (by simp) (Sl.isNil _ _ _ _) (Sl.isNil _ _ _ _) rfl).mono ?_
    rintro e w6 ⟨rfl, b6⟩
    have HB6 := hide (below_next HB5.out b6)
    clear b6
    go_wp2_with fail
    go_ret
    exact ⟨rfl, HB6.out⟩
  | some r =>
    obtain ⟨g, host, tr⟩ := r
    have LP := hide (show g.params.length ≤ 1000000000000000 ∧ g.results.length ≤ 1000000000000000 from by have := HS.out.1 g (cal_mem hc); omega)
    rw [hc] at CA RC
    clear hc
    go_enter Tryz.func5, Tryz.ntmps5
    go_wp2_with fail
    refine EX.out.mono ?_
    rintro e w1 ⟨rfl, b1⟩
    have R1 := R0.out.kept b1
    have HB1 := hide (below_next HB0.out b1)
    have m0 := R1.c 0 _ rfl
    have m1 := R1.c 1 _ rfl
    have m2 := R1.c 2 _ rfl
    have m3 := R1.c 3 _ rfl
    have m4 := R1.c 4 _ rfl
    have m5 := R1.c 5 _ rfl
    have m6 := R1.c 6 _ rfl
    have HR1 := hide R1
    clear R1 b1 EX
    go_wp2_with fail
    refine (CA.out w1 HB1.out).mono ?_
    rintro e w2 ⟨ap, cp, ar, cr, rfl, sp, sr, b2⟩
    have HSP := hide sp
    have HSR := hide sr
    have HB2 := hide (below_next HB1.out (b2.alloc b2.size (.cells #[.slice ap g.params.length cp, .slice ar g.results.length cr] 45)))
    have R2 := HR1.out.kept (b2.alloc b2.size (.cells #[.slice ap g.params.length cp, .slice ar g.results.length cr] 45))
    have S2 := hide (Row.made w2 #[.slice ap g.params.length cp, .slice ar g.results.length cr] 45)
    clear m0 m1 m2 m3 m4 m5 m6 HR1 b2 sp sr
    have HR2 := hide R2
    have m0 := R2.c 0 _ rfl
    have m1 := R2.c 1 _ rfl
    have m2 := R2.c 2 _ rfl
    have m3 := R2.c 3 _ rfl
    have m4 := R2.c 4 _ rfl
    have m5 := R2.c 5 _ rfl
    have m6 := R2.c 6 _ rfl
    clear R2
    go_wp2_with fail
    refine (RC.out _ HB2.out).mono ?_
    rintro e w3 ⟨ap', cp', ar', cr', rfl, sp', sr', b3⟩
    have b4 := b3.alloc b3.size (.cells #[.slice ap' g.params.length cp', .slice ar' g.results.length cr'] 45)
    have HB3 := hide (below_next HB2.out b4)
    have z4 := b4.size
    have T2 := S2.out.kept b4
    have T3 := Row.made w3 #[.slice ap' g.params.length cp', .slice ar' g.results.length cr'] 45
    have A1 := hide (((HSP.out.to keeps_int (T := Lt w2.heap.size) (fun _ _ => rfl) (fun i hi => hi.2)).step keeps_int (bel_one w2 (.cells #[.slice ap g.params.length cp, .slice ar g.results.length cr] 45)) (bel_one w2 (.cells #[.slice ap g.params.length cp, .slice ar g.results.length cr] 45)).size).step keeps_int b4 z4)
    have A2 := hide (((HSR.out.to keeps_int (T := Lt w2.heap.size) (fun _ _ => rfl) (fun i hi => hi.2)).step keeps_int (bel_one w2 (.cells #[.slice ap g.params.length cp, .slice ar g.results.length cr] 45)) (bel_one w2 (.cells #[.slice ap g.params.length cp, .slice ar g.results.length cr] 45)).size).step keeps_int b4 z4)
    have A3 := hide (sp'.step keeps_int b4 z4)
    have A4 := hide (sr'.step keeps_int b4 z4)
    clear m0 m1 m2 m3 m4 m5 m6 HR2 b3 b4 z4 sp' sr' HSP HSR
    have p0 := T2.c 0 _ rfl
    have p1 := T2.c 1 _ rfl
    have q0 := T3.c 0 _ rfl
    have q1 := T3.c 1 _ rfl
    have HT2 := hide T2
    have HT3 := hide T3
    clear T2 T3
    go_wp2_with fail
    refine (numbers_is _ _ g.params g.params true _ (by have := LP.out; omega) A1.out A3.out (by simp)).mono ?_
    rintro e w5 ⟨rfl, b5⟩
    have HB5 := hide (below_next HB3.out b5)
    have T2 := HT2.out.kept b5
    have T3 := HT3.out.kept b5
    have A2' := hide (A2.out.step keeps_int b5 b5.size)
    have A4' := hide (A4.out.step keeps_int b5 b5.size)
    have p0 := T2.c 0 _ rfl
    have p1 := T2.c 1 _ rfl
    have q0 := T3.c 0 _ rfl
    have q1 := T3.c 1 _ rfl
    clear T2 T3 b5
    go_wp2_with fail
    refine (numbers_is _ _ g.results g.results true _ (by have := LP.out; omega) A2'.out A4'.out (by simp)).mono ?_
    rintro e w6 ⟨rfl, b6⟩
    have HB6 := hide (below_next HB5.out b6)
    clear b6
    cases host <;> cases tr <;>
    · go_wp2_with fail
      go_ret
      exact ⟨rfl, HB6.out⟩
end Go.Proofs.YtamofhkmhjckaaaGreatDoor
