/-
  The chapter's examples: what the program writes of nothing, and reads of the head alone and of a section that is cut off; memory that was there stays as it was.
  The chapter's examples hold, whatever stands in memory; what stood there stays.
-/
import Derived.Test.YtcbfpikggphokaaGreatDoorReadE
namespace Go.Proofs.YtcbfpikggphokaaGreatDoor
open Go.RowKit

theorem nils_mod : moV nils mo0 = .agg mod0 := rfl
theorem fit_nothing : fitE mo0 = 0 := by decide
theorem decode_head (w : World) :
    Calls Tryz.prog 16 #[.string (str head6)] w fun e w' => e = .returned (.tuple #[.agg mod0, .nilIface]) ∧ Below w.heap.size w w' := by
  have RH := hide (read_head (w.alloc (.cells mod0 29)))
  have MF := hide (fun w => misfit_ok nils mo0 w (nothing _ w) fit_nothing)
  have R0 := hide (Row.made w mod0 29)
  have hb0 := bel_one w (.cells mod0 29)
  rw [nils_mod] at MF
  unfold mod0 at *
  go_enter Tryz.func16, Tryz.ntmps16
  go_wp2_with fail
  refine RH.out.mono ?_
  rintro e w1 ⟨rfl, b1⟩
  have hb1 := below_next hb0 b1
  have R1 := hide ((R0.out.kept b1).alloc (.cells #[.slice none 0 0, .slice none 0 0, .slice none 0 0, .int .i64 0, .int .i64 0, .slice none 0 0, .slice none 0 0] 29))
  have S1 := hide (Row.made w1 #[.slice none 0 0, .slice none 0 0, .slice none 0 0, .int .i64 0, .int .i64 0, .slice none 0 0, .slice none 0 0] 29)
  have hb2 := below_next hb1 (bel_one w1 (.cells #[.slice none 0 0, .slice none 0 0, .slice none 0 0, .int .i64 0, .int .i64 0, .slice none 0 0, .slice none 0 0] 29))
  clear b1 R0 RH hb0
  go_wp2_with fail
  refine (MF.out _).mono ?_
  rintro e w2 ⟨rfl, b2⟩
  have hb3 := below_next hb2 b2
  have R2 := hide (R1.out.kept b2)
  have S2 := hide (S1.out.kept b2)
  clear b2 R1 S1
  go_wp2_with fail
  refine (is_nil 4 w2).mono ?_
  rintro e w3 ⟨rfl, rfl⟩
  have c0 := R2.out.c 0 _ rfl
  have c1 := R2.out.c 1 _ rfl
  have c2 := R2.out.c 2 _ rfl
  have c3 := R2.out.c 3 _ rfl
  have c4 := R2.out.c 4 _ rfl
  have c5 := R2.out.c 5 _ rfl
  have c6 := R2.out.c 6 _ rfl
  have d0 := S2.out.c 0 _ rfl
  have d1 := S2.out.c 1 _ rfl
  have d2 := S2.out.c 2 _ rfl
  have d3 := S2.out.c 3 _ rfl
  have d4 := S2.out.c 4 _ rfl
  have d5 := S2.out.c 5 _ rfl
  have d6 := S2.out.c 6 _ rfl
  have z := R2.out.fr
  go_wp2_with fail
  refine bodyPost_ret (results_mo rfl _ _ w.heap.size _ rfl rfl (Row.all7 R2.out _ _ _ _ _ _ _)) rfl ?_
  exact ⟨rfl, bel_all7 hb3 (Nat.le_refl _) _ _ _ _ _ _ _⟩
theorem decode_bad (w : World) (hL : Laid w) :
    Calls Tryz.prog 16 #[.string (str (head6 ++ [1, 2]))] w fun e w' => ∃ p, e = .returned (.tuple #[.agg mod0, flt p]) ∧ FaultAt w' p 2 6 ∧ w.heap.size ≤ p ∧ Below w.heap.size w w' := by
  have hb0 := bel_one w (.cells mod0 29)
  have RH := hide (read_bad (w.alloc (.cells mod0 29)) (hL.kept hb0))
  have R0 := hide (Row.made w mod0 29)
  clear hL
  unfold mod0 at *
  go_enter Tryz.func16, Tryz.ntmps16
  go_wp2_with fail
  refine RH.out.mono ?_
  rintro e w1 ⟨p, rfl, f1, hp, b1⟩
  have hb1 := below_next hb0 b1
  have R1 := hide ((R0.out.kept b1).alloc (.cells #[.slice none 0 0, .slice none 0 0, .slice none 0 0, .int .i64 0, .int .i64 0, .slice none 0 0, .slice none 0 0] 29))
  have hal := bel_one w1 (.cells #[.slice none 0 0, .slice none 0 0, .slice none 0 0, .int .i64 0, .int .i64 0, .slice none 0 0, .slice none 0 0] 29)
  have hb2 := below_next hb1 hal
  have F1 := hide (f1.kept hal)
  have IS := hide (is_fault p 2 6 4 _ F1.out)
  have hp2 : Hid (w.heap.size < p) := hide (by have : (w.alloc (.cells #[.slice none 0 0, .slice none 0 0, .slice none 0 0, .int .i64 0, .int .i64 0, .slice none 0 0, .slice none 0 0] 29)).heap.size = w.heap.size + 1 := by simp
                                               omega)
  have h24 : ((2 : Int) == 4) = false := by decide
  rw [h24] at IS
  clear b1 R0 RH hb0 f1 hp hal h24
  unfold flt at *
  go_wp2_with fail
  refine IS.out.mono ?_
  rintro e w2 ⟨rfl, rfl⟩
  have c0 := R1.out.c 0 _ rfl
  have c1 := R1.out.c 1 _ rfl
  have c2 := R1.out.c 2 _ rfl
  have c3 := R1.out.c 3 _ rfl
  have c4 := R1.out.c 4 _ rfl
  have c5 := R1.out.c 5 _ rfl
  have c6 := R1.out.c 6 _ rfl
  have z := R1.out.fr
  go_wp2_with fail
  refine bodyPost_ret (results_mo rfl _ _ w.heap.size _ rfl rfl (Row.all7 R1.out _ _ _ _ _ _ _)) rfl ?_
  refine ⟨p, rfl, ?_, Nat.le_of_lt hp2.out, bel_all7 hb2 (Nat.le_refl _) _ _ _ _ _ _ _⟩
  have hn : p ≠ w.heap.size := Nat.ne_of_gt hp2.out
  have f := F1.out
  unfold FaultAt at *
  rw [Below.heap_setCell _ _ _ _ hn, Below.heap_setCell _ _ _ _ hn, Below.heap_setCell _ _ _ _ hn, Below.heap_setCell _ _ _ _ hn, Below.heap_setCell _ _ _ _ hn, Below.heap_setCell _ _ _ _ hn, Below.heap_setCell _ _ _ _ hn]
  exact f
theorem head_any (w : World) : Calls Tryz.prog 18 #[] w fun e w' => e = .returned (.string (str head6)) ∧ w' = w := by
  go_enter Tryz.func18, Tryz.ntmps18
  go_wp2
  go_ret
  exact ⟨rfl, rfl⟩
end Go.Proofs.YtcbfpikggphokaaGreatDoor
namespace Go.Proofs.YtcbfpikggphokaaGreatDoor
open Go.RowKit

theorem numbers_nil (w : World) : Calls Tryz.prog 36 #[.slice none 0 0, .slice none 0 0] w fun e w' => e = .returned (.bool true) ∧ w' = w := by
  go_enter Tryz.func36, Tryz.ntmps36
  go_wp2_with fail
  refine wp_loop_rounds 1 ?_
  rw [rounds_succ]
  go_wp2_with fail
  go_ret
  exact ⟨rfl, rfl⟩
set_option maxRecDepth 100000 in
set_option maxHeartbeats 1600000 in
theorem same_nothing (w : World) : Calls Tryz.prog 17 #[.agg mod0, .agg mod0] w fun e w' => e = .returned (.bool true) ∧ Below w.heap.size w w' := by
  have he : ∀ w, (Op.equalIn 10000 25 (.agg #[.int .i64 0, .int .i64 0]) (.agg #[.int .i64 0, .int .i64 0])).run Tryz.prog w = .ok true w := fun w => by rw [run_equalIn_two]; rfl
  unfold mod0
  go_enter Tryz.func17, Tryz.ntmps17
  go_wp2_with fail
  refine (numbers_nil _).mono ?_
  rintro e w1 ⟨rfl, rfl⟩
  go_wp2_with fail
  refine wp_loop_rounds 1 ?_
  rw [rounds_succ]
  go_wp2_with fail
  refine wp_loop_rounds 1 ?_
  rw [rounds_succ]
  go_wp2_with fail
  refine wp_loop_rounds 1 ?_
  rw [rounds_succ]
  go_wp2_with fail
  refine wp_loop_rounds 1 ?_
  rw [rounds_succ]
  go_wp2_with fail
  go_ret
  exact ⟨rfl, (bel_one w _).alloc (by simp) _⟩
theorem encode_nothing (w : World) : Calls Tryz.prog 10 #[.agg mod0] w fun e w' => e = .returned (.tuple #[.string (str head6), .nilIface]) ∧ Below w.heap.size w w' := by
  have h := encode_ok nils mo0 w (by simp [mo0]) (nothing _ w) fit_nothing (by decide)
  have e : encM mo0 = head6 := by decide
  rw [e, nils_mod] at h
  exact h
set_option maxRecDepth 100000 in
set_option maxHeartbeats 1600000 in
theorem examples_any (w : World) (hL : Laid w) : Calls Tryz.prog 9 #[] w fun e w' => e = .returned (.bool true) ∧ Below w.heap.size w w' := by
  have LP := hide hL
  have EN := hide encode_nothing
  have DH := hide decode_head
  have SN := hide same_nothing
  have h6 : (str head6).size = 6 := by rw [str_size]; rfl
  have hap : str head6 ++ ⟨#[1, 2]⟩ = str (head6 ++ [1, 2]) := str_append head6 [1, 2]
  have z1 : ¬ 9223372036854775807 < (str head6).size + 2 := by rw [h6]; decide
  clear hL
  unfold mod0 at *
  go_enter Tryz.func9, Tryz.ntmps9
  go_wp2_with fail
  refine (EN.out _).mono ?_
  rintro e w1 ⟨rfl, b1⟩
  go_wp2_with fail
  refine (DH.out _).mono ?_
  rintro e w2 ⟨rfl, b2⟩
  have b12 := below_next b1 b2
  have hal := bel_one w2 (.cells #[.slice none 0 0, .slice none 0 0, .slice none 0 0, .int .i64 0, .int .i64 0, .slice none 0 0, .slice none 0 0] 29)
  have b13 := below_next b12 hal
  have R3 := hide (Row.made w2 #[.slice none 0 0, .slice none 0 0, .slice none 0 0, .int .i64 0, .int .i64 0, .slice none 0 0, .slice none 0 0] 29)
  have L3 := LP.out.kept b13
  have DB := hide (decode_bad _ L3)
  clear b1 b2 b12 hal L3 EN DH
  unfold mod0 at DB
  go_wp2_with fail
  refine DB.out.mono ?_
  rintro e w4 ⟨p, rfl, f4, _, b4⟩
  have hal := bel_one w4 (.cells #[.slice none 0 0, .slice none 0 0, .slice none 0 0, .int .i64 0, .int .i64 0, .slice none 0 0, .slice none 0 0] 29)
  have b14 := below_next b13 b4
  have b15 := below_next b14 hal
  have R5 := hide ((R3.out.kept b4).kept hal)
  have TF := hide (told_fault p 2 6 _ (LP.out.kept b15) (f4.kept hal) (by decide))
  clear b4 f4 hal b13 b14 R3 DB
  unfold flt at *
  go_wp2_with fail
  refine TF.out.mono ?_
  rintro e w6 ⟨rfl, b6⟩
  have b16 := below_next b15 b6
  have R6 := hide (R5.out.kept b6)
  have c0 := R6.out.c 0 _ rfl
  have c1 := R6.out.c 1 _ rfl
  have c2 := R6.out.c 2 _ rfl
  have c3 := R6.out.c 3 _ rfl
  have c4 := R6.out.c 4 _ rfl
  have c5 := R6.out.c 5 _ rfl
  have c6 := R6.out.c 6 _ rfl
  clear b6 TF b15 R5
  go_wp2_with fail
  refine (SN.out _).mono ?_
  rintro e w7 ⟨rfl, b7⟩
  have b17 := below_next b16 b7
  clear b7
  go_wp2_with fail
  refine (head_any _).mono ?_
  rintro e w8 ⟨rfl, rfl⟩
  go_wp2_with fail
  go_ret
  exact ⟨rfl, b17⟩
end Go.Proofs.YtcbfpikggphokaaGreatDoor
