/-
  The chapter's examples: what the program writes of nothing, and reads of the head alone and of a section that is cut off; memory that was there stays as it was.
-/
import Derived.Test.YtcbfpikggphokaaGreatDoorReadE
namespace Go.Proofs.YtcbfpikggphokaaGreatDoor
open Go.RowKit

theorem nils_mod : moV nils mo0 = .agg mod0 := rfl
theorem fit_nothing : fitE mo0 = 0 := by decide
theorem decode_head (w : World) :
    Calls Tryz.prog 16 #[.string (str head6)] w fun e w' => e = .returned (.tuple #[.agg mod0, .nilIface]) ∧ Below w.heap.size w w' := by
  have RH := hide (read_head (w.alloc (.cells mod0 29)))
  have MF := hide (fun w => misfit_ok nils mo0 w (nothing _ w) fit_nothing)
  have R0 := hide (Row.made w mod0 29)
  have hb0 := bel_one w (.cells mod0 29)
  rw [nils_mod] at MF
  unfold mod0 at *
  go_enter Tryz.func16, Tryz.ntmps16
  go_wp2_with fail
  refine RH.out.mono ?_
  rintro e w1 ⟨rfl, b1⟩
  have hb1 := below_next hb0 b1
  have R1 := hide ((R0.out.kept b1).alloc (.cells #[.slice none 0 0, .slice none 0 0, .slice none 0 0, .int .i64 0, .int .i64 0, .slice none 0 0, .slice none 0 0] 29))
  have S1 := hide (Row.made w1 #[.slice none 0 0, .slice none 0 0, .slice none 0 0, .int .i64 0, .int .i64 0, .slice none 0 0, .slice none 0 0] 29)
  have hb2 := below_next hb1 (bel_one w1 (.cells #[.slice none 0 0, .slice none 0 0, .slice none 0 0, .int .i64 0, .int .i64 0, .slice none 0 0, .slice none 0 0] 29))
  clear b1 R0 RH hb0
  go_wp2_with fail
  refine (MF.out _).mono ?_
  rintro e w2 ⟨rfl, b2⟩
  have hb3 := below_next hb2 b2
  have R2 := hide (R1.out.kept b2)
  have S2 := hide (S1.out.kept b2)
  clear b2 R1 S1
  go_wp2_with fail
  refine (is_nil 4 w2).mono ?_
  rintro e w3 ⟨rfl, rfl⟩
  have c0 := R2.out.c 0 _ rfl
  have c1 := R2.out.c 1 _ rfl
  have c2 := R2.out.c 2 _ rfl
  have c3 := R2.out.c 3 _ rfl
  have c4 := R2.out.c 4 _ rfl
  have c5 := R2.out.c 5 _ rfl
  have c6 := R2.out.c 6 _ rfl
  have d0 := S2.out.c 0 _ rfl
  have d1 := S2.out.c 1 _ rfl
  have d2 := S2.out.c 2 _ rfl
  have d3 := S2.out.c 3 _ rfl
  have d4 := S2.out.c 4 _ rfl
  have d5 := S2.out.c 5 _ rfl
  have d6 := S2.out.c 6 _ rfl
  have z := R2.out.fr
  go_wp2_with fail
  refine bodyPost_ret (results_mo rfl _ _ w.heap.size _ rfl rfl (Row.all7 R2.out _ _ _ _ _ _ _)) rfl ?_
  exact ⟨rfl, bel_all7 hb3 (Nat.le_refl _) _ _ _ _ _ _ _⟩
theorem decode_bad (w : World) (hL : Laid w) :
    Calls Tryz.prog 16 #[.string (str (head6 ++ [1, 2]))] w fun e w' => ∃ p, e = .returned (.tuple #[.agg mod0, flt p]) ∧ FaultAt w' p 2 6 ∧ w.heap.size ≤ p ∧ Below w.heap.size w w' := by
  have hb0 := bel_one w (.cells mod0 29)
  have RH := hide (read_bad (w.alloc (.cells mod0 29)) (hL.kept hb0))
  have R0 := hide (Row.made w mod0 29)
  clear hL
  unfold mod0 at *
  go_enter Tryz.func16, Tryz.ntmps16
  go_wp2_with fail
  refine RH.out.mono ?_
  rintro e w1 ⟨p, rfl, f1, hp, b1⟩
  have hb1 := below_next hb0 b1
  have R1 := hide ((R0.out.kept b1).alloc (.cells #[.slice none 0 0, .slice none 0 0, .slice none 0 0, .int .i64 0, .int .i64 0, .slice none 0 0, .slice none 0 0] 29))
  have hal := bel_one w1 (.cells #[.slice none 0 0, .slice none 0 0, .slice none 0 0, .int .i64 0, .int .i64 0, .slice none 0 0, .slice none 0 0] 29)
  have hb2 := below_next hb1 hal
  have F1 := hide (f1.kept hal)
  have IS := hide (is_fault p 2 6 4 _ F1.out)
  have hp2 : Hid (w.heap.size < p) := hide (by have : (w.alloc (.cells #[.slice none 0 0, .slice none 0 0, .slice none 0 0, .int .i64 0, .int .i64 0, .slice none 0 0, .slice none 0 0] 29)).heap.size = w.heap.size + 1 := by simp
                                               omega)
  have h24 : ((2 : Int) == 4) = false := by decide
  rw [h24] at IS
  clear b1 R0 RH hb0 f1 hp hal h24
  unfold flt at *
  go_wp2_with fail
  refine IS.out.mono ?_
  rintro e w2 ⟨rfl, rfl⟩
  have c0 := R1.out.c 0 _ rfl
  have c1 := R1.out.c 1 _ rfl
  have c2 := R1.out.c 2 _ rfl
  have c3 := R1.out.c 3 _ rfl
  have c4 := R1.out.c 4 _ rfl
  have c5 := R1.out.c 5 _ rfl
  have c6 := R1.out.c 6 _ rfl
  have z := R1.out.fr
  go_wp2_with fail
  refine bodyPost_ret (results_mo rfl _ _ w.heap.size _ rfl rfl (Row.all7 R1.out _ _ _ _ _ _ _)) rfl ?_
  refine ⟨p, rfl, ?_, Nat.le_of_lt hp2.out, bel_all7 hb2 (Nat.le_refl _) _ _ _ _ _ _ _⟩
  have hn : p ≠ w.heap.size := Nat.ne_of_gt hp2.out
  have f := F1.out
  unfold FaultAt at *
  rw [Below.heap_setCell _ _ _ _ hn, Below.heap_setCell _ _ _ _ hn, Below.heap_setCell _ _ _ _ hn, Below.heap_setCell _ _ _ _ hn, Below.heap_setCell _ _ _ _ hn, Below.heap_setCell _ _ _ _ hn, Below.heap_setCell _ _ _ _ hn]
  exact f
theorem head_any (w : World) : Calls Tryz.prog 18 #[] w fun e w' => e = .returned (.string (str head6)) ∧ w' = w := by
  go_enter Tryz.func18, Tryz.ntmps18
  go_wp2
  go_ret
  exact ⟨rfl, rfl⟩
end Go.Proofs.YtcbfpikggphokaaGreatDoor
