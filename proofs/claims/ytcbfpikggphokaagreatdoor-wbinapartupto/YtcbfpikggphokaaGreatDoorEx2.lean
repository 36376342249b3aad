/-
  The chapter's examples hold, whatever stands in memory; what stood there stays.
-/
import Derived.Test.YtcbfpikggphokaaGreatDoorEx
namespace Go.Proofs.YtcbfpikggphokaaGreatDoor
open Go.RowKit

theorem numbers_nil (w : World) : Calls Tryz.prog 36 #[.slice none 0 0, .slice none 0 0] w fun e w' => e = .returned (.bool true) ∧ w' = w := by
  go_enter Tryz.func36, Tryz.ntmps36
  go_wp2_with fail
  refine wp_loop_rounds 1 ?_
  rw [rounds_succ]
  go_wp2_with fail
  go_ret
  exact ⟨rfl, rfl⟩
set_option maxRecDepth 100000 in
set_option maxHeartbeats 1600000 in
theorem same_nothing (w : World) : Calls Tryz.prog 17 #[.agg mod0, .agg mod0] w fun e w' => e = .returned (.bool true) ∧ Below w.heap.size w w' := by
  have he : ∀ w, (Op.equalIn 10000 25 (.agg #[.int .i64 0, .int .i64 0]) (.agg #[.int .i64 0, .int .i64 0])).run Tryz.prog w = .ok true w := fun w => by rw [run_equalIn_two]; rfl
  unfold mod0
  go_enter Tryz.func17, Tryz.ntmps17
  go_wp2_with fail
  refine (numbers_nil _).mono ?_
  rintro e w1 ⟨rfl, rfl⟩
  go_wp2_with fail
  refine wp_loop_rounds 1 ?_
  rw [rounds_succ]
  go_wp2_with fail
  refine wp_loop_rounds 1 ?_
  rw [rounds_succ]
  go_wp2_with fail
  refine wp_loop_rounds 1 ?_
  rw [rounds_succ]
  go_wp2_with fail
  refine wp_loop_rounds 1 ?_
  rw [rounds_succ]
  go_wp2_with fail
  go_ret
  exact ⟨rfl, (bel_one w _).alloc (by simp) _⟩
theorem encode_nothing (w : World) : Calls Tryz.prog 10 #[.agg mod0] w fun e w' => e = .returned (.tuple #[.string (str head6), .nilIface]) ∧ Below w.heap.size w w' := by
  have h := encode_ok nils mo0 w (by simp [mo0]) (nothing _ w) fit_nothing (by decide)
  have e : encM mo0 = head6 := by decide
  rw [e, nils_mod] at h
  exact h
set_option maxRecDepth 100000 in
set_option maxHeartbeats 1600000 in
theorem examples_any (w : World) (hL : Laid w) : Calls Tryz.prog 9 #[] w fun e w' => e = .returned (.bool true) ∧ Below w.heap.size w w' := by
  have LP := hide hL
  have EN := hide encode_nothing
  have DH := hide decode_head
  have SN := hide same_nothing
  have h6 : (str head6).size = 6 := by rw [str_size]; rfl
  have hap : str head6 ++ ⟨#[1, 2]⟩ = str (head6 ++ [1, 2]) := str_append head6 [1, 2]
  have z1 : ¬ 9223372036854775807 < (str head6).size + 2 := by rw [h6]; decide
  clear hL
  unfold mod0 at *
  go_enter Tryz.func9, Tryz.ntmps9
  go_wp2_with fail
  refine (EN.out _).mono ?_
  rintro e w1 ⟨rfl, b1⟩
  go_wp2_with fail
  refine (DH.out _).mono ?_
  rintro e w2 ⟨rfl, b2⟩
  have b12 := below_next b1 b2
  have hal := bel_one w2 (.cells #[.slice none 0 0, .slice none 0 0, .slice none 0 0, .int .i64 0, .int .i64 0, .slice none 0 0, .slice none 0 0] 29)
  have b13 := below_next b12 hal
  have R3 := hide (Row.made w2 #[.slice none 0 0, .slice none 0 0, .slice none 0 0, .int .i64 0, .int .i64 0, .slice none 0 0, .slice none 0 0] 29)
  have L3 := LP.out.kept b13
  have DB := hide (decode_bad _ L3)
  clear b1 b2 b12 hal L3 EN DH
  unfold mod0 at DB
  go_wp2_with fail
  refine DB.out.mono ?_
  rintro e w4 ⟨p, rfl, f4, _, b4⟩
  have hal := bel_one w4 (.cells #[.slice none 0 0, .slice none 0 0, .slice none 0 0, .int .i64 0, .int .i64 0, .slice none 0 0, .slice none 0 0] 29)
  have b14 := below_next b13 b4
  have b15 := below_next b14 hal
  have R5 := hide ((R3.out.kept b4).kept hal)
  have TF := hide (told_fault p 2 6 _ (LP.out.kept b15) (f4.kept hal) (by decide))
  clear b4 f4 hal b13 b14 R3 DB
  unfold flt at *
  go_wp2_with fail
  refine TF.out.mono ?_
  rintro e w6 ⟨rfl, b6⟩
  have b16 := below_next b15 b6
  have R6 := hide (R5.out.kept b6)
  have c0 := R6.out.c 0 _ rfl
  have c1 := R6.out.c 1 _ rfl
  have c2 := R6.out.c 2 _ rfl
  have c3 := R6.out.c 3 _ rfl
  have c4 := R6.out.c 4 _ rfl
  have c5 := R6.out.c 5 _ rfl
  have c6 := R6.out.c 6 _ rfl
  clear b6 TF b15 R5
  go_wp2_with fail
  refine (SN.out _).mono ?_
  rintro e w7 ⟨rfl, b7⟩
  have b17 := below_next b16 b7
  clear b7
  go_wp2_with fail
  refine (head_any _).mono ?_
  rintro e w8 ⟨rfl, rfl⟩
  go_wp2_with fail
  go_ret
  exact ⟨rfl, b17⟩
end Go.Proofs.YtcbfpikggphokaaGreatDoor
