/-
  The program's Decode at bytes that do not begin with the head, and at too many.
-/
import Derived.Test.YtcbfpikggphokaaGreatDoorDec
import Derived.Test.YtcbfpikggphokaaGreatDoorApart
namespace Go.Proofs.YtcbfpikggphokaaGreatDoor
open Go.RowKit

theorem hasPrefix_no (b : List UInt8) (w : World) (hb : b.length ≤ 4000) (h : ¬ ∃ l, b = head6 ++ l) :
    Calls Tryz.prog 119 #[.string (str b), .string (str head6)] w fun e w' => e = .returned (.bool false) ∧ w' = w := by
  have h6 : (str head6).size = 6 := by rw [str_size]; rfl
  have hz : (str b).size = b.length := str_size _
  by_cases hl : 6 ≤ b.length
  · have hx : (str b).extract 0 6 = str (b.take 6) := str_take b 6
    have hne : ((str (b.take 6)).toList == (str head6).toList) = false := by
      rw [str_tl, str_tl]
      simp only [beq_eq_false_iff_ne, ne_eq]
      intro e
      exact h ⟨b.drop 6, by rw [← e, List.take_append_drop]⟩
    have g1 : (6 : Int) ≤ (b.length : Int) := by omega
    go_enter Tryz.func119, Tryz.ntmps119
    go_wp2_with fail
    go_ret
    exact ⟨rfl, rfl⟩
  · have g1 : ¬ ((6 : Int) ≤ (b.length : Int)) := by omega
    go_enter Tryz.func119, Tryz.ntmps119
    go_wp2_with fail
    go_ret
    exact ⟨rfl, rfl⟩
theorem cut_no (b : List UInt8) (w : World) (hb : b.length ≤ 4000) (h : ¬ ∃ l, b = head6 ++ l) :
    Calls Tryz.prog 71 #[.string (str b), .string (str head6)] w fun e w' => e = .returned (.tuple #[.string (str b), .bool false]) ∧ w' = w := by
  have HP := hide (fun w => hasPrefix_no b w hb h)
  have C : Calls Tryz.prog 103 #[.string (str b), .string (str head6)] w fun e w' => e = .returned (.tuple #[.string (str b), .bool false]) ∧ w' = w := by
    clear h
    go_enter Tryz.func103, Tryz.ntmps103
    go_wp2_with fail
    refine (HP.out _).mono ?_
    rintro e w1 ⟨rfl, rfl⟩
    go_wp2_with fail
    go_ret2
    exact ⟨rfl, rfl⟩
  have HC := hide C
  clear C HP h
  go_enter Tryz.func71, Tryz.ntmps71
  go_wp2_with fail
  refine HC.out.mono ?_
  rintro e w1 ⟨rfl, rfl⟩
  go_wp2_with fail
  go_ret2
  exact ⟨rfl, rfl⟩
set_option maxRecDepth 100000 in
set_option maxHeartbeats 3200000 in
theorem read_none (b : List UInt8) (w : World) (hb : b.length ≤ 4000) (h : ¬ ∃ l, b = head6 ++ l) : Calls Tryz.prog 35 #[.string (str b)] w fun e w' => ∃ pf, e = .returned (.tuple #[.agg mod0, flt pf]) ∧ FaultAt w' pf 2 0 ∧ Below w.heap.size w w' := by
  have C := hide (cut_no b (w.alloc (.cells mod0 29)) hb h)
  have hz : (str b).size = b.length := str_size _
  have hb1 := bel_one w (.cells mod0 29)
  have R1 := hide (Row.made w mod0 29)
  clear h
  unfold mod0 at *
  go_enter Tryz.func35, Tryz.ntmps35
  go_wp2_with fail
  refine C.out.mono ?_
  rintro e w1 ⟨rfl, rfl⟩
  clear C
  go_wp2_with fail
  refine (fault_any 2 0 _).mono ?_
  rintro e w4 ⟨rfl, f4, b4⟩
  have hb4 := below_next hb1 b4
  have R4 := hide (R1.out.kept b4)
  have F4 := hide f4
  have NN := hide (fault_row R4.out f4)
  have es : (w.alloc (.cells #[.slice none 0 0, .slice none 0 0, .slice none 0 0, .int .i64 0, .int .i64 0, .slice none 0 0, .slice none 0 0] 29)).heap.size = w.heap.size + 1 := by simp
  rw [es] at F4 NN
  clear b4 f4 R1 es
  have c0 := R4.out.c 0 _ rfl
  have c1 := R4.out.c 1 _ rfl
  have c2 := R4.out.c 2 _ rfl
  have c3 := R4.out.c 3 _ rfl
  have c4 := R4.out.c 4 _ rfl
  have c5 := R4.out.c 5 _ rfl
  have c6 := R4.out.c 6 _ rfl
  have z := R4.out.fr
  unfold flt
  go_wp2_with fail
  refine bodyPost_ret (results_mo rfl _ _ w.heap.size _ rfl rfl (Row.all7 R4.out _ _ _ _ _ _ _)) rfl ?_
  refine ⟨w.heap.size + 1, rfl, ?_, bel_all7 hb4 (Nat.le_refl _) _ _ _ _ _ _ _⟩
  have hn := NN.out
  have f := F4.out
  unfold FaultAt at *
  rw [Below.heap_setCell _ _ _ _ hn, Below.heap_setCell _ _ _ _ hn, Below.heap_setCell _ _ _ _ hn, Below.heap_setCell _ _ _ _ hn, Below.heap_setCell _ _ _ _ hn, Below.heap_setCell _ _ _ _ hn, Below.heap_setCell _ _ _ _ hn]
  exact f
set_option maxRecDepth 100000 in
set_option maxHeartbeats 3200000 in
theorem read_long (b : List UInt8) (w : World) (hb : 4000 < b.length) (hb2 : b.length ≤ 1048576) : Calls Tryz.prog 35 #[.string (str b)] w fun e w' => ∃ pf, e = .returned (.tuple #[.agg mod0, flt pf]) ∧ FaultAt w' pf 1 0 ∧ Below w.heap.size w w' := by
  have hz : (str b).size = b.length := str_size _
  have hb1 := bel_one w (.cells mod0 29)
  have R1 := hide (Row.made w mod0 29)
  unfold mod0 at *
  go_enter Tryz.func35, Tryz.ntmps35
  go_wp2_with fail
  refine (fault_any 1 0 _).mono ?_
  rintro e w4 ⟨rfl, f4, b4⟩
  have hb4 := below_next hb1 b4
  have R4 := hide (R1.out.kept b4)
  have F4 := hide f4
  have NN := hide (fault_row R4.out f4)
  have es : (w.alloc (.cells #[.slice none 0 0, .slice none 0 0, .slice none 0 0, .int .i64 0, .int .i64 0, .slice none 0 0, .slice none 0 0] 29)).heap.size = w.heap.size + 1 := by simp
  rw [es] at F4 NN
  clear b4 f4 R1 es
  have c0 := R4.out.c 0 _ rfl
  have c1 := R4.out.c 1 _ rfl
  have c2 := R4.out.c 2 _ rfl
  have c3 := R4.out.c 3 _ rfl
  have c4 := R4.out.c 4 _ rfl
  have c5 := R4.out.c 5 _ rfl
  have c6 := R4.out.c 6 _ rfl
  have z := R4.out.fr
  unfold flt
  go_wp2_with fail
  refine bodyPost_ret (results_mo rfl _ _ w.heap.size _ rfl rfl (Row.all7 R4.out _ _ _ _ _ _ _)) rfl ?_
  refine ⟨w.heap.size + 1, rfl, ?_, bel_all7 hb4 (Nat.le_refl _) _ _ _ _ _ _ _⟩
  have hn := NN.out
  have f := F4.out
  unfold FaultAt at *
  rw [Below.heap_setCell _ _ _ _ hn, Below.heap_setCell _ _ _ _ hn, Below.heap_setCell _ _ _ _ hn, Below.heap_setCell _ _ _ _ hn, Below.heap_setCell _ _ _ _ hn, Below.heap_setCell _ _ _ _ hn, Below.heap_setCell _ _ _ _ hn]
  exact f
set_option maxRecDepth 100000 in
set_option maxHeartbeats 3200000 in
theorem decode_none (b : List UInt8) (c : Int) (hc : c = 1 ∨ c = 2) (w : World) (H : ∀ w, Calls Tryz.prog 35 #[.string (str b)] w fun e w' => ∃ pf, e = .returned (.tuple #[.agg mod0, flt pf]) ∧ FaultAt w' pf c 0 ∧ Below w.heap.size w w') :
    Calls Tryz.prog 16 #[.string (str b)] w fun e w' => ∃ pf, e = .returned (.tuple #[.agg mod0, flt pf]) ∧ FaultAt w' pf c 0 ∧ Below w.heap.size w w' := by
  have hb0 := bel_one w (.cells mod0 29)
  have RH := hide (H (w.alloc (.cells mod0 29)))
  have R0 := hide (Row.made w mod0 29)
  have h24 : (c == 4) = false := by rcases hc with rfl | rfl <;> decide
  clear H hc
  unfold mod0 at *
  go_enter Tryz.func16, Tryz.ntmps16
  go_wp2_with fail
  refine RH.out.mono ?_
  rintro e w1 ⟨pf, rfl, f1, b1⟩
  have hb1 := below_next hb0 b1
  have R1 := hide ((R0.out.kept b1).alloc (.cells #[.slice none 0 0, .slice none 0 0, .slice none 0 0, .int .i64 0, .int .i64 0, .slice none 0 0, .slice none 0 0] 29))
  have hal := bel_one w1 (.cells #[.slice none 0 0, .slice none 0 0, .slice none 0 0, .int .i64 0, .int .i64 0, .slice none 0 0, .slice none 0 0] 29)
  have hb2 := below_next hb1 hal
  have F1 := hide (f1.kept hal)
  have NN := hide (fault_row R1.out F1.out)
  have IS := hide (is_fault pf c 0 4 _ F1.out)
  rw [h24] at IS
  clear b1 R0 RH hb0 f1 hal h24
  unfold flt at *
  go_wp2_with fail
  refine IS.out.mono ?_
  rintro e w2 ⟨rfl, rfl⟩
  have c0 := R1.out.c 0 _ rfl
  have c1 := R1.out.c 1 _ rfl
  have c2 := R1.out.c 2 _ rfl
  have c3 := R1.out.c 3 _ rfl
  have c4 := R1.out.c 4 _ rfl
  have c5 := R1.out.c 5 _ rfl
  have c6 := R1.out.c 6 _ rfl
  have z := R1.out.fr
  go_wp2_with fail
  refine bodyPost_ret (results_mo rfl _ _ w.heap.size _ rfl rfl (Row.all7 R1.out _ _ _ _ _ _ _)) rfl ?_
  refine ⟨pf, rfl, ?_, bel_all7 hb2 (Nat.le_refl _) _ _ _ _ _ _ _⟩
  have hn := NN.out
  have f := F1.out
  unfold FaultAt at *
  rw [Below.heap_setCell _ _ _ _ hn, Below.heap_setCell _ _ _ _ hn, Below.heap_setCell _ _ _ _ hn, Below.heap_setCell _ _ _ _ hn, Below.heap_setCell _ _ _ _ hn, Below.heap_setCell _ _ _ _ hn, Below.heap_setCell _ _ _ _ hn]
  exact f
end Go.Proofs.YtcbfpikggphokaaGreatDoor
