/-
  An instruction that is written, with anything behind, is read as it was; what is read is written as it stood: the walk of the statement InstBack, for every instruction and every two strings of at most 2^47 - 4096 bytes.
-/
import Derived.Test.YtcipbnbeoacenaaExamples
import Derived.Test.YtcipbnbeoacenaaRound
import Derived.Test.YtcipbnbeoacenaaRefBytes
namespace Go.Proofs.Ytcipbnbeoacenaa
open Go.RowKit

theorem iby_len (op n m : Int) : (iby op n m).length ≤ 20 := by
  unfold iby tl
  have a := szU_bd n
  have b := szU_bd m
  have c := szS_bd n
  simp only [List.length_cons]
  repeat' split
  all_goals first | (simp [enc_length]; omega) | simp
set_option maxRecDepth 100000 in
set_option maxHeartbeats 1600000 in
theorem back_yn (op n m : Int) (lr lb : List UInt8) (w : World) (hn : I64 n) (hm : I64 m) (hr : lr.length ≤ 140737488351232) (hb : lb.length ≤ 140737488351232) (h : rt op n m = true) (ht : tkI lb = none) :
    Calls Try.prog 6 #[ins op n m, .string (str lr), .string (str lb)] w fun e w' => e = .returned (.bool true) ∧ Below w.heap.size w w' := by
  have BY := hide (bytes_yes op n m · hn hm h)
  have RT := hide (right_as op n m true · hn hm h)
  have TK := hide (fun w => (by rw [str_append]; exact take_some _ op n m lr w (by have := iby_len op n m; simp; omega) (back_1 op n m lr hn h) : Calls Try.prog 16 #[.string (str (iby op n m) ++ str lr)] w fun e w' => e = .returned (.tuple #[ins op n m, .string (str lr), .int .i64 0]) ∧ Below w.heap.size w w'))
  have hz : ¬ 9223372036854775807 < (str (iby op n m)).size + (str lr).size := by rw [str_size, str_size]; have := iby_len op n m; omega
  have T2 := hide (take_none lb · (by omega) ht)
  have he0 : (str []).toList.isEmpty = true := by unfold str; simp
  clear hn hm hr hb h ht
  unfold ins at *
  go_enter Try.func6, Try.ntmps6
  go_wp2_with fail
  refine (examples_any _).mono ?_
  rintro e w1 ⟨rfl, b1⟩
  have x1 := (Box.made w op n m).kept b1
  have D1 := below_next (bel_one w _) b1
  clear b1
  have c0 := x1.c0
  have c1 := x1.c1
  have c2 := x1.c2
  go_wp2_with fail
  refine (BY.out _).mono ?_
  rintro e w2 ⟨rfl, b2⟩
  have x2 := x1.kept b2
  have D2 := below_next D1 b2
  clear b2
  go_wp2_with fail
  refine (TK.out _).mono ?_
  rintro e w3 ⟨rfl, b3⟩
  have x3 := x2.kept b3
  have D3 := below_next D2 b3
  clear b3
  have d0 := fun o => (x3.alloc o).c0
  have d1 := fun o => (x3.alloc o).c1
  have d2 := fun o => (x3.alloc o).c2
  go_wp2_with fail
  refine (RT.out _).mono ?_
  rintro e w4 ⟨rfl, b4⟩
  have D4 := below_next (below_next D3 (bel_one _ _)) b4
  clear b4
  go_wp2_with fail
  refine (T2.out _).mono ?_
  rintro e w5 ⟨rfl, b5⟩
  have D5 := below_next D4 b5
  clear b5
  go_wp2_with fail
  go_ret
  exact ⟨rfl, below_next D5 (bel_one _ _)⟩
set_option maxRecDepth 100000 in
set_option maxHeartbeats 1600000 in
theorem back_nn (op n m : Int) (lr lb : List UInt8) (w : World) (hn : I64 n) (hm : I64 m) (_hr : lr.length ≤ 140737488351232) (hb : lb.length ≤ 140737488351232) (h : rt op n m = false) (ht : tkI lb = none) :
    Calls Try.prog 6 #[ins op n m, .string (str lr), .string (str lb)] w fun e w' => e = .returned (.bool true) ∧ Below w.heap.size w w' := by
  have BY := hide (bytes_no op n m · hn hm h)
  have T2 := hide (take_none lb · (by omega) ht)
  have he0 : (str []).toList.isEmpty = true := by unfold str; simp
  clear hn hm hb h ht
  unfold ins at *
  go_enter Try.func6, Try.ntmps6
  go_wp2_with fail
  refine (examples_any _).mono ?_
  rintro e w1 ⟨rfl, b1⟩
  have x1 := (Box.made w op n m).kept b1
  have D1 := below_next (bel_one w _) b1
  clear b1
  have c0 := x1.c0
  have c1 := x1.c1
  have c2 := x1.c2
  go_wp2_with fail
  refine (BY.out _).mono ?_
  rintro e w2 ⟨rfl, b2⟩
  have x2 := x1.kept b2
  have D2 := below_next D1 b2
  clear b2
  go_wp2_with fail
  refine (T2.out _).mono ?_
  rintro e w5 ⟨rfl, b5⟩
  have D5 := below_next D2 b5
  clear b5
  go_wp2_with fail
  go_ret
  exact ⟨rfl, below_next D5 (bel_one _ _)⟩
set_option maxRecDepth 100000 in
set_option maxHeartbeats 1600000 in
theorem back_ys (op n m : Int) (lr lb : List UInt8) (o2 n2 m2 : Int) (q : List UInt8) (w : World) (hn : I64 n) (hm : I64 m) (hr : lr.length ≤ 140737488351232) (hb : lb.length ≤ 140737488351232) (h : rt op n m = true) (ht : tkI lb = some ((o2, n2, m2), q)) :
    Calls Try.prog 6 #[ins op n m, .string (str lr), .string (str lb)] w fun e w' => e = .returned (.bool true) ∧ Below w.heap.size w w' := by
  have BY := hide (bytes_yes op n m · hn hm h)
  have RT := hide (right_as op n m true · hn hm h)
  have TK := hide (fun w => (by rw [str_append]; exact take_some _ op n m lr w (by have := iby_len op n m; simp; omega) (back_1 op n m lr hn h) : Calls Try.prog 16 #[.string (str (iby op n m) ++ str lr)] w fun e w' => e = .returned (.tuple #[ins op n m, .string (str lr), .int .i64 0]) ∧ Below w.heap.size w w'))
  have hz : ¬ 9223372036854775807 < (str (iby op n m)).size + (str lr).size := by rw [str_size, str_size]; have := iby_len op n m; omega
  obtain ⟨k1, k2, k3, k4, k5⟩ := back_2 ht
  have T2 := hide (take_some lb o2 n2 m2 q · (by omega) ht)
  have B2 := hide (bytes_yes o2 n2 m2 · k3 k4 k1)
  have R2 := hide (right_as o2 n2 m2 true · k3 k4 k1)
  have hz2 : ¬ 9223372036854775807 < (str (iby o2 n2 m2)).size + (str q).size := by rw [str_size, str_size]; have := iby_len o2 n2 m2; omega
  have hq : str (iby o2 n2 m2) ++ str q = str lb := by rw [str_append, k2]
  clear k1 k2 k3 k4 k5
  clear hn hm hr hb h ht
  unfold ins at *
  go_enter Try.func6, Try.ntmps6
  go_wp2_with fail
  refine (examples_any _).mono ?_
  rintro e w1 ⟨rfl, b1⟩
  have x1 := (Box.made w op n m).kept b1
  have D1 := below_next (bel_one w _) b1
  clear b1
  have c0 := x1.c0
  have c1 := x1.c1
  have c2 := x1.c2
  go_wp2_with fail
  refine (BY.out _).mono ?_
  rintro e w2 ⟨rfl, b2⟩
  have x2 := x1.kept b2
  have D2 := below_next D1 b2
  clear b2
  go_wp2_with fail
  refine (TK.out _).mono ?_
  rintro e w3 ⟨rfl, b3⟩
  have x3 := x2.kept b3
  have D3 := below_next D2 b3
  clear b3
  have d0 := fun o => (x3.alloc o).c0
  have d1 := fun o => (x3.alloc o).c1
  have d2 := fun o => (x3.alloc o).c2
  go_wp2_with fail
  refine (RT.out _).mono ?_
  rintro e w4 ⟨rfl, b4⟩
  have D4 := below_next (below_next D3 (bel_one _ _)) b4
  clear b4
  go_wp2_with fail
  refine (T2.out _).mono ?_
  rintro e w5 ⟨rfl, b5⟩
  have D5 := below_next D4 b5
  clear b5
  go_wp2_with fail
  refine (B2.out _).mono ?_
  rintro e w6 ⟨rfl, b6⟩
  have x6 := (Box.made w5 o2 n2 m2).kept b6
  have D6 := below_next (below_next D5 (bel_one _ _)) b6
  clear b6
  have e0 := x6.c0
  have e1 := x6.c1
  have e2 := x6.c2
  go_wp2_with fail
  refine (R2.out _).mono ?_
  rintro e w7 ⟨rfl, b7⟩
  have D7 := below_next D6 b7
  clear b7
  go_wp2_with fail
  go_ret
  exact ⟨rfl, D7⟩
set_option maxRecDepth 100000 in
set_option maxHeartbeats 1600000 in
theorem back_ns (op n m : Int) (lr lb : List UInt8) (o2 n2 m2 : Int) (q : List UInt8) (w : World) (hn : I64 n) (hm : I64 m) (_hr : lr.length ≤ 140737488351232) (hb : lb.length ≤ 140737488351232) (h : rt op n m = false) (ht : tkI lb = some ((o2, n2, m2), q)) :
    Calls Try.prog 6 #[ins op n m, .string (str lr), .string (str lb)] w fun e w' => e = .returned (.bool true) ∧ Below w.heap.size w w' := by
  have BY := hide (bytes_no op n m · hn hm h)
  obtain ⟨k1, k2, k3, k4, k5⟩ := back_2 ht
  have T2 := hide (take_some lb o2 n2 m2 q · (by omega) ht)
  have B2 := hide (bytes_yes o2 n2 m2 · k3 k4 k1)
  have R2 := hide (right_as o2 n2 m2 true · k3 k4 k1)
  have hz2 : ¬ 9223372036854775807 < (str (iby o2 n2 m2)).size + (str q).size := by rw [str_size, str_size]; have := iby_len o2 n2 m2; omega
  have hq : str (iby o2 n2 m2) ++ str q = str lb := by rw [str_append, k2]
  clear k1 k2 k3 k4 k5
  clear hn hm hb h ht
  unfold ins at *
  go_enter Try.func6, Try.ntmps6
  go_wp2_with fail
  refine (examples_any _).mono ?_
  rintro e w1 ⟨rfl, b1⟩
  have x1 := (Box.made w op n m).kept b1
  have D1 := below_next (bel_one w _) b1
  clear b1
  have c0 := x1.c0
  have c1 := x1.c1
  have c2 := x1.c2
  go_wp2_with fail
  refine (BY.out _).mono ?_
  rintro e w2 ⟨rfl, b2⟩
  have x2 := x1.kept b2
  have D2 := below_next D1 b2
  clear b2
  go_wp2_with fail
  refine (T2.out _).mono ?_
  rintro e w5 ⟨rfl, b5⟩
  have D5 := below_next D2 b5
  clear b5
  go_wp2_with fail
  refine (B2.out _).mono ?_
  rintro e w6 ⟨rfl, b6⟩
  have x6 := (Box.made w5 o2 n2 m2).kept b6
  have D6 := below_next (below_next D5 (bel_one _ _)) b6
  clear b6
  have e0 := x6.c0
  have e1 := x6.c1
  have e2 := x6.c2
  go_wp2_with fail
  refine (R2.out _).mono ?_
  rintro e w7 ⟨rfl, b7⟩
  have D7 := below_next D6 b7
  clear b7
  go_wp2_with fail
  go_ret
  exact ⟨rfl, D7⟩
theorem back_walk (op n m : Int) (r b : ByteArray) (w : World) (hn : I64 n) (hm : I64 m) (hr : r.size ≤ 140737488351232) (hb : b.size ≤ 140737488351232) :
    Calls Try.prog 6 #[ins op n m, .string r, .string b] w fun e w' => e = .returned (.bool true) ∧ Below w.heap.size w w' := by
  rw [str_back r, str_back b]
  rw [← list_length] at hr hb
  cases h : rt op n m with
  | true =>
    cases ht : tkI b.data.toList with
    | none => exact back_yn op n m _ _ w hn hm hr hb h ht
    | some x =>
      obtain ⟨⟨o2, n2, m2⟩, q⟩ := x
      exact back_ys op n m _ _ o2 n2 m2 q w hn hm hr hb h ht
  | false =>
    cases ht : tkI b.data.toList with
    | none => exact back_nn op n m _ _ w hn hm hr hb h ht
    | some x =>
      obtain ⟨⟨o2, n2, m2⟩, q⟩ := x
      exact back_ns op n m _ _ o2 n2 m2 q w hn hm hr hb h ht
end Go.Proofs.Ytcipbnbeoacenaa
