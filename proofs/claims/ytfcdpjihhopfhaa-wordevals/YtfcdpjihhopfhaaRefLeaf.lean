/-
  The document's own functions of chapter 2 (Trim, signed, truth, below, compared, divided) answer what the plain functions answer, and change nothing.
-/
import Derived.Test.YtfcdpjihhopfhaaDivides
namespace Go.Proofs.Ytfcdpjihhopfhaa
open Go.RowKit

theorem r_trim (wide : Bool) (v : Int) (w : World) :
    Calls Try.prog 15 #[.bool wide, .int .i64 v] w fun e w' => e = .returned (.int .i64 (tr wide v)) ∧ w' = w := by
  cases wide
  · go_enter Try.func15, Try.ntmps15
    go_wp2
    go_ret
    exact ⟨ret_int (and32 v), rfl⟩
  · go_enter Try.func15, Try.ntmps15
    go_wp2
    go_ret
    exact ⟨rfl, rfl⟩
theorem r_truth (b : Bool) (w : World) :
    Calls Try.prog 34 #[.bool b] w fun e w' => e = .returned (.int .i64 (b1 b)) ∧ w' = w := by
  cases b
  · go_enter Try.func34, Try.ntmps34
    go_wp2
    go_ret
    exact ⟨rfl, rfl⟩
  · go_enter Try.func34, Try.ntmps34
    go_wp2
    go_ret
    exact ⟨rfl, rfl⟩
theorem r_below (a b : Int) (w : World) :
    Calls Try.prog 35 #[.int .i64 a, .int .i64 b] w fun e w' => e = .returned (.bool (decide (un a < un b))) ∧ w' = w := by
  go_enter Try.func35, Try.ntmps35
  go_wp2
  go_ret
  exact ⟨ret_bool (by rw [un_wrap, un_wrap]), rfl⟩
theorem low_wd (v : Int) (h : Wd false v) : 0 ≤ v ∧ v < 4294967296 := by simpa only [Wd, Bool.false_eq_true, if_false] using h
theorem sg_less (v : Int) (h : v < 2147483648) : sg false v = v := by simp only [sg, Bool.false_eq_true, if_false]; rw [if_pos h]
theorem sg_more (v : Int) (h : ¬ v < 2147483648) : sg false v = v - 4294967296 := by simp only [sg, Bool.false_eq_true, if_false]; rw [if_neg h]
theorem r_signed (wide : Bool) (v : Int) (w : World) (h : Wd wide v) :
    Calls Try.prog 26 #[.bool wide, .int .i64 v] w fun e w' => e = .returned (.int .i64 (sg wide v)) ∧ w' = w := by
  cases wide
  · have hw := low_wd v h
    by_cases hv : v < 2147483648
    · rw [sg_less v hv]
      clear h hw
      go_enter Try.func26, Try.ntmps26
      go_wp2
      go_ret
      exact ⟨rfl, rfl⟩
    · rw [sg_more v hv]
      have e1 := hide (show wrap64 (v - 4294967296) = v - 4294967296 by simp only [wrap64]; omega)
      have hv' : 2147483648 ≤ v := by omega
      clear h hw hv
      go_enter Try.func26, Try.ntmps26
      go_wp2
      go_ret
      exact ⟨ret_int e1.out, rfl⟩
  · clear h
    go_enter Try.func26, Try.ntmps26
    go_wp2
    go_ret
    exact ⟨rfl, rfl⟩
theorem beq_dec (a b : Int) : (a == b) = decide (a = b) := by rw [Bool.eq_iff_iff, beq_iff_eq, decide_eq_true_iff]
theorem bne_dec (a b : Int) : (a != b) = decide (a ≠ b) := by rw [Bool.eq_iff_iff, bne_iff_ne, decide_eq_true_iff]
theorem not_dec (a b : Int) : (!decide (a < b)) = decide (b ≤ a) := by rw [← decide_not, decide_eq_decide]; omega
theorem r_cmp0 (wide : Bool) (a b : Int) (w : World) (ha : Wd wide a) (hb : Wd wide b) :
    Calls Try.prog 25 #[.int .i64 0, .bool wide, .int .i64 a, .int .i64 b] w fun e w' => e = .returned (.int .i64 (b1 (cm 69 wide a b))) ∧ w' = w := by
  have ha' := hide ha
  have hb' := hide hb
  clear ha hb
  go_enter Try.func25, Try.ntmps25
  go_wp2_with fail
  refine (r_signed _ _ _ ha'.out).mono ?_
  rintro e w1 ⟨rfl, rfl⟩
  go_wp2_with fail
  refine (r_signed _ _ _ hb'.out).mono ?_
  rintro e w1 ⟨rfl, rfl⟩
  go_wp2_with fail
  refine (r_truth _ _).mono ?_
  rintro e w1 ⟨rfl, rfl⟩
  go_wp2_with fail
  go_ret
  exact ⟨ret_int (congrArg b1 (beq_dec a 0)), rfl⟩
theorem r_cmp1 (wide : Bool) (a b : Int) (w : World) (ha : Wd wide a) (hb : Wd wide b) :
    Calls Try.prog 25 #[.int .i64 1, .bool wide, .int .i64 a, .int .i64 b] w fun e w' => e = .returned (.int .i64 (b1 (cm 70 wide a b))) ∧ w' = w := by
  have ha' := hide ha
  have hb' := hide hb
  clear ha hb
  go_enter Try.func25, Try.ntmps25
  go_wp2_with fail
  refine (r_signed _ _ _ ha'.out).mono ?_
  rintro e w1 ⟨rfl, rfl⟩
  go_wp2_with fail
  refine (r_signed _ _ _ hb'.out).mono ?_
  rintro e w1 ⟨rfl, rfl⟩
  go_wp2_with fail
  refine (r_truth _ _).mono ?_
  rintro e w1 ⟨rfl, rfl⟩
  go_wp2_with fail
  go_ret
  exact ⟨ret_int (congrArg b1 (beq_dec a b)), rfl⟩
theorem r_cmp2 (wide : Bool) (a b : Int) (w : World) (ha : Wd wide a) (hb : Wd wide b) :
    Calls Try.prog 25 #[.int .i64 2, .bool wide, .int .i64 a, .int .i64 b] w fun e w' => e = .returned (.int .i64 (b1 (cm 71 wide a b))) ∧ w' = w := by
  have ha' := hide ha
  have hb' := hide hb
  clear ha hb
  go_enter Try.func25, Try.ntmps25
  go_wp2_with fail
  refine (r_signed _ _ _ ha'.out).mono ?_
  rintro e w1 ⟨rfl, rfl⟩
  go_wp2_with fail
  refine (r_signed _ _ _ hb'.out).mono ?_
  rintro e w1 ⟨rfl, rfl⟩
  go_wp2_with fail
  refine (r_truth _ _).mono ?_
  rintro e w1 ⟨rfl, rfl⟩
  go_wp2_with fail
  go_ret
  exact ⟨ret_int (congrArg b1 (bne_dec a b)), rfl⟩
theorem r_cmp3 (wide : Bool) (a b : Int) (w : World) (ha : Wd wide a) (hb : Wd wide b) :
    Calls Try.prog 25 #[.int .i64 3, .bool wide, .int .i64 a, .int .i64 b] w fun e w' => e = .returned (.int .i64 (b1 (cm 72 wide a b))) ∧ w' = w := by
  have ha' := hide ha
  have hb' := hide hb
  clear ha hb
  go_enter Try.func25, Try.ntmps25
  go_wp2_with fail
  refine (r_signed _ _ _ ha'.out).mono ?_
  rintro e w1 ⟨rfl, rfl⟩
  go_wp2_with fail
  refine (r_signed _ _ _ hb'.out).mono ?_
  rintro e w1 ⟨rfl, rfl⟩
  go_wp2_with fail
  refine (r_truth _ _).mono ?_
  rintro e w1 ⟨rfl, rfl⟩
  go_wp2_with fail
  go_ret
  exact ⟨rfl, rfl⟩
theorem r_cmp4 (wide : Bool) (a b : Int) (w : World) (ha : Wd wide a) (hb : Wd wide b) :
    Calls Try.prog 25 #[.int .i64 4, .bool wide, .int .i64 a, .int .i64 b] w fun e w' => e = .returned (.int .i64 (b1 (cm 73 wide a b))) ∧ w' = w := by
  have ha' := hide ha
  have hb' := hide hb
  clear ha hb
  go_enter Try.func25, Try.ntmps25
  go_wp2_with fail
  refine (r_signed _ _ _ ha'.out).mono ?_
  rintro e w1 ⟨rfl, rfl⟩
  go_wp2_with fail
  refine (r_signed _ _ _ hb'.out).mono ?_
  rintro e w1 ⟨rfl, rfl⟩
  go_wp2_with fail
  refine (r_below a b _).mono ?_
  rintro e w1 ⟨rfl, rfl⟩
  go_wp2_with fail
  refine (r_truth _ _).mono ?_
  rintro e w1 ⟨rfl, rfl⟩
  go_wp2_with fail
  go_ret
  exact ⟨rfl, rfl⟩
theorem r_cmp5 (wide : Bool) (a b : Int) (w : World) (ha : Wd wide a) (hb : Wd wide b) :
    Calls Try.prog 25 #[.int .i64 5, .bool wide, .int .i64 a, .int .i64 b] w fun e w' => e = .returned (.int .i64 (b1 (cm 74 wide a b))) ∧ w' = w := by
  have ha' := hide ha
  have hb' := hide hb
  clear ha hb
  go_enter Try.func25, Try.ntmps25
  go_wp2_with fail
  refine (r_signed _ _ _ ha'.out).mono ?_
  rintro e w1 ⟨rfl, rfl⟩
  go_wp2_with fail
  refine (r_signed _ _ _ hb'.out).mono ?_
  rintro e w1 ⟨rfl, rfl⟩
  go_wp2_with fail
  refine (r_truth _ _).mono ?_
  rintro e w1 ⟨rfl, rfl⟩
  go_wp2_with fail
  go_ret
  exact ⟨rfl, rfl⟩
theorem r_cmp6 (wide : Bool) (a b : Int) (w : World) (ha : Wd wide a) (hb : Wd wide b) :
    Calls Try.prog 25 #[.int .i64 6, .bool wide, .int .i64 a, .int .i64 b] w fun e w' => e = .returned (.int .i64 (b1 (cm 75 wide a b))) ∧ w' = w := by
  have ha' := hide ha
  have hb' := hide hb
  clear ha hb
  go_enter Try.func25, Try.ntmps25
  go_wp2_with fail
  refine (r_signed _ _ _ ha'.out).mono ?_
  rintro e w1 ⟨rfl, rfl⟩
  go_wp2_with fail
  refine (r_signed _ _ _ hb'.out).mono ?_
  rintro e w1 ⟨rfl, rfl⟩
  go_wp2_with fail
  refine (r_below b a _).mono ?_
  rintro e w1 ⟨rfl, rfl⟩
  go_wp2_with fail
  refine (r_truth _ _).mono ?_
  rintro e w1 ⟨rfl, rfl⟩
  go_wp2_with fail
  go_ret
  exact ⟨rfl, rfl⟩
theorem r_cmp7 (wide : Bool) (a b : Int) (w : World) (ha : Wd wide a) (hb : Wd wide b) :
    Calls Try.prog 25 #[.int .i64 7, .bool wide, .int .i64 a, .int .i64 b] w fun e w' => e = .returned (.int .i64 (b1 (cm 76 wide a b))) ∧ w' = w := by
  have ha' := hide ha
  have hb' := hide hb
  clear ha hb
  go_enter Try.func25, Try.ntmps25
  go_wp2_with fail
  refine (r_signed _ _ _ ha'.out).mono ?_
  rintro e w1 ⟨rfl, rfl⟩
  go_wp2_with fail
  refine (r_signed _ _ _ hb'.out).mono ?_
  rintro e w1 ⟨rfl, rfl⟩
  go_wp2_with fail
  refine (r_truth _ _).mono ?_
  rintro e w1 ⟨rfl, rfl⟩
  go_wp2_with fail
  go_ret
  exact ⟨rfl, rfl⟩
theorem r_cmp8 (wide : Bool) (a b : Int) (w : World) (ha : Wd wide a) (hb : Wd wide b) :
    Calls Try.prog 25 #[.int .i64 8, .bool wide, .int .i64 a, .int .i64 b] w fun e w' => e = .returned (.int .i64 (b1 (cm 77 wide a b))) ∧ w' = w := by
  have ha' := hide ha
  have hb' := hide hb
  clear ha hb
  go_enter Try.func25, Try.ntmps25
  go_wp2_with fail
  refine (r_signed _ _ _ ha'.out).mono ?_
  rintro e w1 ⟨rfl, rfl⟩
  go_wp2_with fail
  refine (r_signed _ _ _ hb'.out).mono ?_
  rintro e w1 ⟨rfl, rfl⟩
  go_wp2_with fail
  refine (r_below b a _).mono ?_
  rintro e w1 ⟨rfl, rfl⟩
  go_wp2_with fail
  refine (r_truth _ _).mono ?_
  rintro e w1 ⟨rfl, rfl⟩
  go_wp2_with fail
  go_ret
  exact ⟨ret_int (congrArg b1 (not_dec (un b) (un a))), rfl⟩
theorem r_cmp9 (wide : Bool) (a b : Int) (w : World) (ha : Wd wide a) (hb : Wd wide b) :
    Calls Try.prog 25 #[.int .i64 9, .bool wide, .int .i64 a, .int .i64 b] w fun e w' => e = .returned (.int .i64 (b1 (cm 78 wide a b))) ∧ w' = w := by
  have ha' := hide ha
  have hb' := hide hb
  clear ha hb
  go_enter Try.func25, Try.ntmps25
  go_wp2_with fail
  refine (r_signed _ _ _ ha'.out).mono ?_
  rintro e w1 ⟨rfl, rfl⟩
  go_wp2_with fail
  refine (r_signed _ _ _ hb'.out).mono ?_
  rintro e w1 ⟨rfl, rfl⟩
  go_wp2_with fail
  refine (r_truth _ _).mono ?_
  rintro e w1 ⟨rfl, rfl⟩
  go_wp2_with fail
  go_ret
  exact ⟨rfl, rfl⟩
theorem r_cmp10 (wide : Bool) (a b : Int) (w : World) (ha : Wd wide a) (hb : Wd wide b) :
    Calls Try.prog 25 #[.int .i64 10, .bool wide, .int .i64 a, .int .i64 b] w fun e w' => e = .returned (.int .i64 (b1 (cm 79 wide a b))) ∧ w' = w := by
  have ha' := hide ha
  have hb' := hide hb
  clear ha hb
  go_enter Try.func25, Try.ntmps25
  go_wp2_with fail
  refine (r_signed _ _ _ ha'.out).mono ?_
  rintro e w1 ⟨rfl, rfl⟩
  go_wp2_with fail
  refine (r_signed _ _ _ hb'.out).mono ?_
  rintro e w1 ⟨rfl, rfl⟩
  go_wp2_with fail
  refine (r_below a b _).mono ?_
  rintro e w1 ⟨rfl, rfl⟩
  go_wp2_with fail
  refine (r_truth _ _).mono ?_
  rintro e w1 ⟨rfl, rfl⟩
  go_wp2_with fail
  go_ret
  exact ⟨ret_int (congrArg b1 (not_dec (un a) (un b))), rfl⟩
theorem r_compared (k : Int) (wide : Bool) (a b : Int) (w : World) (hk : 0 ≤ k ∧ k ≤ 10) (ha : Wd wide a) (hb : Wd wide b) :
    Calls Try.prog 25 #[.int .i64 k, .bool wide, .int .i64 a, .int .i64 b] w fun e w' => e = .returned (.int .i64 (b1 (cm (69 + k) wide a b))) ∧ w' = w := by
  have h : k = 0 ∨ k = 1 ∨ k = 2 ∨ k = 3 ∨ k = 4 ∨ k = 5 ∨ k = 6 ∨ k = 7 ∨ k = 8 ∨ k = 9 ∨ k = 10 := by omega
  rcases h with rfl | rfl | rfl | rfl | rfl | rfl | rfl | rfl | rfl | rfl | rfl
  · exact r_cmp0 wide a b w ha hb
  · exact r_cmp1 wide a b w ha hb
  · exact r_cmp2 wide a b w ha hb
  · exact r_cmp3 wide a b w ha hb
  · exact r_cmp4 wide a b w ha hb
  · exact r_cmp5 wide a b w ha hb
  · exact r_cmp6 wide a b w ha hb
  · exact r_cmp7 wide a b w ha hb
  · exact r_cmp8 wide a b w ha hb
  · exact r_cmp9 wide a b w ha hb
  · exact r_cmp10 wide a b w ha hb
theorem r_div_zero (k : Int) (wide : Bool) (a : Int) (w : World) :
    Calls Try.prog 27 #[.int .i64 k, .bool wide, .int .i64 a, .int .i64 0] w fun e w' => e = .returned (.tuple #[.int .i64 0, .int .i64 2]) ∧ w' = w := by
  go_enter Try.func27, Try.ntmps27
  go_wp2_with fail
  go_ret2
  exact ⟨rfl, rfl⟩
theorem r_divU (wide : Bool) (a b : Int) (w : World) (ha : Wd wide a) (hb : Wd wide b) (hz : b ≠ 0) :
    Calls Try.prog 27 #[.int .i64 1, .bool wide, .int .i64 a, .int .i64 b] w fun e w' => e = .returned (.tuple #[.int .i64 (wrap64 (un a / un b)), .int .i64 0]) ∧ w' = w := by
  have ha' := hide ha
  have hb' := hide hb
  have hz' := hide hz
  have h0 : (b == 0) = false := by simpa using hz
  have hu := un_nz b (wd_i64 hb) hz
  clear ha hb hz
  go_enter Try.func27, Try.ntmps27
  go_wp2_with fail
  go_ret2
  exact ⟨ret_two (divU_eq a b (wd_i64 hb'.out) hz'.out) rfl, rfl⟩
theorem r_remU (wide : Bool) (a b : Int) (w : World) (ha : Wd wide a) (hb : Wd wide b) (hz : b ≠ 0) :
    Calls Try.prog 27 #[.int .i64 3, .bool wide, .int .i64 a, .int .i64 b] w fun e w' => e = .returned (.tuple #[.int .i64 (wrap64 (un a % un b)), .int .i64 0]) ∧ w' = w := by
  have ha' := hide ha
  have hb' := hide hb
  have hz' := hide hz
  have h0 : (b == 0) = false := by simpa using hz
  have hu := un_nz b (wd_i64 hb) hz
  clear ha hb hz
  go_enter Try.func27, Try.ntmps27
  go_wp2_with fail
  go_ret2
  exact ⟨ret_two (remU_eq a b) rfl, rfl⟩
theorem r_over (wide : Bool) (a b : Int) (w : World) (ha : Wd wide a) (hb : Wd wide b) (hz : b ≠ 0) (h1 : sg wide a = ls wide) (h2 : sg wide b = -1) :
    Calls Try.prog 27 #[.int .i64 0, .bool wide, .int .i64 a, .int .i64 b] w fun e w' => e = .returned (.tuple #[.int .i64 0, .int .i64 3]) ∧ w' = w := by
  have ha' := hide ha
  have hb' := hide hb
  have hz' := hide hz
  have h0 : (b == 0) = false := by simpa using hz
  have e1 : (sg wide a == ls wide) = true := by simpa using h1
  have e2 : (sg wide b == -1) = true := by simpa using h2
  simp only [ls] at e1
  clear ha hb hz h1 h2
  cases wide
  · simp only [Bool.false_eq_true, if_false] at e1
    go_enter Try.func27, Try.ntmps27
    go_wp2_with fail
    refine (r_signed _ _ _ ha'.out).mono ?_
    rintro e w1 ⟨rfl, rfl⟩
    go_wp2_with fail
    refine (r_signed _ _ _ hb'.out).mono ?_
    rintro e w1 ⟨rfl, rfl⟩
    go_wp2_with fail
    go_ret2
    exact ⟨rfl, rfl⟩
  · simp only [if_true] at e1
    go_enter Try.func27, Try.ntmps27
    go_wp2_with fail
    refine (r_signed _ _ _ ha'.out).mono ?_
    rintro e w1 ⟨rfl, rfl⟩
    go_wp2_with fail
    refine (r_signed _ _ _ hb'.out).mono ?_
    rintro e w1 ⟨rfl, rfl⟩
    go_wp2_with fail
    go_ret2
    exact ⟨rfl, rfl⟩
theorem r_rest (wide : Bool) (a b : Int) (w : World) (ha : Wd wide a) (hb : Wd wide b) (hz : b ≠ 0) (h1 : sg wide a = ls wide) (h2 : sg wide b = -1) :
    Calls Try.prog 27 #[.int .i64 2, .bool wide, .int .i64 a, .int .i64 b] w fun e w' => e = .returned (.tuple #[.int .i64 0, .int .i64 0]) ∧ w' = w := by
  have ha' := hide ha
  have hb' := hide hb
  have hz' := hide hz
  have h0 : (b == 0) = false := by simpa using hz
  have e1 : (sg wide a == ls wide) = true := by simpa using h1
  have e2 : (sg wide b == -1) = true := by simpa using h2
  simp only [ls] at e1
  clear ha hb hz h1 h2
  cases wide
  · simp only [Bool.false_eq_true, if_false] at e1
    go_enter Try.func27, Try.ntmps27
    go_wp2_with fail
    refine (r_signed _ _ _ ha'.out).mono ?_
    rintro e w1 ⟨rfl, rfl⟩
    go_wp2_with fail
    refine (r_signed _ _ _ hb'.out).mono ?_
    rintro e w1 ⟨rfl, rfl⟩
    go_wp2_with fail
    go_ret2
    exact ⟨rfl, rfl⟩
  · simp only [if_true] at e1
    go_enter Try.func27, Try.ntmps27
    go_wp2_with fail
    refine (r_signed _ _ _ ha'.out).mono ?_
    rintro e w1 ⟨rfl, rfl⟩
    go_wp2_with fail
    refine (r_signed _ _ _ hb'.out).mono ?_
    rintro e w1 ⟨rfl, rfl⟩
    go_wp2_with fail
    go_ret2
    exact ⟨rfl, rfl⟩
theorem r_divS1 (wide : Bool) (a b : Int) (w : World) (ha : Wd wide a) (hb : Wd wide b) (hz : b ≠ 0) (hn : ¬ (sg wide a = ls wide)) :
    Calls Try.prog 27 #[.int .i64 0, .bool wide, .int .i64 a, .int .i64 b] w fun e w' => e = .returned (.tuple #[.int .i64 ((sg wide a).tdiv (sg wide b)), .int .i64 0]) ∧ w' = w := by
  have ha' := hide ha
  have hb' := hide hb
  have hz' := hide hz
  have h0 : (b == 0) = false := by simpa using hz
  have hq := hide (tdiv_i64 (sg wide a) (sg wide b) (sg_i64 ha) (least_i64 wide a b ha (fun h => hn h.1)))
  have e1 : (sg wide a == ls wide) = false := by simpa using hn
  simp only [ls] at e1
  have hu := sg_nz wide b hb hz
  clear ha hb hz hn
  cases wide
  · simp only [Bool.false_eq_true, if_false] at e1
    go_enter Try.func27, Try.ntmps27
    go_wp2_with fail
    refine (r_signed _ _ _ ha'.out).mono ?_
    rintro e w1 ⟨rfl, rfl⟩
    go_wp2_with fail
    refine (r_signed _ _ _ hb'.out).mono ?_
    rintro e w1 ⟨rfl, rfl⟩
    go_wp2_with fail
    go_ret2
    exact ⟨ret_two hq.out rfl, rfl⟩
  · simp only [if_true] at e1
    go_enter Try.func27, Try.ntmps27
    go_wp2_with fail
    refine (r_signed _ _ _ ha'.out).mono ?_
    rintro e w1 ⟨rfl, rfl⟩
    go_wp2_with fail
    refine (r_signed _ _ _ hb'.out).mono ?_
    rintro e w1 ⟨rfl, rfl⟩
    go_wp2_with fail
    go_ret2
    exact ⟨ret_two hq.out rfl, rfl⟩
theorem r_divS2 (wide : Bool) (a b : Int) (w : World) (ha : Wd wide a) (hb : Wd wide b) (hz : b ≠ 0) (hp : sg wide a = ls wide) (hn : ¬ (sg wide b = -1)) :
    Calls Try.prog 27 #[.int .i64 0, .bool wide, .int .i64 a, .int .i64 b] w fun e w' => e = .returned (.tuple #[.int .i64 ((sg wide a).tdiv (sg wide b)), .int .i64 0]) ∧ w' = w := by
  have ha' := hide ha
  have hb' := hide hb
  have hz' := hide hz
  have h0 : (b == 0) = false := by simpa using hz
  have hq := hide (tdiv_i64 (sg wide a) (sg wide b) (sg_i64 ha) (least_i64 wide a b ha (fun h => hn h.2)))
  have e1 : (sg wide a == ls wide) = true := by simpa using hp
  simp only [ls] at e1
  have e2 : (sg wide b == -1) = false := by simpa using hn
  have hu := sg_nz wide b hb hz
  clear ha hb hz hn hp
  cases wide
  · simp only [Bool.false_eq_true, if_false] at e1
    go_enter Try.func27, Try.ntmps27
    go_wp2_with fail
    refine (r_signed _ _ _ ha'.out).mono ?_
    rintro e w1 ⟨rfl, rfl⟩
    go_wp2_with fail
    refine (r_signed _ _ _ hb'.out).mono ?_
    rintro e w1 ⟨rfl, rfl⟩
    go_wp2_with fail
    go_ret2
    exact ⟨ret_two hq.out rfl, rfl⟩
  · simp only [if_true] at e1
    go_enter Try.func27, Try.ntmps27
    go_wp2_with fail
    refine (r_signed _ _ _ ha'.out).mono ?_
    rintro e w1 ⟨rfl, rfl⟩
    go_wp2_with fail
    refine (r_signed _ _ _ hb'.out).mono ?_
    rintro e w1 ⟨rfl, rfl⟩
    go_wp2_with fail
    go_ret2
    exact ⟨ret_two hq.out rfl, rfl⟩
theorem r_remS1 (wide : Bool) (a b : Int) (w : World) (ha : Wd wide a) (hb : Wd wide b) (hz : b ≠ 0) (hn : ¬ (sg wide a = ls wide)) :
    Calls Try.prog 27 #[.int .i64 2, .bool wide, .int .i64 a, .int .i64 b] w fun e w' => e = .returned (.tuple #[.int .i64 ((sg wide a).tmod (sg wide b)), .int .i64 0]) ∧ w' = w := by
  have ha' := hide ha
  have hb' := hide hb
  have hz' := hide hz
  have h0 : (b == 0) = false := by simpa using hz
  have e1 : (sg wide a == ls wide) = false := by simpa using hn
  simp only [ls] at e1
  have hu := sg_nz wide b hb hz
  clear ha hb hz hn
  cases wide
  · simp only [Bool.false_eq_true, if_false] at e1
    go_enter Try.func27, Try.ntmps27
    go_wp2_with fail
    refine (r_signed _ _ _ ha'.out).mono ?_
    rintro e w1 ⟨rfl, rfl⟩
    go_wp2_with fail
    refine (r_signed _ _ _ hb'.out).mono ?_
    rintro e w1 ⟨rfl, rfl⟩
    go_wp2_with fail
    go_ret2
    exact ⟨rfl, rfl⟩
  · simp only [if_true] at e1
    go_enter Try.func27, Try.ntmps27
    go_wp2_with fail
    refine (r_signed _ _ _ ha'.out).mono ?_
    rintro e w1 ⟨rfl, rfl⟩
    go_wp2_with fail
    refine (r_signed _ _ _ hb'.out).mono ?_
    rintro e w1 ⟨rfl, rfl⟩
    go_wp2_with fail
    go_ret2
    exact ⟨rfl, rfl⟩
theorem r_remS2 (wide : Bool) (a b : Int) (w : World) (ha : Wd wide a) (hb : Wd wide b) (hz : b ≠ 0) (hp : sg wide a = ls wide) (hn : ¬ (sg wide b = -1)) :
    Calls Try.prog 27 #[.int .i64 2, .bool wide, .int .i64 a, .int .i64 b] w fun e w' => e = .returned (.tuple #[.int .i64 ((sg wide a).tmod (sg wide b)), .int .i64 0]) ∧ w' = w := by
  have ha' := hide ha
  have hb' := hide hb
  have hz' := hide hz
  have h0 : (b == 0) = false := by simpa using hz
  have e1 : (sg wide a == ls wide) = true := by simpa using hp
  simp only [ls] at e1
  have e2 : (sg wide b == -1) = false := by simpa using hn
  have hu := sg_nz wide b hb hz
  clear ha hb hz hn hp
  cases wide
  · simp only [Bool.false_eq_true, if_false] at e1
    go_enter Try.func27, Try.ntmps27
    go_wp2_with fail
    refine (r_signed _ _ _ ha'.out).mono ?_
    rintro e w1 ⟨rfl, rfl⟩
    go_wp2_with fail
    refine (r_signed _ _ _ hb'.out).mono ?_
    rintro e w1 ⟨rfl, rfl⟩
    go_wp2_with fail
    go_ret2
    exact ⟨rfl, rfl⟩
  · simp only [if_true] at e1
    go_enter Try.func27, Try.ntmps27
    go_wp2_with fail
    refine (r_signed _ _ _ ha'.out).mono ?_
    rintro e w1 ⟨rfl, rfl⟩
    go_wp2_with fail
    refine (r_signed _ _ _ hb'.out).mono ?_
    rintro e w1 ⟨rfl, rfl⟩
    go_wp2_with fail
    go_ret2
    exact ⟨rfl, rfl⟩
theorem r_divided (k : Int) (wide : Bool) (a b : Int) (w : World) (hk : 0 ≤ k ∧ k ≤ 3) (ha : Wd wide a) (hb : Wd wide b) :
    Calls Try.prog 27 #[.int .i64 k, .bool wide, .int .i64 a, .int .i64 b] w fun e w' => e = .returned (.tuple #[.int .i64 (dv (109 + k) wide a b).1, .int .i64 (dv (109 + k) wide a b).2]) ∧ w' = w := by
  by_cases hz : b = 0
  · subst hz
    have e : dv (109 + k) wide a 0 = (0, 2) := by simp only [dv, if_true]
    rw [e]; exact r_div_zero k wide a w
  · have h : k = 0 ∨ k = 1 ∨ k = 2 ∨ k = 3 := by omega
    rcases h with rfl | rfl | rfl | rfl
    · show Calls _ _ _ _ fun e w' => e = .returned (.tuple #[.int .i64 (dv 109 wide a b).1, .int .i64 (dv 109 wide a b).2]) ∧ w' = w
      by_cases h1 : sg wide a = ls wide
      · by_cases h2 : sg wide b = -1
        · have e : dv 109 wide a b = (0, 3) := by simp [dv, hz, h1, h2]
          rw [e]; exact r_over wide a b w ha hb hz h1 h2
        · have e : dv 109 wide a b = ((sg wide a).tdiv (sg wide b), 0) := by simp [dv, hz, h1, h2]
          rw [e]; exact r_divS2 wide a b w ha hb hz h1 h2
      · have e : dv 109 wide a b = ((sg wide a).tdiv (sg wide b), 0) := by simp [dv, hz, h1]
        rw [e]; exact r_divS1 wide a b w ha hb hz h1
    · show Calls _ _ _ _ fun e w' => e = .returned (.tuple #[.int .i64 (dv 110 wide a b).1, .int .i64 (dv 110 wide a b).2]) ∧ w' = w
      have e : dv 110 wide a b = (wrap64 (un a / un b), 0) := by simp [dv, hz]
      rw [e]; exact r_divU wide a b w ha hb hz
    · show Calls _ _ _ _ fun e w' => e = .returned (.tuple #[.int .i64 (dv 111 wide a b).1, .int .i64 (dv 111 wide a b).2]) ∧ w' = w
      have e : dv 111 wide a b = ((sg wide a).tmod (sg wide b), 0) := by simp [dv, hz]
      rw [e]
      by_cases h1 : sg wide a = ls wide
      · by_cases h2 : sg wide b = -1
        · have e2 : (sg wide a).tmod (sg wide b) = 0 := by rw [h1, h2]; cases wide <;> decide +kernel
          rw [e2]; exact r_rest wide a b w ha hb hz h1 h2
        · exact r_remS2 wide a b w ha hb hz h1 h2
      · exact r_remS1 wide a b w ha hb hz h1
    · show Calls _ _ _ _ fun e w' => e = .returned (.tuple #[.int .i64 (dv 112 wide a b).1, .int .i64 (dv 112 wide a b).2]) ∧ w' = w
      have e : dv 112 wide a b = (wrap64 (un a % un b), 0) := by simp [dv, hz]
      rw [e]; exact r_remU wide a b w ha hb hz
end Go.Proofs.Ytfcdpjihhopfhaa
