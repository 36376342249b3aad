/-
  The program's functions twin, combine, convert and compare answer what the plain functions of the text Math answer, and change nothing.
-/
import Derived.Test.YtfcdpjihhopfhaaLeaf
namespace Go.Proofs.Ytfcdpjihhopfhaa
open Go.RowKit

theorem twin_cmp (k : Int) (w : World) (h : 80 ≤ k ∧ k ≤ 90) :
    Calls Try.prog 18 #[.int .i64 k] w fun e w' => e = .returned (.int .i64 (k - 11)) ∧ w' = w := by
  have e2 : Hid (wrap64 (wrap64 (k - 80) + 69) = k - 11) := hide (by simp only [wrap64]; omega)
  have h' := hide h
  clear h
  go_enter Try.func18, Try.ntmps18
  go_wp2_with fail
  refine (within_yes _ _ _ _ h'.out).mono ?_
  rintro e w1 ⟨rfl, rfl⟩
  go_wp2_with fail
  go_ret
  exact ⟨ret_int e2.out, rfl⟩
theorem twin_sum (k : Int) (w : World) (h : 124 ≤ k ∧ k ≤ 138) :
    Calls Try.prog 18 #[.int .i64 k] w fun e w' => e = .returned (.int .i64 (k - 18)) ∧ w' = w := by
  have e2 : Hid (wrap64 (wrap64 (k - 124) + 106) = k - 18) := hide (by simp only [wrap64]; omega)
  have h' := hide h
  clear h
  go_enter Try.func18, Try.ntmps18
  go_wp2_with fail
  refine (within_no _ _ _ _ (by have := h'.out; omega)).mono ?_
  rintro e w1 ⟨rfl, rfl⟩
  go_wp2_with fail
  refine (within_yes _ _ _ _ h'.out).mono ?_
  rintro e w1 ⟨rfl, rfl⟩
  go_wp2_with fail
  go_ret
  exact ⟨ret_int e2.out, rfl⟩
theorem twin_self (k : Int) (w : World) (h : ¬ (80 ≤ k ∧ k ≤ 90)) (h2 : ¬ (124 ≤ k ∧ k ≤ 138)) :
    Calls Try.prog 18 #[.int .i64 k] w fun e w' => e = .returned (.int .i64 k) ∧ w' = w := by
  have h' := hide h
  have h2' := hide h2
  clear h h2
  go_enter Try.func18, Try.ntmps18
  go_wp2_with fail
  refine (within_no _ _ _ _ h'.out).mono ?_
  rintro e w1 ⟨rfl, rfl⟩
  go_wp2_with fail
  refine (within_no _ _ _ _ h2'.out).mono ?_
  rintro e w1 ⟨rfl, rfl⟩
  go_wp2_with fail
  go_ret
  exact ⟨rfl, rfl⟩

theorem convert_same (k v : Int) (w : World) (h : (k == 172) = false) :
    Calls Try.prog 24 #[.int .i64 k, .int .i64 v] w fun e w' => e = .returned (.int .i64 v) ∧ w' = w := by
  go_enter Try.func24, Try.ntmps24
  go_wp2_with fail
  go_ret
  exact ⟨rfl, rfl⟩
theorem convert_sign (v : Int) (w : World) (h : Wd false v) :
    Calls Try.prog 24 #[.int .i64 172, .int .i64 v] w fun e w' => e = .returned (.int .i64 (sg false v)) ∧ w' = w := by
  have h' := hide h
  clear h
  go_enter Try.func24, Try.ntmps24
  go_wp2_with fail
  refine (signed_any _ _ _ h'.out).mono ?_
  rintro e w1 ⟨rfl, rfl⟩
  go_wp2_with fail
  go_ret
  exact ⟨rfl, rfl⟩

theorem combine_any (k a b : Int) (w : World) (h : k = 106 ∨ k = 107 ∨ k = 108 ∨ k = 113 ∨ k = 114 ∨ k = 115) :
    Calls Try.prog 23 #[.int .i64 k, .int .i64 a, .int .i64 b] w fun e w' => e = .returned (.int .i64 (co k a b)) ∧ w' = w := by
  rcases h with rfl | rfl | rfl | rfl | rfl | rfl
  all_goals
    go_enter Try.func23, Try.ntmps23
    go_wp2_with fail
    go_ret
    exact ⟨rfl, rfl⟩

theorem un_wrap (a : Int) : IntKind.u64.wrap a = un a := by
  simp [un, IntKind.wrap, IntKind.bits, IntKind.signed]
theorem un_eq (a b : Int) (h : I64 a) (h' : I64 b) : un a = un b ↔ a = b := by
  obtain ⟨h1, h2⟩ := h
  obtain ⟨h3, h4⟩ := h'
  simp only [un]; omega
theorem c69 (wide : Bool) (a b : Int) (h : I64 a) : (IntKind.u64.wrap a == 0) = cm 69 wide a b := by
  rw [un_wrap]
  simp only [cm, if_true]
  rw [Bool.eq_iff_iff, beq_iff_eq, decide_eq_true_iff]
  simpa [un] using un_eq a 0 h ⟨by decide, by decide⟩
theorem c70 (wide : Bool) (a b : Int) (h : I64 a) (h' : I64 b) : (IntKind.u64.wrap a == IntKind.u64.wrap b) = cm 70 wide a b := by
  rw [un_wrap, un_wrap]
  show _ = decide (a = b)
  rw [Bool.eq_iff_iff, beq_iff_eq, decide_eq_true_iff]
  exact un_eq a b h h'
theorem c71 (wide : Bool) (a b : Int) (h : I64 a) (h' : I64 b) : (IntKind.u64.wrap a != IntKind.u64.wrap b) = cm 71 wide a b := by
  rw [un_wrap, un_wrap]
  show _ = decide (a ≠ b)
  rw [Bool.eq_iff_iff, bne_iff_ne, decide_eq_true_iff]
  exact not_congr (un_eq a b h h')
theorem c73 (wide : Bool) (a b : Int) : decide (IntKind.u64.wrap a < IntKind.u64.wrap b) = cm 73 wide a b := by
  rw [un_wrap, un_wrap]; rfl
theorem c75 (wide : Bool) (a b : Int) : decide (IntKind.u64.wrap b < IntKind.u64.wrap a) = cm 75 wide a b := by
  rw [un_wrap, un_wrap]; rfl
theorem c77 (wide : Bool) (a b : Int) : decide (IntKind.u64.wrap a ≤ IntKind.u64.wrap b) = cm 77 wide a b := by
  rw [un_wrap, un_wrap]; rfl
theorem c79 (wide : Bool) (a b : Int) : decide (IntKind.u64.wrap b ≤ IntKind.u64.wrap a) = cm 79 wide a b := by
  rw [un_wrap, un_wrap]; rfl
theorem cmp69 (wide : Bool) (a b : Int) (w : World) (ha : Wd wide a) (hb : Wd wide b) :
    Calls Try.prog 20 #[.int .i64 69, .bool wide, .int .i64 a, .int .i64 b] w fun e w' => e = .returned (.int .i64 (b1 (cm 69 wide a b))) ∧ w' = w := by
  have ha' := hide ha
  have hb' := hide hb
  clear ha hb
  go_enter Try.func20, Try.ntmps20
  go_wp2_with fail
  refine (truth_any _ _).mono ?_
  rintro e w1 ⟨rfl, rfl⟩
  go_wp2_with fail
  go_ret
  exact ⟨ret_int (congrArg b1 (c69 _ _ _ (wd_i64 ha'.out))), rfl⟩
theorem cmp70 (wide : Bool) (a b : Int) (w : World) (ha : Wd wide a) (hb : Wd wide b) :
    Calls Try.prog 20 #[.int .i64 70, .bool wide, .int .i64 a, .int .i64 b] w fun e w' => e = .returned (.int .i64 (b1 (cm 70 wide a b))) ∧ w' = w := by
  have ha' := hide ha
  have hb' := hide hb
  clear ha hb
  go_enter Try.func20, Try.ntmps20
  go_wp2_with fail
  refine (truth_any _ _).mono ?_
  rintro e w1 ⟨rfl, rfl⟩
  go_wp2_with fail
  go_ret
  exact ⟨ret_int (congrArg b1 (c70 _ _ _ (wd_i64 ha'.out) (wd_i64 hb'.out))), rfl⟩
theorem cmp71 (wide : Bool) (a b : Int) (w : World) (ha : Wd wide a) (hb : Wd wide b) :
    Calls Try.prog 20 #[.int .i64 71, .bool wide, .int .i64 a, .int .i64 b] w fun e w' => e = .returned (.int .i64 (b1 (cm 71 wide a b))) ∧ w' = w := by
  have ha' := hide ha
  have hb' := hide hb
  clear ha hb
  go_enter Try.func20, Try.ntmps20
  go_wp2_with fail
  refine (truth_any _ _).mono ?_
  rintro e w1 ⟨rfl, rfl⟩
  go_wp2_with fail
  go_ret
  exact ⟨ret_int (congrArg b1 (c71 _ _ _ (wd_i64 ha'.out) (wd_i64 hb'.out))), rfl⟩
theorem cmp72 (wide : Bool) (a b : Int) (w : World) (ha : Wd wide a) (hb : Wd wide b) :
    Calls Try.prog 20 #[.int .i64 72, .bool wide, .int .i64 a, .int .i64 b] w fun e w' => e = .returned (.int .i64 (b1 (cm 72 wide a b))) ∧ w' = w := by
  have ha' := hide ha
  have hb' := hide hb
  clear ha hb
  go_enter Try.func20, Try.ntmps20
  go_wp2_with fail
  refine (lift_any _ _ _ ha'.out).mono ?_
  rintro e w1 ⟨rfl, rfl⟩
  go_wp2_with fail
  refine (lift_any _ _ _ hb'.out).mono ?_
  rintro e w1 ⟨rfl, rfl⟩
  go_wp2_with fail
  refine (truth_any _ _).mono ?_
  rintro e w1 ⟨rfl, rfl⟩
  go_wp2_with fail
  go_ret
  exact ⟨rfl, rfl⟩
theorem cmp73 (wide : Bool) (a b : Int) (w : World) (ha : Wd wide a) (hb : Wd wide b) :
    Calls Try.prog 20 #[.int .i64 73, .bool wide, .int .i64 a, .int .i64 b] w fun e w' => e = .returned (.int .i64 (b1 (cm 73 wide a b))) ∧ w' = w := by
  have ha' := hide ha
  have hb' := hide hb
  clear ha hb
  go_enter Try.func20, Try.ntmps20
  go_wp2_with fail
  refine (truth_any _ _).mono ?_
  rintro e w1 ⟨rfl, rfl⟩
  go_wp2_with fail
  go_ret
  exact ⟨ret_int (congrArg b1 (c73 _ _ _)), rfl⟩
theorem cmp74 (wide : Bool) (a b : Int) (w : World) (ha : Wd wide a) (hb : Wd wide b) :
    Calls Try.prog 20 #[.int .i64 74, .bool wide, .int .i64 a, .int .i64 b] w fun e w' => e = .returned (.int .i64 (b1 (cm 74 wide a b))) ∧ w' = w := by
  have ha' := hide ha
  have hb' := hide hb
  clear ha hb
  go_enter Try.func20, Try.ntmps20
  go_wp2_with fail
  refine (lift_any _ _ _ ha'.out).mono ?_
  rintro e w1 ⟨rfl, rfl⟩
  go_wp2_with fail
  refine (lift_any _ _ _ hb'.out).mono ?_
  rintro e w1 ⟨rfl, rfl⟩
  go_wp2_with fail
  refine (truth_any _ _).mono ?_
  rintro e w1 ⟨rfl, rfl⟩
  go_wp2_with fail
  go_ret
  exact ⟨rfl, rfl⟩
theorem cmp75 (wide : Bool) (a b : Int) (w : World) (ha : Wd wide a) (hb : Wd wide b) :
    Calls Try.prog 20 #[.int .i64 75, .bool wide, .int .i64 a, .int .i64 b] w fun e w' => e = .returned (.int .i64 (b1 (cm 75 wide a b))) ∧ w' = w := by
  have ha' := hide ha
  have hb' := hide hb
  clear ha hb
  go_enter Try.func20, Try.ntmps20
  go_wp2_with fail
  refine (truth_any _ _).mono ?_
  rintro e w1 ⟨rfl, rfl⟩
  go_wp2_with fail
  go_ret
  exact ⟨ret_int (congrArg b1 (c75 _ _ _)), rfl⟩
theorem cmp76 (wide : Bool) (a b : Int) (w : World) (ha : Wd wide a) (hb : Wd wide b) :
    Calls Try.prog 20 #[.int .i64 76, .bool wide, .int .i64 a, .int .i64 b] w fun e w' => e = .returned (.int .i64 (b1 (cm 76 wide a b))) ∧ w' = w := by
  have ha' := hide ha
  have hb' := hide hb
  clear ha hb
  go_enter Try.func20, Try.ntmps20
  go_wp2_with fail
  refine (lift_any _ _ _ ha'.out).mono ?_
  rintro e w1 ⟨rfl, rfl⟩
  go_wp2_with fail
  refine (lift_any _ _ _ hb'.out).mono ?_
  rintro e w1 ⟨rfl, rfl⟩
  go_wp2_with fail
  refine (truth_any _ _).mono ?_
  rintro e w1 ⟨rfl, rfl⟩
  go_wp2_with fail
  go_ret
  exact ⟨rfl, rfl⟩
theorem cmp77 (wide : Bool) (a b : Int) (w : World) (ha : Wd wide a) (hb : Wd wide b) :
    Calls Try.prog 20 #[.int .i64 77, .bool wide, .int .i64 a, .int .i64 b] w fun e w' => e = .returned (.int .i64 (b1 (cm 77 wide a b))) ∧ w' = w := by
  have ha' := hide ha
  have hb' := hide hb
  clear ha hb
  go_enter Try.func20, Try.ntmps20
  go_wp2_with fail
  refine (truth_any _ _).mono ?_
  rintro e w1 ⟨rfl, rfl⟩
  go_wp2_with fail
  go_ret
  exact ⟨ret_int (congrArg b1 (c77 _ _ _)), rfl⟩
theorem cmp78 (wide : Bool) (a b : Int) (w : World) (ha : Wd wide a) (hb : Wd wide b) :
    Calls Try.prog 20 #[.int .i64 78, .bool wide, .int .i64 a, .int .i64 b] w fun e w' => e = .returned (.int .i64 (b1 (cm 78 wide a b))) ∧ w' = w := by
  have ha' := hide ha
  have hb' := hide hb
  clear ha hb
  go_enter Try.func20, Try.ntmps20
  go_wp2_with fail
  refine (lift_any _ _ _ ha'.out).mono ?_
  rintro e w1 ⟨rfl, rfl⟩
  go_wp2_with fail
  refine (lift_any _ _ _ hb'.out).mono ?_
  rintro e w1 ⟨rfl, rfl⟩
  go_wp2_with fail
  refine (truth_any _ _).mono ?_
  rintro e w1 ⟨rfl, rfl⟩
  go_wp2_with fail
  go_ret
  exact ⟨rfl, rfl⟩
theorem cmp79 (wide : Bool) (a b : Int) (w : World) (ha : Wd wide a) (hb : Wd wide b) :
    Calls Try.prog 20 #[.int .i64 79, .bool wide, .int .i64 a, .int .i64 b] w fun e w' => e = .returned (.int .i64 (b1 (cm 79 wide a b))) ∧ w' = w := by
  have ha' := hide ha
  have hb' := hide hb
  clear ha hb
  go_enter Try.func20, Try.ntmps20
  go_wp2_with fail
  refine (truth_any _ _).mono ?_
  rintro e w1 ⟨rfl, rfl⟩
  go_wp2_with fail
  go_ret
  exact ⟨ret_int (congrArg b1 (c79 _ _ _)), rfl⟩
theorem compare_any (k : Int) (wide : Bool) (a b : Int) (w : World) (hk : 69 ≤ k ∧ k ≤ 79) (ha : Wd wide a) (hb : Wd wide b) :
    Calls Try.prog 20 #[.int .i64 k, .bool wide, .int .i64 a, .int .i64 b] w fun e w' => e = .returned (.int .i64 (b1 (cm k wide a b))) ∧ w' = w := by
  have h : k = 69 ∨ k = 70 ∨ k = 71 ∨ k = 72 ∨ k = 73 ∨ k = 74 ∨ k = 75 ∨ k = 76 ∨ k = 77 ∨ k = 78 ∨ k = 79 := by omega
  rcases h with rfl | rfl | rfl | rfl | rfl | rfl | rfl | rfl | rfl | rfl | rfl
  · exact cmp69 wide a b w ha hb
  · exact cmp70 wide a b w ha hb
  · exact cmp71 wide a b w ha hb
  · exact cmp72 wide a b w ha hb
  · exact cmp73 wide a b w ha hb
  · exact cmp74 wide a b w ha hb
  · exact cmp75 wide a b w ha hb
  · exact cmp76 wide a b w ha hb
  · exact cmp77 wide a b w ha hb
  · exact cmp78 wide a b w ha hb
  · exact cmp79 wide a b w ha hb
end Go.Proofs.Ytfcdpjihhopfhaa
