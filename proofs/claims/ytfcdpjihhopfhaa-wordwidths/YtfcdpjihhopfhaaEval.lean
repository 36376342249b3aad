/-
  The program's function Eval answers what the plain function ev answers (the value and the trap), and changes nothing.
-/
import Derived.Test.YtfcdpjihhopfhaaArity
namespace Go.Proofs.Ytfcdpjihhopfhaa
open Go.RowKit

def su (k : Int) (wide : Bool) (a b : Int) : Int × Int :=
  if 109 ≤ k ∧ k ≤ 112 then (tr wide (dv k wide (tr wide a) (tr wide b)).1, (dv k wide (tr wide a) (tr wide b)).2)
  else if 116 ≤ k then (tr wide (sh k wide (tr wide a) (far wide (tr wide b))), 0) else (tr wide (co k (tr wide a) (tr wide b)), 0)

def ev (op a b : Int) : Int × Int :=
  if 69 ≤ op ∧ op ≤ 79 then (b1 (cm op false (tr false a) (tr false b)), 0)
  else if 80 ≤ op ∧ op ≤ 90 then (b1 (cm (op - 11) true (tr true a) (tr true b)), 0)
  else if 106 ≤ op ∧ op ≤ 120 then su op false a b
  else if 124 ≤ op ∧ op ≤ 138 then su (op - 18) true a b
  else if op = 172 then (sg false (tr false a), 0)
  else if op = 167 ∨ op = 173 then (tr false a, 0) else (0, 0)

/-- the two results, as the call hands them back -/
def two (r : Int × Int) : Ending := .returned (.tuple #[.int .i64 r.1, .int .i64 r.2])
theorem ret_ev {a b c d : Int} (h : a = b) (h' : c = d) : Ending.returned (.tuple #[.int .i64 a, .int .i64 c]) = two (b, d) := by rw [h, h']; rfl
theorem tr_b1 (wide : Bool) (x : Bool) : tr wide (b1 x) = b1 x := by cases wide <;> cases x <;> decide

theorem arity_any (op : Int) (w : World) :
    Calls Try.prog 12 #[.int .i64 op] w fun e w' => e = four (ar op) ∧ w' = w := by
  by_cases h1 : op = 69
  · subst h1; exact arity_69 w
  by_cases h2 : op = 80
  · subst h2; exact arity_80 w
  by_cases h3 : op = 167
  · subst h3; exact arity_167 w
  by_cases h4 : op = 172
  · subst h4; exact arity_172 w
  by_cases h5 : op = 173
  · subst h5; exact arity_173 w
  by_cases h6 : 70 ≤ op ∧ op ≤ 79
  · rw [show ar op = (2, 0, 0, true) by simp [ar, h1, h2, h3, h4, h5, h6]]; exact arity_c32 op w h6
  by_cases h7 : 106 ≤ op ∧ op ≤ 120
  · rw [show ar op = (2, 0, 0, true) by simp [ar, h1, h2, h3, h4, h5, h7]]; exact arity_s32 op w h7
  by_cases h8 : 81 ≤ op ∧ op ≤ 90
  · rw [show ar op = (2, 1, 0, true) by simp only [ar]; rw [if_neg h1, if_neg (by omega), if_neg (by omega), if_neg (by omega), if_pos h8]]; exact arity_c64 op w h8
  by_cases h9 : 124 ≤ op ∧ op ≤ 138
  · rw [show ar op = (2, 1, 1, true) by simp only [ar]; rw [if_neg h1, if_neg (by omega), if_neg (by omega), if_neg (by omega), if_neg h8, if_pos h9]]; exact arity_s64 op w h9
  · rw [show ar op = (0, 0, 0, false) by simp only [ar]; rw [if_neg h1, if_neg (by omega), if_neg (by omega), if_neg (by omega), if_neg h8, if_neg h9]]; exact arity_none op w (by omega)

theorem eval_none (op a b : Int) (w : World) (h : ¬ (69 ≤ op ∧ op ≤ 90 ∨ 106 ≤ op ∧ op ≤ 120 ∨ 124 ≤ op ∧ op ≤ 138 ∨ op = 167 ∨ op = 172 ∨ op = 173)) :
    Calls Try.prog 10 #[.int .i64 op, .int .i64 a, .int .i64 b] w fun e w' => e = .returned (.tuple #[.int .i64 0, .int .i64 0]) ∧ w' = w := by
  have h' := hide h
  clear h
  go_enter Try.func10, Try.ntmps10
  go_wp2_with fail
  refine (arity_none op w h'.out).mono ?_
  rintro e w1 ⟨rfl, rfl⟩
  dsimp only [four]
  go_wp2_with fail
  go_ret2
  exact ⟨rfl, rfl⟩
set_option maxHeartbeats 400000 in
theorem eval_c32 (op t a b : Int) (w : World) (ha : I64 a) (hb : I64 b) (h : 69 ≤ op ∧ op ≤ 79)
    (hA : Calls Try.prog 12 #[.int .i64 op] w fun e w' => e = four (t, 0, 0, true) ∧ w' = w) :
    Calls Try.prog 10 #[.int .i64 op, .int .i64 a, .int .i64 b] w fun e w' => e = two (b1 (cm op false (tr false a) (tr false b)), 0) ∧ w' = w := by
  have h' := hide h
  have ha' := hide (tr_wd false a ha)
  have hb' := hide (tr_wd false b hb)
  have hA' := hide hA
  clear ha hb hA h
  go_enter Try.func10, Try.ntmps10
  go_wp2_with fail
  refine (hA'.out).mono ?_
  rintro e w1 ⟨rfl, rfl⟩
  dsimp only [four]
  go_wp2_with fail
  refine (trim_any _ _ _).mono ?_
  rintro e w1 ⟨rfl, rfl⟩
  go_wp2_with fail
  refine (trim_any _ _ _).mono ?_
  rintro e w1 ⟨rfl, rfl⟩
  go_wp2_with fail
  refine (twin_self _ _ (by have := h'.out; omega) (by have := h'.out; omega)).mono ?_
  rintro e w1 ⟨rfl, rfl⟩
  go_wp2_with fail
  refine (within_yes _ _ _ _ (by have := h'.out; omega)).mono ?_
  rintro e w1 ⟨rfl, rfl⟩
  go_wp2_with fail
  refine (compare_any _ _ _ _ _ (by have := h'.out; omega) ha'.out hb'.out).mono ?_
  rintro e w1 ⟨rfl, rfl⟩
  go_wp2_with fail
  refine (trim_any _ _ _).mono ?_
  rintro e w1 ⟨rfl, rfl⟩
  go_wp2_with fail
  go_ret2
  exact ⟨ret_ev (tr_b1 _ _) rfl, rfl⟩
set_option maxHeartbeats 400000 in
theorem eval_d32 (op t a b : Int) (w : World) (ha : I64 a) (hb : I64 b) (h : 109 ≤ op ∧ op ≤ 112)
    (hA : Calls Try.prog 12 #[.int .i64 op] w fun e w' => e = four (t, 0, 0, true) ∧ w' = w) :
    Calls Try.prog 10 #[.int .i64 op, .int .i64 a, .int .i64 b] w fun e w' => e = two (tr false (dv op false (tr false a) (tr false b)).1, (dv op false (tr false a) (tr false b)).2) ∧ w' = w := by
  have h' := hide h
  have ha' := hide (tr_wd false a ha)
  have hb' := hide (tr_wd false b hb)
  have hA' := hide hA
  clear ha hb hA h
  go_enter Try.func10, Try.ntmps10
  go_wp2_with fail
  refine (hA'.out).mono ?_
  rintro e w1 ⟨rfl, rfl⟩
  dsimp only [four]
  go_wp2_with fail
  refine (trim_any _ _ _).mono ?_
  rintro e w1 ⟨rfl, rfl⟩
  go_wp2_with fail
  refine (trim_any _ _ _).mono ?_
  rintro e w1 ⟨rfl, rfl⟩
  go_wp2_with fail
  refine (twin_self _ _ (by have := h'.out; omega) (by have := h'.out; omega)).mono ?_
  rintro e w1 ⟨rfl, rfl⟩
  go_wp2_with fail
  refine (within_no _ _ _ _ (by have := h'.out; omega)).mono ?_
  rintro e w1 ⟨rfl, rfl⟩
  go_wp2_with fail
  refine (within_yes _ _ _ _ (by have := h'.out; omega)).mono ?_
  rintro e w1 ⟨rfl, rfl⟩
  go_wp2_with fail
  refine (divide_any _ _ _ _ _ (by have := h'.out; omega) ha'.out hb'.out).mono ?_
  rintro e w1 ⟨rfl, rfl⟩
  go_wp2_with fail
  refine (trim_any _ _ _).mono ?_
  rintro e w1 ⟨rfl, rfl⟩
  go_wp2_with fail
  go_ret2
  exact ⟨ret_ev rfl rfl, rfl⟩
set_option maxHeartbeats 400000 in
theorem eval_m32 (op t a b : Int) (w : World) (ha : I64 a) (hb : I64 b) (h : 116 ≤ op ∧ op ≤ 120)
    (hA : Calls Try.prog 12 #[.int .i64 op] w fun e w' => e = four (t, 0, 0, true) ∧ w' = w) :
    Calls Try.prog 10 #[.int .i64 op, .int .i64 a, .int .i64 b] w fun e w' => e = two (tr false (sh op false (tr false a) (far false (tr false b))), 0) ∧ w' = w := by
  have h' := hide h
  have ha' := hide (tr_wd false a ha)
  have hb' := hide (tr_wd false b hb)
  have hA' := hide hA
  clear ha hb hA h
  go_enter Try.func10, Try.ntmps10
  go_wp2_with fail
  refine (hA'.out).mono ?_
  rintro e w1 ⟨rfl, rfl⟩
  dsimp only [four]
  go_wp2_with fail
  refine (trim_any _ _ _).mono ?_
  rintro e w1 ⟨rfl, rfl⟩
  go_wp2_with fail
  refine (trim_any _ _ _).mono ?_
  rintro e w1 ⟨rfl, rfl⟩
  go_wp2_with fail
  refine (twin_self _ _ (by have := h'.out; omega) (by have := h'.out; omega)).mono ?_
  rintro e w1 ⟨rfl, rfl⟩
  go_wp2_with fail
  refine (within_no _ _ _ _ (by have := h'.out; omega)).mono ?_
  rintro e w1 ⟨rfl, rfl⟩
  go_wp2_with fail
  refine (within_no _ _ _ _ (by have := h'.out; omega)).mono ?_
  rintro e w1 ⟨rfl, rfl⟩
  go_wp2_with fail
  refine (within_yes _ _ _ _ (by have := h'.out; omega)).mono ?_
  rintro e w1 ⟨rfl, rfl⟩
  go_wp2_with fail
  refine (shift_any _ _ _ _ _ (by have := h'.out; omega) ha'.out).mono ?_
  rintro e w1 ⟨rfl, rfl⟩
  go_wp2_with fail
  refine (trim_any _ _ _).mono ?_
  rintro e w1 ⟨rfl, rfl⟩
  go_wp2_with fail
  go_ret2
  exact ⟨ret_ev rfl rfl, rfl⟩
set_option maxHeartbeats 400000 in
theorem eval_s32 (op t a b : Int) (w : World) (ha : I64 a) (hb : I64 b) (h : 106 ≤ op ∧ op ≤ 108 ∨ 113 ≤ op ∧ op ≤ 115)
    (hA : Calls Try.prog 12 #[.int .i64 op] w fun e w' => e = four (t, 0, 0, true) ∧ w' = w) :
    Calls Try.prog 10 #[.int .i64 op, .int .i64 a, .int .i64 b] w fun e w' => e = two (tr false (co op (tr false a) (tr false b)), 0) ∧ w' = w := by
  have h' := hide h
  have ha' := hide (tr_wd false a ha)
  have hb' := hide (tr_wd false b hb)
  have hA' := hide hA
  clear ha hb hA h
  go_enter Try.func10, Try.ntmps10
  go_wp2_with fail
  refine (hA'.out).mono ?_
  rintro e w1 ⟨rfl, rfl⟩
  dsimp only [four]
  go_wp2_with fail
  refine (trim_any _ _ _).mono ?_
  rintro e w1 ⟨rfl, rfl⟩
  go_wp2_with fail
  refine (trim_any _ _ _).mono ?_
  rintro e w1 ⟨rfl, rfl⟩
  go_wp2_with fail
  refine (twin_self _ _ (by have := h'.out; omega) (by have := h'.out; omega)).mono ?_
  rintro e w1 ⟨rfl, rfl⟩
  go_wp2_with fail
  refine (within_no _ _ _ _ (by have := h'.out; omega)).mono ?_
  rintro e w1 ⟨rfl, rfl⟩
  go_wp2_with fail
  refine (within_no _ _ _ _ (by have := h'.out; omega)).mono ?_
  rintro e w1 ⟨rfl, rfl⟩
  go_wp2_with fail
  refine (within_no _ _ _ _ (by have := h'.out; omega)).mono ?_
  rintro e w1 ⟨rfl, rfl⟩
  go_wp2_with fail
  refine (within_yes _ _ _ _ (by have := h'.out; omega)).mono ?_
  rintro e w1 ⟨rfl, rfl⟩
  go_wp2_with fail
  refine (combine_any _ _ _ _ (by have := h'.out; omega)).mono ?_
  rintro e w1 ⟨rfl, rfl⟩
  go_wp2_with fail
  refine (trim_any _ _ _).mono ?_
  rintro e w1 ⟨rfl, rfl⟩
  go_wp2_with fail
  go_ret2
  exact ⟨ret_ev rfl rfl, rfl⟩
set_option maxHeartbeats 400000 in
theorem eval_c64 (op t a b : Int) (w : World) (ha : I64 a) (hb : I64 b) (h : 80 ≤ op ∧ op ≤ 90)
    (hA : Calls Try.prog 12 #[.int .i64 op] w fun e w' => e = four (t, 1, 0, true) ∧ w' = w) :
    Calls Try.prog 10 #[.int .i64 op, .int .i64 a, .int .i64 b] w fun e w' => e = two (b1 (cm (op - 11) true (tr true a) (tr true b)), 0) ∧ w' = w := by
  have h' := hide h
  have ha' := hide (tr_wd true a ha)
  have hb' := hide (tr_wd true b hb)
  have hA' := hide hA
  clear ha hb hA h
  go_enter Try.func10, Try.ntmps10
  go_wp2_with fail
  refine (hA'.out).mono ?_
  rintro e w1 ⟨rfl, rfl⟩
  dsimp only [four]
  go_wp2_with fail
  refine (trim_any _ _ _).mono ?_
  rintro e w1 ⟨rfl, rfl⟩
  go_wp2_with fail
  refine (trim_any _ _ _).mono ?_
  rintro e w1 ⟨rfl, rfl⟩
  go_wp2_with fail
  refine (twin_cmp _ _ (by have := h'.out; omega)).mono ?_
  rintro e w1 ⟨rfl, rfl⟩
  go_wp2_with fail
  refine (within_yes _ _ _ _ (by have := h'.out; omega)).mono ?_
  rintro e w1 ⟨rfl, rfl⟩
  go_wp2_with fail
  refine (compare_any _ _ _ _ _ (by have := h'.out; omega) ha'.out hb'.out).mono ?_
  rintro e w1 ⟨rfl, rfl⟩
  go_wp2_with fail
  refine (trim_any _ _ _).mono ?_
  rintro e w1 ⟨rfl, rfl⟩
  go_wp2_with fail
  go_ret2
  exact ⟨ret_ev (tr_b1 _ _) rfl, rfl⟩
set_option maxHeartbeats 400000 in
theorem eval_d64 (op t a b : Int) (w : World) (ha : I64 a) (hb : I64 b) (h : 127 ≤ op ∧ op ≤ 130)
    (hA : Calls Try.prog 12 #[.int .i64 op] w fun e w' => e = four (t, 1, 1, true) ∧ w' = w) :
    Calls Try.prog 10 #[.int .i64 op, .int .i64 a, .int .i64 b] w fun e w' => e = two (tr true (dv (op - 18) true (tr true a) (tr true b)).1, (dv (op - 18) true (tr true a) (tr true b)).2) ∧ w' = w := by
  have h' := hide h
  have ha' := hide (tr_wd true a ha)
  have hb' := hide (tr_wd true b hb)
  have hA' := hide hA
  clear ha hb hA h
  go_enter Try.func10, Try.ntmps10
  go_wp2_with fail
  refine (hA'.out).mono ?_
  rintro e w1 ⟨rfl, rfl⟩
  dsimp only [four]
  go_wp2_with fail
  refine (trim_any _ _ _).mono ?_
  rintro e w1 ⟨rfl, rfl⟩
  go_wp2_with fail
  refine (trim_any _ _ _).mono ?_
  rintro e w1 ⟨rfl, rfl⟩
  go_wp2_with fail
  refine (twin_sum _ _ (by have := h'.out; omega)).mono ?_
  rintro e w1 ⟨rfl, rfl⟩
  go_wp2_with fail
  refine (within_no _ _ _ _ (by have := h'.out; omega)).mono ?_
  rintro e w1 ⟨rfl, rfl⟩
  go_wp2_with fail
  refine (within_yes _ _ _ _ (by have := h'.out; omega)).mono ?_
  rintro e w1 ⟨rfl, rfl⟩
  go_wp2_with fail
  refine (divide_any _ _ _ _ _ (by have := h'.out; omega) ha'.out hb'.out).mono ?_
  rintro e w1 ⟨rfl, rfl⟩
  go_wp2_with fail
  refine (trim_any _ _ _).mono ?_
  rintro e w1 ⟨rfl, rfl⟩
  go_wp2_with fail
  go_ret2
  exact ⟨ret_ev rfl rfl, rfl⟩
set_option maxHeartbeats 400000 in
theorem eval_m64 (op t a b : Int) (w : World) (ha : I64 a) (hb : I64 b) (h : 134 ≤ op ∧ op ≤ 138)
    (hA : Calls Try.prog 12 #[.int .i64 op] w fun e w' => e = four (t, 1, 1, true) ∧ w' = w) :
    Calls Try.prog 10 #[.int .i64 op, .int .i64 a, .int .i64 b] w fun e w' => e = two (tr true (sh (op - 18) true (tr true a) (far true (tr true b))), 0) ∧ w' = w := by
  have h' := hide h
  have ha' := hide (tr_wd true a ha)
  have hb' := hide (tr_wd true b hb)
  have hA' := hide hA
  clear ha hb hA h
  go_enter Try.func10, Try.ntmps10
  go_wp2_with fail
  refine (hA'.out).mono ?_
  rintro e w1 ⟨rfl, rfl⟩
  dsimp only [four]
  go_wp2_with fail
  refine (trim_any _ _ _).mono ?_
  rintro e w1 ⟨rfl, rfl⟩
  go_wp2_with fail
  refine (trim_any _ _ _).mono ?_
  rintro e w1 ⟨rfl, rfl⟩
  go_wp2_with fail
  refine (twin_sum _ _ (by have := h'.out; omega)).mono ?_
  rintro e w1 ⟨rfl, rfl⟩
  go_wp2_with fail
  refine (within_no _ _ _ _ (by have := h'.out; omega)).mono ?_
  rintro e w1 ⟨rfl, rfl⟩
  go_wp2_with fail
  refine (within_no _ _ _ _ (by have := h'.out; omega)).mono ?_
  rintro e w1 ⟨rfl, rfl⟩
  go_wp2_with fail
  refine (within_yes _ _ _ _ (by have := h'.out; omega)).mono ?_
  rintro e w1 ⟨rfl, rfl⟩
  go_wp2_with fail
  refine (shift_any _ _ _ _ _ (by have := h'.out; omega) ha'.out).mono ?_
  rintro e w1 ⟨rfl, rfl⟩
  go_wp2_with fail
  refine (trim_any _ _ _).mono ?_
  rintro e w1 ⟨rfl, rfl⟩
  go_wp2_with fail
  go_ret2
  exact ⟨ret_ev rfl rfl, rfl⟩
set_option maxHeartbeats 400000 in
theorem eval_s64 (op t a b : Int) (w : World) (ha : I64 a) (hb : I64 b) (h : 124 ≤ op ∧ op ≤ 126 ∨ 131 ≤ op ∧ op ≤ 133)
    (hA : Calls Try.prog 12 #[.int .i64 op] w fun e w' => e = four (t, 1, 1, true) ∧ w' = w) :
    Calls Try.prog 10 #[.int .i64 op, .int .i64 a, .int .i64 b] w fun e w' => e = two (tr true (co (op - 18) (tr true a) (tr true b)), 0) ∧ w' = w := by
  have h' := hide h
  have ha' := hide (tr_wd true a ha)
  have hb' := hide (tr_wd true b hb)
  have hA' := hide hA
  clear ha hb hA h
  go_enter Try.func10, Try.ntmps10
  go_wp2_with fail
  refine (hA'.out).mono ?_
  rintro e w1 ⟨rfl, rfl⟩
  dsimp only [four]
  go_wp2_with fail
  refine (trim_any _ _ _).mono ?_
  rintro e w1 ⟨rfl, rfl⟩
  go_wp2_with fail
  refine (trim_any _ _ _).mono ?_
  rintro e w1 ⟨rfl, rfl⟩
  go_wp2_with fail
  refine (twin_sum _ _ (by have := h'.out; omega)).mono ?_
  rintro e w1 ⟨rfl, rfl⟩
  go_wp2_with fail
  refine (within_no _ _ _ _ (by have := h'.out; omega)).mono ?_
  rintro e w1 ⟨rfl, rfl⟩
  go_wp2_with fail
  refine (within_no _ _ _ _ (by have := h'.out; omega)).mono ?_
  rintro e w1 ⟨rfl, rfl⟩
  go_wp2_with fail
  refine (within_no _ _ _ _ (by have := h'.out; omega)).mono ?_
  rintro e w1 ⟨rfl, rfl⟩
  go_wp2_with fail
  refine (within_yes _ _ _ _ (by have := h'.out; omega)).mono ?_
  rintro e w1 ⟨rfl, rfl⟩
  go_wp2_with fail
  refine (combine_any _ _ _ _ (by have := h'.out; omega)).mono ?_
  rintro e w1 ⟨rfl, rfl⟩
  go_wp2_with fail
  refine (trim_any _ _ _).mono ?_
  rintro e w1 ⟨rfl, rfl⟩
  go_wp2_with fail
  go_ret2
  exact ⟨ret_ev rfl rfl, rfl⟩
set_option maxHeartbeats 400000 in
theorem eval_167 (a b : Int) (w : World) (ha : I64 a) (hb : I64 b)
    (hA : Calls Try.prog 12 #[.int .i64 167] w fun e w' => e = four (1, 1, 0, true) ∧ w' = w) :
    Calls Try.prog 10 #[.int .i64 167, .int .i64 a, .int .i64 b] w fun e w' => e = two (tr false a, 0) ∧ w' = w := by
  have ha' := hide (tr_wd true a ha)
  have hb' := hide (tr_wd true b hb)
  have hA' := hide hA
  clear ha hb hA
  go_enter Try.func10, Try.ntmps10
  go_wp2_with fail
  refine (hA'.out).mono ?_
  rintro e w1 ⟨rfl, rfl⟩
  dsimp only [four]
  go_wp2_with fail
  refine (trim_any _ _ _).mono ?_
  rintro e w1 ⟨rfl, rfl⟩
  go_wp2_with fail
  refine (trim_any _ _ _).mono ?_
  rintro e w1 ⟨rfl, rfl⟩
  go_wp2_with fail
  refine (twin_self _ _ (by omega) (by omega)).mono ?_
  rintro e w1 ⟨rfl, rfl⟩
  go_wp2_with fail
  refine (within_no _ _ _ _ (by omega)).mono ?_
  rintro e w1 ⟨rfl, rfl⟩
  go_wp2_with fail
  refine (within_no _ _ _ _ (by omega)).mono ?_
  rintro e w1 ⟨rfl, rfl⟩
  go_wp2_with fail
  refine (within_no _ _ _ _ (by omega)).mono ?_
  rintro e w1 ⟨rfl, rfl⟩
  go_wp2_with fail
  refine (within_no _ _ _ _ (by omega)).mono ?_
  rintro e w1 ⟨rfl, rfl⟩
  go_wp2_with fail
  refine (convert_same _ _ _ (by decide)).mono ?_
  rintro e w1 ⟨rfl, rfl⟩
  go_wp2_with fail
  refine (trim_any _ _ _).mono ?_
  rintro e w1 ⟨rfl, rfl⟩
  go_wp2_with fail
  go_ret2
  exact ⟨ret_ev rfl rfl, rfl⟩
set_option maxHeartbeats 400000 in
theorem eval_172 (a b : Int) (w : World) (ha : I64 a) (hb : I64 b)
    (hA : Calls Try.prog 12 #[.int .i64 172] w fun e w' => e = four (1, 0, 1, true) ∧ w' = w) :
    Calls Try.prog 10 #[.int .i64 172, .int .i64 a, .int .i64 b] w fun e w' => e = two (sg false (tr false a), 0) ∧ w' = w := by
  have ha' := hide (tr_wd false a ha)
  have hb' := hide (tr_wd false b hb)
  have hA' := hide hA
  clear ha hb hA
  go_enter Try.func10, Try.ntmps10
  go_wp2_with fail
  refine (hA'.out).mono ?_
  rintro e w1 ⟨rfl, rfl⟩
  dsimp only [four]
  go_wp2_with fail
  refine (trim_any _ _ _).mono ?_
  rintro e w1 ⟨rfl, rfl⟩
  go_wp2_with fail
  refine (trim_any _ _ _).mono ?_
  rintro e w1 ⟨rfl, rfl⟩
  go_wp2_with fail
  refine (twin_self _ _ (by omega) (by omega)).mono ?_
  rintro e w1 ⟨rfl, rfl⟩
  go_wp2_with fail
  refine (within_no _ _ _ _ (by omega)).mono ?_
  rintro e w1 ⟨rfl, rfl⟩
  go_wp2_with fail
  refine (within_no _ _ _ _ (by omega)).mono ?_
  rintro e w1 ⟨rfl, rfl⟩
  go_wp2_with fail
  refine (within_no _ _ _ _ (by omega)).mono ?_
  rintro e w1 ⟨rfl, rfl⟩
  go_wp2_with fail
  refine (within_no _ _ _ _ (by omega)).mono ?_
  rintro e w1 ⟨rfl, rfl⟩
  go_wp2_with fail
  refine (convert_sign _ _ ha'.out).mono ?_
  rintro e w1 ⟨rfl, rfl⟩
  go_wp2_with fail
  refine (trim_any _ _ _).mono ?_
  rintro e w1 ⟨rfl, rfl⟩
  go_wp2_with fail
  go_ret2
  exact ⟨ret_ev rfl rfl, rfl⟩
set_option maxHeartbeats 400000 in
theorem eval_173 (a b : Int) (w : World) (ha : I64 a) (hb : I64 b)
    (hA : Calls Try.prog 12 #[.int .i64 173] w fun e w' => e = four (1, 0, 1, true) ∧ w' = w) :
    Calls Try.prog 10 #[.int .i64 173, .int .i64 a, .int .i64 b] w fun e w' => e = two (tr false a, 0) ∧ w' = w := by
  have ha' := hide (tr_wd false a ha)
  have hb' := hide (tr_wd false b hb)
  have hA' := hide hA
  clear ha hb hA
  go_enter Try.func10, Try.ntmps10
  go_wp2_with fail
  refine (hA'.out).mono ?_
  rintro e w1 ⟨rfl, rfl⟩
  dsimp only [four]
  go_wp2_with fail
  refine (trim_any _ _ _).mono ?_
  rintro e w1 ⟨rfl, rfl⟩
  go_wp2_with fail
  refine (trim_any _ _ _).mono ?_
  rintro e w1 ⟨rfl, rfl⟩
  go_wp2_with fail
  refine (twin_self _ _ (by omega) (by omega)).mono ?_
  rintro e w1 ⟨rfl, rfl⟩
  go_wp2_with fail
  refine (within_no _ _ _ _ (by omega)).mono ?_
  rintro e w1 ⟨rfl, rfl⟩
  go_wp2_with fail
  refine (within_no _ _ _ _ (by omega)).mono ?_
  rintro e w1 ⟨rfl, rfl⟩
  go_wp2_with fail
  refine (within_no _ _ _ _ (by omega)).mono ?_
  rintro e w1 ⟨rfl, rfl⟩
  go_wp2_with fail
  refine (within_no _ _ _ _ (by omega)).mono ?_
  rintro e w1 ⟨rfl, rfl⟩
  go_wp2_with fail
  refine (convert_same _ _ _ (by decide)).mono ?_
  rintro e w1 ⟨rfl, rfl⟩
  go_wp2_with fail
  refine (trim_any _ _ _).mono ?_
  rintro e w1 ⟨rfl, rfl⟩
  go_wp2_with fail
  go_ret2
  exact ⟨ret_ev rfl rfl, rfl⟩

theorem eval_any (op a b : Int) (w : World) (ha : I64 a) (hb : I64 b) :
    Calls Try.prog 10 #[.int .i64 op, .int .i64 a, .int .i64 b] w fun e w' => e = two (ev op a b) ∧ w' = w := by
  by_cases h1 : 69 ≤ op ∧ op ≤ 79
  · rw [show ev op a b = (b1 (cm op false (tr false a) (tr false b)), 0) by simp only [ev]; rw [if_pos h1]]
    by_cases h : op = 69
    · subst h; exact eval_c32 69 1 a b w ha hb h1 (arity_69 w)
    · exact eval_c32 op 2 a b w ha hb h1 (arity_c32 op w (by omega))
  by_cases h2 : 80 ≤ op ∧ op ≤ 90
  · rw [show ev op a b = (b1 (cm (op - 11) true (tr true a) (tr true b)), 0) by simp only [ev]; rw [if_neg h1, if_pos h2]]
    by_cases h : op = 80
    · subst h; exact eval_c64 80 1 a b w ha hb h2 (arity_80 w)
    · exact eval_c64 op 2 a b w ha hb h2 (arity_c64 op w (by omega))
  by_cases h3 : 106 ≤ op ∧ op ≤ 120
  · rw [show ev op a b = su op false a b by simp only [ev]; rw [if_neg h1, if_neg h2, if_pos h3]]
    by_cases d : 109 ≤ op ∧ op ≤ 112
    · rw [su, if_pos d]; exact eval_d32 op 2 a b w ha hb d (arity_s32 op w h3)
    by_cases m : 116 ≤ op
    · rw [su, if_neg d, if_pos m]; exact eval_m32 op 2 a b w ha hb ⟨m, h3.2⟩ (arity_s32 op w h3)
    · rw [su, if_neg d, if_neg m]; exact eval_s32 op 2 a b w ha hb (by omega) (arity_s32 op w h3)
  by_cases h4 : 124 ≤ op ∧ op ≤ 138
  · rw [show ev op a b = su (op - 18) true a b by simp only [ev]; rw [if_neg h1, if_neg h2, if_neg h3, if_pos h4]]
    by_cases d : 109 ≤ op - 18 ∧ op - 18 ≤ 112
    · rw [su, if_pos d]; exact eval_d64 op 2 a b w ha hb (by omega) (arity_s64 op w h4)
    by_cases m : 116 ≤ op - 18
    · rw [su, if_neg d, if_pos m]; exact eval_m64 op 2 a b w ha hb (by omega) (arity_s64 op w h4)
    · rw [su, if_neg d, if_neg m]; exact eval_s64 op 2 a b w ha hb (by omega) (arity_s64 op w h4)
  by_cases h5 : op = 172
  · subst h5; exact eval_172 a b w ha hb (arity_172 w)
  by_cases h6 : op = 167
  · subst h6; exact eval_167 a b w ha hb (arity_167 w)
  by_cases h7 : op = 173
  · subst h7; exact eval_173 a b w ha hb (arity_173 w)
  · rw [show ev op a b = (0, 0) by simp only [ev]; rw [if_neg h1, if_neg h2, if_neg h3, if_neg h4, if_neg h5, if_neg (by omega)]]
    exact eval_none op a b w (by omega)
end Go.Proofs.Ytfcdpjihhopfhaa
