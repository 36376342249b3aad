/-
  The document's small functions: word, alu, shift, cond, and which fields an instruction has.
-/
import Derived.Test.YtddepkiefkngdaaRightA
namespace Go.Proofs.Ytddepkiefkngdaa
open Go.RowKit
set_option linter.unusedSimpArgs false
set_option linter.unusedVariables false

theorem rword_any (n : Int) (w : World) : Calls Try.prog 28 #[.int .i64 n] w fun e w' => e = .returned (.bool (s32 n)) ∧ w' = w := by
  by_cases h : -2147483648 ≤ n
  · have hv : s32 n = decide (n < 2147483648) := by unfold s32; rw [Bool.eq_iff_iff]; simp only [Bool.and_eq_true, decide_eq_true_eq]; omega
    rw [hv]
    clear hv
    go_enter Try.func28, Try.ntmps28
    go_wp2
    go_ret
    exact ⟨rfl, rfl⟩
  · have hv : s32 n = false := by unfold s32; rw [decide_eq_false h, Bool.false_and]
    rw [hv]
    have d := decide_eq_false h
    clear hv h
    go_enter Try.func28, Try.ntmps28
    go_wp2
    go_ret
    exact ⟨rfl, rfl⟩
theorem ralu_any (c : Int) (w : World) : Calls Try.prog 29 #[.int .i64 c] w fun e w' => e = .returned (.bool (smK c)) ∧ w' = w := by
  cases h : smK c
  · simp only [smK, Bool.or_eq_false_iff, beq_eq_false_iff_ne] at h
    obtain ⟨⟨⟨⟨⟨h0, h1⟩, h4⟩, h5⟩, h6⟩, h7⟩ := h
    have e0 : (c == 0) = false := beq_eq_false_iff_ne.2 h0
    have e1 : (c == 1) = false := beq_eq_false_iff_ne.2 h1
    by_cases k : 4 ≤ c
    · have d : decide (c ≤ 7) = false := decide_eq_false (by omega)
      clear h0 h1 h4 h5 h6 h7
      go_enter Try.func29, Try.ntmps29
      go_wp2
      go_ret
      exact ⟨rfl, rfl⟩
    · have d : decide (4 ≤ c) = false := decide_eq_false k
      clear h0 h1 h4 h5 h6 h7 k
      go_enter Try.func29, Try.ntmps29
      go_wp2
      go_ret
      exact ⟨rfl, rfl⟩
  · rcases sm_cases h with rfl | rfl | rfl | rfl | rfl | rfl <;> (go_enter Try.func29, Try.ntmps29; go_wp2; go_ret; exact ⟨rfl, rfl⟩)
theorem rshift_any (c : Int) (w : World) : Calls Try.prog 30 #[.int .i64 c] w fun e w' => e = .returned (.bool (shK c)) ∧ w' = w := by
  cases h : shK c
  · simp only [shK, Bool.or_eq_false_iff] at h
    obtain ⟨⟨⟨⟨h0, h1⟩, h4⟩, h5⟩, h7⟩ := h
    go_enter Try.func30, Try.ntmps30
    go_wp2
    go_ret
    exact ⟨rfl, rfl⟩
  · rcases sh_cases h with rfl | rfl | rfl | rfl | rfl <;> (go_enter Try.func30, Try.ntmps30; go_wp2; go_ret; exact ⟨rfl, rfl⟩)
theorem rcond_any (c : Int) (w : World) : Calls Try.prog 31 #[.int .i64 c] w fun e w' => e = .returned (.bool (cnK c)) ∧ w' = w := by
  cases h : cnK c
  · simp only [cnK, Bool.or_eq_false_iff, beq_eq_false_iff_ne] at h
    obtain ⟨⟨⟨⟨⟨⟨⟨⟨⟨h2, h3⟩, h4⟩, h5⟩, h6⟩, h7⟩, h12⟩, h13⟩, h14⟩, h15⟩ := h
    by_cases k : 2 ≤ c
    · have d1 : decide (c ≤ 7) = false := decide_eq_false (by omega)
      by_cases k2 : 12 ≤ c
      · have d2 : decide (c ≤ 15) = false := decide_eq_false (by omega)
        clear h2 h3 h4 h5 h6 h7 h12 h13 h14 h15
        go_enter Try.func31, Try.ntmps31
        go_wp2
        go_ret
        exact ⟨rfl, rfl⟩
      · have d2 : decide (12 ≤ c) = false := decide_eq_false k2
        clear h2 h3 h4 h5 h6 h7 h12 h13 h14 h15 k2
        go_enter Try.func31, Try.ntmps31
        go_wp2
        go_ret
        exact ⟨rfl, rfl⟩
    · have d1 : decide (2 ≤ c) = false := decide_eq_false k
      have d2 : decide (12 ≤ c) = false := decide_eq_false (by omega)
      clear h2 h3 h4 h5 h6 h7 h12 h13 h14 h15 k
      go_enter Try.func31, Try.ntmps31
      go_wp2
      go_ret
      exact ⟨rfl, rfl⟩
  · rcases cn_cases h with rfl | rfl | rfl | rfl | rfl | rfl | rfl | rfl | rfl | rfl <;> (go_enter Try.func31, Try.ntmps31; go_wp2; go_ret; exact ⟨rfl, rfl⟩)
theorem results_f {fn : Func} {p t : Tmp} (h : fn.results = #[.cell p 50, .tmp t]) (tmps : Array Value) (w : World) (g : Nat) (a b c d e f k : Bool) (hp : tmps.getD p undef = .pointer (some ⟨g, 0, none⟩)) (hb : w.heap[g]? = some (.cells #[.bool a, .bool b, .bool c, .bool d, .bool e, .bool f, .bool k] 50)) :
    (results fn tmps).run Try.prog w = .ok (.tuple #[.agg #[.bool a, .bool b, .bool c, .bool d, .bool e, .bool f, .bool k], tmps.getD t undef]) w := by
  have hl := run_loadVar_row (P := Try.prog) w g 50 50 _ _ _ hb Try.underlying50 rfl (by kernel_rfl)
  have hp' : tmps[p]?.getD undef = .pointer (some ⟨g, 0, none⟩) := by simpa using hp
  simp [results, h, hp', asAddr, hl]
set_option maxHeartbeats 1000000 in
theorem fields_1 (w : World) : Calls Try.prog 27 #[.int .i64 1] w fun e w' => e = .returned (.tuple #[.agg #[.bool true, .bool true, .bool false, .bool false, .bool false, .bool true, .bool true], .bool true]) ∧ Below w.heap.size w w' := by
  go_enter Try.func27, Try.ntmps27
  go_wp2
  refine bodyPost_ret (results_f rfl _ _ w.heap.size true true false false false true true rfl (heap_alloc_new _ _)) rfl ?_
  exact ⟨rfl, bel_one _ _⟩
set_option maxHeartbeats 1000000 in
theorem fields_2 (w : World) : Calls Try.prog 27 #[.int .i64 2] w fun e w' => e = .returned (.tuple #[.agg #[.bool true, .bool false, .bool false, .bool false, .bool true, .bool false, .bool true], .bool true]) ∧ Below w.heap.size w w' := by
  go_enter Try.func27, Try.ntmps27
  go_wp2
  refine bodyPost_ret (results_f rfl _ _ w.heap.size true false false false true false true rfl (heap_alloc_new _ _)) rfl ?_
  exact ⟨rfl, bel_one _ _⟩
set_option maxHeartbeats 1000000 in
theorem fields_3 (w : World) : Calls Try.prog 27 #[.int .i64 3] w fun e w' => e = .returned (.tuple #[.agg #[.bool true, .bool true, .bool false, .bool true, .bool false, .bool true, .bool true], .bool true]) ∧ Below w.heap.size w w' := by
  go_enter Try.func27, Try.ntmps27
  go_wp2
  refine bodyPost_ret (results_f rfl _ _ w.heap.size true true false true false true true rfl (heap_alloc_new _ _)) rfl ?_
  exact ⟨rfl, bel_one _ _⟩
set_option maxHeartbeats 1000000 in
theorem fields_4 (w : World) : Calls Try.prog 27 #[.int .i64 4] w fun e w' => e = .returned (.tuple #[.agg #[.bool false, .bool true, .bool false, .bool true, .bool true, .bool true, .bool true], .bool true]) ∧ Below w.heap.size w w' := by
  go_enter Try.func27, Try.ntmps27
  go_wp2
  refine bodyPost_ret (results_f rfl _ _ w.heap.size false true false true true true true rfl (heap_alloc_new _ _)) rfl ?_
  exact ⟨rfl, bel_one _ _⟩
set_option maxHeartbeats 1000000 in
theorem fields_5 (w : World) : Calls Try.prog 27 #[.int .i64 5] w fun e w' => e = .returned (.tuple #[.agg #[.bool true, .bool true, .bool false, .bool false, .bool false, .bool true, .bool true], .bool true]) ∧ Below w.heap.size w w' := by
  go_enter Try.func27, Try.ntmps27
  go_wp2
  refine bodyPost_ret (results_f rfl _ _ w.heap.size true true false false false true true rfl (heap_alloc_new _ _)) rfl ?_
  exact ⟨rfl, bel_one _ _⟩
set_option maxHeartbeats 1000000 in
theorem fields_6 (w : World) : Calls Try.prog 27 #[.int .i64 6] w fun e w' => e = .returned (.tuple #[.agg #[.bool true, .bool true, .bool false, .bool false, .bool false, .bool true, .bool true], .bool true]) ∧ Below w.heap.size w w' := by
  go_enter Try.func27, Try.ntmps27
  go_wp2
  refine bodyPost_ret (results_f rfl _ _ w.heap.size true true false false false true true rfl (heap_alloc_new _ _)) rfl ?_
  exact ⟨rfl, bel_one _ _⟩
set_option maxHeartbeats 1000000 in
theorem fields_7 (w : World) : Calls Try.prog 27 #[.int .i64 7] w fun e w' => e = .returned (.tuple #[.agg #[.bool false, .bool true, .bool false, .bool true, .bool false, .bool true, .bool true], .bool true]) ∧ Below w.heap.size w w' := by
  go_enter Try.func27, Try.ntmps27
  go_wp2
  refine bodyPost_ret (results_f rfl _ _ w.heap.size false true false true false true true rfl (heap_alloc_new _ _)) rfl ?_
  exact ⟨rfl, bel_one _ _⟩
set_option maxHeartbeats 1000000 in
theorem fields_8 (w : World) : Calls Try.prog 27 #[.int .i64 8] w fun e w' => e = .returned (.tuple #[.agg #[.bool false, .bool true, .bool false, .bool false, .bool false, .bool true, .bool true], .bool true]) ∧ Below w.heap.size w w' := by
  go_enter Try.func27, Try.ntmps27
  go_wp2
  refine bodyPost_ret (results_f rfl _ _ w.heap.size false true false false false true true rfl (heap_alloc_new _ _)) rfl ?_
  exact ⟨rfl, bel_one _ _⟩
set_option maxHeartbeats 1000000 in
theorem fields_9 (w : World) : Calls Try.prog 27 #[.int .i64 9] w fun e w' => e = .returned (.tuple #[.agg #[.bool false, .bool true, .bool false, .bool false, .bool false, .bool true, .bool true], .bool true]) ∧ Below w.heap.size w w' := by
  go_enter Try.func27, Try.ntmps27
  go_wp2
  refine bodyPost_ret (results_f rfl _ _ w.heap.size false true false false false true true rfl (heap_alloc_new _ _)) rfl ?_
  exact ⟨rfl, bel_one _ _⟩
set_option maxHeartbeats 1000000 in
theorem fields_10 (w : World) : Calls Try.prog 27 #[.int .i64 10] w fun e w' => e = .returned (.tuple #[.agg #[.bool false, .bool false, .bool false, .bool false, .bool false, .bool true, .bool true], .bool true]) ∧ Below w.heap.size w w' := by
  go_enter Try.func27, Try.ntmps27
  go_wp2
  refine bodyPost_ret (results_f rfl _ _ w.heap.size false false false false false true true rfl (heap_alloc_new _ _)) rfl ?_
  exact ⟨rfl, bel_one _ _⟩
set_option maxHeartbeats 1000000 in
theorem fields_11 (w : World) : Calls Try.prog 27 #[.int .i64 11] w fun e w' => e = .returned (.tuple #[.agg #[.bool true, .bool true, .bool true, .bool false, .bool true, .bool true, .bool true], .bool true]) ∧ Below w.heap.size w w' := by
  go_enter Try.func27, Try.ntmps27
  go_wp2
  refine bodyPost_ret (results_f rfl _ _ w.heap.size true true true false true true true rfl (heap_alloc_new _ _)) rfl ?_
  exact ⟨rfl, bel_one _ _⟩
set_option maxHeartbeats 1000000 in
theorem fields_12 (w : World) : Calls Try.prog 27 #[.int .i64 12] w fun e w' => e = .returned (.tuple #[.agg #[.bool true, .bool true, .bool true, .bool false, .bool true, .bool true, .bool true], .bool true]) ∧ Below w.heap.size w w' := by
  go_enter Try.func27, Try.ntmps27
  go_wp2
  refine bodyPost_ret (results_f rfl _ _ w.heap.size true true true false true true true rfl (heap_alloc_new _ _)) rfl ?_
  exact ⟨rfl, bel_one _ _⟩
set_option maxHeartbeats 1000000 in
theorem fields_13 (w : World) : Calls Try.prog 27 #[.int .i64 13] w fun e w' => e = .returned (.tuple #[.agg #[.bool false, .bool false, .bool false, .bool true, .bool false, .bool true, .bool false], .bool true]) ∧ Below w.heap.size w w' := by
  go_enter Try.func27, Try.ntmps27
  go_wp2
  refine bodyPost_ret (results_f rfl _ _ w.heap.size false false false true false true false rfl (heap_alloc_new _ _)) rfl ?_
  exact ⟨rfl, bel_one _ _⟩
set_option maxHeartbeats 1000000 in
theorem fields_14 (w : World) : Calls Try.prog 27 #[.int .i64 14] w fun e w' => e = .returned (.tuple #[.agg #[.bool false, .bool false, .bool false, .bool false, .bool false, .bool true, .bool false], .bool true]) ∧ Below w.heap.size w w' := by
  go_enter Try.func27, Try.ntmps27
  go_wp2
  refine bodyPost_ret (results_f rfl _ _ w.heap.size false false false false false true false rfl (heap_alloc_new _ _)) rfl ?_
  exact ⟨rfl, bel_one _ _⟩
set_option maxHeartbeats 1000000 in
theorem fields_15 (w : World) : Calls Try.prog 27 #[.int .i64 15] w fun e w' => e = .returned (.tuple #[.agg #[.bool true, .bool true, .bool false, .bool true, .bool false, .bool true, .bool true], .bool true]) ∧ Below w.heap.size w w' := by
  go_enter Try.func27, Try.ntmps27
  go_wp2
  refine bodyPost_ret (results_f rfl _ _ w.heap.size true true false true false true true rfl (heap_alloc_new _ _)) rfl ?_
  exact ⟨rfl, bel_one _ _⟩
set_option maxHeartbeats 1000000 in
theorem fields_16 (w : World) : Calls Try.prog 27 #[.int .i64 16] w fun e w' => e = .returned (.tuple #[.agg #[.bool true, .bool true, .bool false, .bool false, .bool false, .bool false, .bool true], .bool true]) ∧ Below w.heap.size w w' := by
  go_enter Try.func27, Try.ntmps27
  go_wp2
  refine bodyPost_ret (results_f rfl _ _ w.heap.size true true false false false false true rfl (heap_alloc_new _ _)) rfl ?_
  exact ⟨rfl, bel_one _ _⟩
set_option maxHeartbeats 1000000 in
theorem fields_17 (w : World) : Calls Try.prog 27 #[.int .i64 17] w fun e w' => e = .returned (.tuple #[.agg #[.bool false, .bool false, .bool false, .bool false, .bool true, .bool true, .bool false], .bool true]) ∧ Below w.heap.size w w' := by
  go_enter Try.func27, Try.ntmps27
  go_wp2
  refine bodyPost_ret (results_f rfl _ _ w.heap.size false false false false true true false rfl (heap_alloc_new _ _)) rfl ?_
  exact ⟨rfl, bel_one _ _⟩
set_option maxHeartbeats 1000000 in
theorem fields_18 (w : World) : Calls Try.prog 27 #[.int .i64 18] w fun e w' => e = .returned (.tuple #[.agg #[.bool false, .bool false, .bool false, .bool true, .bool true, .bool true, .bool false], .bool true]) ∧ Below w.heap.size w w' := by
  go_enter Try.func27, Try.ntmps27
  go_wp2
  refine bodyPost_ret (results_f rfl _ _ w.heap.size false false false true true true false rfl (heap_alloc_new _ _)) rfl ?_
  exact ⟨rfl, bel_one _ _⟩
set_option maxHeartbeats 1000000 in
theorem fields_19 (w : World) : Calls Try.prog 27 #[.int .i64 19] w fun e w' => e = .returned (.tuple #[.agg #[.bool false, .bool false, .bool false, .bool false, .bool true, .bool true, .bool false], .bool true]) ∧ Below w.heap.size w w' := by
  go_enter Try.func27, Try.ntmps27
  go_wp2
  refine bodyPost_ret (results_f rfl _ _ w.heap.size false false false false true true false rfl (heap_alloc_new _ _)) rfl ?_
  exact ⟨rfl, bel_one _ _⟩
set_option maxHeartbeats 1000000 in
theorem fields_20 (w : World) : Calls Try.prog 27 #[.int .i64 20] w fun e w' => e = .returned (.tuple #[.agg #[.bool false, .bool false, .bool false, .bool false, .bool false, .bool true, .bool false], .bool true]) ∧ Below w.heap.size w w' := by
  go_enter Try.func27, Try.ntmps27
  go_wp2
  refine bodyPost_ret (results_f rfl _ _ w.heap.size false false false false false true false rfl (heap_alloc_new _ _)) rfl ?_
  exact ⟨rfl, bel_one _ _⟩
set_option maxHeartbeats 1000000 in
theorem fields_21 (w : World) : Calls Try.prog 27 #[.int .i64 21] w fun e w' => e = .returned (.tuple #[.agg #[.bool false, .bool false, .bool false, .bool false, .bool false, .bool true, .bool false], .bool true]) ∧ Below w.heap.size w w' := by
  go_enter Try.func27, Try.ntmps27
  go_wp2
  refine bodyPost_ret (results_f rfl _ _ w.heap.size false false false false false true false rfl (heap_alloc_new _ _)) rfl ?_
  exact ⟨rfl, bel_one _ _⟩
set_option maxHeartbeats 1000000 in
theorem fields_22 (w : World) : Calls Try.prog 27 #[.int .i64 22] w fun e w' => e = .returned (.tuple #[.agg #[.bool false, .bool false, .bool false, .bool false, .bool false, .bool true, .bool false], .bool true]) ∧ Below w.heap.size w w' := by
  go_enter Try.func27, Try.ntmps27
  go_wp2
  refine bodyPost_ret (results_f rfl _ _ w.heap.size false false false false false true false rfl (heap_alloc_new _ _)) rfl ?_
  exact ⟨rfl, bel_one _ _⟩
set_option maxHeartbeats 1000000 in
theorem fields_23 (w : World) : Calls Try.prog 27 #[.int .i64 23] w fun e w' => e = .returned (.tuple #[.agg #[.bool false, .bool false, .bool false, .bool false, .bool false, .bool true, .bool false], .bool true]) ∧ Below w.heap.size w w' := by
  go_enter Try.func27, Try.ntmps27
  go_wp2
  refine bodyPost_ret (results_f rfl _ _ w.heap.size false false false false false true false rfl (heap_alloc_new _ _)) rfl ?_
  exact ⟨rfl, bel_one _ _⟩
set_option maxHeartbeats 1000000 in
theorem fields_none (op : Int) (w : World) (h : op < 1 ∨ 23 < op) : Calls Try.prog 27 #[.int .i64 op] w fun e w' => e = .returned (.tuple #[.agg #[.bool false, .bool false, .bool false, .bool false, .bool false, .bool false, .bool false], .bool false]) ∧ Below w.heap.size w w' := by
  have n1 : (op == 1) = false := beq_eq_false_iff_ne.2 (by omega)
  have n2 : (op == 2) = false := beq_eq_false_iff_ne.2 (by omega)
  have n3 : (op == 3) = false := beq_eq_false_iff_ne.2 (by omega)
  have n4 : (op == 4) = false := beq_eq_false_iff_ne.2 (by omega)
  have n5 : (op == 5) = false := beq_eq_false_iff_ne.2 (by omega)
  have n6 : (op == 6) = false := beq_eq_false_iff_ne.2 (by omega)
  have n7 : (op == 7) = false := beq_eq_false_iff_ne.2 (by omega)
  have n8 : (op == 8) = false := beq_eq_false_iff_ne.2 (by omega)
  have n9 : (op == 9) = false := beq_eq_false_iff_ne.2 (by omega)
  have n10 : (op == 10) = false := beq_eq_false_iff_ne.2 (by omega)
  have n11 : (op == 11) = false := beq_eq_false_iff_ne.2 (by omega)
  have n12 : (op == 12) = false := beq_eq_false_iff_ne.2 (by omega)
  have n13 : (op == 13) = false := beq_eq_false_iff_ne.2 (by omega)
  have n14 : (op == 14) = false := beq_eq_false_iff_ne.2 (by omega)
  have n15 : (op == 15) = false := beq_eq_false_iff_ne.2 (by omega)
  have n16 : (op == 16) = false := beq_eq_false_iff_ne.2 (by omega)
  have n17 : (op == 17) = false := beq_eq_false_iff_ne.2 (by omega)
  have n18 : (op == 18) = false := beq_eq_false_iff_ne.2 (by omega)
  have n19 : (op == 19) = false := beq_eq_false_iff_ne.2 (by omega)
  have n20 : (op == 20) = false := beq_eq_false_iff_ne.2 (by omega)
  have n21 : (op == 21) = false := beq_eq_false_iff_ne.2 (by omega)
  have n22 : (op == 22) = false := beq_eq_false_iff_ne.2 (by omega)
  have n23 : (op == 23) = false := beq_eq_false_iff_ne.2 (by omega)
  clear h
  go_enter Try.func27, Try.ntmps27
  go_wp2
  refine bodyPost_ret (results_f rfl _ _ w.heap.size false false false false false false false rfl (heap_alloc_new _ _)) rfl ?_
  exact ⟨rfl, bel_one _ _⟩
end Go.Proofs.Ytddepkiefkngdaa
