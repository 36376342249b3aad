/-
  The program's function Arity answers what the plain function ar answers (how many values, of what width, of what width the result, and whether it is an instruction), and changes nothing.
-/
import Derived.Test.YtfcdpjihhopfhaaShift
namespace Go.Proofs.Ytfcdpjihhopfhaa
open Go.RowKit

def ar (op : Int) : Int × Int × Int × Bool :=
  if op = 69 then (1, 0, 0, true) else if op = 80 ∨ op = 167 then (1, 1, 0, true) else if op = 172 ∨ op = 173 then (1, 0, 1, true)
  else if (70 ≤ op ∧ op ≤ 79) ∨ (106 ≤ op ∧ op ≤ 120) then (2, 0, 0, true) else if 81 ≤ op ∧ op ≤ 90 then (2, 1, 0, true)
  else if 124 ≤ op ∧ op ≤ 138 then (2, 1, 1, true) else (0, 0, 0, false)

/-- the four results, as the call hands them back -/
def four (r : Int × Int × Int × Bool) : Ending := .returned (.tuple #[.int .i64 r.1, .int .i64 r.2.1, .int .i64 r.2.2.1, .bool r.2.2.2])

theorem results_tmp4 {fn : Func} {s t u v : Tmp} (h : fn.results = #[.tmp s, .tmp t, .tmp u, .tmp v]) (tmps : Array Value) (P : Program) (w : World) :
    (results fn tmps).run P w = .ok (.tuple #[tmps.getD s undef, tmps.getD t undef, tmps.getD u undef, tmps.getD v undef]) w := by
  simp [results, h]
theorem arity_69 (w : World) :
    Calls Try.prog 12 #[.int .i64 69] w fun e w' => e = four (1, 0, 0, true) ∧ w' = w := by
  go_enter Try.func12, Try.ntmps12
  go_wp2_with fail
  (try simp only [Exit.inBlock, Exit.then])
  refine bodyPost_ret (results_tmp4 rfl _ _ _) rfl ?_
  exact ⟨rfl, rfl⟩
theorem arity_80 (w : World) :
    Calls Try.prog 12 #[.int .i64 80] w fun e w' => e = four (1, 1, 0, true) ∧ w' = w := by
  go_enter Try.func12, Try.ntmps12
  go_wp2_with fail
  (try simp only [Exit.inBlock, Exit.then])
  refine bodyPost_ret (results_tmp4 rfl _ _ _) rfl ?_
  exact ⟨rfl, rfl⟩
theorem arity_167 (w : World) :
    Calls Try.prog 12 #[.int .i64 167] w fun e w' => e = four (1, 1, 0, true) ∧ w' = w := by
  go_enter Try.func12, Try.ntmps12
  go_wp2_with fail
  (try simp only [Exit.inBlock, Exit.then])
  refine bodyPost_ret (results_tmp4 rfl _ _ _) rfl ?_
  exact ⟨rfl, rfl⟩
theorem arity_172 (w : World) :
    Calls Try.prog 12 #[.int .i64 172] w fun e w' => e = four (1, 0, 1, true) ∧ w' = w := by
  go_enter Try.func12, Try.ntmps12
  go_wp2_with fail
  (try simp only [Exit.inBlock, Exit.then])
  refine bodyPost_ret (results_tmp4 rfl _ _ _) rfl ?_
  exact ⟨rfl, rfl⟩
theorem arity_173 (w : World) :
    Calls Try.prog 12 #[.int .i64 173] w fun e w' => e = four (1, 0, 1, true) ∧ w' = w := by
  go_enter Try.func12, Try.ntmps12
  go_wp2_with fail
  (try simp only [Exit.inBlock, Exit.then])
  refine bodyPost_ret (results_tmp4 rfl _ _ _) rfl ?_
  exact ⟨rfl, rfl⟩
theorem arity_c32 (op : Int) (w : World) (h : 70 ≤ op ∧ op ≤ 79) :
    Calls Try.prog 12 #[.int .i64 op] w fun e w' => e = four (2, 0, 0, true) ∧ w' = w := by
  have n1 : (op == 69) = false := by simp; omega
  have n2 : (op == 80) = false := by simp; omega
  have n3 : (op == 167) = false := by simp; omega
  have n4 : (op == 172) = false := by simp; omega
  have n5 : (op == 173) = false := by simp; omega
  have h' := hide h
  clear h
  go_enter Try.func12, Try.ntmps12
  go_wp2_with fail
  refine (within_yes _ _ _ _ (by have := h'.out; omega)).mono ?_
  rintro e w1 ⟨rfl, rfl⟩
  go_wp2_with fail
  (try simp only [Exit.inBlock, Exit.then])
  refine bodyPost_ret (results_tmp4 rfl _ _ _) rfl ?_
  exact ⟨rfl, rfl⟩
theorem arity_s32 (op : Int) (w : World) (h : 106 ≤ op ∧ op ≤ 120) :
    Calls Try.prog 12 #[.int .i64 op] w fun e w' => e = four (2, 0, 0, true) ∧ w' = w := by
  have n1 : (op == 69) = false := by simp; omega
  have n2 : (op == 80) = false := by simp; omega
  have n3 : (op == 167) = false := by simp; omega
  have n4 : (op == 172) = false := by simp; omega
  have n5 : (op == 173) = false := by simp; omega
  have h' := hide h
  clear h
  go_enter Try.func12, Try.ntmps12
  go_wp2_with fail
  refine (within_no _ _ _ _ (by have := h'.out; omega)).mono ?_
  rintro e w1 ⟨rfl, rfl⟩
  go_wp2_with fail
  refine (within_yes _ _ _ _ (by have := h'.out; omega)).mono ?_
  rintro e w1 ⟨rfl, rfl⟩
  go_wp2_with fail
  (try simp only [Exit.inBlock, Exit.then])
  refine bodyPost_ret (results_tmp4 rfl _ _ _) rfl ?_
  exact ⟨rfl, rfl⟩
theorem arity_c64 (op : Int) (w : World) (h : 81 ≤ op ∧ op ≤ 90) :
    Calls Try.prog 12 #[.int .i64 op] w fun e w' => e = four (2, 1, 0, true) ∧ w' = w := by
  have n1 : (op == 69) = false := by simp; omega
  have n2 : (op == 80) = false := by simp; omega
  have n3 : (op == 167) = false := by simp; omega
  have n4 : (op == 172) = false := by simp; omega
  have n5 : (op == 173) = false := by simp; omega
  have h' := hide h
  clear h
  go_enter Try.func12, Try.ntmps12
  go_wp2_with fail
  refine (within_no _ _ _ _ (by have := h'.out; omega)).mono ?_
  rintro e w1 ⟨rfl, rfl⟩
  go_wp2_with fail
  refine (within_no _ _ _ _ (by have := h'.out; omega)).mono ?_
  rintro e w1 ⟨rfl, rfl⟩
  go_wp2_with fail
  refine (within_yes _ _ _ _ (by have := h'.out; omega)).mono ?_
  rintro e w1 ⟨rfl, rfl⟩
  go_wp2_with fail
  (try simp only [Exit.inBlock, Exit.then])
  refine bodyPost_ret (results_tmp4 rfl _ _ _) rfl ?_
  exact ⟨rfl, rfl⟩
theorem arity_s64 (op : Int) (w : World) (h : 124 ≤ op ∧ op ≤ 138) :
    Calls Try.prog 12 #[.int .i64 op] w fun e w' => e = four (2, 1, 1, true) ∧ w' = w := by
  have n1 : (op == 69) = false := by simp; omega
  have n2 : (op == 80) = false := by simp; omega
  have n3 : (op == 167) = false := by simp; omega
  have n4 : (op == 172) = false := by simp; omega
  have n5 : (op == 173) = false := by simp; omega
  have h' := hide h
  clear h
  go_enter Try.func12, Try.ntmps12
  go_wp2_with fail
  refine (within_no _ _ _ _ (by have := h'.out; omega)).mono ?_
  rintro e w1 ⟨rfl, rfl⟩
  go_wp2_with fail
  refine (within_no _ _ _ _ (by have := h'.out; omega)).mono ?_
  rintro e w1 ⟨rfl, rfl⟩
  go_wp2_with fail
  refine (within_no _ _ _ _ (by have := h'.out; omega)).mono ?_
  rintro e w1 ⟨rfl, rfl⟩
  go_wp2_with fail
  refine (within_yes _ _ _ _ (by have := h'.out; omega)).mono ?_
  rintro e w1 ⟨rfl, rfl⟩
  go_wp2_with fail
  (try simp only [Exit.inBlock, Exit.then])
  refine bodyPost_ret (results_tmp4 rfl _ _ _) rfl ?_
  exact ⟨rfl, rfl⟩
theorem arity_none (op : Int) (w : World) (h : ¬ (69 ≤ op ∧ op ≤ 90 ∨ 106 ≤ op ∧ op ≤ 120 ∨ 124 ≤ op ∧ op ≤ 138 ∨ op = 167 ∨ op = 172 ∨ op = 173)) :
    Calls Try.prog 12 #[.int .i64 op] w fun e w' => e = four (0, 0, 0, false) ∧ w' = w := by
  have n1 : (op == 69) = false := by simp; omega
  have n2 : (op == 80) = false := by simp; omega
  have n3 : (op == 167) = false := by simp; omega
  have n4 : (op == 172) = false := by simp; omega
  have n5 : (op == 173) = false := by simp; omega
  have h' := hide h
  clear h
  go_enter Try.func12, Try.ntmps12
  go_wp2_with fail
  refine (within_no _ _ _ _ (by have := h'.out; omega)).mono ?_
  rintro e w1 ⟨rfl, rfl⟩
  go_wp2_with fail
  refine (within_no _ _ _ _ (by have := h'.out; omega)).mono ?_
  rintro e w1 ⟨rfl, rfl⟩
  go_wp2_with fail
  refine (within_no _ _ _ _ (by have := h'.out; omega)).mono ?_
  rintro e w1 ⟨rfl, rfl⟩
  go_wp2_with fail
  refine (within_no _ _ _ _ (by have := h'.out; omega)).mono ?_
  rintro e w1 ⟨rfl, rfl⟩
  go_wp2_with fail
  (try simp only [Exit.inBlock, Exit.then])
  refine bodyPost_ret (results_tmp4 rfl _ _ _) rfl ?_
  exact ⟨rfl, rfl⟩
end Go.Proofs.Ytfcdpjihhopfhaa
