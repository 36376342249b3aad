/-
  The program's function Arity answers what the plain function ar answers, and Right of types whether it is one of four; they change nothing.
-/
import Derived.Test.YtcbfpikggphokaaGreatDoorLeaf
import Derived.Test.YtcbfpikggphokaaGreatDoorMathB
import Derived.Laws.BitsAllLaws
namespace Go.Proofs.YtcbfpikggphokaaGreatDoor
open Go.RowKit

theorem within_yes (a b c : Int) (w : World) (h : b ≤ a ∧ a ≤ c) :
    Calls Tryz.prog 158 #[.int .i64 a, .int .i64 b, .int .i64 c] w fun e w' => e = .returned (.bool true) ∧ w' = w := by
  obtain ⟨h1, h2⟩ := h
  go_enter Tryz.func158, Tryz.ntmps158
  go_wp2
  go_ret
  exact ⟨rfl, rfl⟩
theorem within_no (a b c : Int) (w : World) (h : ¬ (b ≤ a ∧ a ≤ c)) :
    Calls Tryz.prog 158 #[.int .i64 a, .int .i64 b, .int .i64 c] w fun e w' => e = .returned (.bool false) ∧ w' = w := by
  by_cases h1 : b ≤ a
  · have h2 : decide (a ≤ c) = false := by simp; omega
    clear h
    go_enter Tryz.func158, Tryz.ntmps158
    go_wp2
    go_ret
    exact ⟨rfl, rfl⟩
  · clear h
    go_enter Tryz.func158, Tryz.ntmps158
    go_wp2
    go_ret
    exact ⟨rfl, rfl⟩
def ar (op : Int) : Int × Int × Int × Bool :=
  if op = 69 then (1, 0, 0, true) else if op = 80 ∨ op = 167 then (1, 1, 0, true) else if op = 172 ∨ op = 173 then (1, 0, 1, true)
  else if (70 ≤ op ∧ op ≤ 79) ∨ (106 ≤ op ∧ op ≤ 120) then (2, 0, 0, true) else if 81 ≤ op ∧ op ≤ 90 then (2, 1, 0, true)
  else if 124 ≤ op ∧ op ≤ 138 then (2, 1, 1, true) else (0, 0, 0, false)

/-- the four results, as the call hands them back -/
def four (r : Int × Int × Int × Bool) : Ending := .returned (.tuple #[.int .i64 r.1, .int .i64 r.2.1, .int .i64 r.2.2.1, .bool r.2.2.2])

theorem results_tmp4 {fn : Func} {s t u v : Tmp} (h : fn.results = #[.tmp s, .tmp t, .tmp u, .tmp v]) (tmps : Array Value) (P : Program) (w : World) :
    (results fn tmps).run P w = .ok (.tuple #[tmps.getD s undef, tmps.getD t undef, tmps.getD u undef, tmps.getD v undef]) w := by
  simp [results, h]
theorem arity_69 (w : World) :
    Calls Tryz.prog 151 #[.int .i64 69] w fun e w' => e = four (1, 0, 0, true) ∧ w' = w := by
  go_enter Tryz.func151, Tryz.ntmps151
  go_wp2_with fail
  (try simp only [Exit.inBlock, Exit.then])
  refine bodyPost_ret (results_tmp4 rfl _ _ _) rfl ?_
  exact ⟨rfl, rfl⟩
theorem arity_80 (w : World) :
    Calls Tryz.prog 151 #[.int .i64 80] w fun e w' => e = four (1, 1, 0, true) ∧ w' = w := by
  go_enter Tryz.func151, Tryz.ntmps151
  go_wp2_with fail
  (try simp only [Exit.inBlock, Exit.then])
  refine bodyPost_ret (results_tmp4 rfl _ _ _) rfl ?_
  exact ⟨rfl, rfl⟩
theorem arity_167 (w : World) :
    Calls Tryz.prog 151 #[.int .i64 167] w fun e w' => e = four (1, 1, 0, true) ∧ w' = w := by
  go_enter Tryz.func151, Tryz.ntmps151
  go_wp2_with fail
  (try simp only [Exit.inBlock, Exit.then])
  refine bodyPost_ret (results_tmp4 rfl _ _ _) rfl ?_
  exact ⟨rfl, rfl⟩
theorem arity_172 (w : World) :
    Calls Tryz.prog 151 #[.int .i64 172] w fun e w' => e = four (1, 0, 1, true) ∧ w' = w := by
  go_enter Tryz.func151, Tryz.ntmps151
  go_wp2_with fail
  (try simp only [Exit.inBlock, Exit.then])
  refine bodyPost_ret (results_tmp4 rfl _ _ _) rfl ?_
  exact ⟨rfl, rfl⟩
theorem arity_173 (w : World) :
    Calls Tryz.prog 151 #[.int .i64 173] w fun e w' => e = four (1, 0, 1, true) ∧ w' = w := by
  go_enter Tryz.func151, Tryz.ntmps151
  go_wp2_with fail
  (try simp only [Exit.inBlock, Exit.then])
  refine bodyPost_ret (results_tmp4 rfl _ _ _) rfl ?_
  exact ⟨rfl, rfl⟩
theorem arity_c32 (op : Int) (w : World) (h : 70 ≤ op ∧ op ≤ 79) :
    Calls Tryz.prog 151 #[.int .i64 op] w fun e w' => e = four (2, 0, 0, true) ∧ w' = w := by
  have n1 : (op == 69) = false := by simp; omega
  have n2 : (op == 80) = false := by simp; omega
  have n3 : (op == 167) = false := by simp; omega
  have n4 : (op == 172) = false := by simp; omega
  have n5 : (op == 173) = false := by simp; omega
  have h' := hide h
  clear h
  go_enter Tryz.func151, Tryz.ntmps151
  go_wp2_with fail
  refine (within_yes _ _ _ _ (by have := h'.out; omega)).mono ?_
  rintro e w1 ⟨rfl, rfl⟩
  go_wp2_with fail
  (try simp only [Exit.inBlock, Exit.then])
  refine bodyPost_ret (results_tmp4 rfl _ _ _) rfl ?_
  exact ⟨rfl, rfl⟩
theorem arity_s32 (op : Int) (w : World) (h : 106 ≤ op ∧ op ≤ 120) :
    Calls Tryz.prog 151 #[.int .i64 op] w fun e w' => e = four (2, 0, 0, true) ∧ w' = w := by
  have n1 : (op == 69) = false := by simp; omega
  have n2 : (op == 80) = false := by simp; omega
  have n3 : (op == 167) = false := by simp; omega
  have n4 : (op == 172) = false := by simp; omega
  have n5 : (op == 173) = false := by simp; omega
  have h' := hide h
  clear h
  go_enter Tryz.func151, Tryz.ntmps151
  go_wp2_with fail
  refine (within_no _ _ _ _ (by have := h'.out; omega)).mono ?_
  rintro e w1 ⟨rfl, rfl⟩
  go_wp2_with fail
  refine (within_yes _ _ _ _ (by have := h'.out; omega)).mono ?_
  rintro e w1 ⟨rfl, rfl⟩
  go_wp2_with fail
  (try simp only [Exit.inBlock, Exit.then])
  refine bodyPost_ret (results_tmp4 rfl _ _ _) rfl ?_
  exact ⟨rfl, rfl⟩
theorem arity_c64 (op : Int) (w : World) (h : 81 ≤ op ∧ op ≤ 90) :
    Calls Tryz.prog 151 #[.int .i64 op] w fun e w' => e = four (2, 1, 0, true) ∧ w' = w := by
  have n1 : (op == 69) = false := by simp; omega
  have n2 : (op == 80) = false := by simp; omega
  have n3 : (op == 167) = false := by simp; omega
  have n4 : (op == 172) = false := by simp; omega
  have n5 : (op == 173) = false := by simp; omega
  have h' := hide h
  clear h
  go_enter Tryz.func151, Tryz.ntmps151
  go_wp2_with fail
  refine (within_no _ _ _ _ (by have := h'.out; omega)).mono ?_
  rintro e w1 ⟨rfl, rfl⟩
  go_wp2_with fail
  refine (within_no _ _ _ _ (by have := h'.out; omega)).mono ?_
  rintro e w1 ⟨rfl, rfl⟩
  go_wp2_with fail
  refine (within_yes _ _ _ _ (by have := h'.out; omega)).mono ?_
  rintro e w1 ⟨rfl, rfl⟩
  go_wp2_with fail
  (try simp only [Exit.inBlock, Exit.then])
  refine bodyPost_ret (results_tmp4 rfl _ _ _) rfl ?_
  exact ⟨rfl, rfl⟩
theorem arity_s64 (op : Int) (w : World) (h : 124 ≤ op ∧ op ≤ 138) :
    Calls Tryz.prog 151 #[.int .i64 op] w fun e w' => e = four (2, 1, 1, true) ∧ w' = w := by
  have n1 : (op == 69) = false := by simp; omega
  have n2 : (op == 80) = false := by simp; omega
  have n3 : (op == 167) = false := by simp; omega
  have n4 : (op == 172) = false := by simp; omega
  have n5 : (op == 173) = false := by simp; omega
  have h' := hide h
  clear h
  go_enter Tryz.func151, Tryz.ntmps151
  go_wp2_with fail
  refine (within_no _ _ _ _ (by have := h'.out; omega)).mono ?_
  rintro e w1 ⟨rfl, rfl⟩
  go_wp2_with fail
  refine (within_no _ _ _ _ (by have := h'.out; omega)).mono ?_
  rintro e w1 ⟨rfl, rfl⟩
  go_wp2_with fail
  refine (within_no _ _ _ _ (by have := h'.out; omega)).mono ?_
  rintro e w1 ⟨rfl, rfl⟩
  go_wp2_with fail
  refine (within_yes _ _ _ _ (by have := h'.out; omega)).mono ?_
  rintro e w1 ⟨rfl, rfl⟩
  go_wp2_with fail
  (try simp only [Exit.inBlock, Exit.then])
  refine bodyPost_ret (results_tmp4 rfl _ _ _) rfl ?_
  exact ⟨rfl, rfl⟩
theorem arity_none (op : Int) (w : World) (h : ¬ (69 ≤ op ∧ op ≤ 90 ∨ 106 ≤ op ∧ op ≤ 120 ∨ 124 ≤ op ∧ op ≤ 138 ∨ op = 167 ∨ op = 172 ∨ op = 173)) :
    Calls Tryz.prog 151 #[.int .i64 op] w fun e w' => e = four (0, 0, 0, false) ∧ w' = w := by
  have n1 : (op == 69) = false := by simp; omega
  have n2 : (op == 80) = false := by simp; omega
  have n3 : (op == 167) = false := by simp; omega
  have n4 : (op == 172) = false := by simp; omega
  have n5 : (op == 173) = false := by simp; omega
  have h' := hide h
  clear h
  go_enter Tryz.func151, Tryz.ntmps151
  go_wp2_with fail
  refine (within_no _ _ _ _ (by have := h'.out; omega)).mono ?_
  rintro e w1 ⟨rfl, rfl⟩
  go_wp2_with fail
  refine (within_no _ _ _ _ (by have := h'.out; omega)).mono ?_
  rintro e w1 ⟨rfl, rfl⟩
  go_wp2_with fail
  refine (within_no _ _ _ _ (by have := h'.out; omega)).mono ?_
  rintro e w1 ⟨rfl, rfl⟩
  go_wp2_with fail
  refine (within_no _ _ _ _ (by have := h'.out; omega)).mono ?_
  rintro e w1 ⟨rfl, rfl⟩
  go_wp2_with fail
  (try simp only [Exit.inBlock, Exit.then])
  refine bodyPost_ret (results_tmp4 rfl _ _ _) rfl ?_
  exact ⟨rfl, rfl⟩
theorem arity_any (op : Int) (w : World) :
    Calls Tryz.prog 151 #[.int .i64 op] w fun e w' => e = four (ar op) ∧ w' = w := by
  by_cases h1 : op = 69
  · subst h1; exact arity_69 w
  by_cases h2 : op = 80
  · subst h2; exact arity_80 w
  by_cases h3 : op = 167
  · subst h3; exact arity_167 w
  by_cases h4 : op = 172
  · subst h4; exact arity_172 w
  by_cases h5 : op = 173
  · subst h5; exact arity_173 w
  by_cases h6 : 70 ≤ op ∧ op ≤ 79
  · rw [show ar op = (2, 0, 0, true) by simp [ar, h1, h2, h3, h4, h5, h6]]; exact arity_c32 op w h6
  by_cases h7 : 106 ≤ op ∧ op ≤ 120
  · rw [show ar op = (2, 0, 0, true) by simp [ar, h1, h2, h3, h4, h5, h7]]; exact arity_s32 op w h7
  by_cases h8 : 81 ≤ op ∧ op ≤ 90
  · rw [show ar op = (2, 1, 0, true) by simp only [ar]; rw [if_neg h1, if_neg (by omega), if_neg (by omega), if_neg (by omega), if_pos h8]]; exact arity_c64 op w h8
  by_cases h9 : 124 ≤ op ∧ op ≤ 138
  · rw [show ar op = (2, 1, 1, true) by simp only [ar]; rw [if_neg h1, if_neg (by omega), if_neg (by omega), if_neg (by omega), if_neg h8, if_pos h9]]; exact arity_s64 op w h9
  · rw [show ar op = (0, 0, 0, false) by simp only [ar]; rw [if_neg h1, if_neg (by omega), if_neg (by omega), if_neg (by omega), if_neg h8, if_neg h9]]; exact arity_none op w (by omega)

def ri (t : Int) : Bool := decide (0 ≤ t) && decide (t ≤ 3)
theorem ri_iff (t : Int) : ri t = true ↔ t = 0 ∨ t = 1 ∨ t = 2 ∨ t = 3 := by
  simp only [ri, Bool.and_eq_true, decide_eq_true_eq]; omega
theorem ri_no {t : Int} (h : ri t = false) : t ≠ 0 ∧ t ≠ 1 ∧ t ≠ 2 ∧ t ≠ 3 := by
  have : ¬ ri t = true := by rw [h]; simp
  rw [ri_iff] at this; omega
theorem low_of (x : BitVec 64) (h : x &&& ~~~(3#64) = 0#64) : x.toNat < 4 := by
  have e : x = x &&& 3#64 := by
    have e1 : x = (x &&& 3#64) ||| (x &&& ~~~(3#64)) := by
      rw [← BitVec.and_or_distrib_left]
      have : (3#64 ||| ~~~(3#64)) = BitVec.allOnes 64 := by decide
      rw [this, BitVec.and_allOnes]
    rw [h] at e1
    simpa using e1
  have e2 := congrArg BitVec.toNat e
  rw [BitVec.toNat_and] at e2
  have e3 : (3#64).toNat = 2 ^ 2 - 1 := by decide
  rw [e3, Nat.and_two_pow_sub_one_eq_mod] at e2
  omega

theorem andNot3 (t : Int) (ht : I64 t) : (bits .andNot .i64 t 3 == 0) = ri t := by
  cases hr : ri t
  · have hn := ri_no hr
    have hd : ¬ (0 ≤ t ∧ t ≤ 3) := by
      intro h
      have : ri t = true := by simp [ri, h]
      rw [hr] at this; cases this
    rw [beq_eq_false_iff_ne]
    intro h
    change IntKind.i64.wrap ((BitVec.ofInt 64 t &&& ~~~(BitVec.ofInt 64 3)).toNat : Int) = 0 at h
    obtain ⟨h1, h2⟩ := ht
    have hb : BitVec.ofInt 64 3 = 3#64 := by decide
    rw [hb] at h
    have hz : (BitVec.ofInt 64 t &&& ~~~(3#64)) = 0#64 := by
      apply BitVec.eq_of_toNat_eq
      have hlt := (BitVec.ofInt 64 t &&& ~~~(3#64)).isLt
      generalize (BitVec.ofInt 64 t &&& ~~~(3#64)).toNat = y at h hlt ⊢
      simp [IntKind.wrap, IntKind.bits, IntKind.signed] at h
      show y = 0
      omega
    have hl := low_of _ hz
    rw [BitVec.toNat_ofInt] at hl
    have e3 : ((2 ^ 64 : Nat) : Int) = 18446744073709551616 := by decide
    rw [e3] at hl
    omega
  · rcases (ri_iff t).mp hr with rfl | rfl | rfl | rfl <;> decide
theorem ret_bool {a b : Bool} (h : a = b) : Ending.returned (.bool a) = .returned (.bool b) := by rw [h]
theorem right_any (t : Int) (w : World) (ht : I64 t) :
    Calls Tryz.prog 108 #[.int .i64 t] w fun e w' => e = .returned (.bool (ri t)) ∧ w' = w := by
  have h := hide (andNot3 t ht)
  clear ht
  go_enter Tryz.func108, Tryz.ntmps108
  go_wp2
  go_ret
  exact ⟨ret_bool h.out, rfl⟩
theorem right_is (t : Int) (r : Bool) (w : World) (ht : I64 t) (h : ri t = r) :
    Calls Tryz.prog 108 #[.int .i64 t] w fun e w' => e = .returned (.bool r) ∧ w' = w := by
  rw [← h]; exact right_any t w ht

end Go.Proofs.YtcbfpikggphokaaGreatDoor
