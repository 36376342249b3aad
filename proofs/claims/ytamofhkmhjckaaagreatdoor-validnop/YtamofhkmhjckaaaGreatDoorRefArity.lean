/-
  The document's own function Arity answers what the plain function ar answers, and changes nothing.
-/
import Derived.Test.YtamofhkmhjckaaaGreatDoorArity
namespace Go.Proofs.YtamofhkmhjckaaaGreatDoor
open Go.RowKit
theorem r_ar_69 (w : World) :
    Calls Tryz.prog 102 #[.int .i64 69] w fun e w' => e = four (1, 0, 0, true) ∧ w' = w := by
  go_enter Tryz.func102, Tryz.ntmps102
  go_wp2_with fail
  (try simp only [Exit.inBlock, Exit.then])
  refine bodyPost_ret (results_tmp4 rfl _ _ _) rfl ?_
  exact ⟨rfl, rfl⟩
theorem r_ar_80 (w : World) :
    Calls Tryz.prog 102 #[.int .i64 80] w fun e w' => e = four (1, 1, 0, true) ∧ w' = w := by
  go_enter Tryz.func102, Tryz.ntmps102
  go_wp2_with fail
  (try simp only [Exit.inBlock, Exit.then])
  refine bodyPost_ret (results_tmp4 rfl _ _ _) rfl ?_
  exact ⟨rfl, rfl⟩
theorem r_ar_167 (w : World) :
    Calls Tryz.prog 102 #[.int .i64 167] w fun e w' => e = four (1, 1, 0, true) ∧ w' = w := by
  go_enter Tryz.func102, Tryz.ntmps102
  go_wp2_with fail
  (try simp only [Exit.inBlock, Exit.then])
  refine bodyPost_ret (results_tmp4 rfl _ _ _) rfl ?_
  exact ⟨rfl, rfl⟩
theorem r_ar_172 (w : World) :
    Calls Tryz.prog 102 #[.int .i64 172] w fun e w' => e = four (1, 0, 1, true) ∧ w' = w := by
  go_enter Tryz.func102, Tryz.ntmps102
  go_wp2_with fail
  (try simp only [Exit.inBlock, Exit.then])
  refine bodyPost_ret (results_tmp4 rfl _ _ _) rfl ?_
  exact ⟨rfl, rfl⟩
theorem r_ar_173 (w : World) :
    Calls Tryz.prog 102 #[.int .i64 173] w fun e w' => e = four (1, 0, 1, true) ∧ w' = w := by
  go_enter Tryz.func102, Tryz.ntmps102
  go_wp2_with fail
  (try simp only [Exit.inBlock, Exit.then])
  refine bodyPost_ret (results_tmp4 rfl _ _ _) rfl ?_
  exact ⟨rfl, rfl⟩
theorem r_ar_a (op : Int) (w : World) (h : op ≤ 68) :
    Calls Tryz.prog 102 #[.int .i64 op] w fun e w' => e = four (0, 0, 0, false) ∧ w' = w := by
  have n1 : (op == 69) = false := by simp; omega
  have n2 : (op == 80) = false := by simp; omega
  have n3 : (op == 167) = false := by simp; omega
  have n4 : (op == 172) = false := by simp; omega
  have n5 : (op == 173) = false := by simp; omega
  have n6 : decide (70 ≤ op) = false := by simp; omega
  have n7 : decide (81 ≤ op) = false := by simp; omega
  have n8 : decide (106 ≤ op) = false := by simp; omega
  have n9 : decide (124 ≤ op) = false := by simp; omega
  have n10 : decide (op ≤ 79) = true := by simp; omega
  have n11 : decide (op ≤ 90) = true := by simp; omega
  have n12 : decide (op ≤ 120) = true := by simp; omega
  have n13 : decide (op ≤ 138) = true := by simp; omega
  clear h
  go_enter Tryz.func102, Tryz.ntmps102
  go_wp2_with fail
  (try simp only [Exit.inBlock, Exit.then])
  refine bodyPost_ret (results_tmp4 rfl _ _ _) rfl ?_
  exact ⟨rfl, rfl⟩
theorem r_ar_c32 (op : Int) (w : World) (h : 70 ≤ op ∧ op ≤ 79) :
    Calls Tryz.prog 102 #[.int .i64 op] w fun e w' => e = four (2, 0, 0, true) ∧ w' = w := by
  have n1 : (op == 69) = false := by simp; omega
  have n2 : (op == 80) = false := by simp; omega
  have n3 : (op == 167) = false := by simp; omega
  have n4 : (op == 172) = false := by simp; omega
  have n5 : (op == 173) = false := by simp; omega
  have n6 : decide (70 ≤ op) = true := by simp; omega
  have n7 : decide (81 ≤ op) = false := by simp; omega
  have n8 : decide (106 ≤ op) = false := by simp; omega
  have n9 : decide (124 ≤ op) = false := by simp; omega
  have n10 : decide (op ≤ 79) = true := by simp; omega
  have n11 : decide (op ≤ 90) = true := by simp; omega
  have n12 : decide (op ≤ 120) = true := by simp; omega
  have n13 : decide (op ≤ 138) = true := by simp; omega
  clear h
  go_enter Tryz.func102, Tryz.ntmps102
  go_wp2_with fail
  (try simp only [Exit.inBlock, Exit.then])
  refine bodyPost_ret (results_tmp4 rfl _ _ _) rfl ?_
  exact ⟨rfl, rfl⟩
theorem r_ar_c64 (op : Int) (w : World) (h : 81 ≤ op ∧ op ≤ 90) :
    Calls Tryz.prog 102 #[.int .i64 op] w fun e w' => e = four (2, 1, 0, true) ∧ w' = w := by
  have n1 : (op == 69) = false := by simp; omega
  have n2 : (op == 80) = false := by simp; omega
  have n3 : (op == 167) = false := by simp; omega
  have n4 : (op == 172) = false := by simp; omega
  have n5 : (op == 173) = false := by simp; omega
  have n6 : decide (70 ≤ op) = true := by simp; omega
  have n7 : decide (81 ≤ op) = true := by simp; omega
  have n8 : decide (106 ≤ op) = false := by simp; omega
  have n9 : decide (124 ≤ op) = false := by simp; omega
  have n10 : decide (op ≤ 79) = false := by simp; omega
  have n11 : decide (op ≤ 90) = true := by simp; omega
  have n12 : decide (op ≤ 120) = true := by simp; omega
  have n13 : decide (op ≤ 138) = true := by simp; omega
  clear h
  go_enter Tryz.func102, Tryz.ntmps102
  go_wp2_with fail
  (try simp only [Exit.inBlock, Exit.then])
  refine bodyPost_ret (results_tmp4 rfl _ _ _) rfl ?_
  exact ⟨rfl, rfl⟩
theorem r_ar_b (op : Int) (w : World) (h : 91 ≤ op ∧ op ≤ 105) :
    Calls Tryz.prog 102 #[.int .i64 op] w fun e w' => e = four (0, 0, 0, false) ∧ w' = w := by
  have n1 : (op == 69) = false := by simp; omega
  have n2 : (op == 80) = false := by simp; omega
  have n3 : (op == 167) = false := by simp; omega
  have n4 : (op == 172) = false := by simp; omega
  have n5 : (op == 173) = false := by simp; omega
  have n6 : decide (70 ≤ op) = true := by simp; omega
  have n7 : decide (81 ≤ op) = true := by simp; omega
  have n8 : decide (106 ≤ op) = false := by simp; omega
  have n9 : decide (124 ≤ op) = false := by simp; omega
  have n10 : decide (op ≤ 79) = false := by simp; omega
  have n11 : decide (op ≤ 90) = false := by simp; omega
  have n12 : decide (op ≤ 120) = true := by simp; omega
  have n13 : decide (op ≤ 138) = true := by simp; omega
  clear h
  go_enter Tryz.func102, Tryz.ntmps102
  go_wp2_with fail
  (try simp only [Exit.inBlock, Exit.then])
  refine bodyPost_ret (results_tmp4 rfl _ _ _) rfl ?_
  exact ⟨rfl, rfl⟩
theorem r_ar_s32 (op : Int) (w : World) (h : 106 ≤ op ∧ op ≤ 120) :
    Calls Tryz.prog 102 #[.int .i64 op] w fun e w' => e = four (2, 0, 0, true) ∧ w' = w := by
  have n1 : (op == 69) = false := by simp; omega
  have n2 : (op == 80) = false := by simp; omega
  have n3 : (op == 167) = false := by simp; omega
  have n4 : (op == 172) = false := by simp; omega
  have n5 : (op == 173) = false := by simp; omega
  have n6 : decide (70 ≤ op) = true := by simp; omega
  have n7 : decide (81 ≤ op) = true := by simp; omega
  have n8 : decide (106 ≤ op) = true := by simp; omega
  have n9 : decide (124 ≤ op) = false := by simp; omega
  have n10 : decide (op ≤ 79) = false := by simp; omega
  have n11 : decide (op ≤ 90) = false := by simp; omega
  have n12 : decide (op ≤ 120) = true := by simp; omega
  have n13 : decide (op ≤ 138) = true := by simp; omega
  clear h
  go_enter Tryz.func102, Tryz.ntmps102
  go_wp2_with fail
  (try simp only [Exit.inBlock, Exit.then])
  refine bodyPost_ret (results_tmp4 rfl _ _ _) rfl ?_
  exact ⟨rfl, rfl⟩
theorem r_ar_c (op : Int) (w : World) (h : 121 ≤ op ∧ op ≤ 123) :
    Calls Tryz.prog 102 #[.int .i64 op] w fun e w' => e = four (0, 0, 0, false) ∧ w' = w := by
  have n1 : (op == 69) = false := by simp; omega
  have n2 : (op == 80) = false := by simp; omega
  have n3 : (op == 167) = false := by simp; omega
  have n4 : (op == 172) = false := by simp; omega
  have n5 : (op == 173) = false := by simp; omega
  have n6 : decide (70 ≤ op) = true := by simp; omega
  have n7 : decide (81 ≤ op) = true := by simp; omega
  have n8 : decide (106 ≤ op) = true := by simp; omega
  have n9 : decide (124 ≤ op) = false := by simp; omega
  have n10 : decide (op ≤ 79) = false := by simp; omega
  have n11 : decide (op ≤ 90) = false := by simp; omega
  have n12 : decide (op ≤ 120) = false := by simp; omega
  have n13 : decide (op ≤ 138) = true := by simp; omega
  clear h
  go_enter Tryz.func102, Tryz.ntmps102
  go_wp2_with fail
  (try simp only [Exit.inBlock, Exit.then])
  refine bodyPost_ret (results_tmp4 rfl _ _ _) rfl ?_
  exact ⟨rfl, rfl⟩
theorem r_ar_s64 (op : Int) (w : World) (h : 124 ≤ op ∧ op ≤ 138) :
    Calls Tryz.prog 102 #[.int .i64 op] w fun e w' => e = four (2, 1, 1, true) ∧ w' = w := by
  have n1 : (op == 69) = false := by simp; omega
  have n2 : (op == 80) = false := by simp; omega
  have n3 : (op == 167) = false := by simp; omega
  have n4 : (op == 172) = false := by simp; omega
  have n5 : (op == 173) = false := by simp; omega
  have n6 : decide (70 ≤ op) = true := by simp; omega
  have n7 : decide (81 ≤ op) = true := by simp; omega
  have n8 : decide (106 ≤ op) = true := by simp; omega
  have n9 : decide (124 ≤ op) = true := by simp; omega
  have n10 : decide (op ≤ 79) = false := by simp; omega
  have n11 : decide (op ≤ 90) = false := by simp; omega
  have n12 : decide (op ≤ 120) = false := by simp; omega
  have n13 : decide (op ≤ 138) = true := by simp; omega
  clear h
  go_enter Tryz.func102, Tryz.ntmps102
  go_wp2_with fail
  (try simp only [Exit.inBlock, Exit.then])
  refine bodyPost_ret (results_tmp4 rfl _ _ _) rfl ?_
  exact ⟨rfl, rfl⟩
theorem r_ar_d (op : Int) (w : World) (h : 139 ≤ op ∧ op ≤ 166) :
    Calls Tryz.prog 102 #[.int .i64 op] w fun e w' => e = four (0, 0, 0, false) ∧ w' = w := by
  have n1 : (op == 69) = false := by simp; omega
  have n2 : (op == 80) = false := by simp; omega
  have n3 : (op == 167) = false := by simp; omega
  have n4 : (op == 172) = false := by simp; omega
  have n5 : (op == 173) = false := by simp; omega
  have n6 : decide (70 ≤ op) = true := by simp; omega
  have n7 : decide (81 ≤ op) = true := by simp; omega
  have n8 : decide (106 ≤ op) = true := by simp; omega
  have n9 : decide (124 ≤ op) = true := by simp; omega
  have n10 : decide (op ≤ 79) = false := by simp; omega
  have n11 : decide (op ≤ 90) = false := by simp; omega
  have n12 : decide (op ≤ 120) = false := by simp; omega
  have n13 : decide (op ≤ 138) = false := by simp; omega
  clear h
  go_enter Tryz.func102, Tryz.ntmps102
  go_wp2_with fail
  (try simp only [Exit.inBlock, Exit.then])
  refine bodyPost_ret (results_tmp4 rfl _ _ _) rfl ?_
  exact ⟨rfl, rfl⟩
theorem r_ar_e (op : Int) (w : World) (h : 168 ≤ op ∧ op ≤ 171) :
    Calls Tryz.prog 102 #[.int .i64 op] w fun e w' => e = four (0, 0, 0, false) ∧ w' = w := by
  have n1 : (op == 69) = false := by simp; omega
  have n2 : (op == 80) = false := by simp; omega
  have n3 : (op == 167) = false := by simp; omega
  have n4 : (op == 172) = false := by simp; omega
  have n5 : (op == 173) = false := by simp; omega
  have n6 : decide (70 ≤ op) = true := by simp; omega
  have n7 : decide (81 ≤ op) = true := by simp; omega
  have n8 : decide (106 ≤ op) = true := by simp; omega
  have n9 : decide (124 ≤ op) = true := by simp; omega
  have n10 : decide (op ≤ 79) = false := by simp; omega
  have n11 : decide (op ≤ 90) = false := by simp; omega
  have n12 : decide (op ≤ 120) = false := by simp; omega
  have n13 : decide (op ≤ 138) = false := by simp; omega
  clear h
  go_enter Tryz.func102, Tryz.ntmps102
  go_wp2_with fail
  (try simp only [Exit.inBlock, Exit.then])
  refine bodyPost_ret (results_tmp4 rfl _ _ _) rfl ?_
  exact ⟨rfl, rfl⟩
theorem r_ar_f (op : Int) (w : World) (h : 174 ≤ op) :
    Calls Tryz.prog 102 #[.int .i64 op] w fun e w' => e = four (0, 0, 0, false) ∧ w' = w := by
  have n1 : (op == 69) = false := by simp; omega
  have n2 : (op == 80) = false := by simp; omega
  have n3 : (op == 167) = false := by simp; omega
  have n4 : (op == 172) = false := by simp; omega
  have n5 : (op == 173) = false := by simp; omega
  have n6 : decide (70 ≤ op) = true := by simp; omega
  have n7 : decide (81 ≤ op) = true := by simp; omega
  have n8 : decide (106 ≤ op) = true := by simp; omega
  have n9 : decide (124 ≤ op) = true := by simp; omega
  have n10 : decide (op ≤ 79) = false := by simp; omega
  have n11 : decide (op ≤ 90) = false := by simp; omega
  have n12 : decide (op ≤ 120) = false := by simp; omega
  have n13 : decide (op ≤ 138) = false := by simp; omega
  clear h
  go_enter Tryz.func102, Tryz.ntmps102
  go_wp2_with fail
  (try simp only [Exit.inBlock, Exit.then])
  refine bodyPost_ret (results_tmp4 rfl _ _ _) rfl ?_
  exact ⟨rfl, rfl⟩
theorem r_arity (op : Int) (w : World) :
    Calls Tryz.prog 102 #[.int .i64 op] w fun e w' => e = four (ar op) ∧ w' = w := by
  by_cases h1 : op = 69
  · subst h1; exact r_ar_69 w
  by_cases h2 : op = 80
  · subst h2; exact r_ar_80 w
  by_cases h3 : op = 167
  · subst h3; exact r_ar_167 w
  by_cases h4 : op = 172
  · subst h4; exact r_ar_172 w
  by_cases h5 : op = 173
  · subst h5; exact r_ar_173 w
  by_cases h6 : 70 ≤ op ∧ op ≤ 79
  · rw [show ar op = (2, 0, 0, true) by simp [ar, h1, h2, h3, h4, h5, h6]]; exact r_ar_c32 op w h6
  by_cases h7 : 106 ≤ op ∧ op ≤ 120
  · rw [show ar op = (2, 0, 0, true) by simp [ar, h1, h2, h3, h4, h5, h7]]; exact r_ar_s32 op w h7
  by_cases h8 : 81 ≤ op ∧ op ≤ 90
  · rw [show ar op = (2, 1, 0, true) by simp only [ar]; rw [if_neg h1, if_neg (by omega), if_neg (by omega), if_neg (by omega), if_pos h8]]; exact r_ar_c64 op w h8
  by_cases h9 : 124 ≤ op ∧ op ≤ 138
  · rw [show ar op = (2, 1, 1, true) by simp only [ar]; rw [if_neg h1, if_neg (by omega), if_neg (by omega), if_neg (by omega), if_neg h8, if_pos h9]]; exact r_ar_s64 op w h9
  rw [show ar op = (0, 0, 0, false) by simp only [ar]; rw [if_neg h1, if_neg (by omega), if_neg (by omega), if_neg (by omega), if_neg h8, if_neg h9]]
  by_cases g1 : op ≤ 68
  · exact r_ar_a op w g1
  by_cases g2 : op ≤ 105
  · exact r_ar_b op w (by omega)
  by_cases g3 : op ≤ 123
  · exact r_ar_c op w (by omega)
  by_cases g4 : op ≤ 166
  · exact r_ar_d op w (by omega)
  by_cases g5 : op ≤ 171
  · exact r_ar_e op w (by omega)
  · exact r_ar_f op w (by omega)
theorem r_a (op t f o : Int) (ok : Bool) (w : World) (hr : ar op = (t, f, o, ok)) :
    Calls Tryz.prog 102 #[.int .i64 op] w fun e w' => e = .returned (.tuple #[.int .i64 t, .int .i64 f, .int .i64 o, .bool ok]) ∧ w' = w := by
  have h := r_arity op w
  rw [hr] at h; exact h
end Go.Proofs.YtamofhkmhjckaaaGreatDoor
