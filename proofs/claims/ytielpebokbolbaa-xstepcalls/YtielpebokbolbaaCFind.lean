/-
  The program's find and findPlain answer what the plain functions fnd and fndP answer.
-/
import Derived.Test.YtielpebokbolbaaCLeaf
namespace Go.Proofs.Ytielpebokbolbaa.Xc
open Go.RowKit
theorem fp_no {f : Int} (h1 : f ≠ 133) (h2 : f ≠ 4015) (h3 : f ≠ 153) (h4 : f ≠ 139) (h5 : f ≠ 4022) (h6 : f ≠ 99) (h7 : f ≠ 233) (h8 : f ≠ 232) (h9 : f ≠ 195) (h10 : f ≠ 244) (h11 : f ≠ 3851) (h12 : f ≠ 204) : fndP f = 0 := by
  simp only [fndP, h1, h2, h3, h4, h5, h6, h7, h8, h9, h10, h11, h12, if_false]
set_option maxHeartbeats 1000000 in
theorem plain_any (f : Int) (w : World) : Calls Try.prog 86 #[.int .i64 f] w fun e w' => e = .returned (.int .i64 (fndP f)) ∧ w' = w := by
  by_cases h : f = 133 ∨ f = 4015 ∨ f = 153 ∨ f = 139 ∨ f = 4022 ∨ f = 99 ∨ f = 233 ∨ f = 232 ∨ f = 195 ∨ f = 244 ∨ f = 3851 ∨ f = 204
  · rcases h with rfl | rfl | rfl | rfl | rfl | rfl | rfl | rfl | rfl | rfl | rfl | rfl <;> (go_enter Try.func86, Try.ntmps86; go_wp2; go_ret; exact ⟨rfl, rfl⟩)
  · simp only [not_or] at h
    obtain ⟨h1, h2, h3, h4, h5, h6, h7, h8, h9, h10, h11, h12⟩ := h
    have hp := hide (fp_no h1 h2 h3 h4 h5 h6 h7 h8 h9 h10 h11 h12)
    go_enter Try.func86, Try.ntmps86
    go_wp2
    go_ret
    exact ⟨ret_int hp.out.symm, rfl⟩
theorem all4096 {p : Int → Prop} (h : ∀ a b : Fin 64, p (64 * ((a.val : Nat) : Int) + ((b.val : Nat) : Int))) (v : Int) (h0 : 0 ≤ v) (h1 : v ≤ 4095) : p v := by
  have := h ⟨(v / 64).toNat, by omega⟩ ⟨(v % 64).toNat, by omega⟩
  simp only [Int.toNat_of_nonneg (show 0 ≤ v / 64 by omega), Int.toNat_of_nonneg (show 0 ≤ v % 64 by omega)] at this
  rwa [show 64 * (v / 64) + v % 64 = v by omega] at this
theorem fb1 : ∀ f : Int, 0 ≤ f → f ≤ 4095 → (bits BinOp.andNot IntKind.i64 f 7 == 184) = decide (f / 8 = 23) := all4096 (by decide +kernel)
theorem fb2 : ∀ f : Int, 0 ≤ f → f ≤ 4095 → (bits BinOp.andNot IntKind.i64 f 56 == 1) = decide (f / 64 = 0 ∧ f % 8 = 1) := all4096 (by decide +kernel)
theorem fb3 : ∀ f : Int, 0 ≤ f → f ≤ 4095 → (bits BinOp.andNot IntKind.i64 f 15 == 3904) = decide (f / 16 = 244) := all4096 (by decide +kernel)
theorem fb4 : ∀ f : Int, 0 ≤ f → f ≤ 4095 → (bits BinOp.andNot IntKind.i64 f 15 == 3968) = decide (f / 16 = 248) := all4096 (by decide +kernel)
theorem fb5 : ∀ f : Int, 0 ≤ f → f ≤ 4095 → (bits BinOp.andNot IntKind.i64 f 15 == 3984) = decide (f / 16 = 249) := all4096 (by decide +kernel)
theorem fb6 : ∀ f : Int, 0 ≤ f → f ≤ 4095 → bits BinOp.and IntKind.i64 f 15 = f % 16 := all4096 (by decide +kernel)
theorem ret_two {a b c d : Int} (h1 : a = c) (h2 : b = d) : Ending.returned (.tuple #[.int .i64 a, .int .i64 b]) = .returned (.tuple #[.int .i64 c, .int .i64 d]) := by subst h1 h2; rfl
def FindIs (f mod m : Int) (w : World) : Prop := Calls Try.prog 79 #[.int .i64 f, .int .i64 mod, .int .i64 m] w fun e w' => e = .returned (.tuple #[.int .i64 (fnd f mod m).1, .int .i64 (fnd f mod m).2]) ∧ w' = w
set_option maxHeartbeats 1000000 in
theorem find_0 (f mod m : Int) (w : World) (h0 : 0 ≤ f) (h1 : f ≤ 4095) (n1 : f ≠ 137) (n2 : f ≠ 247) (n3 : f ≠ 129) (n4 : f ≠ 211) (c0 : f / 8 = 23) : FindIs f mod m w := by
  have hv : fnd f mod m = (2, 0) := by unfold fnd; rw [if_neg n1, if_neg n2, if_neg n3, if_neg n4, if_pos c0]
  unfold FindIs
  rw [hv]
  clear hv
  have d1 : (f == 137) = false := by simpa using n1
  have d2 : (f == 247) = false := by simpa using n2
  have d3 : (f == 129) = false := by simpa using n3
  have d4 : (f == 211) = false := by simpa using n4
  clear n1 n2 n3 n4
  have e0 := (fb1 f h0 h1).trans (decide_eq_true c0)
  clear c0
  go_enter Try.func79, Try.ntmps79
  go_wp2_with (go_at_call 86; refine (plain_any _ _).mono ?_; rintro e w' ⟨rfl, rfl⟩)
  go_ret2
  exact ⟨rfl, rfl⟩
set_option maxHeartbeats 1000000 in
theorem find_1 (f mod m : Int) (w : World) (h0 : 0 ≤ f) (h1 : f ≤ 4095) (n1 : f ≠ 137) (n2 : f ≠ 247) (n3 : f ≠ 129) (n4 : f ≠ 211) (c0 : ¬ (f / 8 = 23)) (c1 : f / 64 = 0 ∧ f % 8 = 1) : FindIs f mod m w := by
  have hv : fnd f mod m = (3, f / 8) := by unfold fnd; rw [if_neg n1, if_neg n2, if_neg n3, if_neg n4, if_neg c0, if_pos c1]
  unfold FindIs
  rw [hv]
  clear hv
  have d1 : (f == 137) = false := by simpa using n1
  have d2 : (f == 247) = false := by simpa using n2
  have d3 : (f == 129) = false := by simpa using n3
  have d4 : (f == 211) = false := by simpa using n4
  clear n1 n2 n3 n4
  have e0 := (fb1 f h0 h1).trans (decide_eq_false c0)
  have e1 := (fb2 f h0 h1).trans (decide_eq_true c1)
  clear c0 c1
  go_enter Try.func79, Try.ntmps79
  go_wp2_with (go_at_call 86; refine (plain_any _ _).mono ?_; rintro e w' ⟨rfl, rfl⟩)
  go_ret2
  exact ⟨rfl, rfl⟩
set_option maxHeartbeats 1000000 in
theorem find_2 (f mod m : Int) (w : World) (h0 : 0 ≤ f) (h1 : f ≤ 4095) (n1 : f ≠ 137) (n2 : f ≠ 247) (n3 : f ≠ 129) (n4 : f ≠ 211) (c0 : ¬ (f / 8 = 23)) (c1 : ¬ (f / 64 = 0 ∧ f % 8 = 1)) (c2 : f / 16 = 244) : FindIs f mod m w := by
  have hv : fnd f mod m = (15, f % 16) := by unfold fnd; rw [if_neg n1, if_neg n2, if_neg n3, if_neg n4, if_neg c0, if_neg c1, if_pos c2]
  unfold FindIs
  rw [hv]
  clear hv
  have d1 : (f == 137) = false := by simpa using n1
  have d2 : (f == 247) = false := by simpa using n2
  have d3 : (f == 129) = false := by simpa using n3
  have d4 : (f == 211) = false := by simpa using n4
  clear n1 n2 n3 n4
  have e0 := (fb1 f h0 h1).trans (decide_eq_false c0)
  have e1 := (fb2 f h0 h1).trans (decide_eq_false c1)
  have e2 := (fb3 f h0 h1).trans (decide_eq_true c2)
  clear c0 c1 c2
  go_enter Try.func79, Try.ntmps79
  go_wp2_with (go_at_call 86; refine (plain_any _ _).mono ?_; rintro e w' ⟨rfl, rfl⟩)
  go_ret2
  exact ⟨ret_two rfl (fb6 f h0 h1), rfl⟩
set_option maxHeartbeats 1000000 in
theorem find_3 (f mod m : Int) (w : World) (h0 : 0 ≤ f) (h1 : f ≤ 4095) (n1 : f ≠ 137) (n2 : f ≠ 247) (n3 : f ≠ 129) (n4 : f ≠ 211) (c0 : ¬ (f / 8 = 23)) (c1 : ¬ (f / 64 = 0 ∧ f % 8 = 1)) (c2 : ¬ (f / 16 = 244)) (c3 : f / 16 = 248) : FindIs f mod m w := by
  have hv : fnd f mod m = (18, f % 16) := by unfold fnd; rw [if_neg n1, if_neg n2, if_neg n3, if_neg n4, if_neg c0, if_neg c1, if_neg c2, if_pos c3]
  unfold FindIs
  rw [hv]
  clear hv
  have d1 : (f == 137) = false := by simpa using n1
  have d2 : (f == 247) = false := by simpa using n2
  have d3 : (f == 129) = false := by simpa using n3
  have d4 : (f == 211) = false := by simpa using n4
  clear n1 n2 n3 n4
  have e0 := (fb1 f h0 h1).trans (decide_eq_false c0)
  have e1 := (fb2 f h0 h1).trans (decide_eq_false c1)
  have e2 := (fb3 f h0 h1).trans (decide_eq_false c2)
  have e3 := (fb4 f h0 h1).trans (decide_eq_true c3)
  clear c0 c1 c2 c3
  go_enter Try.func79, Try.ntmps79
  go_wp2_with (go_at_call 86; refine (plain_any _ _).mono ?_; rintro e w' ⟨rfl, rfl⟩)
  go_ret2
  exact ⟨ret_two rfl (fb6 f h0 h1), rfl⟩
set_option maxHeartbeats 1000000 in
theorem find_4 (f mod m : Int) (w : World) (h0 : 0 ≤ f) (h1 : f ≤ 4095) (n1 : f ≠ 137) (n2 : f ≠ 247) (n3 : f ≠ 129) (n4 : f ≠ 211) (c0 : ¬ (f / 8 = 23)) (c1 : ¬ (f / 64 = 0 ∧ f % 8 = 1)) (c2 : ¬ (f / 16 = 244)) (c3 : ¬ (f / 16 = 248)) (c4 : f / 16 = 249) : FindIs f mod m w := by
  have hv : fnd f mod m = (13, f % 16) := by unfold fnd; rw [if_neg n1, if_neg n2, if_neg n3, if_neg n4, if_neg c0, if_neg c1, if_neg c2, if_neg c3, if_pos c4]
  unfold FindIs
  rw [hv]
  clear hv
  have d1 : (f == 137) = false := by simpa using n1
  have d2 : (f == 247) = false := by simpa using n2
  have d3 : (f == 129) = false := by simpa using n3
  have d4 : (f == 211) = false := by simpa using n4
  clear n1 n2 n3 n4
  have e0 := (fb1 f h0 h1).trans (decide_eq_false c0)
  have e1 := (fb2 f h0 h1).trans (decide_eq_false c1)
  have e2 := (fb3 f h0 h1).trans (decide_eq_false c2)
  have e3 := (fb4 f h0 h1).trans (decide_eq_false c3)
  have e4 := (fb5 f h0 h1).trans (decide_eq_true c4)
  clear c0 c1 c2 c3 c4
  go_enter Try.func79, Try.ntmps79
  go_wp2_with (go_at_call 86; refine (plain_any _ _).mono ?_; rintro e w' ⟨rfl, rfl⟩)
  go_ret2
  exact ⟨ret_two rfl (fb6 f h0 h1), rfl⟩
set_option maxHeartbeats 1000000 in
theorem find_5 (f mod m : Int) (w : World) (h0 : 0 ≤ f) (h1 : f ≤ 4095) (n1 : f ≠ 137) (n2 : f ≠ 247) (n3 : f ≠ 129) (n4 : f ≠ 211) (c0 : ¬ (f / 8 = 23)) (c1 : ¬ (f / 64 = 0 ∧ f % 8 = 1)) (c2 : ¬ (f / 16 = 244)) (c3 : ¬ (f / 16 = 248)) (c4 : ¬ (f / 16 = 249)) : FindIs f mod m w := by
  have hv : fnd f mod m = (fndP f, 0) := by unfold fnd; rw [if_neg n1, if_neg n2, if_neg n3, if_neg n4, if_neg c0, if_neg c1, if_neg c2, if_neg c3, if_neg c4]
  unfold FindIs
  rw [hv]
  clear hv
  have d1 : (f == 137) = false := by simpa using n1
  have d2 : (f == 247) = false := by simpa using n2
  have d3 : (f == 129) = false := by simpa using n3
  have d4 : (f == 211) = false := by simpa using n4
  clear n1 n2 n3 n4
  have e0 := (fb1 f h0 h1).trans (decide_eq_false c0)
  have e1 := (fb2 f h0 h1).trans (decide_eq_false c1)
  have e2 := (fb3 f h0 h1).trans (decide_eq_false c2)
  have e3 := (fb4 f h0 h1).trans (decide_eq_false c3)
  have e4 := (fb5 f h0 h1).trans (decide_eq_false c4)
  clear c0 c1 c2 c3 c4
  go_enter Try.func79, Try.ntmps79
  go_wp2_with (go_at_call 86; refine (plain_any _ _).mono ?_; rintro e w' ⟨rfl, rfl⟩)
  go_ret2
  exact ⟨rfl, rfl⟩
set_option maxHeartbeats 1000000 in
theorem find_any (f mod m : Int) (w : World) (h0 : 0 ≤ f) (h1 : f ≤ 4095) : Calls Try.prog 79 #[.int .i64 f, .int .i64 mod, .int .i64 m] w fun e w' => e = .returned (.tuple #[.int .i64 (fnd f mod m).1, .int .i64 (fnd f mod m).2]) ∧ w' = w := by
  by_cases n1 : f = 137
  · subst n1
    by_cases hm : mod = 2
    · subst hm
      go_enter Try.func79, Try.ntmps79
      go_wp2
      go_ret2
      exact ⟨rfl, rfl⟩
    · have hm' : (mod == 2) = false := by simpa using hm
      have hv : fnd 137 mod m = (1, 0) := by simp [fnd, hm]
      rw [hv]
      clear hv
      go_enter Try.func79, Try.ntmps79
      go_wp2
      go_ret2
      exact ⟨rfl, rfl⟩
  by_cases n2 : f = 247
  · subst n2
    by_cases hm : m = 6
    · subst hm
      go_enter Try.func79, Try.ntmps79
      go_wp2
      go_ret2
      exact ⟨rfl, rfl⟩
    · have hm' : (m == 6) = false := by simpa using hm
      have hv : fnd 247 mod m = (9, 0) := by simp [fnd, hm]
      rw [hv]
      clear hv
      go_enter Try.func79, Try.ntmps79
      go_wp2
      go_ret2
      exact ⟨rfl, rfl⟩
  by_cases n3 : f = 129
  · subst n3
    have hv : fnd 129 mod m = (4, m) := by simp [fnd]
    rw [hv]
    clear hv
    go_enter Try.func79, Try.ntmps79
    go_wp2
    go_ret2
    exact ⟨rfl, rfl⟩
  by_cases n4 : f = 211
  · subst n4
    have hv : fnd 211 mod m = (7, m) := by simp [fnd]
    rw [hv]
    clear hv
    go_enter Try.func79, Try.ntmps79
    go_wp2
    go_ret2
    exact ⟨rfl, rfl⟩
  by_cases c0 : f / 8 = 23
  · exact find_0 f mod m w h0 h1 n1 n2 n3 n4 c0
  by_cases c1 : f / 64 = 0 ∧ f % 8 = 1
  · exact find_1 f mod m w h0 h1 n1 n2 n3 n4 c0 c1
  by_cases c2 : f / 16 = 244
  · exact find_2 f mod m w h0 h1 n1 n2 n3 n4 c0 c1 c2
  by_cases c3 : f / 16 = 248
  · exact find_3 f mod m w h0 h1 n1 n2 n3 n4 c0 c1 c2 c3
  by_cases c4 : f / 16 = 249
  · exact find_4 f mod m w h0 h1 n1 n2 n3 n4 c0 c1 c2 c3 c4
  exact find_5 f mod m w h0 h1 n1 n2 n3 n4 c0 c1 c2 c3 c4
end Go.Proofs.Ytielpebokbolbaa.Xc
