/-
  The document's own functions of chapter 3 (Right, Wide, Secret, Of, Join, Flows) answer what the plain functions of the text Math answer, and change nothing.
-/
import Derived.Test.YtefjlfgpimiclaaLeaf
namespace Go.Proofs.Ytefjlfgpimiclaa
open Go.RowKit

theorem r_right (t : Int) (w : World) :
    Calls Try.prog 12 #[.int .i64 t] w fun e w' => e = .returned (.bool (ri t)) ∧ w' = w := by
  by_cases h1 : 0 ≤ t
  · rw [show ri t = decide (t ≤ 3) by simp [ri, h1]]
    go_enter Try.func12, Try.ntmps12
    go_wp2
    go_ret
    exact ⟨rfl, rfl⟩
  · rw [show ri t = false by simp [ri]; omega]
    go_enter Try.func12, Try.ntmps12
    go_wp2
    go_ret
    exact ⟨rfl, rfl⟩
theorem r_right_is (t : Int) (r : Bool) (w : World) (h : ri t = r) :
    Calls Try.prog 12 #[.int .i64 t] w fun e w' => e = .returned (.bool r) ∧ w' = w := by
  rw [← h]; exact r_right t w

theorem r_wide (t : Int) (w : World) :
    Calls Try.prog 14 #[.int .i64 t] w fun e w' => e = .returned (.bool (wi t)) ∧ w' = w := by
  by_cases h1 : t = 1
  · subst h1
    go_enter Try.func14, Try.ntmps14
    go_wp2
    go_ret
    exact ⟨rfl, rfl⟩
  · have hw := hide (show (t == 3) = wi t by simp [wi, h1]; rfl)
    have h2 : (t == 1) = false := by simpa using h1
    clear h1
    go_enter Try.func14, Try.ntmps14
    go_wp2
    go_ret
    exact ⟨ret_bool hw.out, rfl⟩
theorem r_wide_is (t : Int) (r : Bool) (w : World) (h : wi t = r) :
    Calls Try.prog 14 #[.int .i64 t] w fun e w' => e = .returned (.bool r) ∧ w' = w := by
  rw [← h]; exact r_wide t w

theorem r_secret (t : Int) (w : World) :
    Calls Try.prog 16 #[.int .i64 t] w fun e w' => e = .returned (.bool (se t)) ∧ w' = w := by
  by_cases h1 : t = 2
  · subst h1
    go_enter Try.func16, Try.ntmps16
    go_wp2
    go_ret
    exact ⟨rfl, rfl⟩
  · have hw := hide (show (t == 3) = se t by simp [se, h1]; rfl)
    have h2 : (t == 2) = false := by simpa using h1
    clear h1
    go_enter Try.func16, Try.ntmps16
    go_wp2
    go_ret
    exact ⟨ret_bool hw.out, rfl⟩
theorem r_secret_is (t : Int) (r : Bool) (w : World) (h : se t = r) :
    Calls Try.prog 16 #[.int .i64 t] w fun e w' => e = .returned (.bool r) ∧ w' = w := by
  rw [← h]; exact r_secret t w

theorem r_of (wide secret : Bool) (w : World) :
    Calls Try.prog 20 #[.bool wide, .bool secret] w fun e w' => e = .returned (.int .i64 (ot wide secret)) ∧ w' = w := by
  cases wide <;> cases secret <;>
  · go_enter Try.func20, Try.ntmps20
    go_wp2
    go_ret
    exact ⟨rfl, rfl⟩
theorem r_of_is (wide secret : Bool) (t : Int) (w : World) (h : ot wide secret = t) :
    Calls Try.prog 20 #[.bool wide, .bool secret] w fun e w' => e = .returned (.int .i64 t) ∧ w' = w := by
  rw [← h]; exact r_of wide secret w

theorem r_join (a b : Int) (w : World) :
    Calls Try.prog 10 #[.int .i64 a, .int .i64 b] w fun e w' => e = pair (jn a b) ∧ w' = w := by
  cases hra : ri a
  · rw [show jn a b = (0, false) by simp [jn, hra]]
    have hra' := hide hra
    clear hra
    go_enter Try.func10, Try.ntmps10
    go_wp2_with fail
    refine (r_right_is a false _ hra'.out).mono ?_
    rintro e w1 ⟨rfl, rfl⟩
    go_wp2_with fail
    go_ret2
    exact ⟨rfl, rfl⟩
  cases hrb : ri b
  · rw [show jn a b = (0, false) by simp [jn, hrb]]
    have hra' := hide hra
    have hrb' := hide hrb
    clear hra hrb
    go_enter Try.func10, Try.ntmps10
    go_wp2_with fail
    refine (r_right_is a true _ hra'.out).mono ?_
    rintro e w1 ⟨rfl, rfl⟩
    go_wp2_with fail
    refine (r_right_is b false _ hrb'.out).mono ?_
    rintro e w1 ⟨rfl, rfl⟩
    go_wp2_with fail
    go_ret2
    exact ⟨rfl, rfl⟩
  by_cases hw : wi a = wi b
  · cases hsa : se a
    · rw [show jn a b = (ot (wi a) (se b), true) by simp [jn, hra, hrb, hw, hsa]]
      have hra' := hide hra
      have hrb' := hide hrb
      have hw' := hide hw.symm
      have hsa' := hide hsa
      clear hra hrb hw hsa
      go_enter Try.func10, Try.ntmps10
      go_wp2_with fail
      refine (r_right_is a true _ hra'.out).mono ?_
      rintro e w1 ⟨rfl, rfl⟩
      go_wp2_with fail
      refine (r_right_is b true _ hrb'.out).mono ?_
      rintro e w1 ⟨rfl, rfl⟩
      go_wp2_with fail
      refine (r_wide a _).mono ?_
      rintro e w1 ⟨rfl, rfl⟩
      go_wp2_with fail
      refine (r_wide_is b (wi a) _ hw'.out).mono ?_
      rintro e w1 ⟨rfl, rfl⟩
      go_wp2_with fail
      refine (r_wide a _).mono ?_
      rintro e w1 ⟨rfl, rfl⟩
      go_wp2_with fail
      refine (r_secret_is a false _ hsa'.out).mono ?_
      rintro e w1 ⟨rfl, rfl⟩
      go_wp2_with fail
      refine (r_secret b _).mono ?_
      rintro e w1 ⟨rfl, rfl⟩
      go_wp2_with fail
      refine (r_of _ _ _).mono ?_
      rintro e w1 ⟨rfl, rfl⟩
      go_wp2_with fail
      go_ret2
      exact ⟨rfl, rfl⟩
    · rw [show jn a b = (ot (wi a) true, true) by simp [jn, hra, hrb, hw, hsa]]
      have hra' := hide hra
      have hrb' := hide hrb
      have hw' := hide hw.symm
      have hsa' := hide hsa
      clear hra hrb hw hsa
      go_enter Try.func10, Try.ntmps10
      go_wp2_with fail
      refine (r_right_is a true _ hra'.out).mono ?_
      rintro e w1 ⟨rfl, rfl⟩
      go_wp2_with fail
      refine (r_right_is b true _ hrb'.out).mono ?_
      rintro e w1 ⟨rfl, rfl⟩
      go_wp2_with fail
      refine (r_wide a _).mono ?_
      rintro e w1 ⟨rfl, rfl⟩
      go_wp2_with fail
      refine (r_wide_is b (wi a) _ hw'.out).mono ?_
      rintro e w1 ⟨rfl, rfl⟩
      go_wp2_with fail
      refine (r_wide a _).mono ?_
      rintro e w1 ⟨rfl, rfl⟩
      go_wp2_with fail
      refine (r_secret_is a true _ hsa'.out).mono ?_
      rintro e w1 ⟨rfl, rfl⟩
      go_wp2_with fail
      refine (r_of _ _ _).mono ?_
      rintro e w1 ⟨rfl, rfl⟩
      go_wp2_with fail
      go_ret2
      exact ⟨rfl, rfl⟩
  · rw [show jn a b = (0, false) by simp [jn, hw]]
    obtain ⟨x, hx⟩ : ∃ x, wi a = x := ⟨_, rfl⟩
    have hy : wi b = !x := by rw [← hx]; cases h1 : wi a <;> cases h2 : wi b <;> simp_all
    have hra' := hide hra
    have hrb' := hide hrb
    have hx' := hide hx
    have hy' := hide hy
    clear hra hrb hw hx hy
    cases x <;>
    · go_enter Try.func10, Try.ntmps10
      go_wp2_with fail
      refine (r_right_is a true _ hra'.out).mono ?_
      rintro e w1 ⟨rfl, rfl⟩
      go_wp2_with fail
      refine (r_right_is b true _ hrb'.out).mono ?_
      rintro e w1 ⟨rfl, rfl⟩
      go_wp2_with fail
      refine (r_wide_is a _ _ hx'.out).mono ?_
      rintro e w1 ⟨rfl, rfl⟩
      go_wp2_with fail
      refine (r_wide_is b _ _ hy'.out).mono ?_
      rintro e w1 ⟨rfl, rfl⟩
      go_wp2_with fail
      go_ret2
      exact ⟨rfl, rfl⟩

theorem r_flows (a b : Int) (w : World) :
    Calls Try.prog 18 #[.int .i64 a, .int .i64 b] w fun e w' => e = .returned (.bool (fl a b)) ∧ w' = w := by
  cases hra : ri a
  · rw [show fl a b = false by simp [fl, hra]]
    have hra' := hide hra
    clear hra
    go_enter Try.func18, Try.ntmps18
    go_wp2_with fail
    refine (r_right_is a false _ hra'.out).mono ?_
    rintro e w1 ⟨rfl, rfl⟩
    go_wp2_with fail
    go_ret
    exact ⟨rfl, rfl⟩
  cases hrb : ri b
  · rw [show fl a b = false by simp [fl, hrb]]
    have hra' := hide hra
    have hrb' := hide hrb
    clear hra hrb
    go_enter Try.func18, Try.ntmps18
    go_wp2_with fail
    refine (r_right_is a true _ hra'.out).mono ?_
    rintro e w1 ⟨rfl, rfl⟩
    go_wp2_with fail
    refine (r_right_is b false _ hrb'.out).mono ?_
    rintro e w1 ⟨rfl, rfl⟩
    go_wp2_with fail
    go_ret
    exact ⟨rfl, rfl⟩
  by_cases hw : wi a = wi b
  · cases hsb : se b
    · rw [show fl a b = !se a by simp [fl, hra, hrb, hw, hsb]]
      have hra' := hide hra
      have hrb' := hide hrb
      have hw' := hide hw.symm
      have hsb' := hide hsb
      clear hra hrb hw hsb
      go_enter Try.func18, Try.ntmps18
      go_wp2_with fail
      refine (r_right_is a true _ hra'.out).mono ?_
      rintro e w1 ⟨rfl, rfl⟩
      go_wp2_with fail
      refine (r_right_is b true _ hrb'.out).mono ?_
      rintro e w1 ⟨rfl, rfl⟩
      go_wp2_with fail
      refine (r_wide a _).mono ?_
      rintro e w1 ⟨rfl, rfl⟩
      go_wp2_with fail
      refine (r_wide_is b (wi a) _ hw'.out).mono ?_
      rintro e w1 ⟨rfl, rfl⟩
      go_wp2_with fail
      refine (r_secret_is b false _ hsb'.out).mono ?_
      rintro e w1 ⟨rfl, rfl⟩
      go_wp2_with fail
      refine (r_secret a _).mono ?_
      rintro e w1 ⟨rfl, rfl⟩
      go_wp2_with fail
      go_ret
      exact ⟨rfl, rfl⟩
    · rw [show fl a b = true by simp [fl, hra, hrb, hw, hsb]]
      have hra' := hide hra
      have hrb' := hide hrb
      have hw' := hide hw.symm
      have hsb' := hide hsb
      clear hra hrb hw hsb
      go_enter Try.func18, Try.ntmps18
      go_wp2_with fail
      refine (r_right_is a true _ hra'.out).mono ?_
      rintro e w1 ⟨rfl, rfl⟩
      go_wp2_with fail
      refine (r_right_is b true _ hrb'.out).mono ?_
      rintro e w1 ⟨rfl, rfl⟩
      go_wp2_with fail
      refine (r_wide a _).mono ?_
      rintro e w1 ⟨rfl, rfl⟩
      go_wp2_with fail
      refine (r_wide_is b (wi a) _ hw'.out).mono ?_
      rintro e w1 ⟨rfl, rfl⟩
      go_wp2_with fail
      refine (r_secret_is b true _ hsb'.out).mono ?_
      rintro e w1 ⟨rfl, rfl⟩
      go_wp2_with fail
      go_ret
      exact ⟨rfl, rfl⟩
  · rw [show fl a b = false by simp [fl, hw]]
    obtain ⟨x, hx⟩ : ∃ x, wi a = x := ⟨_, rfl⟩
    have hy : wi b = !x := by rw [← hx]; cases h1 : wi a <;> cases h2 : wi b <;> simp_all
    have hra' := hide hra
    have hrb' := hide hrb
    have hx' := hide hx
    have hy' := hide hy
    clear hra hrb hw hx hy
    cases x <;>
    · go_enter Try.func18, Try.ntmps18
      go_wp2_with fail
      refine (r_right_is a true _ hra'.out).mono ?_
      rintro e w1 ⟨rfl, rfl⟩
      go_wp2_with fail
      refine (r_right_is b true _ hrb'.out).mono ?_
      rintro e w1 ⟨rfl, rfl⟩
      go_wp2_with fail
      refine (r_wide_is a _ _ hx'.out).mono ?_
      rintro e w1 ⟨rfl, rfl⟩
      go_wp2_with fail
      refine (r_wide_is b _ _ hy'.out).mono ?_
      rintro e w1 ⟨rfl, rfl⟩
      go_wp2_with fail
      go_ret
      exact ⟨rfl, rfl⟩
theorem r_flows_is (a b : Int) (r : Bool) (w : World) (h : fl a b = r) :
    Calls Try.prog 18 #[.int .i64 a, .int .i64 b] w fun e w' => e = .returned (.bool r) ∧ w' = w := by
  rw [← h]; exact r_flows a b w
theorem r_join_is (a b : Int) (j : Int) (ok : Bool) (w : World) (h : jn a b = (j, ok)) :
    Calls Try.prog 10 #[.int .i64 a, .int .i64 b] w fun e w' => e = .returned (.tuple #[.int .i64 j, .bool ok]) ∧ w' = w := by
  have := r_join a b w
  rw [h] at this; exact this
end Go.Proofs.Ytefjlfgpimiclaa
