/-
  The chapter's examples, as the statements ask them first, are all so (the function examples returns true); and what the statements' own helpers of and value hand back, by the plain functions; nothing is changed.
-/
import Derived.Test.YtfcdpjihhopfhaaEval
namespace Go.Proofs.Ytfcdpjihhopfhaa
open Go.RowKit

theorem ex1 (w : World) : Calls Try.prog 10 #[.int .i64 107, .int .i64 0, .int .i64 1] w fun e w' => e = .returned (.tuple #[.int .i64 4294967295, .int .i64 0]) ∧ w' = w := by
  have h := eval_any 107 0 1 w ⟨by decide, by decide⟩ ⟨by decide, by decide⟩
  rw [show ev 107 0 1 = (4294967295, 0) by decide +kernel] at h; exact h
theorem ex2 (w : World) : Calls Try.prog 10 #[.int .i64 72, .int .i64 4294967295, .int .i64 0] w fun e w' => e = .returned (.tuple #[.int .i64 1, .int .i64 0]) ∧ w' = w := by
  have h := eval_any 72 4294967295 0 w ⟨by decide, by decide⟩ ⟨by decide, by decide⟩
  rw [show ev 72 4294967295 0 = (1, 0) by decide +kernel] at h; exact h
theorem ex3 (w : World) : Calls Try.prog 10 #[.int .i64 109, .int .i64 2147483648, .int .i64 4294967295] w fun e w' => e = .returned (.tuple #[.int .i64 0, .int .i64 3]) ∧ w' = w := by
  have h := eval_any 109 2147483648 4294967295 w ⟨by decide, by decide⟩ ⟨by decide, by decide⟩
  rw [show ev 109 2147483648 4294967295 = (0, 3) by decide +kernel] at h; exact h
theorem ex4 (w : World) : Calls Try.prog 10 #[.int .i64 135, .int .i64 (-8), .int .i64 65] w fun e w' => e = .returned (.tuple #[.int .i64 (-4), .int .i64 0]) ∧ w' = w := by
  have h := eval_any 135 (-8) 65 w ⟨by decide, by decide⟩ ⟨by decide, by decide⟩
  rw [show ev 135 (-8) 65 = (-4, 0) by decide +kernel] at h; exact h
theorem ex5 (w : World) : Calls Try.prog 10 #[.int .i64 119, .int .i64 2147483649, .int .i64 1] w fun e w' => e = .returned (.tuple #[.int .i64 3, .int .i64 0]) ∧ w' = w := by
  have h := eval_any 119 2147483649 1 w ⟨by decide, by decide⟩ ⟨by decide, by decide⟩
  rw [show ev 119 2147483649 1 = (3, 0) by decide +kernel] at h; exact h

set_option maxRecDepth 100000 in
set_option maxHeartbeats 1000000 in
theorem examples_any (w : World) :
    Calls Try.prog 9 #[] w fun e w' => e = .returned (.bool true) ∧ w' = w := by
  go_enter Try.func9, Try.ntmps9
  go_wp2_with fail
  refine (ex1 _).mono ?_
  rintro e w1 ⟨rfl, rfl⟩
  go_wp2_with fail
  refine (ex2 _).mono ?_
  rintro e w1 ⟨rfl, rfl⟩
  go_wp2_with fail
  refine (ex3 _).mono ?_
  rintro e w1 ⟨rfl, rfl⟩
  go_wp2_with fail
  refine (ex4 _).mono ?_
  rintro e w1 ⟨rfl, rfl⟩
  go_wp2_with fail
  refine (ex5 _).mono ?_
  rintro e w1 ⟨rfl, rfl⟩
  go_wp2_with fail
  go_ret
  exact ⟨rfl, rfl⟩

/-- what an instruction of a width reckons, told by its number of 32 bits -/
def ee (k : Int) (wide : Bool) (a b : Int) : Int × Int :=
  if 106 ≤ k then su k wide a b else (b1 (cm k wide (tr wide a) (tr wide b)), 0)

theorem ev_no (k a b : Int) (h : 69 ≤ k ∧ k ≤ 79 ∨ 106 ≤ k ∧ k ≤ 120) : ev k a b = ee k false a b := by
  by_cases h1 : 106 ≤ k
  · simp only [ev, ee]; rw [if_neg (by omega), if_neg (by omega), if_pos (by omega), if_pos h1]
  · simp only [ev, ee]; rw [if_pos (by omega), if_neg h1]
theorem ev_cmp (k a b : Int) (h : 69 ≤ k ∧ k ≤ 79) : ev (k + 11) a b = ee k true a b := by
  have e : k + 11 - 11 = k := by omega
  simp only [ev, ee]; rw [if_neg (by omega), if_pos (by omega), if_neg (by omega), e]
theorem ev_sum (k a b : Int) (h : 106 ≤ k ∧ k ≤ 120) : ev (k + 18) a b = ee k true a b := by
  have e : k + 18 - 18 = k := by omega
  simp only [ev, ee]; rw [if_neg (by omega), if_neg (by omega), if_neg (by omega), if_pos (by omega), if_pos (by omega), e]

theorem of_call (k : Int) (wide : Bool) (a b : Int) (w : World) (n : Int) (v t : Int)
    (h1 : wide = false → n = k) (h2 : wide = true → 106 ≤ k → n = k + 18 ∧ k ≤ 120) (h3 : wide = true → ¬ 106 ≤ k → n = k + 11 ∧ 69 ≤ k)
    (hE : Calls Try.prog 10 #[.int .i64 n, .int .i64 a, .int .i64 b] w fun e w' => e = .returned (.tuple #[.int .i64 v, .int .i64 t]) ∧ w' = w) :
    Calls Try.prog 17 #[.int .i64 k, .bool wide, .int .i64 a, .int .i64 b] w fun e w' => e = .returned (.tuple #[.int .i64 v, .int .i64 t]) ∧ w' = w := by
  cases wide
  · obtain rfl := h1 rfl
    have hE' := hide hE
    clear hE h1 h2 h3
    go_enter Try.func17, Try.ntmps17
    go_wp2_with fail
    refine (hE'.out).mono ?_
    rintro e w1 ⟨rfl, rfl⟩
    go_wp2_with fail
    go_ret2
    exact ⟨rfl, rfl⟩
  · by_cases hk : 106 ≤ k
    · obtain ⟨rfl, h⟩ := h2 rfl hk
      have hE' := hide hE
      have e1 : Hid (wrap64 (wrap64 (k - 106) + 124) = k + 18) := hide (by simp only [wrap64]; omega)
      clear hE h1 h2 h3 h
      go_enter Try.func17, Try.ntmps17
      go_wp2_with fail
      rw [e1.out]
      refine (hE'.out).mono ?_
      rintro e w1 ⟨rfl, rfl⟩
      go_wp2_with fail
      go_ret2
      exact ⟨rfl, rfl⟩
    · obtain ⟨rfl, h⟩ := h3 rfl hk
      have hE' := hide hE
      have e1 : Hid (wrap64 (wrap64 (k - 69) + 80) = k + 11) := hide (by simp only [wrap64]; omega)
      clear hE h1 h2 h3 h
      go_enter Try.func17, Try.ntmps17
      go_wp2_with fail
      rw [e1.out]
      refine (hE'.out).mono ?_
      rintro e w1 ⟨rfl, rfl⟩
      go_wp2_with fail
      go_ret2
      exact ⟨rfl, rfl⟩

theorem of_any (k : Int) (wide : Bool) (a b : Int) (w : World) (h : 69 ≤ k ∧ k ≤ 79 ∨ 106 ≤ k ∧ k ≤ 120) (ha : I64 a) (hb : I64 b) :
    Calls Try.prog 17 #[.int .i64 k, .bool wide, .int .i64 a, .int .i64 b] w fun e w' => e = .returned (.tuple #[.int .i64 (ee k wide a b).1, .int .i64 (ee k wide a b).2]) ∧ w' = w := by
  cases wide
  · refine of_call k false a b w k _ _ (fun _ => rfl) (fun h => by cases h) (fun h => by cases h) ?_
    rw [← ev_no k a b h]; exact eval_any k a b w ha hb
  · by_cases hk : 106 ≤ k
    · refine of_call k true a b w (k + 18) _ _ (fun h => by cases h) (fun _ _ => ⟨rfl, by omega⟩) (fun _ h => absurd hk h) ?_
      rw [← ev_sum k a b (by omega)]; exact eval_any (k + 18) a b w ha hb
    · refine of_call k true a b w (k + 11) _ _ (fun h => by cases h) (fun _ h => absurd h hk) (fun _ _ => ⟨rfl, by omega⟩) ?_
      rw [← ev_cmp k a b (by omega)]; exact eval_any (k + 11) a b w ha hb

theorem value_any (k : Int) (wide : Bool) (a b : Int) (w : World) (h : 69 ≤ k ∧ k ≤ 79 ∨ 106 ≤ k ∧ k ≤ 120) (ha : I64 a) (hb : I64 b) :
    Calls Try.prog 16 #[.int .i64 k, .bool wide, .int .i64 a, .int .i64 b] w fun e w' => e = .returned (.int .i64 (ee k wide a b).1) ∧ w' = w := by
  have hO := hide (of_any k wide a b w h ha hb)
  clear h ha hb
  go_enter Try.func16, Try.ntmps16
  go_wp2_with fail
  refine (hO.out).mono ?_
  rintro e w1 ⟨rfl, rfl⟩
  go_wp2_with fail
  go_ret
  exact ⟨rfl, rfl⟩
end Go.Proofs.Ytfcdpjihhopfhaa
