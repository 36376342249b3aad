/-
  The statement WordWidths, walked: each result is one of its width; what is made wider is the same number, and made narrow again the same value: for any inputs it returns true; nothing is changed.
-/
import Derived.Test.YtfcdpjihhopfhaaMathB
namespace Go.Proofs.Ytfcdpjihhopfhaa
open Go.RowKit

theorem e_any (op a b v t : Int) (w : World) (ha : I64 a) (hb : I64 b) (hr : ev op a b = (v, t)) :
    Calls Try.prog 10 #[.int .i64 op, .int .i64 a, .int .i64 b] w fun e w' => e = .returned (.tuple #[.int .i64 v, .int .i64 t]) ∧ w' = w := by
  have h := eval_any op a b w ha hb
  rw [hr] at h; exact h
theorem a_any (op t f o : Int) (ok : Bool) (w : World) (hr : ar op = (t, f, o, ok)) :
    Calls Try.prog 12 #[.int .i64 op] w fun e w' => e = .returned (.tuple #[.int .i64 t, .int .i64 f, .int .i64 o, .bool ok]) ∧ w' = w := by
  have h := arity_any op w
  rw [hr] at h; exact h

theorem low_sg (a : Int) : tr false (sg false (tr false a)) = tr false a := by
  simp only [tr, sg, Bool.false_eq_true, if_false]; split <;> omega
theorem sg_low (a : Int) : -2147483648 ≤ sg false (tr false a) ∧ sg false (tr false a) < 2147483648 := by
  simp only [tr, sg, Bool.false_eq_true, if_false]; split <;> omega

theorem dv_trap (k : Int) (wide : Bool) (x y : Int) : (dv k wide x y).2 = 0 ∨ (dv k wide x y).2 ≠ 0 ∧ (dv k wide x y).1 = 0 := by
  simp only [dv]
  split
  · right; decide
  split
  · left; rfl
  split
  · left; rfl
  split
  · left; rfl
  split
  · right; decide
  · left; rfl
theorem su_trap (k : Int) (wide : Bool) (a b : Int) : (su k wide a b).2 = 0 ∨ (su k wide a b).2 ≠ 0 ∧ (su k wide a b).1 = 0 := by
  simp only [su]
  split
  · rcases dv_trap k wide (tr wide a) (tr wide b) with h | ⟨h, h'⟩
    · left; exact h
    · right; refine ⟨h, ?_⟩; show tr wide (dv k wide (tr wide a) (tr wide b)).1 = 0; rw [h']; cases wide <;> rfl
  split
  · left; rfl
  · left; rfl

/-- what can be told of any instruction's answers: no instruction · a result of 64 bits · a trap, and 0 · a result of 32 bits -/
def Kind (op a b : Int) : Prop :=
  (ar op = (0, 0, 0, false) ∧ ev op a b = (0, 0)) ∨
  (∃ t f v, ar op = (t, f, 1, true) ∧ ev op a b = (v, 0)) ∨
  (∃ t f o T, ar op = (t, f, o, true) ∧ ev op a b = (0, T) ∧ T ≠ 0) ∨
  (∃ t f v, ar op = (t, f, 0, true) ∧ ev op a b = (v, 0) ∧ 0 ≤ v ∧ v < 4294967296)

theorem b1_low (x : Bool) : 0 ≤ b1 x ∧ b1 x < 4294967296 := by cases x <;> decide
theorem low_low (x : Int) (h : Wd false x) : 0 ≤ x ∧ x < 4294967296 := by simpa only [Wd, Bool.false_eq_true, if_false] using h

theorem kind_any (op a b : Int) (ha : I64 a) : Kind op a b := by
  by_cases h1 : 69 ≤ op ∧ op ≤ 79
  · have e : ev op a b = (b1 (cm op false (tr false a) (tr false b)), 0) := by simp only [ev]; rw [if_pos h1]
    right; right; right
    by_cases h : op = 69
    · exact ⟨1, 0, _, by simp only [ar]; rw [if_pos h], e, b1_low _⟩
    · exact ⟨2, 0, _, by simp only [ar]; rw [if_neg h, if_neg (by omega), if_neg (by omega), if_pos (by omega)], e, b1_low _⟩
  by_cases h2 : 80 ≤ op ∧ op ≤ 90
  · have e : ev op a b = (b1 (cm (op - 11) true (tr true a) (tr true b)), 0) := by simp only [ev]; rw [if_neg h1, if_pos h2]
    right; right; right
    by_cases h : op = 80
    · exact ⟨1, 1, _, by simp only [ar]; rw [if_neg (by omega), if_pos (Or.inl h)], e, b1_low _⟩
    · exact ⟨2, 1, _, by simp only [ar]; rw [if_neg (by omega), if_neg (by omega), if_neg (by omega), if_neg (by omega), if_pos (by omega)], e, b1_low _⟩
  by_cases h3 : 106 ≤ op ∧ op ≤ 120
  · have e : ev op a b = su op false a b := by simp only [ev]; rw [if_neg h1, if_neg h2, if_pos h3]
    have r : ar op = (2, 0, 0, true) := by simp only [ar]; rw [if_neg (by omega), if_neg (by omega), if_neg (by omega), if_pos (by omega)]
    rcases su_trap op false a b with h | ⟨h, h'⟩
    · right; right; right
      exact ⟨2, 0, (su op false a b).1, r, by rw [e, ← h], low_low _ (su_wd op false a b ha)⟩
    · right; right; left
      exact ⟨2, 0, 0, (su op false a b).2, r, by rw [e, ← h'], h⟩
  by_cases h4 : 124 ≤ op ∧ op ≤ 138
  · have e : ev op a b = su (op - 18) true a b := by simp only [ev]; rw [if_neg h1, if_neg h2, if_neg h3, if_pos h4]
    have r : ar op = (2, 1, 1, true) := by simp only [ar]; rw [if_neg (by omega), if_neg (by omega), if_neg (by omega), if_neg (by omega), if_neg (by omega), if_pos h4]
    rcases su_trap (op - 18) true a b with h | ⟨h, h'⟩
    · right; left
      exact ⟨2, 1, (su (op - 18) true a b).1, r, by rw [e, ← h]⟩
    · right; right; left
      exact ⟨2, 1, 1, (su (op - 18) true a b).2, r, by rw [e, ← h'], h⟩
  by_cases h5 : op = 172
  · subst h5; right; left; exact ⟨1, 0, _, rfl, rfl⟩
  by_cases h6 : op = 167
  · subst h6; right; right; right; exact ⟨1, 1, _, rfl, rfl, low_low _ (tr_wd false a ha)⟩
  by_cases h7 : op = 173
  · subst h7; right; left; exact ⟨1, 0, _, rfl, rfl⟩
  · left
    refine ⟨?_, ?_⟩
    · simp only [ar]; rw [if_neg (by omega), if_neg (by omega), if_neg (by omega), if_neg (by omega), if_neg (by omega), if_neg h4]
    · simp only [ev]; rw [if_neg h1, if_neg h2, if_neg h3, if_neg h4, if_neg h5, if_neg (by omega)]

theorem wrap_of (x y z : Int) (h : tr false x = z) : ev 167 x y = (z, 0) := by rw [← h]; rfl

set_option maxRecDepth 100000 in
set_option maxHeartbeats 2000000 in
theorem widths_none (op a b : Int) (w : World) (ha : I64 a) (hb : I64 b) (hA : ar op = (0, 0, 0, false)) (hE : ev op a b = (0, 0)) :
    Calls Try.prog 8 #[.int .i64 op, .int .i64 a, .int .i64 b] w fun e w' => e = .returned (.bool true) ∧ w' = w := by
  have ha' := hide ha
  have hb' := hide hb
  have hA' := hide hA
  have hE' := hide hE
  have hi := hide (sg_i64 (tr_wd false a ha))
  have hl := hide (low_sg a)
  obtain ⟨hs1, hs2⟩ := sg_low a
  clear ha hb hA hE
  go_enter Try.func8, Try.ntmps8
  go_wp2_with fail
  refine (examples_any _).mono ?_
  rintro e w1 ⟨rfl, rfl⟩
  go_wp2_with fail
  refine (e_any op a b _ _ _ ha'.out hb'.out hE'.out).mono ?_
  rintro e w1 ⟨rfl, rfl⟩
  go_wp2_with fail
  refine (a_any op _ _ _ _ _ hA'.out).mono ?_
  rintro e w1 ⟨rfl, rfl⟩
  go_wp2_with fail
  refine (trim_any _ _ _).mono ?_
  rintro e w1 ⟨rfl, rfl⟩
  go_wp2_with fail
  refine (e_any 172 a 0 _ _ _ ha'.out ⟨by decide, by decide⟩ rfl).mono ?_
  rintro e w1 ⟨rfl, rfl⟩
  go_wp2_with fail
  refine (e_any 173 a 0 (tr false a) 0 _ ha'.out ⟨by decide, by decide⟩ rfl).mono ?_
  rintro e w1 ⟨rfl, rfl⟩
  go_wp2_with fail
  refine (e_any 167 _ 0 (tr false a) 0 _ hi.out ⟨by decide, by decide⟩ (wrap_of _ _ _ hl.out)).mono ?_
  rintro e w1 ⟨rfl, rfl⟩
  go_wp2_with fail
  refine (e_any 167 a 7 (tr false a) 0 _ ha'.out ⟨by decide, by decide⟩ rfl).mono ?_
  rintro e w1 ⟨rfl, rfl⟩
  go_wp2_with fail
  go_ret
  exact ⟨rfl, rfl⟩

set_option maxRecDepth 100000 in
set_option maxHeartbeats 2000000 in
theorem widths_long (op a b t f v : Int) (w : World) (ha : I64 a) (hb : I64 b) (hA : ar op = (t, f, 1, true)) (hE : ev op a b = (v, 0)) :
    Calls Try.prog 8 #[.int .i64 op, .int .i64 a, .int .i64 b] w fun e w' => e = .returned (.bool true) ∧ w' = w := by
  have ha' := hide ha
  have hb' := hide hb
  have hA' := hide hA
  have hE' := hide hE
  have hi := hide (sg_i64 (tr_wd false a ha))
  have hl := hide (low_sg a)
  obtain ⟨hs1, hs2⟩ := sg_low a
  clear ha hb hA hE
  go_enter Try.func8, Try.ntmps8
  go_wp2_with fail
  refine (examples_any _).mono ?_
  rintro e w1 ⟨rfl, rfl⟩
  go_wp2_with fail
  refine (e_any op a b _ _ _ ha'.out hb'.out hE'.out).mono ?_
  rintro e w1 ⟨rfl, rfl⟩
  go_wp2_with fail
  refine (a_any op _ _ _ _ _ hA'.out).mono ?_
  rintro e w1 ⟨rfl, rfl⟩
  go_wp2_with fail
  refine (trim_any _ _ _).mono ?_
  rintro e w1 ⟨rfl, rfl⟩
  go_wp2_with fail
  refine (e_any 172 a 0 _ _ _ ha'.out ⟨by decide, by decide⟩ rfl).mono ?_
  rintro e w1 ⟨rfl, rfl⟩
  go_wp2_with fail
  refine (e_any 173 a 0 (tr false a) 0 _ ha'.out ⟨by decide, by decide⟩ rfl).mono ?_
  rintro e w1 ⟨rfl, rfl⟩
  go_wp2_with fail
  refine (e_any 167 _ 0 (tr false a) 0 _ hi.out ⟨by decide, by decide⟩ (wrap_of _ _ _ hl.out)).mono ?_
  rintro e w1 ⟨rfl, rfl⟩
  go_wp2_with fail
  refine (e_any 167 a 7 (tr false a) 0 _ ha'.out ⟨by decide, by decide⟩ rfl).mono ?_
  rintro e w1 ⟨rfl, rfl⟩
  go_wp2_with fail
  go_ret
  exact ⟨rfl, rfl⟩

set_option maxRecDepth 100000 in
set_option maxHeartbeats 2000000 in
theorem widths_trap (op a b t f o T : Int) (w : World) (ha : I64 a) (hb : I64 b) (hA : ar op = (t, f, o, true)) (hE : ev op a b = (0, T)) (hT : T ≠ 0) :
    Calls Try.prog 8 #[.int .i64 op, .int .i64 a, .int .i64 b] w fun e w' => e = .returned (.bool true) ∧ w' = w := by
  have ha' := hide ha
  have hb' := hide hb
  have hA' := hide hA
  have hE' := hide hE
  have hi := hide (sg_i64 (tr_wd false a ha))
  have hl := hide (low_sg a)
  obtain ⟨hs1, hs2⟩ := sg_low a
  have hT' : (T == 0) = false := by simpa using hT
  clear hT
  clear ha hb hA hE
  go_enter Try.func8, Try.ntmps8
  go_wp2_with fail
  refine (examples_any _).mono ?_
  rintro e w1 ⟨rfl, rfl⟩
  go_wp2_with fail
  refine (e_any op a b _ _ _ ha'.out hb'.out hE'.out).mono ?_
  rintro e w1 ⟨rfl, rfl⟩
  go_wp2_with fail
  refine (a_any op _ _ _ _ _ hA'.out).mono ?_
  rintro e w1 ⟨rfl, rfl⟩
  go_wp2_with fail
  refine (trim_any _ _ _).mono ?_
  rintro e w1 ⟨rfl, rfl⟩
  go_wp2_with fail
  refine (e_any 172 a 0 _ _ _ ha'.out ⟨by decide, by decide⟩ rfl).mono ?_
  rintro e w1 ⟨rfl, rfl⟩
  go_wp2_with fail
  refine (e_any 173 a 0 (tr false a) 0 _ ha'.out ⟨by decide, by decide⟩ rfl).mono ?_
  rintro e w1 ⟨rfl, rfl⟩
  go_wp2_with fail
  refine (e_any 167 _ 0 (tr false a) 0 _ hi.out ⟨by decide, by decide⟩ (wrap_of _ _ _ hl.out)).mono ?_
  rintro e w1 ⟨rfl, rfl⟩
  go_wp2_with fail
  refine (e_any 167 a 7 (tr false a) 0 _ ha'.out ⟨by decide, by decide⟩ rfl).mono ?_
  rintro e w1 ⟨rfl, rfl⟩
  go_wp2_with fail
  all_goals
    go_ret
    exact ⟨rfl, rfl⟩

set_option maxRecDepth 100000 in
set_option maxHeartbeats 2000000 in
theorem widths_short (op a b t f v : Int) (w : World) (ha : I64 a) (hb : I64 b) (hA : ar op = (t, f, 0, true)) (hE : ev op a b = (v, 0)) (hv : 0 ≤ v ∧ v < 4294967296) :
    Calls Try.prog 8 #[.int .i64 op, .int .i64 a, .int .i64 b] w fun e w' => e = .returned (.bool true) ∧ w' = w := by
  have ha' := hide ha
  have hb' := hide hb
  have hA' := hide hA
  have hE' := hide hE
  have hi := hide (sg_i64 (tr_wd false a ha))
  have hl := hide (low_sg a)
  obtain ⟨hs1, hs2⟩ := sg_low a
  obtain ⟨hv1, hv2⟩ := hv
  clear ha hb hA hE
  go_enter Try.func8, Try.ntmps8
  go_wp2_with fail
  refine (examples_any _).mono ?_
  rintro e w1 ⟨rfl, rfl⟩
  go_wp2_with fail
  refine (e_any op a b _ _ _ ha'.out hb'.out hE'.out).mono ?_
  rintro e w1 ⟨rfl, rfl⟩
  go_wp2_with fail
  refine (a_any op _ _ _ _ _ hA'.out).mono ?_
  rintro e w1 ⟨rfl, rfl⟩
  go_wp2_with fail
  refine (trim_any _ _ _).mono ?_
  rintro e w1 ⟨rfl, rfl⟩
  go_wp2_with fail
  refine (e_any 172 a 0 _ _ _ ha'.out ⟨by decide, by decide⟩ rfl).mono ?_
  rintro e w1 ⟨rfl, rfl⟩
  go_wp2_with fail
  refine (e_any 173 a 0 (tr false a) 0 _ ha'.out ⟨by decide, by decide⟩ rfl).mono ?_
  rintro e w1 ⟨rfl, rfl⟩
  go_wp2_with fail
  refine (e_any 167 _ 0 (tr false a) 0 _ hi.out ⟨by decide, by decide⟩ (wrap_of _ _ _ hl.out)).mono ?_
  rintro e w1 ⟨rfl, rfl⟩
  go_wp2_with fail
  refine (e_any 167 a 7 (tr false a) 0 _ ha'.out ⟨by decide, by decide⟩ rfl).mono ?_
  rintro e w1 ⟨rfl, rfl⟩
  go_wp2_with fail
  go_ret
  exact ⟨rfl, rfl⟩

theorem widths_any (op a b : Int) (w : World) (_ho : I64 op) (ha : I64 a) (hb : I64 b) :
    Calls Try.prog 8 #[.int .i64 op, .int .i64 a, .int .i64 b] w fun e w' => e = .returned (.bool true) ∧ w' = w := by
  rcases kind_any op a b ha with ⟨hA, hE⟩ | ⟨t, f, v, hA, hE⟩ | ⟨t, f, o, T, hA, hE, hT⟩ | ⟨t, f, v, hA, hE, hv⟩
  · exact widths_none op a b w ha hb hA hE
  · exact widths_long op a b t f v w ha hb hA hE
  · exact widths_trap op a b t f o T w ha hb hA hE hT
  · exact widths_short op a b t f v w ha hb hA hE hv
end Go.Proofs.Ytfcdpjihhopfhaa
