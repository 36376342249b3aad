/-
  The program's functions divide and shift answer what the plain functions of the text Math answer, and change nothing.
-/
import Derived.Test.YtfcdpjihhopfhaaMid
namespace Go.Proofs.Ytfcdpjihhopfhaa
open Go.RowKit

theorem ret_two {j k : IntKind} {a b c d : Int} (h : a = b) (h' : c = d) :
    Ending.returned (.tuple #[.int j a, .int k c]) = .returned (.tuple #[.int j b, .int k d]) := by rw [h, h']

theorem un_nz (b : Int) (h : I64 b) (h0 : b ≠ 0) : ¬ (IntKind.u64.wrap b = 0) := by
  obtain ⟨h1, h2⟩ := h
  rw [un_wrap]; simp only [un]; omega
theorem un_pos (b : Int) (h : I64 b) (h0 : b ≠ 0) : 0 < un b := by
  obtain ⟨h1, h2⟩ := h
  simp only [un]; omega
theorem un_ge (b : Int) : 0 ≤ un b := by simp only [un]; omega
theorem un_lt (b : Int) : un b < 18446744073709551616 := by simp only [un]; omega
theorem sg_nz (wide : Bool) (b : Int) (h : Wd wide b) (h0 : b ≠ 0) : ¬ (sg wide b = 0) := by
  cases wide
  · simp only [Wd, sg, Bool.false_eq_true, if_false] at h ⊢; split <;> omega
  · simpa only [sg, if_true] using h0
theorem un_id {x : Int} (h : 0 ≤ x) (h' : x < 18446744073709551616) : un x = x := by simp only [un]; omega
theorem divU_eq (a b : Int) (hb : I64 b) (h0 : b ≠ 0) :
    wrap64 (IntKind.u64.wrap ((IntKind.u64.wrap a).tdiv (IntKind.u64.wrap b))) = wrap64 (un a / un b) := by
  simp only [un_wrap]
  have h1 := un_ge a
  have h2 := un_lt a
  have h3 := un_pos b hb h0
  rw [Int.tdiv_eq_ediv_of_nonneg h1]
  rw [un_id (Int.ediv_nonneg h1 (by omega)) (Int.lt_of_le_of_lt (Int.ediv_le_self _ h1) h2)]
theorem remU_eq (a b : Int) :
    wrap64 ((IntKind.u64.wrap a).tmod (IntKind.u64.wrap b)) = wrap64 (un a % un b) := by
  simp only [un_wrap]
  rw [Int.tmod_eq_emod_of_nonneg (un_ge a)]

theorem divide_zero (k : Int) (wide : Bool) (a : Int) (w : World) :
    Calls Try.prog 21 #[.int .i64 k, .bool wide, .int .i64 a, .int .i64 0] w fun e w' => e = .returned (.tuple #[.int .i64 0, .int .i64 2]) ∧ w' = w := by
  go_enter Try.func21, Try.ntmps21
  go_wp2_with fail
  go_ret2
  exact ⟨rfl, rfl⟩
theorem divide_divU (wide : Bool) (a b : Int) (w : World) (ha : Wd wide a) (hb : Wd wide b) (hz : b ≠ 0) :
    Calls Try.prog 21 #[.int .i64 110, .bool wide, .int .i64 a, .int .i64 b] w fun e w' => e = .returned (.tuple #[.int .i64 (wrap64 (un a / un b)), .int .i64 0]) ∧ w' = w := by
  have ha' := hide ha
  have hb' := hide hb
  have hz' := hide hz
  have h0 : (b == 0) = false := by simpa using hz
  have hu := un_nz b (wd_i64 hb) hz
  clear ha hb hz
  go_enter Try.func21, Try.ntmps21
  go_wp2_with fail
  refine (signed_any _ _ _ ha'.out).mono ?_
  rintro e w1 ⟨rfl, rfl⟩
  go_wp2_with fail
  refine (signed_any _ _ _ hb'.out).mono ?_
  rintro e w1 ⟨rfl, rfl⟩
  go_wp2_with fail
  go_ret2
  exact ⟨ret_two (divU_eq a b (wd_i64 hb'.out) hz'.out) rfl, rfl⟩
theorem divide_remU (wide : Bool) (a b : Int) (w : World) (ha : Wd wide a) (hb : Wd wide b) (hz : b ≠ 0) :
    Calls Try.prog 21 #[.int .i64 112, .bool wide, .int .i64 a, .int .i64 b] w fun e w' => e = .returned (.tuple #[.int .i64 (wrap64 (un a % un b)), .int .i64 0]) ∧ w' = w := by
  have ha' := hide ha
  have hb' := hide hb
  have hz' := hide hz
  have h0 : (b == 0) = false := by simpa using hz
  have hu := un_nz b (wd_i64 hb) hz
  clear ha hb hz
  go_enter Try.func21, Try.ntmps21
  go_wp2_with fail
  refine (signed_any _ _ _ ha'.out).mono ?_
  rintro e w1 ⟨rfl, rfl⟩
  go_wp2_with fail
  refine (signed_any _ _ _ hb'.out).mono ?_
  rintro e w1 ⟨rfl, rfl⟩
  go_wp2_with fail
  go_ret2
  exact ⟨ret_two (remU_eq a b) rfl, rfl⟩
theorem divide_remS (wide : Bool) (a b : Int) (w : World) (ha : Wd wide a) (hb : Wd wide b) (hz : b ≠ 0) :
    Calls Try.prog 21 #[.int .i64 111, .bool wide, .int .i64 a, .int .i64 b] w fun e w' => e = .returned (.tuple #[.int .i64 ((sg wide a).tmod (sg wide b)), .int .i64 0]) ∧ w' = w := by
  have ha' := hide ha
  have hb' := hide hb
  have hz' := hide hz
  have h0 : (b == 0) = false := by simpa using hz
  have hu := sg_nz wide b hb hz
  clear ha hb hz
  go_enter Try.func21, Try.ntmps21
  go_wp2_with fail
  refine (signed_any _ _ _ ha'.out).mono ?_
  rintro e w1 ⟨rfl, rfl⟩
  go_wp2_with fail
  refine (signed_any _ _ _ hb'.out).mono ?_
  rintro e w1 ⟨rfl, rfl⟩
  go_wp2_with fail
  go_ret2
  exact ⟨rfl, rfl⟩
theorem divide_over (wide : Bool) (a b : Int) (w : World) (ha : Wd wide a) (hb : Wd wide b) (hz : b ≠ 0) (h1 : sg wide a = ls wide) (h2 : sg wide b = -1) :
    Calls Try.prog 21 #[.int .i64 109, .bool wide, .int .i64 a, .int .i64 b] w fun e w' => e = .returned (.tuple #[.int .i64 0, .int .i64 3]) ∧ w' = w := by
  have ha' := hide ha
  have hb' := hide hb
  have hz' := hide hz
  have h0 : (b == 0) = false := by simpa using hz
  have e1 : (sg wide a == ls wide) = true := by simpa using h1
  have e2 : (sg wide b == -1) = true := by simpa using h2
  clear ha hb hz h1 h2
  go_enter Try.func21, Try.ntmps21
  go_wp2_with fail
  refine (signed_any _ _ _ ha'.out).mono ?_
  rintro e w1 ⟨rfl, rfl⟩
  go_wp2_with fail
  refine (signed_any _ _ _ hb'.out).mono ?_
  rintro e w1 ⟨rfl, rfl⟩
  go_wp2_with fail
  refine (least_any _ _).mono ?_
  rintro e w1 ⟨rfl, rfl⟩
  go_wp2_with fail
  go_ret2
  exact ⟨rfl, rfl⟩
theorem tdiv_i64 (x y : Int) (hx : I64 x) (hn : ¬ (x = -9223372036854775808 ∧ y = -1)) : wrap64 (x.tdiv y) = x.tdiv y := by
  obtain ⟨h1, h2⟩ := hx
  have h3 : (x.tdiv y).natAbs ≤ x.natAbs := by rw [Int.natAbs_tdiv]; exact Nat.div_le_self _ _
  by_cases hm : x = -9223372036854775808
  · by_cases hy : y = 1
    · subst hy; subst hm; decide +kernel
    · have h4 : (x.tdiv y).natAbs ≤ 4611686018427387904 := by
        rw [Int.natAbs_tdiv, hm]
        have : y.natAbs = 0 ∨ 2 ≤ y.natAbs := by omega
        rcases this with h | h
        · rw [h]; decide
        · exact Nat.le_trans (Nat.div_le_div_left h (by decide)) (by decide)
      generalize x.tdiv y = q at h4 ⊢
      simp only [wrap64]; omega
  · have h5 : x.natAbs ≤ 9223372036854775807 := by omega
    generalize x.tdiv y = q at h3 ⊢
    simp only [wrap64]; omega
theorem least_i64 (wide : Bool) (a b : Int) (ha : Wd wide a) (hn : ¬ (sg wide a = ls wide ∧ sg wide b = -1)) : ¬ (sg wide a = -9223372036854775808 ∧ sg wide b = -1) := by
  cases wide
  · simp only [Wd, sg, Bool.false_eq_true, if_false] at ha ⊢; split <;> omega
  · simpa only [ls, if_true] using hn
theorem divide_divS1 (wide : Bool) (a b : Int) (w : World) (ha : Wd wide a) (hb : Wd wide b) (hz : b ≠ 0) (hn : ¬ (sg wide a = ls wide)) :
    Calls Try.prog 21 #[.int .i64 109, .bool wide, .int .i64 a, .int .i64 b] w fun e w' => e = .returned (.tuple #[.int .i64 ((sg wide a).tdiv (sg wide b)), .int .i64 0]) ∧ w' = w := by
  have ha' := hide ha
  have hb' := hide hb
  have hz' := hide hz
  have h0 : (b == 0) = false := by simpa using hz
  have hq := hide (tdiv_i64 (sg wide a) (sg wide b) (sg_i64 ha) (least_i64 wide a b ha (fun h => hn h.1)))
  have e1 : (sg wide a == ls wide) = false := by simpa using hn
  have hu := sg_nz wide b hb hz
  clear ha hb hz hn
  go_enter Try.func21, Try.ntmps21
  go_wp2_with fail
  refine (signed_any _ _ _ ha'.out).mono ?_
  rintro e w1 ⟨rfl, rfl⟩
  go_wp2_with fail
  refine (signed_any _ _ _ hb'.out).mono ?_
  rintro e w1 ⟨rfl, rfl⟩
  go_wp2_with fail
  refine (least_any _ _).mono ?_
  rintro e w1 ⟨rfl, rfl⟩
  go_wp2_with fail
  go_ret2
  exact ⟨ret_two hq.out rfl, rfl⟩
theorem divide_divS2 (wide : Bool) (a b : Int) (w : World) (ha : Wd wide a) (hb : Wd wide b) (hz : b ≠ 0) (hp : sg wide a = ls wide) (hn : ¬ (sg wide b = -1)) :
    Calls Try.prog 21 #[.int .i64 109, .bool wide, .int .i64 a, .int .i64 b] w fun e w' => e = .returned (.tuple #[.int .i64 ((sg wide a).tdiv (sg wide b)), .int .i64 0]) ∧ w' = w := by
  have ha' := hide ha
  have hb' := hide hb
  have hz' := hide hz
  have h0 : (b == 0) = false := by simpa using hz
  have hq := hide (tdiv_i64 (sg wide a) (sg wide b) (sg_i64 ha) (least_i64 wide a b ha (fun h => hn h.2)))
  have e1 : (sg wide a == ls wide) = true := by simpa using hp
  have e2 : (sg wide b == -1) = false := by simpa using hn
  have hu := sg_nz wide b hb hz
  clear ha hb hz hn hp
  go_enter Try.func21, Try.ntmps21
  go_wp2_with fail
  refine (signed_any _ _ _ ha'.out).mono ?_
  rintro e w1 ⟨rfl, rfl⟩
  go_wp2_with fail
  refine (signed_any _ _ _ hb'.out).mono ?_
  rintro e w1 ⟨rfl, rfl⟩
  go_wp2_with fail
  refine (least_any _ _).mono ?_
  rintro e w1 ⟨rfl, rfl⟩
  go_wp2_with fail
  go_ret2
  exact ⟨ret_two hq.out rfl, rfl⟩
theorem divide_any (k : Int) (wide : Bool) (a b : Int) (w : World) (hk : 109 ≤ k ∧ k ≤ 112) (ha : Wd wide a) (hb : Wd wide b) :
    Calls Try.prog 21 #[.int .i64 k, .bool wide, .int .i64 a, .int .i64 b] w fun e w' => e = .returned (.tuple #[.int .i64 (dv k wide a b).1, .int .i64 (dv k wide a b).2]) ∧ w' = w := by
  by_cases hz : b = 0
  · subst hz
    have e : dv k wide a 0 = (0, 2) := by simp only [dv, if_true]
    rw [e]; exact divide_zero k wide a w
  · have h : k = 109 ∨ k = 110 ∨ k = 111 ∨ k = 112 := by omega
    rcases h with rfl | rfl | rfl | rfl
    · by_cases h1 : sg wide a = ls wide
      · by_cases h2 : sg wide b = -1
        · have e : dv 109 wide a b = (0, 3) := by simp [dv, hz, h1, h2]
          rw [e]; exact divide_over wide a b w ha hb hz h1 h2
        · have e : dv 109 wide a b = ((sg wide a).tdiv (sg wide b), 0) := by simp [dv, hz, h1, h2]
          rw [e]; exact divide_divS2 wide a b w ha hb hz h1 h2
      · have e : dv 109 wide a b = ((sg wide a).tdiv (sg wide b), 0) := by simp [dv, hz, h1]
        rw [e]; exact divide_divS1 wide a b w ha hb hz h1
    · have e : dv 110 wide a b = (wrap64 (un a / un b), 0) := by simp [dv, hz]
      rw [e]; exact divide_divU wide a b w ha hb hz
    · have e : dv 111 wide a b = ((sg wide a).tmod (sg wide b), 0) := by simp [dv, hz]
      rw [e]; exact divide_remS wide a b w ha hb hz
    · have e : dv 112 wide a b = (wrap64 (un a % un b), 0) := by simp [dv, hz]
      rw [e]; exact divide_remU wide a b w ha hb hz
end Go.Proofs.Ytfcdpjihhopfhaa
