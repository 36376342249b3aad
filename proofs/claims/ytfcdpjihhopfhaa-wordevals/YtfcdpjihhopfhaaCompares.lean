/-
  The statement WordCompares, walked: of two values just one is less, or they are the same, with and without signs; what is not less is greater or the same: for any inputs it returns true; nothing is changed.
-/
import Derived.Test.YtfcdpjihhopfhaaMathB
namespace Go.Proofs.Ytfcdpjihhopfhaa
open Go.RowKit

theorem v_cmp (k : Int) (wide : Bool) (a b : Int) (r : Bool) (z : Int) (w : World) (hk : 69 ≤ k ∧ k ≤ 79) (ha : I64 a) (hb : I64 b)
    (hr : cm k wide (tr wide a) (tr wide b) = r) (hz : b1 r = z) :
    Calls Try.prog 16 #[.int .i64 k, .bool wide, .int .i64 a, .int .i64 b] w fun e w' => e = .returned (.int .i64 z) ∧ w' = w := by
  have h := value_any k wide a b w (Or.inl hk) ha hb
  rw [show (ee k wide a b).1 = z by simp only [ee]; rw [if_neg (by omega), hr, hz]] at h
  exact h

theorem sg_inj (wide : Bool) (x y : Int) (hx : Wd wide x) (hy : Wd wide y) (h : sg wide x = sg wide y) : x = y := by
  cases wide
  · simp only [Wd, sg, Bool.false_eq_true, if_false] at hx hy h; split at h <;> split at h <;> omega
  · simpa only [sg, if_true] using h

/-- what a round of the statement finds: one is less (l), or greater (g), or they are the same -/
def Rnd (k : Int) (wide : Bool) (x y : Int) (l g : Bool) : Prop :=
  cm (72 + k) wide x y = l ∧ cm (74 + k) wide x y = g ∧ cm (76 + k) wide x y = !g ∧ cm (78 + k) wide x y = !l ∧ cm (72 + k) wide y x = g

theorem rnd0 (wide : Bool) (x y : Int) : Rnd 0 wide x y (decide (sg wide x < sg wide y)) (decide (sg wide y < sg wide x)) := by
  refine ⟨rfl, rfl, ?_, ?_, rfl⟩
  · show decide (sg wide x ≤ sg wide y) = _; rw [← decide_not, decide_eq_decide]; omega
  · show decide (sg wide y ≤ sg wide x) = _; rw [← decide_not, decide_eq_decide]; omega
theorem rnd1 (wide : Bool) (x y : Int) : Rnd 1 wide x y (decide (un x < un y)) (decide (un y < un x)) := by
  refine ⟨rfl, rfl, ?_, ?_, rfl⟩
  · show decide (un x ≤ un y) = _; rw [← decide_not, decide_eq_decide]; omega
  · show decide (un y ≤ un x) = _; rw [← decide_not, decide_eq_decide]; omega
theorem rnd_same (k : Int) (hk : k = 0 ∨ k = 1) (wide : Bool) (x y : Int) (h : x = y) : Rnd k wide x y false false := by
  subst h
  rcases hk with rfl | rfl
  · have := rnd0 wide x x; simpa using this
  · have := rnd1 wide x x; simpa using this
theorem rnd_else (k : Int) (hk : k = 0 ∨ k = 1) (wide : Bool) (x y : Int) (hx : Wd wide x) (hy : Wd wide y) (h : x ≠ y) :
    Rnd k wide x y true false ∨ Rnd k wide x y false true := by
  rcases hk with rfl | rfl
  · have hn : sg wide x ≠ sg wide y := fun e => h (sg_inj wide x y hx hy e)
    have hr := rnd0 wide x y
    by_cases hl : sg wide x < sg wide y
    · left; rwa [decide_eq_true hl, decide_eq_false (by omega)] at hr
    · right; rwa [decide_eq_false hl, decide_eq_true (by omega)] at hr
  · have hn : un x ≠ un y := fun e => h ((un_eq x y (wd_i64 hx) (wd_i64 hy)).mp e)
    have hr := rnd1 wide x y
    by_cases hl : un x < un y
    · left; rwa [decide_eq_true hl, decide_eq_false (by omega)] at hr
    · right; rwa [decide_eq_false hl, decide_eq_true (by omega)] at hr
theorem eqz (wide : Bool) (a : Int) : cm 70 wide (tr wide a) (tr wide 0) = decide (tr wide a = 0) := by
  have e : tr wide 0 = 0 := by cases wide <;> decide
  rw [e]; rfl

set_option maxRecDepth 100000 in
set_option maxHeartbeats 2000000 in
theorem compares_same (wide : Bool) (a b : Int) (w : World) (ha : I64 a) (hb : I64 b) (hs : tr wide a = tr wide b) :
    Calls Try.prog 6 #[.bool wide, .int .i64 a, .int .i64 b] w fun e w' => e = .returned (.bool true) ∧ w' = w := by
  have ha' := hide ha
  have hb' := hide hb
  have hs' := hide hs
  have hd : (tr wide a == tr wide b) = true := by simpa using hs
  clear ha hb hs
  go_enter Try.func6, Try.ntmps6
  go_wp2_with fail
  refine (examples_any _).mono ?_
  rintro e w1 ⟨rfl, rfl⟩
  go_wp2_with fail
  refine (v_cmp 70 wide a b true 1 _ (by omega) ha'.out hb'.out (decide_eq_true hs'.out) rfl).mono ?_
  rintro e w1 ⟨rfl, rfl⟩
  go_wp2_with fail
  go_loop [9] (fun i => ∃ k : Nat, k ≤ 2 ∧ i = .int .i64 k) (fun i => 2 - (intOf i).toNat)
  case atStart => exact ⟨0, by omega, rfl⟩
  case round =>
    obtain ⟨k, hk, rfl⟩ := hrel
    have h3 : k = 0 ∨ k = 1 ∨ k = 2 := by omega
    clear hk
    rcases h3 with rfl | rfl | rfl
    · have hr := hide (rnd_same 0 (by omega) wide _ _ hs'.out)
      clear hd
      · go_wp2_with fail
        refine (v_cmp 72 wide a b _ 0 _ (by omega) ha'.out hb'.out hr.out.1 rfl).mono ?_
        rintro e w1 ⟨rfl, rfl⟩
        go_wp2_with fail
        refine (v_cmp 74 wide a b _ 0 _ (by omega) ha'.out hb'.out hr.out.2.1 rfl).mono ?_
        rintro e w1 ⟨rfl, rfl⟩
        go_wp2_with fail
        refine (v_cmp 76 wide a b _ 1 _ (by omega) ha'.out hb'.out hr.out.2.2.1 rfl).mono ?_
        rintro e w1 ⟨rfl, rfl⟩
        go_wp2_with fail
        refine (v_cmp 78 wide a b _ 1 _ (by omega) ha'.out hb'.out hr.out.2.2.2.1 rfl).mono ?_
        rintro e w1 ⟨rfl, rfl⟩
        go_wp2_with fail
        refine (v_cmp 72 wide b a _ 0 _ (by omega) hb'.out ha'.out hr.out.2.2.2.2 rfl).mono ?_
        rintro e w1 ⟨rfl, rfl⟩
        go_wp2_with fail
        go_round
        case rel => exact ⟨1, by omega, rfl⟩
        case measure => decide
    · have hr := hide (rnd_same 1 (by omega) wide _ _ hs'.out)
      clear hd
      · go_wp2_with fail
        refine (v_cmp 73 wide a b _ 0 _ (by omega) ha'.out hb'.out hr.out.1 rfl).mono ?_
        rintro e w1 ⟨rfl, rfl⟩
        go_wp2_with fail
        refine (v_cmp 75 wide a b _ 0 _ (by omega) ha'.out hb'.out hr.out.2.1 rfl).mono ?_
        rintro e w1 ⟨rfl, rfl⟩
        go_wp2_with fail
        refine (v_cmp 77 wide a b _ 1 _ (by omega) ha'.out hb'.out hr.out.2.2.1 rfl).mono ?_
        rintro e w1 ⟨rfl, rfl⟩
        go_wp2_with fail
        refine (v_cmp 79 wide a b _ 1 _ (by omega) ha'.out hb'.out hr.out.2.2.2.1 rfl).mono ?_
        rintro e w1 ⟨rfl, rfl⟩
        go_wp2_with fail
        refine (v_cmp 73 wide b a _ 0 _ (by omega) hb'.out ha'.out hr.out.2.2.2.2 rfl).mono ?_
        rintro e w1 ⟨rfl, rfl⟩
        go_wp2_with fail
        go_round
        case rel => exact ⟨2, by omega, rfl⟩
        case measure => decide
    · go_wp2_with fail
      refine (v_cmp 71 wide a b false 0 _ (by omega) ha'.out hb'.out (decide_eq_false (fun h => h hs'.out)) rfl).mono ?_
      rintro e w1 ⟨rfl, rfl⟩
      go_wp2_with fail
      refine (trim_any _ _ _).mono ?_
      rintro e w1 ⟨rfl, rfl⟩
      go_wp2_with fail
      refine (trim_any _ _ _).mono ?_
      rintro e w1 ⟨rfl, rfl⟩
      go_wp2_with fail
      refine (v_cmp 69 wide a b _ (b1 (decide (tr wide a = 0))) _ (by omega) ha'.out hb'.out rfl rfl).mono ?_
      rintro e w1 ⟨rfl, rfl⟩
      go_wp2_with fail
      refine (v_cmp 70 wide a 0 _ (b1 (decide (tr wide a = 0))) _ (by omega) ha'.out ⟨by decide, by decide⟩ (eqz wide a) rfl).mono ?_
      rintro e w1 ⟨rfl, rfl⟩
      go_wp2_with fail
      go_ret
      exact ⟨rfl, rfl⟩

set_option maxRecDepth 100000 in
set_option maxHeartbeats 2000000 in
theorem compares_else (wide : Bool) (a b : Int) (w : World) (ha : I64 a) (hb : I64 b) (hs : tr wide a ≠ tr wide b) :
    Calls Try.prog 6 #[.bool wide, .int .i64 a, .int .i64 b] w fun e w' => e = .returned (.bool true) ∧ w' = w := by
  have ha' := hide ha
  have hb' := hide hb
  have hs' := hide hs
  have hd : (tr wide a == tr wide b) = false := by simpa using hs
  clear ha hb hs
  go_enter Try.func6, Try.ntmps6
  go_wp2_with fail
  refine (examples_any _).mono ?_
  rintro e w1 ⟨rfl, rfl⟩
  go_wp2_with fail
  refine (v_cmp 70 wide a b false 0 _ (by omega) ha'.out hb'.out (decide_eq_false hs'.out) rfl).mono ?_
  rintro e w1 ⟨rfl, rfl⟩
  go_wp2_with fail
  go_loop [9] (fun i => ∃ k : Nat, k ≤ 2 ∧ i = .int .i64 k) (fun i => 2 - (intOf i).toNat)
  case atStart => exact ⟨0, by omega, rfl⟩
  case round =>
    obtain ⟨k, hk, rfl⟩ := hrel
    have h3 : k = 0 ∨ k = 1 ∨ k = 2 := by omega
    clear hk
    rcases h3 with rfl | rfl | rfl
    · have hr2 := rnd_else 0 (by omega) wide _ _ (tr_wd wide a ha'.out) (tr_wd wide b hb'.out) hs'.out
      clear hd
      rcases hr2 with hr1 | hr1
      · have hr := hide hr1
        clear hr1
        go_wp2_with fail
        refine (v_cmp 72 wide a b _ 1 _ (by omega) ha'.out hb'.out hr.out.1 rfl).mono ?_
        rintro e w1 ⟨rfl, rfl⟩
        go_wp2_with fail
        refine (v_cmp 74 wide a b _ 0 _ (by omega) ha'.out hb'.out hr.out.2.1 rfl).mono ?_
        rintro e w1 ⟨rfl, rfl⟩
        go_wp2_with fail
        refine (v_cmp 76 wide a b _ 1 _ (by omega) ha'.out hb'.out hr.out.2.2.1 rfl).mono ?_
        rintro e w1 ⟨rfl, rfl⟩
        go_wp2_with fail
        refine (v_cmp 78 wide a b _ 0 _ (by omega) ha'.out hb'.out hr.out.2.2.2.1 rfl).mono ?_
        rintro e w1 ⟨rfl, rfl⟩
        go_wp2_with fail
        refine (v_cmp 72 wide b a _ 0 _ (by omega) hb'.out ha'.out hr.out.2.2.2.2 rfl).mono ?_
        rintro e w1 ⟨rfl, rfl⟩
        go_wp2_with fail
        go_round
        case rel => exact ⟨1, by omega, rfl⟩
        case measure => decide
      · have hr := hide hr1
        clear hr1
        go_wp2_with fail
        refine (v_cmp 72 wide a b _ 0 _ (by omega) ha'.out hb'.out hr.out.1 rfl).mono ?_
        rintro e w1 ⟨rfl, rfl⟩
        go_wp2_with fail
        refine (v_cmp 74 wide a b _ 1 _ (by omega) ha'.out hb'.out hr.out.2.1 rfl).mono ?_
        rintro e w1 ⟨rfl, rfl⟩
        go_wp2_with fail
        refine (v_cmp 76 wide a b _ 0 _ (by omega) ha'.out hb'.out hr.out.2.2.1 rfl).mono ?_
        rintro e w1 ⟨rfl, rfl⟩
        go_wp2_with fail
        refine (v_cmp 78 wide a b _ 1 _ (by omega) ha'.out hb'.out hr.out.2.2.2.1 rfl).mono ?_
        rintro e w1 ⟨rfl, rfl⟩
        go_wp2_with fail
        refine (v_cmp 72 wide b a _ 1 _ (by omega) hb'.out ha'.out hr.out.2.2.2.2 rfl).mono ?_
        rintro e w1 ⟨rfl, rfl⟩
        go_wp2_with fail
        go_round
        case rel => exact ⟨1, by omega, rfl⟩
        case measure => decide
    · have hr2 := rnd_else 1 (by omega) wide _ _ (tr_wd wide a ha'.out) (tr_wd wide b hb'.out) hs'.out
      clear hd
      rcases hr2 with hr1 | hr1
      · have hr := hide hr1
        clear hr1
        go_wp2_with fail
        refine (v_cmp 73 wide a b _ 1 _ (by omega) ha'.out hb'.out hr.out.1 rfl).mono ?_
        rintro e w1 ⟨rfl, rfl⟩
        go_wp2_with fail
        refine (v_cmp 75 wide a b _ 0 _ (by omega) ha'.out hb'.out hr.out.2.1 rfl).mono ?_
        rintro e w1 ⟨rfl, rfl⟩
        go_wp2_with fail
        refine (v_cmp 77 wide a b _ 1 _ (by omega) ha'.out hb'.out hr.out.2.2.1 rfl).mono ?_
        rintro e w1 ⟨rfl, rfl⟩
        go_wp2_with fail
        refine (v_cmp 79 wide a b _ 0 _ (by omega) ha'.out hb'.out hr.out.2.2.2.1 rfl).mono ?_
        rintro e w1 ⟨rfl, rfl⟩
        go_wp2_with fail
        refine (v_cmp 73 wide b a _ 0 _ (by omega) hb'.out ha'.out hr.out.2.2.2.2 rfl).mono ?_
        rintro e w1 ⟨rfl, rfl⟩
        go_wp2_with fail
        go_round
        case rel => exact ⟨2, by omega, rfl⟩
        case measure => decide
      · have hr := hide hr1
        clear hr1
        go_wp2_with fail
        refine (v_cmp 73 wide a b _ 0 _ (by omega) ha'.out hb'.out hr.out.1 rfl).mono ?_
        rintro e w1 ⟨rfl, rfl⟩
        go_wp2_with fail
        refine (v_cmp 75 wide a b _ 1 _ (by omega) ha'.out hb'.out hr.out.2.1 rfl).mono ?_
        rintro e w1 ⟨rfl, rfl⟩
        go_wp2_with fail
        refine (v_cmp 77 wide a b _ 0 _ (by omega) ha'.out hb'.out hr.out.2.2.1 rfl).mono ?_
        rintro e w1 ⟨rfl, rfl⟩
        go_wp2_with fail
        refine (v_cmp 79 wide a b _ 1 _ (by omega) ha'.out hb'.out hr.out.2.2.2.1 rfl).mono ?_
        rintro e w1 ⟨rfl, rfl⟩
        go_wp2_with fail
        refine (v_cmp 73 wide b a _ 1 _ (by omega) hb'.out ha'.out hr.out.2.2.2.2 rfl).mono ?_
        rintro e w1 ⟨rfl, rfl⟩
        go_wp2_with fail
        go_round
        case rel => exact ⟨2, by omega, rfl⟩
        case measure => decide
    · go_wp2_with fail
      refine (v_cmp 71 wide a b true 1 _ (by omega) ha'.out hb'.out (decide_eq_true (hs'.out)) rfl).mono ?_
      rintro e w1 ⟨rfl, rfl⟩
      go_wp2_with fail
      refine (trim_any _ _ _).mono ?_
      rintro e w1 ⟨rfl, rfl⟩
      go_wp2_with fail
      refine (trim_any _ _ _).mono ?_
      rintro e w1 ⟨rfl, rfl⟩
      go_wp2_with fail
      refine (v_cmp 69 wide a b _ (b1 (decide (tr wide a = 0))) _ (by omega) ha'.out hb'.out rfl rfl).mono ?_
      rintro e w1 ⟨rfl, rfl⟩
      go_wp2_with fail
      refine (v_cmp 70 wide a 0 _ (b1 (decide (tr wide a = 0))) _ (by omega) ha'.out ⟨by decide, by decide⟩ (eqz wide a) rfl).mono ?_
      rintro e w1 ⟨rfl, rfl⟩
      go_wp2_with fail
      go_ret
      exact ⟨rfl, rfl⟩

theorem compares_any (wide : Bool) (a b : Int) (w : World) (ha : I64 a) (hb : I64 b) :
    Calls Try.prog 6 #[.bool wide, .int .i64 a, .int .i64 b] w fun e w' => e = .returned (.bool true) ∧ w' = w := by
  by_cases h : tr wide a = tr wide b
  · exact compares_same wide a b w ha hb h
  · exact compares_else wide a b w ha hb h
end Go.Proofs.Ytfcdpjihhopfhaa
