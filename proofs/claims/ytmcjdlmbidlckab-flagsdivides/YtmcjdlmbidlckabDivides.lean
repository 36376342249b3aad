/-
  The statement FlagsDivides, walked: quotient times divisor and the rest are what was divided, if the upper half is nought; the rest is less than the divisor: for any inputs it returns true; nothing older is changed.
-/
import Derived.Test.YtmcjdlmbidlckabEx
namespace Go.Proofs.Ytmcjdlmbidlckab
open Go.RowKit

theorem dvd_wrap (wide : Bool) (z : Int) : md wide ∣ wrap64 z - z := by
  cases wide
  · rw [md_no]; simp only [wrap64]; omega
  · rw [md_yes]; simp only [wrap64]; omega
theorem dvd_R (wide : Bool) (x : Int) : md wide ∣ (R wide x : Int) - x := by
  cases wide
  · simp only [R, md_no]; omega
  · simp only [R, md_yes]; omega
theorem dvd_sn (wide : Bool) (x : Int) : md wide ∣ sn wide x - x := by
  cases wide
  · simp only [sn_no, md_no, wrap32]; omega
  · rw [sn_yes, Int.sub_self]; exact Int.dvd_zero _
theorem dvd_M (wide : Bool) (x : Int) : md wide ∣ M wide x - x := by
  have h := M_dvd wide x
  have e : M wide x - x = -(x - M wide x) := by omega
  rw [e]; exact (Int.dvd_neg).mpr h
theorem dvd_tr (wide : Bool) (x : Int) : md wide ∣ tr wide x - x := by
  cases wide
  · simp only [tr_no, md_no]; omega
  · rw [tr_yes, Int.sub_self]; exact Int.dvd_zero _
/-- what is like q times by and r is like the number that was divided -/
theorem like (m q q' b b' r r' n n' : Int) (hq : m ∣ q - q') (hb : m ∣ b' - b) (hr : m ∣ r - r') (hn : m ∣ n' - n) (he : q' * b' + r' = n') : m ∣ q * b + r - n := by
  have h1 : m ∣ (q - q') * b := Int.dvd_mul_of_dvd_left hq
  have h2 : m ∣ q' * (b' - b) := Int.dvd_mul_of_dvd_right hb
  have h := Int.dvd_add (Int.dvd_add (Int.dvd_sub h1 h2) hr) hn
  have e : q * b + r - n = (q - q') * b - q' * (b' - b) + (r - r') + (n' - n) := by
    rw [Int.sub_mul, Int.mul_sub, ← he]; omega
  rw [e]; exact h
theorem back_tr (wide : Bool) (q b r n : Int) (h : md wide ∣ q * b + r - n) (hn : I64 n) : tr wide (wrap64 (wrap64 (q * b) + r)) = tr wide n := by
  rw [tr_M wide n hn]
  show M wide _ = M wide n
  apply M_eq
  have h2 := Int.dvd_add (dvd_wrap wide (q * b)) h
  have e : wrap64 (q * b) + r - n = wrap64 (q * b) - q * b + (q * b + r - n) := by omega
  rw [e]; exact h2
theorem div_back (wide : Bool) (low by' : Int) (hl : I64 low) : tr wide (wrap64 (wrap64 (wrap64 ((R wide low / R wide by' : Nat) : Int) * by') + wrap64 ((R wide low % R wide by' : Nat) : Int))) = tr wide low := by
  refine back_tr wide _ _ _ _ ?_ hl
  refine like _ _ _ _ (R wide by' : Int) _ _ _ (R wide low : Int) (dvd_wrap wide _) (dvd_R wide by') (dvd_wrap wide _) (dvd_R wide low) ?_
  rw [← Int.natCast_mul, ← Int.natCast_add, Nat.mul_comm, Nat.div_add_mod]
theorem idiv_back (wide : Bool) (low by' : Int) (hl : I64 low) : tr wide (wrap64 (wrap64 (M wide ((sn wide low).tdiv (sn wide by')) * by') + tr wide ((sn wide low).tmod (sn wide by')))) = tr wide low := by
  refine back_tr wide _ _ _ _ ?_ hl
  refine like _ _ _ _ (sn wide by') _ _ _ (sn wide low) (dvd_M wide _) (dvd_sn wide by') (dvd_tr wide _) (dvd_sn wide low) ?_
  rw [Int.mul_comm]; exact Int.mul_tdiv_add_tmod _ _
theorem R_zero (wide : Bool) : R wide 0 = 0 := by cases wide <;> decide
theorem tr_zero (wide : Bool) (v : Int) (h : I64 v) : tr wide v = 0 ↔ R wide v = 0 := by
  have h1 := un_R wide _ (tr_wd wide v h)
  rw [R_tr] at h1
  obtain ⟨h2, h3⟩ := wd_i64 (tr_wd wide v h)
  simp only [un] at h1
  generalize tr wide v = x at *
  omega
/-- what Div tells where the upper half is nought -/
theorem div_0 (wide : Bool) (low by' : Int) (hl : I64 low) (hb : I64 by') (h0 : R wide by' ≠ 0) :
    ∃ q r : Int, (∀ w, Calls Try.prog 7 #[.bool wide, .int .i64 0, .int .i64 low, .int .i64 by'] w fun e w' => e = .returned (.tuple #[.int .i64 q, .int .i64 r, .bool true]) ∧ Below w.heap.size w w')
      ∧ tr wide (wrap64 (wrap64 (q * by') + r)) = tr wide low ∧ IntKind.u64.wrap r < IntKind.u64.wrap (tr wide by') := by
  have hp : R wide 0 < R wide by' := by rw [R_zero]; omega
  refine ⟨dQ wide 0 low by', dM wide 0 low by', fun w => ?_, ?_, ?_⟩
  · have h := div_any wide 0 low by' w ⟨by decide, by decide⟩ hl hb
    rw [show dB wide 0 by' = true from decide_eq_true hp] at h; exact h
  · unfold dQ dM
    rw [if_pos hp, if_pos hp, R_zero, Nat.zero_mul, Nat.zero_add]; exact div_back wide low by' hl
  · unfold dM
    rw [if_pos hp, R_zero, Nat.zero_mul, Nat.zero_add, un_tr wide by' hb, un_wrap]
    have h1 := Nat.mod_lt (R wide low) (show 0 < R wide by' by omega)
    have h2 := R_lt64 wide by'
    generalize R wide low % R wide by' = z at h1
    simp only [un, wrap64]; omega
theorem div_00 (wide : Bool) (low by' : Int) (hl : I64 low) (hb : I64 by') (h0 : R wide by' = 0) (w : World) :
    Calls Try.prog 7 #[.bool wide, .int .i64 0, .int .i64 low, .int .i64 by'] w fun e w' => e = .returned (.tuple #[.int .i64 0, .int .i64 0, .bool false]) ∧ Below w.heap.size w w' := by
  have hp : ¬ R wide 0 < R wide by' := by omega
  have h := div_any wide 0 low by' w ⟨by decide, by decide⟩ hl hb
  rw [show dB wide 0 by' = false from decide_eq_false hp, show dQ wide 0 low by' = 0 from if_neg hp, show dM wide 0 low by' = 0 from if_neg hp] at h
  exact h
/-- what Idiv tells, whatever the upper half is -/
theorem idiv_0 (wide : Bool) (high low by' : Int) (hl : I64 low) :
    (∀ w, Calls Try.prog 9 #[.bool wide, .int .i64 high, .int .i64 low, .int .i64 by'] w fun e w' => e = .returned (.tuple #[.int .i64 0, .int .i64 0, .bool false]) ∧ Below w.heap.size w w')
    ∨ ∃ s t : Int, (∀ w, Calls Try.prog 9 #[.bool wide, .int .i64 high, .int .i64 low, .int .i64 by'] w fun e w' => e = .returned (.tuple #[.int .i64 s, .int .i64 t, .bool true]) ∧ Below w.heap.size w w')
      ∧ tr wide (wrap64 (wrap64 (s * by') + t)) = tr wide low := by
  cases hb : iB wide high low by'
  · refine Or.inl fun w => ?_
    have h := idiv_any wide high low by' w hl
    unfold iQ iM at h
    rw [hb, if_neg (by decide), if_neg (by decide)] at h; exact h
  · refine Or.inr ⟨_, _, fun w => ?_, idiv_back wide low by' hl⟩
    have h := idiv_any wide high low by' w hl
    unfold iQ iM at h
    rw [hb, if_pos rfl, if_pos rfl] at h; exact h
set_option maxHeartbeats 1000000 in
theorem divides_zero (wide : Bool) (low by' : Int) (w : World) (hl : I64 low) (hb : I64 by') (h0 : R wide by' = 0) :
    Calls Try.prog 3 #[.bool wide, .int .i64 low, .int .i64 by'] w fun e w' => e = .returned (.bool true) ∧ Below w.heap.size w w' := by
  have T := hide (div_00 wide low by' hl hb h0)
  have HZ := hide ((tr_zero wide by' hb).mpr h0)
  clear hl hb h0
  go_enter Try.func3, Try.ntmps3
  go_wp2_with fail
  refine (examples_any _).mono ?_
  rintro e w1 ⟨rfl, B1⟩
  go_wp2_with fail
  refine (T.out _).mono ?_
  rintro e w2 ⟨rfl, B2⟩
  have D2 := hide (bel_tr B1 B2)
  clear B1 B2
  go_wp2_with fail
  refine (trim_any _ _ _).mono ?_
  rintro e w3 ⟨rfl, rfl⟩
  rw [HZ.out]
  go_wp2_with fail
  go_ret
  exact ⟨rfl, D2.out⟩
set_option maxHeartbeats 1000000 in
theorem divides_npx (low by' q r : Int) (w : World) (hg : (bits .and .i64 (low / 2147483648) 1 == 1) = false)
    (T : Hid (∀ w, Calls Try.prog 7 #[.bool false, .int .i64 0, .int .i64 low, .int .i64 by'] w fun e w' => e = .returned (.tuple #[.int .i64 q, .int .i64 r, .bool true]) ∧ Below w.heap.size w w'))
    (U : Hid (∀ w, Calls Try.prog 9 #[.bool false, .int .i64 (0), .int .i64 low, .int .i64 by'] w fun e w' => e = .returned (.tuple #[.int .i64 0, .int .i64 0, .bool false]) ∧ Below w.heap.size w w'))
    (hz : ¬ (tr false by' = 0)) (h1 : tr false (wrap64 (wrap64 (q * by') + r)) = tr false low) (h2 : IntKind.u64.wrap r < IntKind.u64.wrap (tr false by')) :
    Calls Try.prog 3 #[.bool false, .int .i64 low, .int .i64 by'] w fun e w' => e = .returned (.bool true) ∧ Below w.heap.size w w' := by
  go_enter Try.func3, Try.ntmps3
  go_wp2_with fail
  refine (examples_any _).mono ?_
  rintro e w1 ⟨rfl, B1⟩
  go_wp2_with fail
  refine (T.out _).mono ?_
  rintro e w2 ⟨rfl, B2⟩
  have D2 := hide (bel_tr B1 B2)
  clear B1 B2
  go_wp2_with fail
  refine (trim_any _ _ _).mono ?_
  rintro e w3 ⟨rfl, rfl⟩
  go_wp2_with fail
  refine (U.out _).mono ?_
  rintro e w4 ⟨rfl, B4⟩
  have D4 := hide (bel_tr D2.out B4)
  clear B4
  go_wp2_with (go_at_call 8; refine (trim_any _ _ _).mono ?_; rintro e w5 ⟨rfl, rfl⟩)
  go_ret
  exact ⟨rfl, D4.out⟩
set_option maxHeartbeats 1000000 in
theorem divides_npy (low by' q r s t : Int) (w : World) (hg : (bits .and .i64 (low / 2147483648) 1 == 1) = false)
    (T : Hid (∀ w, Calls Try.prog 7 #[.bool false, .int .i64 0, .int .i64 low, .int .i64 by'] w fun e w' => e = .returned (.tuple #[.int .i64 q, .int .i64 r, .bool true]) ∧ Below w.heap.size w w'))
    (U : Hid (∀ w, Calls Try.prog 9 #[.bool false, .int .i64 (0), .int .i64 low, .int .i64 by'] w fun e w' => e = .returned (.tuple #[.int .i64 s, .int .i64 t, .bool true]) ∧ Below w.heap.size w w'))
    (hz : ¬ (tr false by' = 0)) (h1 : tr false (wrap64 (wrap64 (q * by') + r)) = tr false low) (h2 : IntKind.u64.wrap r < IntKind.u64.wrap (tr false by')) (h3 : tr false (wrap64 (wrap64 (s * by') + t)) = tr false low) :
    Calls Try.prog 3 #[.bool false, .int .i64 low, .int .i64 by'] w fun e w' => e = .returned (.bool true) ∧ Below w.heap.size w w' := by
  go_enter Try.func3, Try.ntmps3
  go_wp2_with fail
  refine (examples_any _).mono ?_
  rintro e w1 ⟨rfl, B1⟩
  go_wp2_with fail
  refine (T.out _).mono ?_
  rintro e w2 ⟨rfl, B2⟩
  have D2 := hide (bel_tr B1 B2)
  clear B1 B2
  go_wp2_with fail
  refine (trim_any _ _ _).mono ?_
  rintro e w3 ⟨rfl, rfl⟩
  go_wp2_with fail
  refine (U.out _).mono ?_
  rintro e w4 ⟨rfl, B4⟩
  have D4 := hide (bel_tr D2.out B4)
  clear B4
  go_wp2_with (go_at_call 8; refine (trim_any _ _ _).mono ?_; rintro e w5 ⟨rfl, rfl⟩)
  go_ret
  exact ⟨rfl, D4.out⟩
set_option maxHeartbeats 1000000 in
theorem divides_nmx (low by' q r : Int) (w : World) (hg : (bits .and .i64 (low / 2147483648) 1 == 1) = true)
    (T : Hid (∀ w, Calls Try.prog 7 #[.bool false, .int .i64 0, .int .i64 low, .int .i64 by'] w fun e w' => e = .returned (.tuple #[.int .i64 q, .int .i64 r, .bool true]) ∧ Below w.heap.size w w'))
    (U : Hid (∀ w, Calls Try.prog 9 #[.bool false, .int .i64 (-1), .int .i64 low, .int .i64 by'] w fun e w' => e = .returned (.tuple #[.int .i64 0, .int .i64 0, .bool false]) ∧ Below w.heap.size w w'))
    (hz : ¬ (tr false by' = 0)) (h1 : tr false (wrap64 (wrap64 (q * by') + r)) = tr false low) (h2 : IntKind.u64.wrap r < IntKind.u64.wrap (tr false by')) :
    Calls Try.prog 3 #[.bool false, .int .i64 low, .int .i64 by'] w fun e w' => e = .returned (.bool true) ∧ Below w.heap.size w w' := by
  go_enter Try.func3, Try.ntmps3
  go_wp2_with fail
  refine (examples_any _).mono ?_
  rintro e w1 ⟨rfl, B1⟩
  go_wp2_with fail
  refine (T.out _).mono ?_
  rintro e w2 ⟨rfl, B2⟩
  have D2 := hide (bel_tr B1 B2)
  clear B1 B2
  go_wp2_with fail
  refine (trim_any _ _ _).mono ?_
  rintro e w3 ⟨rfl, rfl⟩
  go_wp2_with fail
  refine (U.out _).mono ?_
  rintro e w4 ⟨rfl, B4⟩
  have D4 := hide (bel_tr D2.out B4)
  clear B4
  go_wp2_with (go_at_call 8; refine (trim_any _ _ _).mono ?_; rintro e w5 ⟨rfl, rfl⟩)
  go_ret
  exact ⟨rfl, D4.out⟩
set_option maxHeartbeats 1000000 in
theorem divides_nmy (low by' q r s t : Int) (w : World) (hg : (bits .and .i64 (low / 2147483648) 1 == 1) = true)
    (T : Hid (∀ w, Calls Try.prog 7 #[.bool false, .int .i64 0, .int .i64 low, .int .i64 by'] w fun e w' => e = .returned (.tuple #[.int .i64 q, .int .i64 r, .bool true]) ∧ Below w.heap.size w w'))
    (U : Hid (∀ w, Calls Try.prog 9 #[.bool false, .int .i64 (-1), .int .i64 low, .int .i64 by'] w fun e w' => e = .returned (.tuple #[.int .i64 s, .int .i64 t, .bool true]) ∧ Below w.heap.size w w'))
    (hz : ¬ (tr false by' = 0)) (h1 : tr false (wrap64 (wrap64 (q * by') + r)) = tr false low) (h2 : IntKind.u64.wrap r < IntKind.u64.wrap (tr false by')) (h3 : tr false (wrap64 (wrap64 (s * by') + t)) = tr false low) :
    Calls Try.prog 3 #[.bool false, .int .i64 low, .int .i64 by'] w fun e w' => e = .returned (.bool true) ∧ Below w.heap.size w w' := by
  go_enter Try.func3, Try.ntmps3
  go_wp2_with fail
  refine (examples_any _).mono ?_
  rintro e w1 ⟨rfl, B1⟩
  go_wp2_with fail
  refine (T.out _).mono ?_
  rintro e w2 ⟨rfl, B2⟩
  have D2 := hide (bel_tr B1 B2)
  clear B1 B2
  go_wp2_with fail
  refine (trim_any _ _ _).mono ?_
  rintro e w3 ⟨rfl, rfl⟩
  go_wp2_with fail
  refine (U.out _).mono ?_
  rintro e w4 ⟨rfl, B4⟩
  have D4 := hide (bel_tr D2.out B4)
  clear B4
  go_wp2_with (go_at_call 8; refine (trim_any _ _ _).mono ?_; rintro e w5 ⟨rfl, rfl⟩)
  go_ret
  exact ⟨rfl, D4.out⟩
set_option maxHeartbeats 1000000 in
theorem divides_wpx (low by' q r : Int) (w : World) (hg : decide (low < 0) = false)
    (T : Hid (∀ w, Calls Try.prog 7 #[.bool true, .int .i64 0, .int .i64 low, .int .i64 by'] w fun e w' => e = .returned (.tuple #[.int .i64 q, .int .i64 r, .bool true]) ∧ Below w.heap.size w w'))
    (U : Hid (∀ w, Calls Try.prog 9 #[.bool true, .int .i64 (0), .int .i64 low, .int .i64 by'] w fun e w' => e = .returned (.tuple #[.int .i64 0, .int .i64 0, .bool false]) ∧ Below w.heap.size w w'))
    (hz : ¬ (tr true by' = 0)) (h1 : tr true (wrap64 (wrap64 (q * by') + r)) = tr true low) (h2 : IntKind.u64.wrap r < IntKind.u64.wrap (tr true by')) :
    Calls Try.prog 3 #[.bool true, .int .i64 low, .int .i64 by'] w fun e w' => e = .returned (.bool true) ∧ Below w.heap.size w w' := by
  go_enter Try.func3, Try.ntmps3
  go_wp2_with fail
  refine (examples_any _).mono ?_
  rintro e w1 ⟨rfl, B1⟩
  go_wp2_with fail
  refine (T.out _).mono ?_
  rintro e w2 ⟨rfl, B2⟩
  have D2 := hide (bel_tr B1 B2)
  clear B1 B2
  go_wp2_with fail
  refine (trim_any _ _ _).mono ?_
  rintro e w3 ⟨rfl, rfl⟩
  go_wp2_with fail
  refine (U.out _).mono ?_
  rintro e w4 ⟨rfl, B4⟩
  have D4 := hide (bel_tr D2.out B4)
  clear B4
  go_wp2_with (go_at_call 8; refine (trim_any _ _ _).mono ?_; rintro e w5 ⟨rfl, rfl⟩)
  go_ret
  exact ⟨rfl, D4.out⟩
set_option maxHeartbeats 1000000 in
theorem divides_wpy (low by' q r s t : Int) (w : World) (hg : decide (low < 0) = false)
    (T : Hid (∀ w, Calls Try.prog 7 #[.bool true, .int .i64 0, .int .i64 low, .int .i64 by'] w fun e w' => e = .returned (.tuple #[.int .i64 q, .int .i64 r, .bool true]) ∧ Below w.heap.size w w'))
    (U : Hid (∀ w, Calls Try.prog 9 #[.bool true, .int .i64 (0), .int .i64 low, .int .i64 by'] w fun e w' => e = .returned (.tuple #[.int .i64 s, .int .i64 t, .bool true]) ∧ Below w.heap.size w w'))
    (hz : ¬ (tr true by' = 0)) (h1 : tr true (wrap64 (wrap64 (q * by') + r)) = tr true low) (h2 : IntKind.u64.wrap r < IntKind.u64.wrap (tr true by')) (h3 : tr true (wrap64 (wrap64 (s * by') + t)) = tr true low) :
    Calls Try.prog 3 #[.bool true, .int .i64 low, .int .i64 by'] w fun e w' => e = .returned (.bool true) ∧ Below w.heap.size w w' := by
  go_enter Try.func3, Try.ntmps3
  go_wp2_with fail
  refine (examples_any _).mono ?_
  rintro e w1 ⟨rfl, B1⟩
  go_wp2_with fail
  refine (T.out _).mono ?_
  rintro e w2 ⟨rfl, B2⟩
  have D2 := hide (bel_tr B1 B2)
  clear B1 B2
  go_wp2_with fail
  refine (trim_any _ _ _).mono ?_
  rintro e w3 ⟨rfl, rfl⟩
  go_wp2_with fail
  refine (U.out _).mono ?_
  rintro e w4 ⟨rfl, B4⟩
  have D4 := hide (bel_tr D2.out B4)
  clear B4
  go_wp2_with (go_at_call 8; refine (trim_any _ _ _).mono ?_; rintro e w5 ⟨rfl, rfl⟩)
  go_ret
  exact ⟨rfl, D4.out⟩
set_option maxHeartbeats 1000000 in
theorem divides_wmx (low by' q r : Int) (w : World) (hg : decide (low < 0) = true)
    (T : Hid (∀ w, Calls Try.prog 7 #[.bool true, .int .i64 0, .int .i64 low, .int .i64 by'] w fun e w' => e = .returned (.tuple #[.int .i64 q, .int .i64 r, .bool true]) ∧ Below w.heap.size w w'))
    (U : Hid (∀ w, Calls Try.prog 9 #[.bool true, .int .i64 (-1), .int .i64 low, .int .i64 by'] w fun e w' => e = .returned (.tuple #[.int .i64 0, .int .i64 0, .bool false]) ∧ Below w.heap.size w w'))
    (hz : ¬ (tr true by' = 0)) (h1 : tr true (wrap64 (wrap64 (q * by') + r)) = tr true low) (h2 : IntKind.u64.wrap r < IntKind.u64.wrap (tr true by')) :
    Calls Try.prog 3 #[.bool true, .int .i64 low, .int .i64 by'] w fun e w' => e = .returned (.bool true) ∧ Below w.heap.size w w' := by
  go_enter Try.func3, Try.ntmps3
  go_wp2_with fail
  refine (examples_any _).mono ?_
  rintro e w1 ⟨rfl, B1⟩
  go_wp2_with fail
  refine (T.out _).mono ?_
  rintro e w2 ⟨rfl, B2⟩
  have D2 := hide (bel_tr B1 B2)
  clear B1 B2
  go_wp2_with fail
  refine (trim_any _ _ _).mono ?_
  rintro e w3 ⟨rfl, rfl⟩
  go_wp2_with fail
  refine (U.out _).mono ?_
  rintro e w4 ⟨rfl, B4⟩
  have D4 := hide (bel_tr D2.out B4)
  clear B4
  go_wp2_with (go_at_call 8; refine (trim_any _ _ _).mono ?_; rintro e w5 ⟨rfl, rfl⟩)
  go_ret
  exact ⟨rfl, D4.out⟩
set_option maxHeartbeats 1000000 in
theorem divides_wmy (low by' q r s t : Int) (w : World) (hg : decide (low < 0) = true)
    (T : Hid (∀ w, Calls Try.prog 7 #[.bool true, .int .i64 0, .int .i64 low, .int .i64 by'] w fun e w' => e = .returned (.tuple #[.int .i64 q, .int .i64 r, .bool true]) ∧ Below w.heap.size w w'))
    (U : Hid (∀ w, Calls Try.prog 9 #[.bool true, .int .i64 (-1), .int .i64 low, .int .i64 by'] w fun e w' => e = .returned (.tuple #[.int .i64 s, .int .i64 t, .bool true]) ∧ Below w.heap.size w w'))
    (hz : ¬ (tr true by' = 0)) (h1 : tr true (wrap64 (wrap64 (q * by') + r)) = tr true low) (h2 : IntKind.u64.wrap r < IntKind.u64.wrap (tr true by')) (h3 : tr true (wrap64 (wrap64 (s * by') + t)) = tr true low) :
    Calls Try.prog 3 #[.bool true, .int .i64 low, .int .i64 by'] w fun e w' => e = .returned (.bool true) ∧ Below w.heap.size w w' := by
  go_enter Try.func3, Try.ntmps3
  go_wp2_with fail
  refine (examples_any _).mono ?_
  rintro e w1 ⟨rfl, B1⟩
  go_wp2_with fail
  refine (T.out _).mono ?_
  rintro e w2 ⟨rfl, B2⟩
  have D2 := hide (bel_tr B1 B2)
  clear B1 B2
  go_wp2_with fail
  refine (trim_any _ _ _).mono ?_
  rintro e w3 ⟨rfl, rfl⟩
  go_wp2_with fail
  refine (U.out _).mono ?_
  rintro e w4 ⟨rfl, B4⟩
  have D4 := hide (bel_tr D2.out B4)
  clear B4
  go_wp2_with (go_at_call 8; refine (trim_any _ _ _).mono ?_; rintro e w5 ⟨rfl, rfl⟩)
  go_ret
  exact ⟨rfl, D4.out⟩
theorem divides_walk (wide : Bool) (low by' : Int) (w : World) (hl : I64 low) (hb : I64 by') :
    Calls Try.prog 3 #[.bool wide, .int .i64 low, .int .i64 by'] w fun e w' => e = .returned (.bool true) ∧ Below w.heap.size w w' := by
  by_cases h0 : R wide by' = 0
  · exact divides_zero wide low by' w hl hb h0
  · obtain ⟨q, r, T, h1, h2⟩ := div_0 wide low by' hl hb h0
    have hz : ¬ (tr wide by' = 0) := fun h => h0 ((tr_zero wide by' hb).mp h)
    cases wide
    · cases hg : (bits .and .i64 (low / 2147483648) 1 == 1)
      · rcases idiv_0 false 0 low by' hl with U | ⟨s, t, U, h3⟩
        · exact divides_npx low by' q r w hg (hide T) (hide U) hz h1 h2
        · exact divides_npy low by' q r s t w hg (hide T) (hide U) hz h1 h2 h3
      · rcases idiv_0 false (-1) low by' hl with U | ⟨s, t, U, h3⟩
        · exact divides_nmx low by' q r w hg (hide T) (hide U) hz h1 h2
        · exact divides_nmy low by' q r s t w hg (hide T) (hide U) hz h1 h2 h3
    · cases hg : decide (low < 0)
      · rcases idiv_0 true 0 low by' hl with U | ⟨s, t, U, h3⟩
        · exact divides_wpx low by' q r w hg (hide T) (hide U) hz h1 h2
        · exact divides_wpy low by' q r s t w hg (hide T) (hide U) hz h1 h2 h3
      · rcases idiv_0 true (-1) low by' hl with U | ⟨s, t, U, h3⟩
        · exact divides_wmx low by' q r w hg (hide T) (hide U) hz h1 h2
        · exact divides_wmy low by' q r s t w hg (hide T) (hide U) hz h1 h2 h3
end Go.Proofs.Ytmcjdlmbidlckab
