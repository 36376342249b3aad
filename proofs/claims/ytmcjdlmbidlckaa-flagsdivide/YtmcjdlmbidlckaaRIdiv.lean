/-
  The document's own Idiv answers what the plain functions iQ, iM, iB tell; nothing older is changed.
-/
import Derived.Test.YtmcjdlmbidlckaaIdiv
import Derived.Test.YtmcjdlmbidlckaaRAlu
namespace Go.Proofs.Ytmcjdlmbidlckaa
open Go.RowKit

theorem rs_low (v x : Int) (hx : x = v % 4294967296) (h : ¬ (2147483648 ≤ x)) : sn false v = x := by
  simp only [sn_no, wrap32]; omega
theorem rs_high (v x : Int) (hx : x = v % 4294967296) (h : 2147483648 ≤ x) : wrap64 (x - 4294967296) = sn false v := by
  simp only [sn_no, wrap32, wrap64]; omega
theorem rsigned_any (wide : Bool) (v : Int) (w : World) :
    Calls Try.prog 30 #[.bool wide, .int .i64 v] w fun e w' => e = .returned (.int .i64 (sn wide v)) ∧ w' = w := by
  cases wide
  · obtain ⟨x, hx⟩ : ∃ x, tr false v = x := ⟨_, rfl⟩
    have Hx := hide hx
    clear hx
    by_cases h : 2147483648 ≤ x
    · have HS := hide (rs_high v x Hx.out.symm h)
      go_enter Try.func30, Try.ntmps30
      go_wp2_with fail
      refine (rtrim_any _ _ _).mono ?_
      rintro e w1 ⟨rfl, rfl⟩
      rw [Hx.out]
      go_wp2_with fail
      go_ret
      exact ⟨ret_int HS.out, rfl⟩
    · have HS := hide (rs_low v x Hx.out.symm h)
      go_enter Try.func30, Try.ntmps30
      go_wp2_with fail
      refine (rtrim_any _ _ _).mono ?_
      rintro e w1 ⟨rfl, rfl⟩
      rw [Hx.out]
      go_wp2_with fail
      go_ret
      exact ⟨ret_int HS.out.symm, rfl⟩
  · go_enter Try.func30, Try.ntmps30
    go_wp2_with (go_at_call 13; refine (rtrim_any _ _ _).mono ?_; rintro e w1 ⟨rfl, rfl⟩)
    go_ret
    exact ⟨rfl, rfl⟩
set_option maxHeartbeats 1000000 in
theorem ridiv_zerom (wide : Bool) (high low by' n d : Int) (w : World) (hN : sn wide low = n) (hD : sn wide by' = d) (hd : d = 0) (hs : n < 0) :
    Calls Try.prog 21 #[.bool wide, .int .i64 high, .int .i64 low, .int .i64 by'] w fun e w' => e = .returned (.tuple #[.int .i64 0, .int .i64 0, .bool false]) ∧ Below w.heap.size w w' := by
  go_enter Try.func21, Try.ntmps21
  go_wp2_with (first | (go_at_call 30; refine (rsigned_any _ _ _).mono ?_; rintro e w1 ⟨rfl, rfl⟩) | (go_at_call 13; refine (rtrim_any _ _ _).mono ?_; rintro e w1 ⟨rfl, rfl⟩))
  go_ret3
  exact ⟨rfl, Below.refl _ _⟩
set_option maxHeartbeats 1000000 in
theorem ridiv_highm (wide : Bool) (high low by' n d : Int) (w : World) (hN : sn wide low = n) (hD : sn wide by' = d) (hd : (d == 0) = false) (hs : n < 0) (hh : (tr wide high != tr wide (-1)) = true) :
    Calls Try.prog 21 #[.bool wide, .int .i64 high, .int .i64 low, .int .i64 by'] w fun e w' => e = .returned (.tuple #[.int .i64 0, .int .i64 0, .bool false]) ∧ Below w.heap.size w w' := by
  go_enter Try.func21, Try.ntmps21
  go_wp2_with (first | (go_at_call 30; refine (rsigned_any _ _ _).mono ?_; rintro e w1 ⟨rfl, rfl⟩) | (go_at_call 13; refine (rtrim_any _ _ _).mono ?_; rintro e w1 ⟨rfl, rfl⟩))
  go_ret3
  exact ⟨rfl, Below.refl _ _⟩
set_option maxHeartbeats 1000000 in
theorem ridiv_genm (wide : Bool) (high low by' n d : Int) (w : World) (hN : sn wide low = n) (hD : sn wide by' = d) (hd : (d == 0) = false) (hd' : ¬ (d = 0)) (hs : n < 0) (hh : (tr wide high != tr wide (-1)) = false) (hm : (d == -1) = false) :
    Calls Try.prog 21 #[.bool wide, .int .i64 high, .int .i64 low, .int .i64 by'] w fun e w' => e = .returned (.tuple #[.int .i64 (M wide (n.tdiv d)), .int .i64 (tr wide (n.tmod d)), .bool true]) ∧ Below w.heap.size w w' := by
  go_enter Try.func21, Try.ntmps21
  go_wp2_with (first | (go_at_call 30; refine (rsigned_any _ _ _).mono ?_; rintro e w1 ⟨rfl, rfl⟩) | (go_at_call 13; refine (rtrim_any _ _ _).mono ?_; rintro e w1 ⟨rfl, rfl⟩))
  go_quiet (first | (go_at_call 13; refine Calls.quiet_of_same (rtrim_any _ _ _)))
  go_wp2_with fail
  go_ret3
  exact ⟨ret_iib rfl rfl, below_drewN _ _ _⟩
set_option maxHeartbeats 1000000 in
theorem ridiv_leastmn (high low by' n d : Int) (w : World) (hN : sn false low = n) (hD : sn false by' = d) (hs : n < 0) (hh : (tr false high != tr false (-1)) = false) (hm : d = -1) (hl : (n == -2147483648) = true) :
    Calls Try.prog 21 #[.bool false, .int .i64 high, .int .i64 low, .int .i64 by'] w fun e w' => e = .returned (.tuple #[.int .i64 0, .int .i64 0, .bool false]) ∧ Below w.heap.size w w' := by
  go_enter Try.func21, Try.ntmps21
  go_wp2_with (first | (go_at_call 30; refine (rsigned_any _ _ _).mono ?_; rintro e w1 ⟨rfl, rfl⟩) | (go_at_call 13; refine (rtrim_any _ _ _).mono ?_; rintro e w1 ⟨rfl, rfl⟩))
  go_ret3
  exact ⟨rfl, Below.refl _ _⟩
set_option maxHeartbeats 1000000 in
theorem ridiv_negmn (high low by' n d : Int) (w : World) (hN : sn false low = n) (hD : sn false by' = d) (hs : n < 0) (hh : (tr false high != tr false (-1)) = false) (hm : d = -1) (hl : (n == -2147483648) = false) :
    Calls Try.prog 21 #[.bool false, .int .i64 high, .int .i64 low, .int .i64 by'] w fun e w' => e = .returned (.tuple #[.int .i64 (M false (-n)), .int .i64 0, .bool true]) ∧ Below w.heap.size w w' := by
  go_enter Try.func21, Try.ntmps21
  go_wp2_with (first | (go_at_call 30; refine (rsigned_any _ _ _).mono ?_; rintro e w1 ⟨rfl, rfl⟩) | (go_at_call 13; refine (rtrim_any _ _ _).mono ?_; rintro e w1 ⟨rfl, rfl⟩))
  go_ret3
  exact ⟨ret_iib rfl rfl, Below.refl _ _⟩
set_option maxHeartbeats 1000000 in
theorem ridiv_leastmw (high low by' n d : Int) (w : World) (hN : sn true low = n) (hD : sn true by' = d) (hs : n < 0) (hh : (tr true high != tr true (-1)) = false) (hm : d = -1) (hl : (n == -9223372036854775808) = true) :
    Calls Try.prog 21 #[.bool true, .int .i64 high, .int .i64 low, .int .i64 by'] w fun e w' => e = .returned (.tuple #[.int .i64 0, .int .i64 0, .bool false]) ∧ Below w.heap.size w w' := by
  go_enter Try.func21, Try.ntmps21
  go_wp2_with (first | (go_at_call 30; refine (rsigned_any _ _ _).mono ?_; rintro e w1 ⟨rfl, rfl⟩) | (go_at_call 13; refine (rtrim_any _ _ _).mono ?_; rintro e w1 ⟨rfl, rfl⟩))
  go_ret3
  exact ⟨rfl, Below.refl _ _⟩
set_option maxHeartbeats 1000000 in
theorem ridiv_negmw (high low by' n d : Int) (w : World) (hN : sn true low = n) (hD : sn true by' = d) (hs : n < 0) (hh : (tr true high != tr true (-1)) = false) (hm : d = -1) (hl : (n == -9223372036854775808) = false) :
    Calls Try.prog 21 #[.bool true, .int .i64 high, .int .i64 low, .int .i64 by'] w fun e w' => e = .returned (.tuple #[.int .i64 (M true (-n)), .int .i64 0, .bool true]) ∧ Below w.heap.size w w' := by
  go_enter Try.func21, Try.ntmps21
  go_wp2_with (first | (go_at_call 30; refine (rsigned_any _ _ _).mono ?_; rintro e w1 ⟨rfl, rfl⟩) | (go_at_call 13; refine (rtrim_any _ _ _).mono ?_; rintro e w1 ⟨rfl, rfl⟩))
  go_ret3
  exact ⟨ret_iib rfl rfl, Below.refl _ _⟩
set_option maxHeartbeats 1000000 in
theorem ridiv_zerop (wide : Bool) (high low by' n d : Int) (w : World) (hN : sn wide low = n) (hD : sn wide by' = d) (hd : d = 0) (hs : ¬ (n < 0)) :
    Calls Try.prog 21 #[.bool wide, .int .i64 high, .int .i64 low, .int .i64 by'] w fun e w' => e = .returned (.tuple #[.int .i64 0, .int .i64 0, .bool false]) ∧ Below w.heap.size w w' := by
  go_enter Try.func21, Try.ntmps21
  go_wp2_with (first | (go_at_call 30; refine (rsigned_any _ _ _).mono ?_; rintro e w1 ⟨rfl, rfl⟩) | (go_at_call 13; refine (rtrim_any _ _ _).mono ?_; rintro e w1 ⟨rfl, rfl⟩))
  go_ret3
  exact ⟨rfl, Below.refl _ _⟩
set_option maxHeartbeats 1000000 in
theorem ridiv_highp (wide : Bool) (high low by' n d : Int) (w : World) (hN : sn wide low = n) (hD : sn wide by' = d) (hd : (d == 0) = false) (hs : ¬ (n < 0)) (hh : (tr wide high != tr wide (0)) = true) :
    Calls Try.prog 21 #[.bool wide, .int .i64 high, .int .i64 low, .int .i64 by'] w fun e w' => e = .returned (.tuple #[.int .i64 0, .int .i64 0, .bool false]) ∧ Below w.heap.size w w' := by
  go_enter Try.func21, Try.ntmps21
  go_wp2_with (first | (go_at_call 30; refine (rsigned_any _ _ _).mono ?_; rintro e w1 ⟨rfl, rfl⟩) | (go_at_call 13; refine (rtrim_any _ _ _).mono ?_; rintro e w1 ⟨rfl, rfl⟩))
  go_ret3
  exact ⟨rfl, Below.refl _ _⟩
set_option maxHeartbeats 1000000 in
theorem ridiv_genp (wide : Bool) (high low by' n d : Int) (w : World) (hN : sn wide low = n) (hD : sn wide by' = d) (hd : (d == 0) = false) (hd' : ¬ (d = 0)) (hs : ¬ (n < 0)) (hh : (tr wide high != tr wide (0)) = false) (hm : (d == -1) = false) :
    Calls Try.prog 21 #[.bool wide, .int .i64 high, .int .i64 low, .int .i64 by'] w fun e w' => e = .returned (.tuple #[.int .i64 (M wide (n.tdiv d)), .int .i64 (tr wide (n.tmod d)), .bool true]) ∧ Below w.heap.size w w' := by
  have HS0 := hide hs
  go_enter Try.func21, Try.ntmps21
  go_wp2_with (first | (go_at_call 30; refine (rsigned_any _ _ _).mono ?_; rintro e w1 ⟨rfl, rfl⟩) | (go_at_call 13; refine (rtrim_any _ _ _).mono ?_; rintro e w1 ⟨rfl, rfl⟩))
  go_quiet (first | (go_at_call 13; refine Calls.quiet_of_same (rtrim_any _ _ _)))
  go_wp2_with fail
  go_ret3
  exact ⟨ret_iib rfl (by rw [Int.tmod_eq_emod_of_nonneg HS0.out]), below_drewN _ _ _⟩
set_option maxHeartbeats 1000000 in
theorem ridiv_leastpn (high low by' n d : Int) (w : World) (hN : sn false low = n) (hD : sn false by' = d) (hs : ¬ (n < 0)) (hh : (tr false high != tr false (0)) = false) (hm : d = -1) (hl : (n == -2147483648) = true) :
    Calls Try.prog 21 #[.bool false, .int .i64 high, .int .i64 low, .int .i64 by'] w fun e w' => e = .returned (.tuple #[.int .i64 0, .int .i64 0, .bool false]) ∧ Below w.heap.size w w' := by
  go_enter Try.func21, Try.ntmps21
  go_wp2_with (first | (go_at_call 30; refine (rsigned_any _ _ _).mono ?_; rintro e w1 ⟨rfl, rfl⟩) | (go_at_call 13; refine (rtrim_any _ _ _).mono ?_; rintro e w1 ⟨rfl, rfl⟩))
  go_ret3
  exact ⟨rfl, Below.refl _ _⟩
set_option maxHeartbeats 1000000 in
theorem ridiv_negpn (high low by' n d : Int) (w : World) (hN : sn false low = n) (hD : sn false by' = d) (hs : ¬ (n < 0)) (hh : (tr false high != tr false (0)) = false) (hm : d = -1) (hl : (n == -2147483648) = false) :
    Calls Try.prog 21 #[.bool false, .int .i64 high, .int .i64 low, .int .i64 by'] w fun e w' => e = .returned (.tuple #[.int .i64 (M false (-n)), .int .i64 0, .bool true]) ∧ Below w.heap.size w w' := by
  go_enter Try.func21, Try.ntmps21
  go_wp2_with (first | (go_at_call 30; refine (rsigned_any _ _ _).mono ?_; rintro e w1 ⟨rfl, rfl⟩) | (go_at_call 13; refine (rtrim_any _ _ _).mono ?_; rintro e w1 ⟨rfl, rfl⟩))
  go_ret3
  exact ⟨ret_iib rfl rfl, Below.refl _ _⟩
set_option maxHeartbeats 1000000 in
theorem ridiv_leastpw (high low by' n d : Int) (w : World) (hN : sn true low = n) (hD : sn true by' = d) (hs : ¬ (n < 0)) (hh : (tr true high != tr true (0)) = false) (hm : d = -1) (hl : (n == -9223372036854775808) = true) :
    Calls Try.prog 21 #[.bool true, .int .i64 high, .int .i64 low, .int .i64 by'] w fun e w' => e = .returned (.tuple #[.int .i64 0, .int .i64 0, .bool false]) ∧ Below w.heap.size w w' := by
  go_enter Try.func21, Try.ntmps21
  go_wp2_with (first | (go_at_call 30; refine (rsigned_any _ _ _).mono ?_; rintro e w1 ⟨rfl, rfl⟩) | (go_at_call 13; refine (rtrim_any _ _ _).mono ?_; rintro e w1 ⟨rfl, rfl⟩))
  go_ret3
  exact ⟨rfl, Below.refl _ _⟩
set_option maxHeartbeats 1000000 in
theorem ridiv_negpw (high low by' n d : Int) (w : World) (hN : sn true low = n) (hD : sn true by' = d) (hs : ¬ (n < 0)) (hh : (tr true high != tr true (0)) = false) (hm : d = -1) (hl : (n == -9223372036854775808) = false) :
    Calls Try.prog 21 #[.bool true, .int .i64 high, .int .i64 low, .int .i64 by'] w fun e w' => e = .returned (.tuple #[.int .i64 (M true (-n)), .int .i64 0, .bool true]) ∧ Below w.heap.size w w' := by
  go_enter Try.func21, Try.ntmps21
  go_wp2_with (first | (go_at_call 30; refine (rsigned_any _ _ _).mono ?_; rintro e w1 ⟨rfl, rfl⟩) | (go_at_call 13; refine (rtrim_any _ _ _).mono ?_; rintro e w1 ⟨rfl, rfl⟩))
  go_ret3
  exact ⟨ret_iib rfl rfl, Below.refl _ _⟩
theorem ls_no : ls false = -2147483648 := rfl
theorem ls_yes : ls true = -9223372036854775808 := rfl
/-- the answers of Idiv, by the cases of the document -/
theorem iB_zero (wide : Bool) (high low by' : Int) (h : sn wide by' = 0) : iB wide high low by' = false := by simp [iB, h]
theorem i_no {wide : Bool} {high low by' : Int} (h : iB wide high low by' = false) : iQ wide high low by' = 0 ∧ iM wide high low by' = 0 := by
  unfold iQ iM; rw [h]; exact ⟨rfl, rfl⟩
theorem i_yes {wide : Bool} {high low by' : Int} (h : iB wide high low by' = true) : iQ wide high low by' = M wide ((sn wide low).tdiv (sn wide by')) ∧ iM wide high low by' = tr wide ((sn wide low).tmod (sn wide by')) := by
  unfold iQ iM; rw [h]; exact ⟨rfl, rfl⟩
theorem neg_one (n : Int) : n.tdiv (-1) = -n ∧ n.tmod (-1) = 0 := by
  constructor
  · rw [Int.tdiv_neg, Int.tdiv_one]
  · rw [Int.tmod_neg, Int.tmod_one]
theorem ridiv_any (wide : Bool) (high low by' : Int) (w : World) :
    Calls Try.prog 21 #[.bool wide, .int .i64 high, .int .i64 low, .int .i64 by'] w fun e w' => e = .returned (.tuple #[.int .i64 (iQ wide high low by'), .int .i64 (iM wide high low by'), .bool (iB wide high low by')]) ∧ Below w.heap.size w w' := by
  cases hb : iB wide high low by'
  · obtain ⟨q1, q2⟩ := i_no hb
    rw [q1, q2]
    by_cases hs : sn wide low < 0
    · have e : sgi (sn wide low) = -1 := if_pos hs
      by_cases hd : sn wide by' = 0
      · exact ridiv_zerom wide high low by' _ _ w rfl rfl hd hs
      · have hd' : (sn wide by' == 0) = false := beq_eq_false_iff_ne.mpr hd
        cases hh : (tr wide high != tr wide (-1))
        · simp only [iB, e, hd', Bool.not_false, Bool.true_and, Bool.and_eq_false_iff, Bool.not_eq_false', Bool.and_eq_true] at hb
          rcases hb with hb | ⟨hl, hm⟩
          · rw [bne, hb] at hh; cases hh
          · cases wide
            · exact ridiv_leastmn high low by' _ _ w rfl rfl hs hh (by simpa using hm) hl
            · exact ridiv_leastmw high low by' _ _ w rfl rfl hs hh (by simpa using hm) hl
        · exact ridiv_highm wide high low by' _ _ w rfl rfl hd' hs hh
    · have e : sgi (sn wide low) = 0 := if_neg hs
      by_cases hd : sn wide by' = 0
      · exact ridiv_zerop wide high low by' _ _ w rfl rfl hd hs
      · have hd' : (sn wide by' == 0) = false := beq_eq_false_iff_ne.mpr hd
        cases hh : (tr wide high != tr wide 0)
        · simp only [iB, e, hd', Bool.not_false, Bool.true_and, Bool.and_eq_false_iff, Bool.not_eq_false', Bool.and_eq_true] at hb
          rcases hb with hb | ⟨hl, hm⟩
          · rw [bne, hb] at hh; cases hh
          · cases wide
            · exact ridiv_leastpn high low by' _ _ w rfl rfl hs hh (by simpa using hm) hl
            · exact ridiv_leastpw high low by' _ _ w rfl rfl hs hh (by simpa using hm) hl
        · exact ridiv_highp wide high low by' _ _ w rfl rfl hd' hs hh
  · obtain ⟨q1, q2⟩ := i_yes hb
    rw [q1, q2]
    simp only [iB, Bool.and_eq_true, Bool.not_eq_true'] at hb
    obtain ⟨⟨hd, hh⟩, hl⟩ := hb
    have hd' : ¬ (sn wide by' = 0) := beq_eq_false_iff_ne.mp hd
    have hh' : (tr wide high != tr wide (sgi (sn wide low))) = false := by rw [bne, hh]; rfl
    by_cases hs : sn wide low < 0
    · rw [show sgi (sn wide low) = -1 from if_pos hs] at hh'
      cases hm : (sn wide by' == -1)
      · exact ridiv_genm wide high low by' _ _ w rfl rfl hd hd' hs hh' hm
      · have hm' : sn wide by' = -1 := by simpa using hm
        rw [hm, Bool.and_true] at hl
        rw [hm', (neg_one _).1, (neg_one _).2, show tr wide 0 = 0 by cases wide <;> rfl]
        cases wide
        · exact ridiv_negmn high low by' _ _ w rfl rfl hs hh' hm' hl
        · exact ridiv_negmw high low by' _ _ w rfl rfl hs hh' hm' hl
    · rw [show sgi (sn wide low) = 0 from if_neg hs] at hh'
      cases hm : (sn wide by' == -1)
      · exact ridiv_genp wide high low by' _ _ w rfl rfl hd hd' hs hh' hm
      · have hm' : sn wide by' = -1 := by simpa using hm
        rw [hm, Bool.and_true] at hl
        rw [hm', (neg_one _).1, (neg_one _).2, show tr wide 0 = 0 by cases wide <;> rfl]
        cases wide
        · exact ridiv_negpn high low by' _ _ w rfl rfl hs hh' hm' hl
        · exact ridiv_negpw high low by' _ _ w rfl rfl hs hh' hm' hl
end Go.Proofs.Ytmcjdlmbidlckaa
