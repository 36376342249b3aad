/-
  The program's Idiv answers what the plain functions iB, iQ, iM tell: quotient and rest of signed numbers, or nothing; nothing is changed.
-/
import Derived.Test.YtielpebokbolbaaFDiv
import Derived.BigQuiet
import Derived.Deep.QuietTactic
import Derived.Deep.Draws
namespace Go.Proofs.Ytielpebokbolbaa.Fg
open Go.RowKit

/-- may it be divided? -/
def iB (wide : Bool) (high low by' : Int) : Bool :=
  !(sn wide by' == 0) && (tr wide high == tr wide (sgi (sn wide low))) && !(sn wide low == ls wide && sn wide by' == -1)
def iQ (wide : Bool) (high low by' : Int) : Int := if iB wide high low by' then M wide ((sn wide low).tdiv (sn wide by')) else 0
def iM (wide : Bool) (high low by' : Int) : Int := if iB wide high low by' then tr wide ((sn wide low).tmod (sn wide by')) else 0

theorem below_drewN (n₀ m : Nat) (w : World) : Below n₀ w (w.drewN m) := ⟨rfl, rfl, rfl, Nat.le_refl _, fun _ _ => rfl⟩
set_option maxHeartbeats 1000000 in
theorem idiv_zero (wide : Bool) (high low by' : Int) (w : World) (h2 : I64 low) (hd : sn wide by' = 0) :
    Calls Try.prog 58 #[.bool wide, .int .i64 high, .int .i64 low, .int .i64 by'] w fun e w' => e = .returned (.tuple #[.int .i64 0, .int .i64 0, .bool false]) ∧ Below w.heap.size w w' := by
  have HN := hide (sn_i64 wide low h2)
  clear h2
  go_enter Try.func58, Try.ntmps58
  go_wp2_with (first | (go_at_call 71; refine (signed_any _ _ _).mono ?_; rintro e w1 ⟨rfl, rfl⟩) | (go_at_call 38; refine (trim_any _ _ _).mono ?_; rintro e w1 ⟨rfl, rfl⟩) | (go_at_call 73; refine (least_any _ _).mono ?_; rintro e w1 ⟨rfl, rfl⟩) | (go_at_call 72; refine (sign_any _ _ HN.out).mono ?_; rintro e w1 ⟨rfl, rfl⟩))
  go_ret3
  exact ⟨rfl, Below.refl _ _⟩
set_option maxHeartbeats 1000000 in
theorem idiv_high (wide : Bool) (high low by' : Int) (w : World) (h2 : I64 low) (hd : (sn wide by' == 0) = false) (hh : (tr wide high != tr wide (sgi (sn wide low))) = true) :
    Calls Try.prog 58 #[.bool wide, .int .i64 high, .int .i64 low, .int .i64 by'] w fun e w' => e = .returned (.tuple #[.int .i64 0, .int .i64 0, .bool false]) ∧ Below w.heap.size w w' := by
  have HN := hide (sn_i64 wide low h2)
  clear h2
  go_enter Try.func58, Try.ntmps58
  go_wp2_with (first | (go_at_call 71; refine (signed_any _ _ _).mono ?_; rintro e w1 ⟨rfl, rfl⟩) | (go_at_call 38; refine (trim_any _ _ _).mono ?_; rintro e w1 ⟨rfl, rfl⟩) | (go_at_call 73; refine (least_any _ _).mono ?_; rintro e w1 ⟨rfl, rfl⟩) | (go_at_call 72; refine (sign_any _ _ HN.out).mono ?_; rintro e w1 ⟨rfl, rfl⟩))
  go_ret3
  exact ⟨rfl, Below.refl _ _⟩
set_option maxHeartbeats 1000000 in
theorem idiv_least (wide : Bool) (high low by' : Int) (w : World) (h2 : I64 low) (hd : (sn wide by' == 0) = false) (hh : (tr wide high != tr wide (sgi (sn wide low))) = false) (hl : (sn wide low == ls wide) = true) (hm : (sn wide by' == -1) = true) :
    Calls Try.prog 58 #[.bool wide, .int .i64 high, .int .i64 low, .int .i64 by'] w fun e w' => e = .returned (.tuple #[.int .i64 0, .int .i64 0, .bool false]) ∧ Below w.heap.size w w' := by
  have HN := hide (sn_i64 wide low h2)
  clear h2
  go_enter Try.func58, Try.ntmps58
  go_wp2_with (first | (go_at_call 71; refine (signed_any _ _ _).mono ?_; rintro e w1 ⟨rfl, rfl⟩) | (go_at_call 38; refine (trim_any _ _ _).mono ?_; rintro e w1 ⟨rfl, rfl⟩) | (go_at_call 73; refine (least_any _ _).mono ?_; rintro e w1 ⟨rfl, rfl⟩) | (go_at_call 72; refine (sign_any _ _ HN.out).mono ?_; rintro e w1 ⟨rfl, rfl⟩))
  go_ret3
  exact ⟨rfl, Below.refl _ _⟩
set_option maxHeartbeats 1000000 in
theorem idiv_yesA (wide : Bool) (high low by' : Int) (w : World) (h2 : I64 low) (hd : (sn wide by' == 0) = false) (hd' : ¬ (sn wide by' = 0)) (hh : (tr wide high != tr wide (sgi (sn wide low))) = false) (hl : (sn wide low == ls wide) = false) :
    Calls Try.prog 58 #[.bool wide, .int .i64 high, .int .i64 low, .int .i64 by'] w fun e w' => e = .returned (.tuple #[.int .i64 (M wide ((sn wide low).tdiv (sn wide by'))), .int .i64 (tr wide ((sn wide low).tmod (sn wide by'))), .bool true]) ∧ Below w.heap.size w w' := by
  have HN := hide (sn_i64 wide low h2)
  clear h2
  go_enter Try.func58, Try.ntmps58
  go_wp2_with (first | (go_at_call 71; refine (signed_any _ _ _).mono ?_; rintro e w1 ⟨rfl, rfl⟩) | (go_at_call 38; refine (trim_any _ _ _).mono ?_; rintro e w1 ⟨rfl, rfl⟩) | (go_at_call 73; refine (least_any _ _).mono ?_; rintro e w1 ⟨rfl, rfl⟩) | (go_at_call 72; refine (sign_any _ _ HN.out).mono ?_; rintro e w1 ⟨rfl, rfl⟩))
  go_quiet (first | (go_at_call 38; refine Calls.quiet_of_same (trim_any _ _ _)))
  go_wp2_with fail
  go_ret3
  exact ⟨ret_iib rfl rfl, below_drewN _ _ _⟩
set_option maxHeartbeats 1000000 in
theorem idiv_yesB (wide : Bool) (high low by' : Int) (w : World) (h2 : I64 low) (hd : (sn wide by' == 0) = false) (hd' : ¬ (sn wide by' = 0)) (hh : (tr wide high != tr wide (sgi (sn wide low))) = false) (hl : (sn wide low == ls wide) = true) (hm : (sn wide by' == -1) = false) :
    Calls Try.prog 58 #[.bool wide, .int .i64 high, .int .i64 low, .int .i64 by'] w fun e w' => e = .returned (.tuple #[.int .i64 (M wide ((sn wide low).tdiv (sn wide by'))), .int .i64 (tr wide ((sn wide low).tmod (sn wide by'))), .bool true]) ∧ Below w.heap.size w w' := by
  have HN := hide (sn_i64 wide low h2)
  clear h2
  go_enter Try.func58, Try.ntmps58
  go_wp2_with (first | (go_at_call 71; refine (signed_any _ _ _).mono ?_; rintro e w1 ⟨rfl, rfl⟩) | (go_at_call 38; refine (trim_any _ _ _).mono ?_; rintro e w1 ⟨rfl, rfl⟩) | (go_at_call 73; refine (least_any _ _).mono ?_; rintro e w1 ⟨rfl, rfl⟩) | (go_at_call 72; refine (sign_any _ _ HN.out).mono ?_; rintro e w1 ⟨rfl, rfl⟩))
  go_quiet (first | (go_at_call 38; refine Calls.quiet_of_same (trim_any _ _ _)))
  go_wp2_with fail
  go_ret3
  exact ⟨ret_iib rfl rfl, below_drewN _ _ _⟩
theorem idiv_any (wide : Bool) (high low by' : Int) (w : World) (h2 : I64 low) :
    Calls Try.prog 58 #[.bool wide, .int .i64 high, .int .i64 low, .int .i64 by'] w fun e w' => e = .returned (.tuple #[.int .i64 (iQ wide high low by'), .int .i64 (iM wide high low by'), .bool (iB wide high low by')]) ∧ Below w.heap.size w w' := by
  unfold iQ iM
  cases hb : iB wide high low by'
  · rw [if_neg (by decide), if_neg (by decide)]
    simp only [iB, Bool.and_eq_false_iff, Bool.not_eq_false'] at hb
    rcases hb with (hd | hh) | hl
    · exact idiv_zero wide high low by' w h2 (by simpa using hd)
    · cases hd : (sn wide by' == 0)
      · exact idiv_high wide high low by' w h2 hd (by rw [bne, hh]; rfl)
      · exact idiv_zero wide high low by' w h2 (by simpa using hd)
    · rw [Bool.and_eq_true] at hl
      cases hd : (sn wide by' == 0)
      · cases hh : (tr wide high != tr wide (sgi (sn wide low)))
        · exact idiv_least wide high low by' w h2 hd hh hl.1 hl.2
        · exact idiv_high wide high low by' w h2 hd hh
      · exact idiv_zero wide high low by' w h2 (by simpa using hd)
  · rw [if_pos rfl, if_pos rfl]
    simp only [iB, Bool.and_eq_true, Bool.not_eq_true'] at hb
    obtain ⟨⟨hd, hh⟩, hl⟩ := hb
    have hh' : (tr wide high != tr wide (sgi (sn wide low))) = false := by rw [bne, hh]; rfl
    cases hl' : (sn wide low == ls wide)
    · exact idiv_yesA wide high low by' w h2 hd (by simpa using hd) hh' hl'
    · rw [hl', Bool.true_and] at hl
      exact idiv_yesB wide high low by' w h2 hd (by simpa using hd) hh' hl' hl
end Go.Proofs.Ytielpebokbolbaa.Fg
