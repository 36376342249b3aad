/-
  The document's own Shift answers what the plain functions sR, sK tell, and changes nothing.
-/
import Derived.Test.YtmcjdlmbidlckaaRShS
import Derived.Test.YtmcjdlmbidlckaaRAlu
namespace Go.Proofs.Ytmcjdlmbidlckaa
open Go.RowKit

theorem and31 (v : Int) : bits .and .i64 v 31 = v % 32 := by
  show IntKind.i64.wrap ((BitVec.ofInt 64 v &&& BitVec.ofInt 64 31).toNat : Int) = _
  rw [BitVec.toNat_and]
  have e : (BitVec.ofInt 64 31).toNat = 2 ^ 5 - 1 := by decide
  rw [e, Nat.and_two_pow_sub_one_eq_mod, BitVec.toNat_ofInt]
  have h0 : (0 : Int) ≤ v % 18446744073709551616 := Int.emod_nonneg _ (by decide)
  have e2 : (((v % ((2 ^ 64 : Nat) : Int)).toNat % 2 ^ 5 : Nat) : Int) = v % 32 := by
    have e3 : ((2 ^ 64 : Nat) : Int) = 18446744073709551616 := by decide
    rw [e3]; omega
  rw [e2]
  have h1 : 0 ≤ v % 32 ∧ v % 32 < 32 := by omega
  generalize v % 32 = x at h1 ⊢
  simp [IntKind.wrap, IntKind.bits, IntKind.signed]
  omega
theorem and63 (v : Int) : bits .and .i64 v 63 = v % 64 := by
  show IntKind.i64.wrap ((BitVec.ofInt 64 v &&& BitVec.ofInt 64 63).toNat : Int) = _
  rw [BitVec.toNat_and]
  have e : (BitVec.ofInt 64 63).toNat = 2 ^ 6 - 1 := by decide
  rw [e, Nat.and_two_pow_sub_one_eq_mod, BitVec.toNat_ofInt]
  have h0 : (0 : Int) ≤ v % 18446744073709551616 := Int.emod_nonneg _ (by decide)
  have e2 : (((v % ((2 ^ 64 : Nat) : Int)).toNat % 2 ^ 6 : Nat) : Int) = v % 64 := by
    have e3 : ((2 ^ 64 : Nat) : Int) = 18446744073709551616 := by decide
    rw [e3]; omega
  rw [e2]
  have h1 : 0 ≤ v % 64 ∧ v % 64 < 64 := by omega
  generalize v % 64 = x at h1 ⊢
  simp [IntKind.wrap, IntKind.bits, IntKind.signed]
  omega
theorem w63 : wrap64 9223372036854775808 = -9223372036854775808 := by simp only [wrap64]; omega
theorem rf32 (b : Int) : bits .and .i64 b 31 = (far false b : Int) := by
  rw [and31]; simp only [far, wd_no, un]; omega
theorem rf64 (b : Int) : bits .and .i64 b 63 = (far true b : Int) := by
  rw [and63]; simp only [far, wd_yes, un]; omega
theorem rbits_no (w : World) : Calls Try.prog 26 #[.bool false] w fun e w' => e = .returned (.int .i64 32) ∧ w' = w := by
  go_enter Try.func26, Try.ntmps26
  go_wp2
  go_ret
  exact ⟨rfl, rfl⟩
theorem rbits_yes (w : World) : Calls Try.prog 26 #[.bool true] w fun e w' => e = .returned (.int .i64 64) ∧ w' = w := by
  go_enter Try.func26, Try.ntmps26
  go_wp2
  go_ret
  exact ⟨rfl, rfl⟩
set_option maxHeartbeats 2000000 in
theorem rshift_0n (v n : Int) (w : World) (hv : I64 v) :
    Calls Try.prog 17 #[.int .i64 0, .bool false, .int .i64 v, .int .i64 n] w fun e w' => e = .returned (.tuple #[.int .i64 (sR 0 false (tr false v) (far false n)), .bool true]) ∧ w' = w := by
  have hX := tr_wd false v hv
  have HX := hide hX
  have HS := hide (sR_start 0 rfl false _ hX)
  clear hv hX
  have hn := rf32 n
  have hl : far false n < 32 := far_lt false n
  obtain ⟨X, hx⟩ : ∃ X, tr false v = X := ⟨_, rfl⟩
  rw [hx] at HX HS ⊢
  have Hx := hide hx
  clear hx
  generalize far false n = m at hn hl ⊢
  go_enter Try.func17, Try.ntmps17
  go_wp2_with fail
  refine (rtrim_any _ _ _).mono ?_
  rintro e w1 ⟨rfl, rfl⟩
  rw [Hx.out]
  go_wp2_with (first | (go_at_call 13; refine (rtrim_any _ _ _).mono ?_; rintro e w1 ⟨rfl, rfl⟩) | (go_at_call 23; refine (rtop_any _ _ _).mono ?_; rintro e w1 ⟨rfl, rfl⟩) | (go_at_call 26; refine (rbits_no _).mono ?_; rintro e w1 ⟨rfl, rfl⟩))
  clear hn
  go_loop [2, 11] (fun x i => ∃ j : Nat, j ≤ m ∧ i = .int .i64 j ∧ x = .int .i64 (sR 0 false X j)) (fun _ i => m - (intOf i).toNat)
  case atStart => exact ⟨0, Nat.zero_le _, rfl, by rw [HS.out]⟩
  case round =>
    obtain ⟨j, hj, rfl, rfl⟩ := hrel
    by_cases hlt : j < m
    · have hjN : Hid (j < wd false) := hide (show j < 32 by omega)
      cases hb : tp false (sR 0 false X j)
      · have HB := hide hb
        go_wp2_with (first | (go_at_call 13; refine (rtrim_any _ _ _).mono ?_; rintro e w1 ⟨rfl, rfl⟩) | (go_at_call 23; refine (rtop_any _ _ _).mono ?_; rintro e w1 ⟨rfl, rfl⟩) | (go_at_call 26; refine (rbits_no _).mono ?_; rintro e w1 ⟨rfl, rfl⟩))
        go_round
        case rel => exact ⟨j + 1, hlt, by go_num, congrArg (Value.int .i64) (st0_no false X j hjN.out HB.out)⟩
        case measure => simp [intOf]; omega
      · have HB := hide hb
        go_wp2_with (first | (go_at_call 13; refine (rtrim_any _ _ _).mono ?_; rintro e w1 ⟨rfl, rfl⟩) | (go_at_call 23; refine (rtop_any _ _ _).mono ?_; rintro e w1 ⟨rfl, rfl⟩) | (go_at_call 26; refine (rbits_no _).mono ?_; rintro e w1 ⟨rfl, rfl⟩))
        go_round
        case rel => exact ⟨j + 1, hlt, by go_num, congrArg (Value.int .i64) (st0_yes false X j hjN.out HB.out)⟩
        case measure => simp [intOf]; omega
    · obtain rfl : j = m := by omega
      go_wp2_with fail
      go_ret2
      exact ⟨rfl, rfl⟩
set_option maxHeartbeats 2000000 in
theorem rshift_4n (v n : Int) (w : World) (hv : I64 v) :
    Calls Try.prog 17 #[.int .i64 4, .bool false, .int .i64 v, .int .i64 n] w fun e w' => e = .returned (.tuple #[.int .i64 (sR 4 false (tr false v) (far false n)), .bool true]) ∧ w' = w := by
  have hX := tr_wd false v hv
  have HX := hide hX
  have HS := hide (sR_start 4 rfl false _ hX)
  clear hv hX
  have hn := rf32 n
  have hl : far false n < 32 := far_lt false n
  obtain ⟨X, hx⟩ : ∃ X, tr false v = X := ⟨_, rfl⟩
  rw [hx] at HX HS ⊢
  have Hx := hide hx
  clear hx
  generalize far false n = m at hn hl ⊢
  go_enter Try.func17, Try.ntmps17
  go_wp2_with fail
  refine (rtrim_any _ _ _).mono ?_
  rintro e w1 ⟨rfl, rfl⟩
  rw [Hx.out]
  go_wp2_with (first | (go_at_call 13; refine (rtrim_any _ _ _).mono ?_; rintro e w1 ⟨rfl, rfl⟩) | (go_at_call 23; refine (rtop_any _ _ _).mono ?_; rintro e w1 ⟨rfl, rfl⟩) | (go_at_call 26; refine (rbits_no _).mono ?_; rintro e w1 ⟨rfl, rfl⟩))
  clear hn
  go_loop [2, 11] (fun x i => ∃ j : Nat, j ≤ m ∧ i = .int .i64 j ∧ x = .int .i64 (sR 4 false X j)) (fun _ i => m - (intOf i).toNat)
  case atStart => exact ⟨0, Nat.zero_le _, rfl, by rw [HS.out]⟩
  case round =>
    obtain ⟨j, hj, rfl, rfl⟩ := hrel
    by_cases hlt : j < m
    · have hjN : Hid (j < wd false) := hide (show j < 32 by omega)
      go_wp2_with (first | (go_at_call 13; refine (rtrim_any _ _ _).mono ?_; rintro e w1 ⟨rfl, rfl⟩) | (go_at_call 23; refine (rtop_any _ _ _).mono ?_; rintro e w1 ⟨rfl, rfl⟩) | (go_at_call 26; refine (rbits_no _).mono ?_; rintro e w1 ⟨rfl, rfl⟩))
      go_round
      case rel => exact ⟨j + 1, hlt, by go_num, congrArg (Value.int .i64) (st4 false X j)⟩
      case measure => simp [intOf]; omega
    · obtain rfl : j = m := by omega
      go_wp2_with fail
      go_ret2
      exact ⟨rfl, rfl⟩
set_option maxHeartbeats 2000000 in
theorem rshift_5n (v n : Int) (w : World) (hv : I64 v) :
    Calls Try.prog 17 #[.int .i64 5, .bool false, .int .i64 v, .int .i64 n] w fun e w' => e = .returned (.tuple #[.int .i64 (sR 5 false (tr false v) (far false n)), .bool true]) ∧ w' = w := by
  have hX := tr_wd false v hv
  have HX := hide hX
  have HS := hide (sR_start 5 rfl false _ hX)
  clear hv hX
  have hn := rf32 n
  have hl : far false n < 32 := far_lt false n
  obtain ⟨X, hx⟩ : ∃ X, tr false v = X := ⟨_, rfl⟩
  rw [hx] at HX HS ⊢
  have Hx := hide hx
  clear hx
  generalize far false n = m at hn hl ⊢
  go_enter Try.func17, Try.ntmps17
  go_wp2_with fail
  refine (rtrim_any _ _ _).mono ?_
  rintro e w1 ⟨rfl, rfl⟩
  rw [Hx.out]
  go_wp2_with (first | (go_at_call 13; refine (rtrim_any _ _ _).mono ?_; rintro e w1 ⟨rfl, rfl⟩) | (go_at_call 23; refine (rtop_any _ _ _).mono ?_; rintro e w1 ⟨rfl, rfl⟩) | (go_at_call 26; refine (rbits_no _).mono ?_; rintro e w1 ⟨rfl, rfl⟩))
  clear hn
  go_loop [2, 11] (fun x i => ∃ j : Nat, j ≤ m ∧ i = .int .i64 j ∧ x = .int .i64 (sR 5 false X j)) (fun _ i => m - (intOf i).toNat)
  case atStart => exact ⟨0, Nat.zero_le _, rfl, by rw [HS.out]⟩
  case round =>
    obtain ⟨j, hj, rfl, rfl⟩ := hrel
    by_cases hlt : j < m
    · have hjN : Hid (j < wd false) := hide (show j < 32 by omega)
      go_wp2_with (first | (go_at_call 13; refine (rtrim_any _ _ _).mono ?_; rintro e w1 ⟨rfl, rfl⟩) | (go_at_call 23; refine (rtop_any _ _ _).mono ?_; rintro e w1 ⟨rfl, rfl⟩) | (go_at_call 26; refine (rbits_no _).mono ?_; rintro e w1 ⟨rfl, rfl⟩))
      go_round
      case rel => exact ⟨j + 1, hlt, by go_num, congrArg (Value.int .i64) (by rw [un_wrap]; exact st5 false X j HX.out)⟩
      case measure => simp [intOf]; omega
    · obtain rfl : j = m := by omega
      go_wp2_with fail
      go_ret2
      exact ⟨rfl, rfl⟩
set_option maxHeartbeats 2000000 in
theorem rshift_1n (v n : Int) (w : World) (hv : I64 v) :
    Calls Try.prog 17 #[.int .i64 1, .bool false, .int .i64 v, .int .i64 n] w fun e w' => e = .returned (.tuple #[.int .i64 (sR 1 false (tr false v) (far false n)), .bool true]) ∧ w' = w := by
  have hX := tr_wd false v hv
  have HX := hide hX
  have HS := hide (sR_start 1 rfl false _ hX)
  clear hv hX
  have hn := rf32 n
  have hl : far false n < 32 := far_lt false n
  obtain ⟨X, hx⟩ : ∃ X, tr false v = X := ⟨_, rfl⟩
  rw [hx] at HX HS ⊢
  have Hx := hide hx
  clear hx
  generalize far false n = m at hn hl ⊢
  go_enter Try.func17, Try.ntmps17
  go_wp2_with fail
  refine (rtrim_any _ _ _).mono ?_
  rintro e w1 ⟨rfl, rfl⟩
  rw [Hx.out]
  go_wp2_with (first | (go_at_call 13; refine (rtrim_any _ _ _).mono ?_; rintro e w1 ⟨rfl, rfl⟩) | (go_at_call 23; refine (rtop_any _ _ _).mono ?_; rintro e w1 ⟨rfl, rfl⟩) | (go_at_call 26; refine (rbits_no _).mono ?_; rintro e w1 ⟨rfl, rfl⟩))
  clear hn
  go_loop [2, 11] (fun x i => ∃ j : Nat, j ≤ m ∧ i = .int .i64 j ∧ x = .int .i64 (sR 1 false X j)) (fun _ i => m - (intOf i).toNat)
  case atStart => exact ⟨0, Nat.zero_le _, rfl, by rw [HS.out]⟩
  case round =>
    obtain ⟨j, hj, rfl, rfl⟩ := hrel
    by_cases hlt : j < m
    · have hjN : Hid (j < wd false) := hide (show j < 32 by omega)
      cases hb : (bits .and .i64 (sR 1 false X j) 1 == 1)
      · have HB := hide hb
        go_wp2_with (first | (go_at_call 13; refine (rtrim_any _ _ _).mono ?_; rintro e w1 ⟨rfl, rfl⟩) | (go_at_call 23; refine (rtop_any _ _ _).mono ?_; rintro e w1 ⟨rfl, rfl⟩) | (go_at_call 26; refine (rbits_no _).mono ?_; rintro e w1 ⟨rfl, rfl⟩))
        go_round
        case rel => exact ⟨j + 1, hlt, by go_num, congrArg (Value.int .i64) (by rw [un_wrap]; exact st1_no false X j hjN.out HB.out)⟩
        case measure => simp [intOf]; omega
      · have HB := hide hb
        go_wp2_with (first | (go_at_call 13; refine (rtrim_any _ _ _).mono ?_; rintro e w1 ⟨rfl, rfl⟩) | (go_at_call 23; refine (rtop_any _ _ _).mono ?_; rintro e w1 ⟨rfl, rfl⟩) | (go_at_call 26; refine (rbits_no _).mono ?_; rintro e w1 ⟨rfl, rfl⟩))
        go_round
        case rel => exact ⟨j + 1, hlt, by go_num, congrArg (Value.int .i64) (by rw [un_wrap]; exact st1_yn X j hjN.out HB.out)⟩
        case measure => simp [intOf]; omega
    · obtain rfl : j = m := by omega
      go_wp2_with fail
      go_ret2
      exact ⟨rfl, rfl⟩
set_option maxHeartbeats 2000000 in
theorem rshift_7n (v n : Int) (w : World) (hv : I64 v) :
    Calls Try.prog 17 #[.int .i64 7, .bool false, .int .i64 v, .int .i64 n] w fun e w' => e = .returned (.tuple #[.int .i64 (sR 7 false (tr false v) (far false n)), .bool true]) ∧ w' = w := by
  have hX := tr_wd false v hv
  have HX := hide hX
  have HS := hide (sR_start 7 rfl false _ hX)
  clear hv hX
  have hn := rf32 n
  have hl : far false n < 32 := far_lt false n
  obtain ⟨X, hx⟩ : ∃ X, tr false v = X := ⟨_, rfl⟩
  rw [hx] at HX HS ⊢
  have Hx := hide hx
  clear hx
  generalize far false n = m at hn hl ⊢
  go_enter Try.func17, Try.ntmps17
  go_wp2_with fail
  refine (rtrim_any _ _ _).mono ?_
  rintro e w1 ⟨rfl, rfl⟩
  rw [Hx.out]
  go_wp2_with (first | (go_at_call 13; refine (rtrim_any _ _ _).mono ?_; rintro e w1 ⟨rfl, rfl⟩) | (go_at_call 23; refine (rtop_any _ _ _).mono ?_; rintro e w1 ⟨rfl, rfl⟩) | (go_at_call 26; refine (rbits_no _).mono ?_; rintro e w1 ⟨rfl, rfl⟩))
  clear hn
  go_loop [2, 11] (fun x i => ∃ j : Nat, j ≤ m ∧ i = .int .i64 j ∧ x = .int .i64 (sR 7 false X j)) (fun _ i => m - (intOf i).toNat)
  case atStart => exact ⟨0, Nat.zero_le _, rfl, by rw [HS.out]⟩
  case round =>
    obtain ⟨j, hj, rfl, rfl⟩ := hrel
    by_cases hlt : j < m
    · have hjN : Hid (j < wd false) := hide (show j < 32 by omega)
      cases hb : tp false (sR 7 false X j)
      · have HB := hide hb
        go_wp2_with (first | (go_at_call 13; refine (rtrim_any _ _ _).mono ?_; rintro e w1 ⟨rfl, rfl⟩) | (go_at_call 23; refine (rtop_any _ _ _).mono ?_; rintro e w1 ⟨rfl, rfl⟩) | (go_at_call 26; refine (rbits_no _).mono ?_; rintro e w1 ⟨rfl, rfl⟩))
        go_round
        case rel => exact ⟨j + 1, hlt, by go_num, congrArg (Value.int .i64) (by rw [un_wrap]; exact (st7_n X j _ HB.out).1 rfl)⟩
        case measure => simp [intOf]; omega
      · have HB := hide hb
        go_wp2_with (first | (go_at_call 13; refine (rtrim_any _ _ _).mono ?_; rintro e w1 ⟨rfl, rfl⟩) | (go_at_call 23; refine (rtop_any _ _ _).mono ?_; rintro e w1 ⟨rfl, rfl⟩) | (go_at_call 26; refine (rbits_no _).mono ?_; rintro e w1 ⟨rfl, rfl⟩))
        go_round
        case rel => exact ⟨j + 1, hlt, by go_num, congrArg (Value.int .i64) (by rw [un_wrap]; exact (st7_n X j _ HB.out).2 rfl)⟩
        case measure => simp [intOf]; omega
    · obtain rfl : j = m := by omega
      go_wp2_with fail
      go_ret2
      exact ⟨rfl, rfl⟩
set_option maxHeartbeats 2000000 in
theorem rshift_0w (v n : Int) (w : World) (hv : I64 v) :
    Calls Try.prog 17 #[.int .i64 0, .bool true, .int .i64 v, .int .i64 n] w fun e w' => e = .returned (.tuple #[.int .i64 (sR 0 true (tr true v) (far true n)), .bool true]) ∧ w' = w := by
  have hX := tr_wd true v hv
  have HX := hide hX
  have HS := hide (sR_start 0 rfl true _ hX)
  clear hv hX
  have hn := rf64 n
  have hl : far true n < 64 := far_lt true n
  obtain ⟨X, hx⟩ : ∃ X, tr true v = X := ⟨_, rfl⟩
  rw [hx] at HX HS ⊢
  have Hx := hide hx
  clear hx
  generalize far true n = m at hn hl ⊢
  go_enter Try.func17, Try.ntmps17
  go_wp2_with fail
  refine (rtrim_any _ _ _).mono ?_
  rintro e w1 ⟨rfl, rfl⟩
  rw [Hx.out]
  go_wp2_with (first | (go_at_call 13; refine (rtrim_any _ _ _).mono ?_; rintro e w1 ⟨rfl, rfl⟩) | (go_at_call 23; refine (rtop_any _ _ _).mono ?_; rintro e w1 ⟨rfl, rfl⟩) | (go_at_call 26; refine (rbits_yes _).mono ?_; rintro e w1 ⟨rfl, rfl⟩))
  clear hn
  go_loop [2, 11] (fun x i => ∃ j : Nat, j ≤ m ∧ i = .int .i64 j ∧ x = .int .i64 (sR 0 true X j)) (fun _ i => m - (intOf i).toNat)
  case atStart => exact ⟨0, Nat.zero_le _, rfl, by rw [HS.out]⟩
  case round =>
    obtain ⟨j, hj, rfl, rfl⟩ := hrel
    by_cases hlt : j < m
    · have hjN : Hid (j < wd true) := hide (show j < 64 by omega)
      cases hb : tp true (sR 0 true X j)
      · have HB := hide hb
        go_wp2_with (first | (go_at_call 13; refine (rtrim_any _ _ _).mono ?_; rintro e w1 ⟨rfl, rfl⟩) | (go_at_call 23; refine (rtop_any _ _ _).mono ?_; rintro e w1 ⟨rfl, rfl⟩) | (go_at_call 26; refine (rbits_yes _).mono ?_; rintro e w1 ⟨rfl, rfl⟩))
        go_round
        case rel => exact ⟨j + 1, hlt, by go_num, congrArg (Value.int .i64) (st0_no true X j hjN.out HB.out)⟩
        case measure => simp [intOf]; omega
      · have HB := hide hb
        go_wp2_with (first | (go_at_call 13; refine (rtrim_any _ _ _).mono ?_; rintro e w1 ⟨rfl, rfl⟩) | (go_at_call 23; refine (rtop_any _ _ _).mono ?_; rintro e w1 ⟨rfl, rfl⟩) | (go_at_call 26; refine (rbits_yes _).mono ?_; rintro e w1 ⟨rfl, rfl⟩))
        go_round
        case rel => exact ⟨j + 1, hlt, by go_num, congrArg (Value.int .i64) (st0_yes true X j hjN.out HB.out)⟩
        case measure => simp [intOf]; omega
    · obtain rfl : j = m := by omega
      go_wp2_with fail
      go_ret2
      exact ⟨rfl, rfl⟩
set_option maxHeartbeats 2000000 in
theorem rshift_4w (v n : Int) (w : World) (hv : I64 v) :
    Calls Try.prog 17 #[.int .i64 4, .bool true, .int .i64 v, .int .i64 n] w fun e w' => e = .returned (.tuple #[.int .i64 (sR 4 true (tr true v) (far true n)), .bool true]) ∧ w' = w := by
  have hX := tr_wd true v hv
  have HX := hide hX
  have HS := hide (sR_start 4 rfl true _ hX)
  clear hv hX
  have hn := rf64 n
  have hl : far true n < 64 := far_lt true n
  obtain ⟨X, hx⟩ : ∃ X, tr true v = X := ⟨_, rfl⟩
  rw [hx] at HX HS ⊢
  have Hx := hide hx
  clear hx
  generalize far true n = m at hn hl ⊢
  go_enter Try.func17, Try.ntmps17
  go_wp2_with fail
  refine (rtrim_any _ _ _).mono ?_
  rintro e w1 ⟨rfl, rfl⟩
  rw [Hx.out]
  go_wp2_with (first | (go_at_call 13; refine (rtrim_any _ _ _).mono ?_; rintro e w1 ⟨rfl, rfl⟩) | (go_at_call 23; refine (rtop_any _ _ _).mono ?_; rintro e w1 ⟨rfl, rfl⟩) | (go_at_call 26; refine (rbits_yes _).mono ?_; rintro e w1 ⟨rfl, rfl⟩))
  clear hn
  go_loop [2, 11] (fun x i => ∃ j : Nat, j ≤ m ∧ i = .int .i64 j ∧ x = .int .i64 (sR 4 true X j)) (fun _ i => m - (intOf i).toNat)
  case atStart => exact ⟨0, Nat.zero_le _, rfl, by rw [HS.out]⟩
  case round =>
    obtain ⟨j, hj, rfl, rfl⟩ := hrel
    by_cases hlt : j < m
    · have hjN : Hid (j < wd true) := hide (show j < 64 by omega)
      go_wp2_with (first | (go_at_call 13; refine (rtrim_any _ _ _).mono ?_; rintro e w1 ⟨rfl, rfl⟩) | (go_at_call 23; refine (rtop_any _ _ _).mono ?_; rintro e w1 ⟨rfl, rfl⟩) | (go_at_call 26; refine (rbits_yes _).mono ?_; rintro e w1 ⟨rfl, rfl⟩))
      go_round
      case rel => exact ⟨j + 1, hlt, by go_num, congrArg (Value.int .i64) (st4 true X j)⟩
      case measure => simp [intOf]; omega
    · obtain rfl : j = m := by omega
      go_wp2_with fail
      go_ret2
      exact ⟨rfl, rfl⟩
set_option maxHeartbeats 2000000 in
theorem rshift_5w (v n : Int) (w : World) (hv : I64 v) :
    Calls Try.prog 17 #[.int .i64 5, .bool true, .int .i64 v, .int .i64 n] w fun e w' => e = .returned (.tuple #[.int .i64 (sR 5 true (tr true v) (far true n)), .bool true]) ∧ w' = w := by
  have hX := tr_wd true v hv
  have HX := hide hX
  have HS := hide (sR_start 5 rfl true _ hX)
  clear hv hX
  have hn := rf64 n
  have hl : far true n < 64 := far_lt true n
  obtain ⟨X, hx⟩ : ∃ X, tr true v = X := ⟨_, rfl⟩
  rw [hx] at HX HS ⊢
  have Hx := hide hx
  clear hx
  generalize far true n = m at hn hl ⊢
  go_enter Try.func17, Try.ntmps17
  go_wp2_with fail
  refine (rtrim_any _ _ _).mono ?_
  rintro e w1 ⟨rfl, rfl⟩
  rw [Hx.out]
  go_wp2_with (first | (go_at_call 13; refine (rtrim_any _ _ _).mono ?_; rintro e w1 ⟨rfl, rfl⟩) | (go_at_call 23; refine (rtop_any _ _ _).mono ?_; rintro e w1 ⟨rfl, rfl⟩) | (go_at_call 26; refine (rbits_yes _).mono ?_; rintro e w1 ⟨rfl, rfl⟩))
  clear hn
  go_loop [2, 11] (fun x i => ∃ j : Nat, j ≤ m ∧ i = .int .i64 j ∧ x = .int .i64 (sR 5 true X j)) (fun _ i => m - (intOf i).toNat)
  case atStart => exact ⟨0, Nat.zero_le _, rfl, by rw [HS.out]⟩
  case round =>
    obtain ⟨j, hj, rfl, rfl⟩ := hrel
    by_cases hlt : j < m
    · have hjN : Hid (j < wd true) := hide (show j < 64 by omega)
      go_wp2_with (first | (go_at_call 13; refine (rtrim_any _ _ _).mono ?_; rintro e w1 ⟨rfl, rfl⟩) | (go_at_call 23; refine (rtop_any _ _ _).mono ?_; rintro e w1 ⟨rfl, rfl⟩) | (go_at_call 26; refine (rbits_yes _).mono ?_; rintro e w1 ⟨rfl, rfl⟩))
      go_round
      case rel => exact ⟨j + 1, hlt, by go_num, congrArg (Value.int .i64) (by rw [un_wrap]; exact st5 true X j HX.out)⟩
      case measure => simp [intOf]; omega
    · obtain rfl : j = m := by omega
      go_wp2_with fail
      go_ret2
      exact ⟨rfl, rfl⟩
set_option maxHeartbeats 2000000 in
theorem rshift_1w (v n : Int) (w : World) (hv : I64 v) :
    Calls Try.prog 17 #[.int .i64 1, .bool true, .int .i64 v, .int .i64 n] w fun e w' => e = .returned (.tuple #[.int .i64 (sR 1 true (tr true v) (far true n)), .bool true]) ∧ w' = w := by
  have hX := tr_wd true v hv
  have HX := hide hX
  have HS := hide (sR_start 1 rfl true _ hX)
  clear hv hX
  have hn := rf64 n
  have hl : far true n < 64 := far_lt true n
  obtain ⟨X, hx⟩ : ∃ X, tr true v = X := ⟨_, rfl⟩
  rw [hx] at HX HS ⊢
  have Hx := hide hx
  clear hx
  generalize far true n = m at hn hl ⊢
  go_enter Try.func17, Try.ntmps17
  go_wp2_with fail
  refine (rtrim_any _ _ _).mono ?_
  rintro e w1 ⟨rfl, rfl⟩
  rw [Hx.out]
  go_wp2_with (first | (go_at_call 13; refine (rtrim_any _ _ _).mono ?_; rintro e w1 ⟨rfl, rfl⟩) | (go_at_call 23; refine (rtop_any _ _ _).mono ?_; rintro e w1 ⟨rfl, rfl⟩) | (go_at_call 26; refine (rbits_yes _).mono ?_; rintro e w1 ⟨rfl, rfl⟩))
  clear hn
  go_loop [2, 11] (fun x i => ∃ j : Nat, j ≤ m ∧ i = .int .i64 j ∧ x = .int .i64 (sR 1 true X j)) (fun _ i => m - (intOf i).toNat)
  case atStart => exact ⟨0, Nat.zero_le _, rfl, by rw [HS.out]⟩
  case round =>
    obtain ⟨j, hj, rfl, rfl⟩ := hrel
    by_cases hlt : j < m
    · have hjN : Hid (j < wd true) := hide (show j < 64 by omega)
      cases hb : (bits .and .i64 (sR 1 true X j) 1 == 1)
      · have HB := hide hb
        go_wp2_with (first | (go_at_call 13; refine (rtrim_any _ _ _).mono ?_; rintro e w1 ⟨rfl, rfl⟩) | (go_at_call 23; refine (rtop_any _ _ _).mono ?_; rintro e w1 ⟨rfl, rfl⟩) | (go_at_call 26; refine (rbits_yes _).mono ?_; rintro e w1 ⟨rfl, rfl⟩))
        go_round
        case rel => exact ⟨j + 1, hlt, by go_num, congrArg (Value.int .i64) (by rw [un_wrap]; exact st1_no true X j hjN.out HB.out)⟩
        case measure => simp [intOf]; omega
      · have HB := hide hb
        go_wp2_with (first | (go_at_call 13; refine (rtrim_any _ _ _).mono ?_; rintro e w1 ⟨rfl, rfl⟩) | (go_at_call 23; refine (rtop_any _ _ _).mono ?_; rintro e w1 ⟨rfl, rfl⟩) | (go_at_call 26; refine (rbits_yes _).mono ?_; rintro e w1 ⟨rfl, rfl⟩))
        go_round
        case rel => exact ⟨j + 1, hlt, by go_num, congrArg (Value.int .i64) (by rw [un_wrap]; rw [w63]; exact st1_yw X j hjN.out HB.out)⟩
        case measure => simp [intOf]; omega
    · obtain rfl : j = m := by omega
      go_wp2_with fail
      go_ret2
      exact ⟨rfl, rfl⟩
set_option maxHeartbeats 2000000 in
theorem rshift_7w (v n : Int) (w : World) (hv : I64 v) :
    Calls Try.prog 17 #[.int .i64 7, .bool true, .int .i64 v, .int .i64 n] w fun e w' => e = .returned (.tuple #[.int .i64 (sR 7 true (tr true v) (far true n)), .bool true]) ∧ w' = w := by
  have hX := tr_wd true v hv
  have HX := hide hX
  have HS := hide (sR_start 7 rfl true _ hX)
  clear hv hX
  have hn := rf64 n
  have hl : far true n < 64 := far_lt true n
  obtain ⟨X, hx⟩ : ∃ X, tr true v = X := ⟨_, rfl⟩
  rw [hx] at HX HS ⊢
  have Hx := hide hx
  clear hx
  generalize far true n = m at hn hl ⊢
  go_enter Try.func17, Try.ntmps17
  go_wp2_with fail
  refine (rtrim_any _ _ _).mono ?_
  rintro e w1 ⟨rfl, rfl⟩
  rw [Hx.out]
  go_wp2_with (first | (go_at_call 13; refine (rtrim_any _ _ _).mono ?_; rintro e w1 ⟨rfl, rfl⟩) | (go_at_call 23; refine (rtop_any _ _ _).mono ?_; rintro e w1 ⟨rfl, rfl⟩) | (go_at_call 26; refine (rbits_yes _).mono ?_; rintro e w1 ⟨rfl, rfl⟩))
  clear hn
  go_loop [2, 11] (fun x i => ∃ j : Nat, j ≤ m ∧ i = .int .i64 j ∧ x = .int .i64 (sR 7 true X j)) (fun _ i => m - (intOf i).toNat)
  case atStart => exact ⟨0, Nat.zero_le _, rfl, by rw [HS.out]⟩
  case round =>
    obtain ⟨j, hj, rfl, rfl⟩ := hrel
    by_cases hlt : j < m
    · have hjN : Hid (j < wd true) := hide (show j < 64 by omega)
      cases hb : tp true (sR 7 true X j)
      · have HB := hide hb
        go_wp2_with (first | (go_at_call 13; refine (rtrim_any _ _ _).mono ?_; rintro e w1 ⟨rfl, rfl⟩) | (go_at_call 23; refine (rtop_any _ _ _).mono ?_; rintro e w1 ⟨rfl, rfl⟩) | (go_at_call 26; refine (rbits_yes _).mono ?_; rintro e w1 ⟨rfl, rfl⟩))
        go_round
        case rel => exact ⟨j + 1, hlt, by go_num, congrArg (Value.int .i64) (by rw [un_wrap]; exact (st7_w X j _ (wd_i64 HX.out) HB.out).1 rfl)⟩
        case measure => simp [intOf]; omega
      · have HB := hide hb
        go_wp2_with (first | (go_at_call 13; refine (rtrim_any _ _ _).mono ?_; rintro e w1 ⟨rfl, rfl⟩) | (go_at_call 23; refine (rtop_any _ _ _).mono ?_; rintro e w1 ⟨rfl, rfl⟩) | (go_at_call 26; refine (rbits_yes _).mono ?_; rintro e w1 ⟨rfl, rfl⟩))
        go_round
        case rel => exact ⟨j + 1, hlt, by go_num, congrArg (Value.int .i64) (by rw [un_wrap]; rw [w63]; exact (st7_w X j _ (wd_i64 HX.out) HB.out).2 rfl)⟩
        case measure => simp [intOf]; omega
    · obtain rfl : j = m := by omega
      go_wp2_with fail
      go_ret2
      exact ⟨rfl, rfl⟩
set_option maxHeartbeats 2000000 in
theorem rshift_non (k v n : Int) (w : World) (hk : sK k = false) :
    Calls Try.prog 17 #[.int .i64 k, .bool false, .int .i64 v, .int .i64 n] w fun e w' => e = .returned (.tuple #[.int .i64 0, .bool false]) ∧ w' = w := by
  simp only [sK, Bool.or_eq_false_iff] at hk
  obtain ⟨⟨⟨⟨h0, h1⟩, h4⟩, h5⟩, h7⟩ := hk
  have hn := rf32 n
  have hl : far false n < 32 := far_lt false n
  generalize far false n = m at hn hl ⊢
  go_enter Try.func17, Try.ntmps17
  go_wp2_with (first | (go_at_call 13; refine (rtrim_any _ _ _).mono ?_; rintro e w1 ⟨rfl, rfl⟩) | (go_at_call 23; refine (rtop_any _ _ _).mono ?_; rintro e w1 ⟨rfl, rfl⟩) | (go_at_call 26; refine (rbits_no _).mono ?_; rintro e w1 ⟨rfl, rfl⟩))
  clear hn
  go_loop [2, 11] (fun x i => ∃ j : Nat, j ≤ m ∧ i = .int .i64 j ∧ x = .int .i64 (tr false v)) (fun _ i => m - (intOf i).toNat)
  case atStart => exact ⟨0, Nat.zero_le _, rfl, rfl⟩
  case round =>
    obtain ⟨j, hj, rfl, rfl⟩ := hrel
    by_cases hlt : j < m
    · go_wp2_with (first | (go_at_call 13; refine (rtrim_any _ _ _).mono ?_; rintro e w1 ⟨rfl, rfl⟩) | (go_at_call 23; refine (rtop_any _ _ _).mono ?_; rintro e w1 ⟨rfl, rfl⟩) | (go_at_call 26; refine (rbits_no _).mono ?_; rintro e w1 ⟨rfl, rfl⟩))
      go_round
      case rel => exact ⟨j + 1, hlt, by go_num, rfl⟩
      case measure => simp [intOf]; omega
    · obtain rfl : j = m := by omega
      go_wp2_with fail
      go_ret2
      exact ⟨rfl, rfl⟩
set_option maxHeartbeats 2000000 in
theorem rshift_now (k v n : Int) (w : World) (hk : sK k = false) :
    Calls Try.prog 17 #[.int .i64 k, .bool true, .int .i64 v, .int .i64 n] w fun e w' => e = .returned (.tuple #[.int .i64 0, .bool false]) ∧ w' = w := by
  simp only [sK, Bool.or_eq_false_iff] at hk
  obtain ⟨⟨⟨⟨h0, h1⟩, h4⟩, h5⟩, h7⟩ := hk
  have hn := rf64 n
  have hl : far true n < 64 := far_lt true n
  generalize far true n = m at hn hl ⊢
  go_enter Try.func17, Try.ntmps17
  go_wp2_with (first | (go_at_call 13; refine (rtrim_any _ _ _).mono ?_; rintro e w1 ⟨rfl, rfl⟩) | (go_at_call 23; refine (rtop_any _ _ _).mono ?_; rintro e w1 ⟨rfl, rfl⟩) | (go_at_call 26; refine (rbits_yes _).mono ?_; rintro e w1 ⟨rfl, rfl⟩))
  clear hn
  go_loop [2, 11] (fun x i => ∃ j : Nat, j ≤ m ∧ i = .int .i64 j ∧ x = .int .i64 (tr true v)) (fun _ i => m - (intOf i).toNat)
  case atStart => exact ⟨0, Nat.zero_le _, rfl, rfl⟩
  case round =>
    obtain ⟨j, hj, rfl, rfl⟩ := hrel
    by_cases hlt : j < m
    · go_wp2_with (first | (go_at_call 13; refine (rtrim_any _ _ _).mono ?_; rintro e w1 ⟨rfl, rfl⟩) | (go_at_call 23; refine (rtop_any _ _ _).mono ?_; rintro e w1 ⟨rfl, rfl⟩) | (go_at_call 26; refine (rbits_yes _).mono ?_; rintro e w1 ⟨rfl, rfl⟩))
      go_round
      case rel => exact ⟨j + 1, hlt, by go_num, rfl⟩
      case measure => simp [intOf]; omega
    · obtain rfl : j = m := by omega
      go_wp2_with fail
      go_ret2
      exact ⟨rfl, rfl⟩
theorem rshift_any (k : Int) (wide : Bool) (v b : Int) (w : World) (hv : I64 v) :
    Calls Try.prog 17 #[.int .i64 k, .bool wide, .int .i64 v, .int .i64 b] w fun e w' => e = .returned (.tuple #[.int .i64 (sR k wide (tr wide v) (far wide b)), .bool (sK k)]) ∧ w' = w := by
  cases hk : sK k
  · rw [sR_no k wide _ _ hk]
    cases wide
    · exact rshift_non k v b w hk
    · exact rshift_now k v b w hk
  · simp only [sK, Bool.or_eq_true, beq_iff_eq] at hk
    cases wide
    · rcases hk with (((rfl | rfl) | rfl) | rfl) | rfl
      · exact rshift_0n v b w hv
      · exact rshift_1n v b w hv
      · exact rshift_4n v b w hv
      · exact rshift_5n v b w hv
      · exact rshift_7n v b w hv
    · rcases hk with (((rfl | rfl) | rfl) | rfl) | rfl
      · exact rshift_0w v b w hv
      · exact rshift_1w v b w hv
      · exact rshift_4w v b w hv
      · exact rshift_5w v b w hv
      · exact rshift_7w v b w hv
end Go.Proofs.Ytmcjdlmbidlckaa
