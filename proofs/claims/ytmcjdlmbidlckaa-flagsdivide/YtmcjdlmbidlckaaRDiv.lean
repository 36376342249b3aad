/-
  The document's own Div answers what the plain functions dQ, dM, dB tell, and changes nothing.
-/
import Derived.Test.YtmcjdlmbidlckaaRDivP
import Derived.Test.YtmcjdlmbidlckaaRShift
namespace Go.Proofs.Ytmcjdlmbidlckaa
open Go.RowKit

set_option maxHeartbeats 1000000 in
theorem rdiv_no (wide : Bool) (high low by' : Int) (w : World) (h1 : I64 high) (h2 : I64 low) (h3 : I64 by') (hn : ¬ R wide high < R wide by') :
    Calls Try.prog 19 #[.bool wide, .int .i64 high, .int .i64 low, .int .i64 by'] w fun e w' => e = .returned (.tuple #[.int .i64 0, .int .i64 0, .bool false]) ∧ w' = w := by
  have e1 := un_tr wide high h1
  have e2 := un_tr wide low h2
  have e3 := un_tr wide by' h3
  clear h1 h2 h3
  generalize R wide high = H at *
  generalize R wide low = L at *
  generalize R wide by' = D at *
  by_cases hd : D = 0
  · subst hd
    clear hn
    go_enter Try.func19, Try.ntmps19
    go_wp2_with (go_at_call 13; refine (rtrim_any _ _ _).mono ?_; rintro e w1 ⟨rfl, rfl⟩)
    go_ret3
    exact ⟨rfl, rfl⟩
  · have hd' : ((D : Int) == 0) = false := by simp; omega
    have hn' : (D : Int) ≤ (H : Int) := by omega
    clear hn hd
    go_enter Try.func19, Try.ntmps19
    go_wp2_with (go_at_call 13; refine (rtrim_any _ _ _).mono ?_; rintro e w1 ⟨rfl, rfl⟩)
    go_ret3
    exact ⟨rfl, rfl⟩
set_option maxHeartbeats 2000000 in
theorem rdiv_n (high low by' : Int) (H L D : Nat) (w : World) (e1 : IntKind.u64.wrap (tr false high) = (H : Int)) (e2 : IntKind.u64.wrap (tr false low) = (L : Int)) (e3 : IntKind.u64.wrap (tr false by') = (D : Int))
    (hL : L < 2 ^ 32) (hD : D < 18446744073709551616) (hn : H < D) :
    Calls Try.prog 19 #[.bool false, .int .i64 high, .int .i64 low, .int .i64 by'] w fun e w' => e = .returned (.tuple #[.int .i64 (wrap64 (((H * 2 ^ 32 + L) / D : Nat) : Int)), .int .i64 (wrap64 (((H * 2 ^ 32 + L) % D : Nat) : Int)), .bool true]) ∧ w' = w := by
  have hd' : ((D : Int) == 0) = false := by simp; omega
  have hn' : ¬ ((D : Int) ≤ (H : Int)) := by omega
  obtain ⟨Q, hQ⟩ : ∃ Q, (H * 2 ^ 32 + L) / D = Q := ⟨_, rfl⟩
  obtain ⟨V, hV⟩ : ∃ Q, (H * 2 ^ 32 + L) % D = Q := ⟨_, rfl⟩
  rw [hQ, hV]
  have HQ := hide hQ
  have HV := hide hV
  have HL := hide hL
  have HD := hide hD
  have HN := hide hn
  clear hQ hV hL hD hn
  go_enter Try.func19, Try.ntmps19
  go_wp2_with (first | (go_at_call 13; refine (rtrim_any _ _ _).mono ?_; rintro e w1 ⟨rfl, rfl⟩) | (go_at_call 26; refine (rbits_no _).mono ?_; rintro e w1 ⟨rfl, rfl⟩))
  clear e1 e2 e3 hd' hn'
  go_loop [15, 16, 17] (fun q r i => ∃ c a b : Nat, c ≤ 32 ∧ q = .int .u64 a ∧ r = .int .u64 b ∧ i = .int .i64 ((c : Int) - 1) ∧ Hid (DI H L D 32 c a b)) (fun _ _ i => (intOf i + 1).toNat)
  case atStart => exact ⟨32, 0, H, Nat.le_refl _, rfl, rfl, rfl, hide (di_start H L D 32 HL.out HN.out)⟩
  case round =>
    obtain ⟨c, a, b, hc, rfl, rfl, rfl, I⟩ := hrel
    obtain _ | c := c
    · obtain ⟨k1, k2⟩ := di_end I.out
      have K1' := hide (k1.trans HQ.out)
      have K2' := hide (k2.trans HV.out)
      clear k1 k2 I
      go_wp2_with fail
      go_ret3
      exact ⟨ret_iib (by rw [K1'.out]) (by rw [K2'.out]), rfl⟩
    · have ec : ((c + 1 : Nat) : Int) - 1 = (c : Int) := by omega
      rw [ec]
      have ec2 : wrap64 ((c : Int) - 1) = (c : Int) - 1 := by simp only [wrap64]; omega
      have hcN : c < 32 := by omega
      obtain ⟨o, b2, l1, x, r1, a2, f1, f2, f3, f4, f5, f6, f7, g1, g2, hor⟩ := round_facts (by omega) hcN HL.out HD.out HN.out I.out
      have G1 := hide g1
      have G2 := hide g2
      obtain ⟨a', ha'⟩ : ∃ n, n = 2 * a + 1 := ⟨_, rfl⟩
      obtain ⟨b', hb'⟩ : ∃ n, n = 2 * b + x - D := ⟨_, rfl⟩
      rw [← ha'] at f7
      rw [← hb'] at hor
      have HA := hide ha'
      have HB := hide hb'
      clear g1 g2 ha' hb' ec
      rcases hor with ⟨rfl, f8, hle⟩ | ⟨rfl, hr1, f8⟩
      · have st := hide (di_more hcN I.out (by rw [← G2.out]; exact hle))
        clear hle I
        go_wp2_with fail
        go_round
        case rel => exact ⟨c, a', b', Nat.le_of_lt hcN, rfl, rfl, by go_num, hide (by rw [HA.out, HB.out, G2.out]; exact st.out)⟩
        case measure => simp [intOf] <;> omega
      · have HR := hide hr1
        clear hr1
        by_cases hle : D ≤ r1
        · have f9 := f8 hle
          have hle2 : (D : Int) ≤ (r1 : Int) := by omega
          have st := hide (di_more hcN I.out (by rw [← G2.out, ← HR.out]; exact hle))
          clear f8 I
          go_wp2_with fail
          go_round
          case rel => exact ⟨c, a', b', Nat.le_of_lt hcN, rfl, rfl, by go_num, hide (by rw [HA.out, HB.out, G2.out]; exact st.out)⟩
          case measure => simp [intOf] <;> omega
        · have hle2 : ¬ ((D : Int) ≤ (r1 : Int)) := by omega
          have st := hide (di_less hcN I.out (by rw [← G2.out, ← HR.out]; exact hle))
          clear f8 I
          go_wp2_with fail
          go_round
          case rel => exact ⟨c, a2, r1, Nat.le_of_lt hcN, rfl, rfl, by go_num, hide (by rw [G1.out, HR.out, G2.out]; exact st.out)⟩
          case measure => simp [intOf] <;> omega
set_option maxHeartbeats 2000000 in
theorem rdiv_w (high low by' : Int) (H L D : Nat) (w : World) (e1 : IntKind.u64.wrap (tr true high) = (H : Int)) (e2 : IntKind.u64.wrap (tr true low) = (L : Int)) (e3 : IntKind.u64.wrap (tr true by') = (D : Int))
    (hL : L < 2 ^ 64) (hD : D < 18446744073709551616) (hn : H < D) :
    Calls Try.prog 19 #[.bool true, .int .i64 high, .int .i64 low, .int .i64 by'] w fun e w' => e = .returned (.tuple #[.int .i64 (wrap64 (((H * 2 ^ 64 + L) / D : Nat) : Int)), .int .i64 (wrap64 (((H * 2 ^ 64 + L) % D : Nat) : Int)), .bool true]) ∧ w' = w := by
  have hd' : ((D : Int) == 0) = false := by simp; omega
  have hn' : ¬ ((D : Int) ≤ (H : Int)) := by omega
  obtain ⟨Q, hQ⟩ : ∃ Q, (H * 2 ^ 64 + L) / D = Q := ⟨_, rfl⟩
  obtain ⟨V, hV⟩ : ∃ Q, (H * 2 ^ 64 + L) % D = Q := ⟨_, rfl⟩
  rw [hQ, hV]
  have HQ := hide hQ
  have HV := hide hV
  have HL := hide hL
  have HD := hide hD
  have HN := hide hn
  clear hQ hV hL hD hn
  go_enter Try.func19, Try.ntmps19
  go_wp2_with (first | (go_at_call 13; refine (rtrim_any _ _ _).mono ?_; rintro e w1 ⟨rfl, rfl⟩) | (go_at_call 26; refine (rbits_yes _).mono ?_; rintro e w1 ⟨rfl, rfl⟩))
  clear e1 e2 e3 hd' hn'
  go_loop [15, 16, 17] (fun q r i => ∃ c a b : Nat, c ≤ 64 ∧ q = .int .u64 a ∧ r = .int .u64 b ∧ i = .int .i64 ((c : Int) - 1) ∧ Hid (DI H L D 64 c a b)) (fun _ _ i => (intOf i + 1).toNat)
  case atStart => exact ⟨64, 0, H, Nat.le_refl _, rfl, rfl, rfl, hide (di_start H L D 64 HL.out HN.out)⟩
  case round =>
    obtain ⟨c, a, b, hc, rfl, rfl, rfl, I⟩ := hrel
    obtain _ | c := c
    · obtain ⟨k1, k2⟩ := di_end I.out
      have K1' := hide (k1.trans HQ.out)
      have K2' := hide (k2.trans HV.out)
      clear k1 k2 I
      go_wp2_with fail
      go_ret3
      exact ⟨ret_iib (by rw [K1'.out]) (by rw [K2'.out]), rfl⟩
    · have ec : ((c + 1 : Nat) : Int) - 1 = (c : Int) := by omega
      rw [ec]
      have ec2 : wrap64 ((c : Int) - 1) = (c : Int) - 1 := by simp only [wrap64]; omega
      have hcN : c < 64 := by omega
      obtain ⟨o, b2, l1, x, r1, a2, f1, f2, f3, f4, f5, f6, f7, g1, g2, hor⟩ := round_facts (by omega) hcN HL.out HD.out HN.out I.out
      have G1 := hide g1
      have G2 := hide g2
      obtain ⟨a', ha'⟩ : ∃ n, n = 2 * a + 1 := ⟨_, rfl⟩
      obtain ⟨b', hb'⟩ : ∃ n, n = 2 * b + x - D := ⟨_, rfl⟩
      rw [← ha'] at f7
      rw [← hb'] at hor
      have HA := hide ha'
      have HB := hide hb'
      clear g1 g2 ha' hb' ec
      rcases hor with ⟨rfl, f8, hle⟩ | ⟨rfl, hr1, f8⟩
      · have st := hide (di_more hcN I.out (by rw [← G2.out]; exact hle))
        clear hle I
        go_wp2_with fail
        go_round
        case rel => exact ⟨c, a', b', Nat.le_of_lt hcN, rfl, rfl, by go_num, hide (by rw [HA.out, HB.out, G2.out]; exact st.out)⟩
        case measure => simp [intOf] <;> omega
      · have HR := hide hr1
        clear hr1
        by_cases hle : D ≤ r1
        · have f9 := f8 hle
          have hle2 : (D : Int) ≤ (r1 : Int) := by omega
          have st := hide (di_more hcN I.out (by rw [← G2.out, ← HR.out]; exact hle))
          clear f8 I
          go_wp2_with fail
          go_round
          case rel => exact ⟨c, a', b', Nat.le_of_lt hcN, rfl, rfl, by go_num, hide (by rw [HA.out, HB.out, G2.out]; exact st.out)⟩
          case measure => simp [intOf] <;> omega
        · have hle2 : ¬ ((D : Int) ≤ (r1 : Int)) := by omega
          have st := hide (di_less hcN I.out (by rw [← G2.out, ← HR.out]; exact hle))
          clear f8 I
          go_wp2_with fail
          go_round
          case rel => exact ⟨c, a2, r1, Nat.le_of_lt hcN, rfl, rfl, by go_num, hide (by rw [G1.out, HR.out, G2.out]; exact st.out)⟩
          case measure => simp [intOf] <;> omega
theorem rdiv_any (wide : Bool) (high low by' : Int) (w : World) (h1 : I64 high) (h2 : I64 low) (h3 : I64 by') :
    Calls Try.prog 19 #[.bool wide, .int .i64 high, .int .i64 low, .int .i64 by'] w fun e w' => e = .returned (.tuple #[.int .i64 (dQ wide high low by'), .int .i64 (dM wide high low by'), .bool (dB wide high by')]) ∧ w' = w := by
  unfold dQ dM dB
  by_cases hn : R wide high < R wide by'
  · rw [if_pos hn, if_pos hn, decide_eq_true hn]
    cases wide
    · exact rdiv_n high low by' _ _ _ w (un_tr false high h1) (un_tr false low h2) (un_tr false by' h3) (R_lt false low) (R_lt64 false by') hn
    · exact rdiv_w high low by' _ _ _ w (un_tr true high h1) (un_tr true low h2) (un_tr true by' h3) (R_lt true low) (R_lt64 true by') hn
  · rw [if_neg hn, if_neg hn, decide_eq_false hn]
    exact rdiv_no wide high low by' w h1 h2 h3 hn
end Go.Proofs.Ytmcjdlmbidlckaa
