/-
  The document's guess: part H.
-/
import Derived.Test.YtddepkiefkngdaaVB
import Derived.Deep.CutRange
namespace Go.Proofs.Ytddepkiefkngdaa
open Go.RowKit
set_option linter.unusedSimpArgs false
set_option linter.unusedVariables false
set_option maxRecDepth 100000 in
set_option maxHeartbeats 32000000 in
theorem gu_pH (t : ByteArray) (w : World) (op0 : Int) (h0 : ga (ncl t.data.toList) 0 = op0) (hc0 : op0 = 15) : Calls Try.prog 34 #[.string t] w (FaPost (gu t.data.toList) w) := by
  have HC : Hid (ga (ncl t.data.toList) 0 = op0) := h0
  clear h0
  have G0 := hide (gw_made w)
  unfold zx xc at G0
  simp only at G0
  obtain ⟨q, hq⟩ : ∃ q : Bool, q = decide (ga t.data.toList 0 / 16 = 4) := ⟨_, rfl⟩
  have HE := emp_list t
  go_enter Try.func34, Try.ntmps34
  go_upto_region 5 with fail
  refine gen_world (motive := fun x => Code.wp _ _ _ _ x) (fun W => GW zx w W) G0.out ?_
  clear G0
  rintro W hW
  go_cut [25] from 14 to 25 (fun s25 wx => s25 = .bool q ∧ wx = W)
  case first =>
    by_cases h0 : t.size = 0
    · rw [decide_eq_true h0] at HE
      have hq' : q = false := by rw [hq, (nil_iff t).2 h0]; rfl
      subst hq'
      clear hq
      go_wp2_with fail
      go_meet
      case rel => exact ⟨rfl, rfl⟩
    · have hs : 0 < t.size := by omega
      rw [decide_eq_false h0] at HE
      rw [ga_at t 0 hs] at hq
      have hb := t[0].toNat_lt
      by_cases h1 : (t[0].toNat : Int) < 64
      · have hq' : q = false := by rw [hq]; apply decide_eq_false; omega
        subst hq'
        clear hq
        go_wp2_with fail
        go_meet
        case rel => exact ⟨rfl, rfl⟩
      · by_cases h2 : (t[0].toNat : Int) < 80
        · have hq' : q = true := by rw [hq]; apply decide_eq_true; omega
          subst hq'
          clear hq
          have h3 : (64 : Int) ≤ (t[0].toNat : Int) := by omega
          go_wp2_with fail
          go_meet
          case rel => exact ⟨rfl, rfl⟩
        · have hq' : q = false := by rw [hq]; apply decide_eq_false; omega
          subst hq'
          clear hq
          have h3 : (64 : Int) ≤ (t[0].toNat : Int) := by omega
          have h4 : (80 : Int) ≤ (t[0].toNat : Int) := by omega
          go_wp2_with fail
          go_meet
          case rel => exact ⟨rfl, rfl⟩
  case rest =>
    obtain ⟨rfl, rfl⟩ := hcut
    clear HE
    go_upto_if 25 with fail
    go_cut [0, 5, 6, 7] from 26 to 47 (fun s0 s5 s6 s7 wx => ∃ (s : ByteArray) (p : Int), s0 = .string s ∧ s5 = .int .i64 (upr p 4) ∧ s6 = .int .i64 (upr p 2) ∧ s7 = .int .i64 (upr p 1) ∧ Hid (gu t.data.toList = guT p s.data.toList) ∧ Hid (GW ⟨0, decide (p / 8 % 2 = 1), 0, 0, 0, 0, 0⟩ w wx) ∧ Hid (s.data.toList = ncl t.data.toList))
    case first =>
      cases q with
      | false =>
        have HG : Hid (gu t.data.toList = guT 64 t.data.toList) := by show _ = _; unfold gu; rw [if_neg (by exact fun h => by rw [decide_eq_true h] at hq; cases hq)]
        have HCL : Hid (t.data.toList = ncl t.data.toList) := by show _ = _; unfold ncl; rw [if_neg (by exact fun h => by rw [decide_eq_true h] at hq; cases hq)]
        clear hq
        go_wp2_with fail
        go_meet
        case rel => exact ⟨t, 64, rfl, rfl, rfl, rfl, HG, hide hW, HCL⟩
      | true =>
        have hg : ga t.data.toList 0 / 16 = 4 := of_decide_eq_true hq.symm
        have HG0 := hide (show gu t.data.toList = guT (ga t.data.toList 0) (t.data.toList.drop 1) from by unfold gu; rw [if_pos hg])
        have hs : 0 < t.size := by
          rcases Nat.eq_zero_or_pos t.size with h | h
          · rw [(nil_iff t).2 h] at hg; exact absurd hg (by decide)
          · exact h
        have HG : Hid (gu t.data.toList = guT (t[0].toNat : Int) (t.extract 1 t.size).data.toList) := by show _ = _; rw [HG0.out, ga_at t 0 hs, ext_drop]
        have HCL : Hid ((t.extract 1 t.size).data.toList = ncl t.data.toList) := by show _ = _; unfold ncl; rw [if_pos hg, ext_drop]
        have hb := t[0].toNat_lt
        have b8 := u8_8 (t[0].toNat : Int) (by omega) (by omega)
        have b4 := u8_4 (t[0].toNat : Int) (by omega) (by omega)
        have b2 := u8_2 (t[0].toNat : Int) (by omega) (by omega)
        have b1 := u8_1 (t[0].toNat : Int) (by omega) (by omega)
        have n4 := u8_s 4 (by omega) (t[0].toNat : Int) (by omega) (by omega)
        have n2 := u8_s 2 (by omega) (t[0].toNat : Int) (by omega) (by omega)
        have n1 := u8_s 1 (by omega) (t[0].toNat : Int) (by omega) (by omega)
        clear hq hg HG0
        have ST : Hid (GW ⟨0, decide ((t[0].toNat : Int) / 8 % 2 = 1), 0, 0, 0, 0, 0⟩ w (wc.setCell ⟨w.heap.size + 1, 1, none⟩ (.bool (bits BinOp.and IntKind.u8 (t[0].toNat : Int) 8 != 0)))) := by
          rw [b8]; exact hide (hW.set 1 _ rfl)
        have y1 := hW.xf.1 1 _ rfl
        have yf1 := hW.xf.2 1
        obtain ⟨n41, n42⟩ := n4
        obtain ⟨n21, n22⟩ := n2
        obtain ⟨n11, n12⟩ := n1
        have B4 := hide b4
        have B2 := hide b2
        have B1 := hide b1
        clear b8 b4 b2 b1
        go_wp2_with fail
        go_meet
        case rel => exact ⟨_, (t[0].toNat : Int), rfl, by rw [← B4.out], by rw [← B2.out], by rw [← B1.out], HG, ST, HCL⟩
    case rest =>
      obtain ⟨s, p, rfl, rfl, rfl, rfl, HG, HW, HCL⟩ := hcut
      have hc := HC.out
      rw [← HCL.out] at hc
      clear HC HCL
      clear hq
      have HE := emp_list s
      obtain ⟨wd, hwd⟩ : ∃ wd, wd = decide (p / 8 % 2 = 1) := ⟨_, rfl⟩
      rw [← hwd] at HW
      have hW := HW.out
      clear HW
      have u1 := upr_bd p 1
      have u2 := upr_bd p 2
      have u4 := upr_bd p 4
      obtain ⟨u11, u12⟩ := u1
      obtain ⟨u21, u22⟩ := u2
      obtain ⟨u41, u42⟩ := u4
      by_cases z0 : s.size = 0
      · exfalso
        rw [(nil_iff s).2 z0] at hc
        have e0 : ga [] 0 = 0 := rfl
        omega
      have hs : 0 < s.size := by omega
      rw [decide_eq_false z0] at HE
      have hb := s[0].toNat_lt
      have hg0 := ga_at s 0 hs
      have hne : s.data.toList ≠ [] := fun h => z0 ((nil_iff s).1 h)
      have HCS : Hid ((s[0].toNat : Int) = op0) := by show _ = _; rw [← hg0]; exact hc
      clear hc
      by_cases h15 : (s[0].toNat : Int) = 15
      · by_cases h2 : s.size < 2
        · have hz : s.data.toList.length = s.size := by simp
          have HQ : Hid (gu t.data.toList = if false then some ⟨0, wd, 0, 0, 0, 0, 0⟩ else none) := HG.out.trans (by unfold guT; rw [if_neg hne, if_pos (by rw [hg0]; exact h15), if_pos (by omega)]; rfl)
          clear hwd hz hne hg0
          clear HG
          have r0 : wc.cell? ⟨w.heap.size, 0, none⟩ = some (.int .i64 0) := hW.rf.1 0 _ rfl
          have r1 : wc.cell? ⟨w.heap.size, 1, none⟩ = some (.bool false) := hW.rf.1 1 _ rfl
          have r2 : wc.cell? ⟨w.heap.size, 2, none⟩ = some (.int .i64 0) := hW.rf.1 2 _ rfl
          have r3 : wc.cell? ⟨w.heap.size, 3, none⟩ = some (.int .i64 0) := hW.rf.1 3 _ rfl
          have r4 : wc.cell? ⟨w.heap.size, 4, none⟩ = some (.int .i64 0) := hW.rf.1 4 _ rfl
          have r5 : wc.cell? ⟨w.heap.size, 5, none⟩ = some (.int .i64 0) := hW.rf.1 5 _ rfl
          have r6 : wc.cell? ⟨w.heap.size, 6, none⟩ = some (.int .i64 0) := hW.rf.1 6 _ rfl
          have rf0 := hW.rf.2 0
          have rf1 := hW.rf.2 1
          have rf2 := hW.rf.2 2
          have rf3 := hW.rf.2 3
          have rf4 := hW.rf.2 4
          have rf5 := hW.rf.2 5
          have rf6 := hW.rf.2 6
          have y0 : wc.cell? ⟨w.heap.size + 1, 0, none⟩ = some (.int .i64 (0)) := hW.xf.1 0 _ rfl
          have y1 : wc.cell? ⟨w.heap.size + 1, 1, none⟩ = some (.bool wd) := hW.xf.1 1 _ rfl
          have y2 : wc.cell? ⟨w.heap.size + 1, 2, none⟩ = some (.int .i64 (0)) := hW.xf.1 2 _ rfl
          have y3 : wc.cell? ⟨w.heap.size + 1, 3, none⟩ = some (.int .i64 (0)) := hW.xf.1 3 _ rfl
          have y4 : wc.cell? ⟨w.heap.size + 1, 4, none⟩ = some (.int .i64 (0)) := hW.xf.1 4 _ rfl
          have y5 : wc.cell? ⟨w.heap.size + 1, 5, none⟩ = some (.int .i64 (0)) := hW.xf.1 5 _ rfl
          have y6 : wc.cell? ⟨w.heap.size + 1, 6, none⟩ = some (.int .i64 (0)) := hW.xf.1 6 _ rfl
          have yf0 := hW.xf.2 0
          have yf1 := hW.xf.2 1
          have yf2 := hW.xf.2 2
          have yf3 := hW.xf.2 3
          have yf4 := hW.xf.2 4
          have yf5 := hW.xf.2 5
          have yf6 := hW.xf.2 6
          go_wp2_with fail
          refine bodyPost_ret (results_2 rfl _ _ w.heap.size ⟨0, wd, 0, 0, 0, 0, 0⟩ rfl (RowX.of (((((((hW.2.1.set 0 _).set 1 _).set 2 _).set 3 _).set 4 _).set 5 _).set 6 _) rfl)) rfl ?_
          exact fa_mk ⟨0, wd, 0, 0, 0, 0, 0⟩ false HQ (bel_set (bel_set (bel_set (bel_set (bel_set (bel_set (bel_set hW.1 (Nat.le_refl _) _ _) (Nat.le_refl _) _ _) (Nat.le_refl _) _ _) (Nat.le_refl _) _ _) (Nat.le_refl _) _ _) (Nat.le_refl _) _ _) (Nat.le_refl _) _ _)
        · have hs1 : 1 < s.size := by omega
          have hz : s.data.toList.length = s.size := by simp
          have hg1 := ga_at s 1 hs1
          have hb1 := s[1].toNat_lt
          have hss : (s.extract 1 s.size).size = s.size - 1 := by simp
          have e2 : ((s.extract 1 s.size).extract 1 (s.size - 1)).data.toList = s.data.toList.drop 2 := by
            have := ext_drop (s.extract 1 s.size) 1
            rw [hss] at this
            rw [this, ext_drop, List.drop_drop]
          obtain ⟨R, hR⟩ : ∃ R, R = (s.extract 1 s.size).extract 1 (s.size - 1) := ⟨_, rfl⟩
          rw [← hR] at e2
          have HF : Hid (gu t.data.toList = GF wd (s[1].toNat : Int) (gReg p R.data.toList) (gLow p R.data.toList) R.data.toList) := HG.out.trans (by
            unfold guT; rw [if_neg hne, if_pos (by rw [hg0]; exact h15), if_neg (by omega), hg1, gFar_is, ← hwd, e2])
          have HE1 := emp_list R
          clear HG hwd hz hne hg0 hg1 e2
          have hR1 := fun h : 0 < R.size => ga_at R 0 h
          by_cases e0 : R.size = 0
          · rw [decide_eq_true e0] at HE1
            have g1 : gReg p R.data.toList = 0 := by rw [(nil_iff R).2 e0]; rfl
            have g2 : gLow p R.data.toList = 0 := by rw [(nil_iff R).2 e0]; rfl
            rw [g1, g2] at HF
            have FA := hide (fun U => far_any wd (s[1].toNat : Int) 0 0 R U)
            unfold FaIs at FA
            rw [← HF.out] at FA
            clear g1 g2 HF hR1
            have r0 : wc.cell? ⟨w.heap.size, 0, none⟩ = some (.int .i64 0) := hW.rf.1 0 _ rfl
            have r1 : wc.cell? ⟨w.heap.size, 1, none⟩ = some (.bool false) := hW.rf.1 1 _ rfl
            have r2 : wc.cell? ⟨w.heap.size, 2, none⟩ = some (.int .i64 0) := hW.rf.1 2 _ rfl
            have r3 : wc.cell? ⟨w.heap.size, 3, none⟩ = some (.int .i64 0) := hW.rf.1 3 _ rfl
            have r4 : wc.cell? ⟨w.heap.size, 4, none⟩ = some (.int .i64 0) := hW.rf.1 4 _ rfl
            have r5 : wc.cell? ⟨w.heap.size, 5, none⟩ = some (.int .i64 0) := hW.rf.1 5 _ rfl
            have r6 : wc.cell? ⟨w.heap.size, 6, none⟩ = some (.int .i64 0) := hW.rf.1 6 _ rfl
            have rf0 := hW.rf.2 0
            have rf1 := hW.rf.2 1
            have rf2 := hW.rf.2 2
            have rf3 := hW.rf.2 3
            have rf4 := hW.rf.2 4
            have rf5 := hW.rf.2 5
            have rf6 := hW.rf.2 6
            have y0 : wc.cell? ⟨w.heap.size + 1, 0, none⟩ = some (.int .i64 (0)) := hW.xf.1 0 _ rfl
            have y1 : wc.cell? ⟨w.heap.size + 1, 1, none⟩ = some (.bool wd) := hW.xf.1 1 _ rfl
            have y2 : wc.cell? ⟨w.heap.size + 1, 2, none⟩ = some (.int .i64 (0)) := hW.xf.1 2 _ rfl
            have y3 : wc.cell? ⟨w.heap.size + 1, 3, none⟩ = some (.int .i64 (0)) := hW.xf.1 3 _ rfl
            have y4 : wc.cell? ⟨w.heap.size + 1, 4, none⟩ = some (.int .i64 (0)) := hW.xf.1 4 _ rfl
            have y5 : wc.cell? ⟨w.heap.size + 1, 5, none⟩ = some (.int .i64 (0)) := hW.xf.1 5 _ rfl
            have y6 : wc.cell? ⟨w.heap.size + 1, 6, none⟩ = some (.int .i64 (0)) := hW.xf.1 6 _ rfl
            have yf0 := hW.xf.2 0
            have yf1 := hW.xf.2 1
            have yf2 := hW.xf.2 2
            have yf3 := hW.xf.2 3
            have yf4 := hW.xf.2 4
            have yf5 := hW.xf.2 5
            have yf6 := hW.xf.2 6
            go_upto_region 24 with fail
            rw [← hR]
            clear hR
            go_wp2_with fail
            refine (FA.out _).mono ?_
            rintro e w1 ⟨⟨v1, v2, v3, v4, v5, v6, v7⟩, q2, rfl, hg, b1⟩
            have HQ := hide hg
            unfold xv
            simp only
            have hW1 : GW ⟨0, wd, 0, 0, 0, 0, 0⟩ w w1 := ⟨bel_tr hW.1 b1, hW.2.1.bel b1, hW.2.2.bel b1⟩
            clear hg b1 FA r0 rf0 y0 yf0 r1 rf1 y1 yf1 r2 rf2 y2 yf2 r3 rf3 y3 yf3 r4 rf4 y4 yf4 r5 rf5 y5 yf5 r6 rf6 y6 yf6
            have r0 : w1.cell? ⟨w.heap.size, 0, none⟩ = some (.int .i64 0) := hW1.rf.1 0 _ rfl
            have r1 : w1.cell? ⟨w.heap.size, 1, none⟩ = some (.bool false) := hW1.rf.1 1 _ rfl
            have r2 : w1.cell? ⟨w.heap.size, 2, none⟩ = some (.int .i64 0) := hW1.rf.1 2 _ rfl
            have r3 : w1.cell? ⟨w.heap.size, 3, none⟩ = some (.int .i64 0) := hW1.rf.1 3 _ rfl
            have r4 : w1.cell? ⟨w.heap.size, 4, none⟩ = some (.int .i64 0) := hW1.rf.1 4 _ rfl
            have r5 : w1.cell? ⟨w.heap.size, 5, none⟩ = some (.int .i64 0) := hW1.rf.1 5 _ rfl
            have r6 : w1.cell? ⟨w.heap.size, 6, none⟩ = some (.int .i64 0) := hW1.rf.1 6 _ rfl
            have rf0 := hW1.rf.2 0
            have rf1 := hW1.rf.2 1
            have rf2 := hW1.rf.2 2
            have rf3 := hW1.rf.2 3
            have rf4 := hW1.rf.2 4
            have rf5 := hW1.rf.2 5
            have rf6 := hW1.rf.2 6
            have y0 : w1.cell? ⟨w.heap.size + 1, 0, none⟩ = some (.int .i64 (0)) := hW1.xf.1 0 _ rfl
            have y1 : w1.cell? ⟨w.heap.size + 1, 1, none⟩ = some (.bool wd) := hW1.xf.1 1 _ rfl
            have y2 : w1.cell? ⟨w.heap.size + 1, 2, none⟩ = some (.int .i64 (0)) := hW1.xf.1 2 _ rfl
            have y3 : w1.cell? ⟨w.heap.size + 1, 3, none⟩ = some (.int .i64 (0)) := hW1.xf.1 3 _ rfl
            have y4 : w1.cell? ⟨w.heap.size + 1, 4, none⟩ = some (.int .i64 (0)) := hW1.xf.1 4 _ rfl
            have y5 : w1.cell? ⟨w.heap.size + 1, 5, none⟩ = some (.int .i64 (0)) := hW1.xf.1 5 _ rfl
            have y6 : w1.cell? ⟨w.heap.size + 1, 6, none⟩ = some (.int .i64 (0)) := hW1.xf.1 6 _ rfl
            have yf0 := hW1.xf.2 0
            have yf1 := hW1.xf.2 1
            have yf2 := hW1.xf.2 2
            have yf3 := hW1.xf.2 3
            have yf4 := hW1.xf.2 4
            have yf5 := hW1.xf.2 5
            have yf6 := hW1.xf.2 6
            go_wp2_with fail
            refine bodyPost_ret (results_2 rfl _ _ w.heap.size ⟨v1, v2, v3, v4, v5, v6, v7⟩ rfl (RowX.of (((((((hW1.2.1.set 0 _).set 1 _).set 2 _).set 3 _).set 4 _).set 5 _).set 6 _) rfl)) rfl ?_
            exact fa_mk ⟨v1, v2, v3, v4, v5, v6, v7⟩ q2 HQ (bel_set (bel_set (bel_set (bel_set (bel_set (bel_set (bel_set hW1.1 (Nat.le_refl _) _ _) (Nat.le_refl _) _ _) (Nat.le_refl _) _ _) (Nat.le_refl _) _ _) (Nat.le_refl _) _ _) (Nat.le_refl _) _ _) (Nat.le_refl _) _ _)
          · rw [decide_eq_false e0] at HE1
            have hr0 : 0 < R.size := by omega
            have hr := hR1 hr0
            have hrn : R.data.toList ≠ [] := fun h => e0 ((nil_iff R).1 h)
            have hb2 := R[0].toNat_lt
            have b7 := hide (u8_7 (R[0].toNat : Int) (by omega) (by omega))
            have b37 := hide (u8_37 (R[0].toNat : Int) (by omega) (by omega))
            have g1 : gReg p R.data.toList = (R[0].toNat : Int) / 8 % 8 + upr p 4 := by unfold gReg; rw [if_neg hrn, hr]
            have g2 : gLow p R.data.toList = (R[0].toNat : Int) % 8 + upr p 1 := by unfold gLow; rw [if_neg hrn, hr]
            rw [g1, g2] at HF
            have FA := hide (fun U => far_any wd (s[1].toNat : Int) ((R[0].toNat : Int) / 8 % 8 + upr p 4) ((R[0].toNat : Int) % 8 + upr p 1) R U)
            unfold FaIs at FA
            rw [← HF.out] at FA
            have m1 : 0 ≤ bits BinOp.and IntKind.u8 ((R[0].toNat : Int) / 8) 7 ∧ bits BinOp.and IntKind.u8 ((R[0].toNat : Int) / 8) 7 ≤ 7 := by rw [b37.out]; omega
            have m2 : 0 ≤ bits BinOp.and IntKind.u8 (R[0].toNat : Int) 7 ∧ bits BinOp.and IntKind.u8 (R[0].toNat : Int) 7 ≤ 7 := by rw [b7.out]; omega
            obtain ⟨m11, m12⟩ := m1
            obtain ⟨m21, m22⟩ := m2
            clear g1 g2 HF hR1 hr
            have r0 : wc.cell? ⟨w.heap.size, 0, none⟩ = some (.int .i64 0) := hW.rf.1 0 _ rfl
            have r1 : wc.cell? ⟨w.heap.size, 1, none⟩ = some (.bool false) := hW.rf.1 1 _ rfl
            have r2 : wc.cell? ⟨w.heap.size, 2, none⟩ = some (.int .i64 0) := hW.rf.1 2 _ rfl
            have r3 : wc.cell? ⟨w.heap.size, 3, none⟩ = some (.int .i64 0) := hW.rf.1 3 _ rfl
            have r4 : wc.cell? ⟨w.heap.size, 4, none⟩ = some (.int .i64 0) := hW.rf.1 4 _ rfl
            have r5 : wc.cell? ⟨w.heap.size, 5, none⟩ = some (.int .i64 0) := hW.rf.1 5 _ rfl
            have r6 : wc.cell? ⟨w.heap.size, 6, none⟩ = some (.int .i64 0) := hW.rf.1 6 _ rfl
            have rf0 := hW.rf.2 0
            have rf1 := hW.rf.2 1
            have rf2 := hW.rf.2 2
            have rf3 := hW.rf.2 3
            have rf4 := hW.rf.2 4
            have rf5 := hW.rf.2 5
            have rf6 := hW.rf.2 6
            have y0 : wc.cell? ⟨w.heap.size + 1, 0, none⟩ = some (.int .i64 (0)) := hW.xf.1 0 _ rfl
            have y1 : wc.cell? ⟨w.heap.size + 1, 1, none⟩ = some (.bool wd) := hW.xf.1 1 _ rfl
            have y2 : wc.cell? ⟨w.heap.size + 1, 2, none⟩ = some (.int .i64 (0)) := hW.xf.1 2 _ rfl
            have y3 : wc.cell? ⟨w.heap.size + 1, 3, none⟩ = some (.int .i64 (0)) := hW.xf.1 3 _ rfl
            have y4 : wc.cell? ⟨w.heap.size + 1, 4, none⟩ = some (.int .i64 (0)) := hW.xf.1 4 _ rfl
            have y5 : wc.cell? ⟨w.heap.size + 1, 5, none⟩ = some (.int .i64 (0)) := hW.xf.1 5 _ rfl
            have y6 : wc.cell? ⟨w.heap.size + 1, 6, none⟩ = some (.int .i64 (0)) := hW.xf.1 6 _ rfl
            have yf0 := hW.xf.2 0
            have yf1 := hW.xf.2 1
            have yf2 := hW.xf.2 2
            have yf3 := hW.xf.2 3
            have yf4 := hW.xf.2 4
            have yf5 := hW.xf.2 5
            have yf6 := hW.xf.2 6
            go_upto_region 24 with fail
            rw [← hR]
            clear hR
            go_wp2_with fail
            refine (FA.out _).mono ?_
            rintro e w1 ⟨⟨v1, v2, v3, v4, v5, v6, v7⟩, q2, rfl, hg, b1⟩
            have HQ := hide hg
            unfold xv
            simp only
            have hW1 : GW ⟨0, wd, 0, 0, 0, 0, 0⟩ w w1 := ⟨bel_tr hW.1 b1, hW.2.1.bel b1, hW.2.2.bel b1⟩
            clear hg b1 FA r0 rf0 y0 yf0 r1 rf1 y1 yf1 r2 rf2 y2 yf2 r3 rf3 y3 yf3 r4 rf4 y4 yf4 r5 rf5 y5 yf5 r6 rf6 y6 yf6
            have r0 : w1.cell? ⟨w.heap.size, 0, none⟩ = some (.int .i64 0) := hW1.rf.1 0 _ rfl
            have r1 : w1.cell? ⟨w.heap.size, 1, none⟩ = some (.bool false) := hW1.rf.1 1 _ rfl
            have r2 : w1.cell? ⟨w.heap.size, 2, none⟩ = some (.int .i64 0) := hW1.rf.1 2 _ rfl
            have r3 : w1.cell? ⟨w.heap.size, 3, none⟩ = some (.int .i64 0) := hW1.rf.1 3 _ rfl
            have r4 : w1.cell? ⟨w.heap.size, 4, none⟩ = some (.int .i64 0) := hW1.rf.1 4 _ rfl
            have r5 : w1.cell? ⟨w.heap.size, 5, none⟩ = some (.int .i64 0) := hW1.rf.1 5 _ rfl
            have r6 : w1.cell? ⟨w.heap.size, 6, none⟩ = some (.int .i64 0) := hW1.rf.1 6 _ rfl
            have rf0 := hW1.rf.2 0
            have rf1 := hW1.rf.2 1
            have rf2 := hW1.rf.2 2
            have rf3 := hW1.rf.2 3
            have rf4 := hW1.rf.2 4
            have rf5 := hW1.rf.2 5
            have rf6 := hW1.rf.2 6
            have y0 : w1.cell? ⟨w.heap.size + 1, 0, none⟩ = some (.int .i64 (0)) := hW1.xf.1 0 _ rfl
            have y1 : w1.cell? ⟨w.heap.size + 1, 1, none⟩ = some (.bool wd) := hW1.xf.1 1 _ rfl
            have y2 : w1.cell? ⟨w.heap.size + 1, 2, none⟩ = some (.int .i64 (0)) := hW1.xf.1 2 _ rfl
            have y3 : w1.cell? ⟨w.heap.size + 1, 3, none⟩ = some (.int .i64 (0)) := hW1.xf.1 3 _ rfl
            have y4 : w1.cell? ⟨w.heap.size + 1, 4, none⟩ = some (.int .i64 (0)) := hW1.xf.1 4 _ rfl
            have y5 : w1.cell? ⟨w.heap.size + 1, 5, none⟩ = some (.int .i64 (0)) := hW1.xf.1 5 _ rfl
            have y6 : w1.cell? ⟨w.heap.size + 1, 6, none⟩ = some (.int .i64 (0)) := hW1.xf.1 6 _ rfl
            have yf0 := hW1.xf.2 0
            have yf1 := hW1.xf.2 1
            have yf2 := hW1.xf.2 2
            have yf3 := hW1.xf.2 3
            have yf4 := hW1.xf.2 4
            have yf5 := hW1.xf.2 5
            have yf6 := hW1.xf.2 6
            go_wp2_with fail
            refine bodyPost_ret (results_2 rfl _ _ w.heap.size ⟨v1, v2, v3, v4, v5, v6, v7⟩ rfl (RowX.of (((((((hW1.2.1.set 0 _).set 1 _).set 2 _).set 3 _).set 4 _).set 5 _).set 6 _) rfl)) rfl ?_
            exact fa_mk ⟨v1, v2, v3, v4, v5, v6, v7⟩ q2 HQ (bel_set (bel_set (bel_set (bel_set (bel_set (bel_set (bel_set hW1.1 (Nat.le_refl _) _ _) (Nat.le_refl _) _ _) (Nat.le_refl _) _ _) (Nat.le_refl _) _ _) (Nat.le_refl _) _ _) (Nat.le_refl _) _ _) (Nat.le_refl _) _ _)
      have hcs := HCS.out
      exfalso; omega
end Go.Proofs.Ytddepkiefkngdaa
