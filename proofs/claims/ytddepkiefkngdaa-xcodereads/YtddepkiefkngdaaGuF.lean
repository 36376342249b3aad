/-
  The document's guess: part F.
-/
import Derived.Test.YtddepkiefkngdaaVB
import Derived.Deep.CutRange
namespace Go.Proofs.Ytddepkiefkngdaa
open Go.RowKit
set_option linter.unusedSimpArgs false
set_option linter.unusedVariables false
set_option maxRecDepth 100000 in
set_option maxHeartbeats 32000000 in
theorem gu_pF (t : ByteArray) (w : World) (op0 : Int) (h0 : ga (ncl t.data.toList) 0 = op0) (hc0 : op0 = 232 ∨ op0 = 195) : Calls Try.prog 34 #[.string t] w (FaPost (gu t.data.toList) w) := by
  have HC : Hid (ga (ncl t.data.toList) 0 = op0) := h0
  clear h0
  have G0 := hide (gw_made w)
  unfold zx xc at G0
  simp only at G0
  obtain ⟨q, hq⟩ : ∃ q : Bool, q = decide (ga t.data.toList 0 / 16 = 4) := ⟨_, rfl⟩
  have HE := emp_list t
  go_enter Try.func34, Try.ntmps34
  go_upto_region 5 with fail
  refine gen_world (motive := fun x => Code.wp _ _ _ _ x) (fun W => GW zx w W) G0.out ?_
  clear G0
  rintro W hW
  go_cut [25] from 14 to 25 (fun s25 wx => s25 = .bool q ∧ wx = W)
  case first =>
    by_cases h0 : t.size = 0
    · rw [decide_eq_true h0] at HE
      have hq' : q = false := by rw [hq, (nil_iff t).2 h0]; rfl
      subst hq'
      clear hq
      go_wp2_with fail
      go_meet
      case rel => exact ⟨rfl, rfl⟩
    · have hs : 0 < t.size := by omega
      rw [decide_eq_false h0] at HE
      rw [ga_at t 0 hs] at hq
      have hb := t[0].toNat_lt
      by_cases h1 : (t[0].toNat : Int) < 64
      · have hq' : q = false := by rw [hq]; apply decide_eq_false; omega
        subst hq'
        clear hq
        go_wp2_with fail
        go_meet
        case rel => exact ⟨rfl, rfl⟩
      · by_cases h2 : (t[0].toNat : Int) < 80
        · have hq' : q = true := by rw [hq]; apply decide_eq_true; omega
          subst hq'
          clear hq
          have h3 : (64 : Int) ≤ (t[0].toNat : Int) := by omega
          go_wp2_with fail
          go_meet
          case rel => exact ⟨rfl, rfl⟩
        · have hq' : q = false := by rw [hq]; apply decide_eq_false; omega
          subst hq'
          clear hq
          have h3 : (64 : Int) ≤ (t[0].toNat : Int) := by omega
          have h4 : (80 : Int) ≤ (t[0].toNat : Int) := by omega
          go_wp2_with fail
          go_meet
          case rel => exact ⟨rfl, rfl⟩
  case rest =>
    obtain ⟨rfl, rfl⟩ := hcut
    clear HE
    go_upto_if 25 with fail
    go_cut [0, 5, 6, 7] from 26 to 47 (fun s0 s5 s6 s7 wx => ∃ (s : ByteArray) (p : Int), s0 = .string s ∧ s5 = .int .i64 (upr p 4) ∧ s6 = .int .i64 (upr p 2) ∧ s7 = .int .i64 (upr p 1) ∧ Hid (gu t.data.toList = guT p s.data.toList) ∧ Hid (GW ⟨0, decide (p / 8 % 2 = 1), 0, 0, 0, 0, 0⟩ w wx) ∧ Hid (s.data.toList = ncl t.data.toList))
    case first =>
      cases q with
      | false =>
        have HG : Hid (gu t.data.toList = guT 64 t.data.toList) := by show _ = _; unfold gu; rw [if_neg (by exact fun h => by rw [decide_eq_true h] at hq; cases hq)]
        have HCL : Hid (t.data.toList = ncl t.data.toList) := by show _ = _; unfold ncl; rw [if_neg (by exact fun h => by rw [decide_eq_true h] at hq; cases hq)]
        clear hq
        go_wp2_with fail
        go_meet
        case rel => exact ⟨t, 64, rfl, rfl, rfl, rfl, HG, hide hW, HCL⟩
      | true =>
        have hg : ga t.data.toList 0 / 16 = 4 := of_decide_eq_true hq.symm
        have HG0 := hide (show gu t.data.toList = guT (ga t.data.toList 0) (t.data.toList.drop 1) from by unfold gu; rw [if_pos hg])
        have hs : 0 < t.size := by
          rcases Nat.eq_zero_or_pos t.size with h | h
          · rw [(nil_iff t).2 h] at hg; exact absurd hg (by decide)
          · exact h
        have HG : Hid (gu t.data.toList = guT (t[0].toNat : Int) (t.extract 1 t.size).data.toList) := by show _ = _; rw [HG0.out, ga_at t 0 hs, ext_drop]
        have HCL : Hid ((t.extract 1 t.size).data.toList = ncl t.data.toList) := by show _ = _; unfold ncl; rw [if_pos hg, ext_drop]
        have hb := t[0].toNat_lt
        have b8 := u8_8 (t[0].toNat : Int) (by omega) (by omega)
        have b4 := u8_4 (t[0].toNat : Int) (by omega) (by omega)
        have b2 := u8_2 (t[0].toNat : Int) (by omega) (by omega)
        have b1 := u8_1 (t[0].toNat : Int) (by omega) (by omega)
        have n4 := u8_s 4 (by omega) (t[0].toNat : Int) (by omega) (by omega)
        have n2 := u8_s 2 (by omega) (t[0].toNat : Int) (by omega) (by omega)
        have n1 := u8_s 1 (by omega) (t[0].toNat : Int) (by omega) (by omega)
        clear hq hg HG0
        have ST : Hid (GW ⟨0, decide ((t[0].toNat : Int) / 8 % 2 = 1), 0, 0, 0, 0, 0⟩ w (wc.setCell ⟨w.heap.size + 1, 1, none⟩ (.bool (bits BinOp.and IntKind.u8 (t[0].toNat : Int) 8 != 0)))) := by
          rw [b8]; exact hide (hW.set 1 _ rfl)
        have y1 := hW.xf.1 1 _ rfl
        have yf1 := hW.xf.2 1
        obtain ⟨n41, n42⟩ := n4
        obtain ⟨n21, n22⟩ := n2
        obtain ⟨n11, n12⟩ := n1
        have B4 := hide b4
        have B2 := hide b2
        have B1 := hide b1
        clear b8 b4 b2 b1
        go_wp2_with fail
        go_meet
        case rel => exact ⟨_, (t[0].toNat : Int), rfl, by rw [← B4.out], by rw [← B2.out], by rw [← B1.out], HG, ST, HCL⟩
    case rest =>
      obtain ⟨s, p, rfl, rfl, rfl, rfl, HG, HW, HCL⟩ := hcut
      have hc := HC.out
      rw [← HCL.out] at hc
      clear HC HCL
      clear hq
      have HE := emp_list s
      obtain ⟨wd, hwd⟩ : ∃ wd, wd = decide (p / 8 % 2 = 1) := ⟨_, rfl⟩
      rw [← hwd] at HW
      have hW := HW.out
      clear HW
      have u1 := upr_bd p 1
      have u2 := upr_bd p 2
      have u4 := upr_bd p 4
      obtain ⟨u11, u12⟩ := u1
      obtain ⟨u21, u22⟩ := u2
      obtain ⟨u41, u42⟩ := u4
      by_cases z0 : s.size = 0
      · exfalso
        rw [(nil_iff s).2 z0] at hc
        have e0 : ga [] 0 = 0 := rfl
        omega
      have hs : 0 < s.size := by omega
      rw [decide_eq_false z0] at HE
      have hb := s[0].toNat_lt
      have hg0 := ga_at s 0 hs
      have hne : s.data.toList ≠ [] := fun h => z0 ((nil_iff s).1 h)
      have HCS : Hid ((s[0].toNat : Int) = op0) := by show _ = _; rw [← hg0]; exact hc
      clear hc
      by_cases h15 : (s[0].toNat : Int) = 15
      · have hcs := HCS.out
        exfalso; omega
      have HN : Hid (gu t.data.toList = gNear p (s[0].toNat : Int) (s.extract 1 s.size).data.toList) := HG.out.trans (by unfold guT; rw [if_neg hne, if_neg (by rw [hg0]; exact h15), hg0, ext_drop])
      clear HG hne hg0
      have hss : (s.extract 1 s.size).size = s.size - 1 := by simp
      have k15 : ((s[0].toNat : Int) == 15) = false := beq_eq_false_iff_ne.2 h15
      have HE1 := emp_list (s.extract 1 s.size)
      go_upto_region 24 with fail
      obtain ⟨R, hR⟩ : ∃ R, R = s.extract 1 s.size := ⟨_, rfl⟩
      rw [← hR] at HE1 HN hss
      rw [← hR]
      rw [gNear_is, ← hwd] at HN
      have HZ : Hid (R.data.toList.length = R.size) := by show _ = _; simp
      clear hR hwd k15 h15 hss
      have hop : 0 ≤ (s[0].toNat : Int) ∧ (s[0].toNat : Int) ≤ 255 := by omega
      clear hb
      generalize (s[0].toNat : Int) = op at *
      have hcs := HCS.out
      clear HCS
      subst hcs
      obtain ⟨q2, hq2⟩ : ∃ q2 : Bool, q2 = decide (R.size ≠ 0) := ⟨_, rfl⟩
      go_cut [69] from 68 to 69 (fun s69 wx => s69 = .bool q2 ∧ wx = wc)
      case first =>
        by_cases e0 : R.size = 0
        · rw [decide_eq_true e0] at HE1
          have hq' : q2 = false := by rw [hq2]; exact decide_eq_false (fun h => h e0)
          subst hq'
          clear hq2
          go_wp2_with fail
          go_meet
          case rel => exact ⟨rfl, rfl⟩
        · rw [decide_eq_false e0] at HE1
          have hq' : q2 = true := by rw [hq2]; exact decide_eq_true e0
          subst hq'
          clear hq2
          go_wp2_with fail
          go_meet
          case rel => exact ⟨rfl, rfl⟩
      case rest =>
        obtain ⟨rfl, rfl⟩ := hcut
        clear HE1
        go_upto_if 69 with fail
        go_cut [11, 12, 13] from 70 to 86 (fun s11 s12 s13 wx => s11 = .int .i64 (gLow p R.data.toList) ∧ s12 = .int .i64 (gReg p R.data.toList) ∧ s13 = .int .i64 (gMod R.data.toList) ∧ wx = wc)
        case first =>
          cases q2 with
          | false =>
            have e0 : R.data.toList = [] := (nil_iff R).2 (by simpa using hq2)
            have g1 : gReg p R.data.toList = 0 := by rw [e0]; rfl
            have g2 : gLow p R.data.toList = 0 := by rw [e0]; rfl
            have g3 : gMod R.data.toList = 0 := by rw [e0]; rfl
            have G1 := hide g1
            have G2 := hide g2
            have G3 := hide g3
            clear g1 g2 g3 e0 hq2
            go_wp2_with fail
            go_meet
            case rel => exact ⟨by rw [G2.out], by rw [G1.out], by rw [G3.out], rfl⟩
          | true =>
            have e0 : R.size ≠ 0 := of_decide_eq_true hq2.symm
            have hr0 : 0 < R.size := by omega
            have hr := ga_at R 0 hr0
            have hrn : R.data.toList ≠ [] := fun h => e0 ((nil_iff R).1 h)
            have hb2 := R[0].toNat_lt
            have g1 : gReg p R.data.toList = (R[0].toNat : Int) / 8 % 8 + upr p 4 := by unfold gReg; rw [if_neg hrn, hr]
            have g2 : gLow p R.data.toList = (R[0].toNat : Int) % 8 + upr p 1 := by unfold gLow; rw [if_neg hrn, hr]
            have g3 : gMod R.data.toList = (R[0].toNat : Int) / 64 := by unfold gMod; rw [if_neg hrn, hr]
            have G1 := hide g1
            have G2 := hide g2
            have G3 := hide g3
            clear g1 g2 g3 hrn hr hq2
            go_wp2_with fail
            go_meet
            case rel => exact ⟨by rw [G2.out], by rw [G1.out], by rw [G3.out], rfl⟩
        case rest =>
          obtain ⟨rfl, rfl, rfl, rfl⟩ := hcut
          clear hq2 HE
          have HG := HN
          clear HN
          have rg : 0 ≤ gReg p R.data.toList ∧ gReg p R.data.toList ≤ 15 := by
            unfold gReg; split
            · omega
            · have := ga_bd R.data.toList 0; omega
          have lw : 0 ≤ gLow p R.data.toList ∧ gLow p R.data.toList ≤ 15 := by
            unfold gLow; split
            · omega
            · have := ga_bd R.data.toList 0; omega
          generalize gReg p R.data.toList = reg at *
          generalize gLow p R.data.toList = low at *
          generalize gMod R.data.toList = mod at *
          obtain ⟨hop1, hop2⟩ := hop
          obtain ⟨rg1, rg2⟩ := rg
          obtain ⟨lw1, lw2⟩ := lw
          by_cases c137 : op = 137
          · exfalso; omega
          by_cases c139 : op = 139
          · exfalso; omega
          have k137 : (op == 137) = false := beq_eq_false_iff_ne.2 (by omega)
          have k139 : (op == 139) = false := beq_eq_false_iff_ne.2 (by omega)
          by_cases c3 : 184 ≤ op ∧ op < 192
          · exfalso; omega
          by_cases c4 : op < 64 ∧ op % 8 = 1
          · exfalso; omega
          by_cases c129 : op = 129
          · exfalso; omega
          by_cases c133 : op = 133
          · exfalso; omega
          by_cases c211 : op = 211
          · exfalso; omega
          by_cases c247 : op = 247
          · exfalso; omega
          by_cases c153 : op = 153
          · exfalso; omega
          by_cases c99 : op = 99
          · exfalso; omega
          by_cases c233 : op = 233
          · exfalso; omega
          by_cases c232 : op = 232
          · subst c232
            by_cases l4 : R.size < 4
            · have HQ : Hid (gu t.data.toList = if false then some ⟨0, wd, 0, 0, 0, 0, 0⟩ else none) := HG.out.trans (by simp [GN, HZ.out, l4])
              have l4i : (R.size : Int) < 4 := by omega
              clear HG
              have r0 : wc.cell? ⟨w.heap.size, 0, none⟩ = some (.int .i64 0) := hW.rf.1 0 _ rfl
              have r1 : wc.cell? ⟨w.heap.size, 1, none⟩ = some (.bool false) := hW.rf.1 1 _ rfl
              have r2 : wc.cell? ⟨w.heap.size, 2, none⟩ = some (.int .i64 0) := hW.rf.1 2 _ rfl
              have r3 : wc.cell? ⟨w.heap.size, 3, none⟩ = some (.int .i64 0) := hW.rf.1 3 _ rfl
              have r4 : wc.cell? ⟨w.heap.size, 4, none⟩ = some (.int .i64 0) := hW.rf.1 4 _ rfl
              have r5 : wc.cell? ⟨w.heap.size, 5, none⟩ = some (.int .i64 0) := hW.rf.1 5 _ rfl
              have r6 : wc.cell? ⟨w.heap.size, 6, none⟩ = some (.int .i64 0) := hW.rf.1 6 _ rfl
              have rf0 := hW.rf.2 0
              have rf1 := hW.rf.2 1
              have rf2 := hW.rf.2 2
              have rf3 := hW.rf.2 3
              have rf4 := hW.rf.2 4
              have rf5 := hW.rf.2 5
              have rf6 := hW.rf.2 6
              have y0 : wc.cell? ⟨w.heap.size + 1, 0, none⟩ = some (.int .i64 (0)) := hW.xf.1 0 _ rfl
              have y1 : wc.cell? ⟨w.heap.size + 1, 1, none⟩ = some (.bool wd) := hW.xf.1 1 _ rfl
              have y2 : wc.cell? ⟨w.heap.size + 1, 2, none⟩ = some (.int .i64 (0)) := hW.xf.1 2 _ rfl
              have y3 : wc.cell? ⟨w.heap.size + 1, 3, none⟩ = some (.int .i64 (0)) := hW.xf.1 3 _ rfl
              have y4 : wc.cell? ⟨w.heap.size + 1, 4, none⟩ = some (.int .i64 (0)) := hW.xf.1 4 _ rfl
              have y5 : wc.cell? ⟨w.heap.size + 1, 5, none⟩ = some (.int .i64 (0)) := hW.xf.1 5 _ rfl
              have y6 : wc.cell? ⟨w.heap.size + 1, 6, none⟩ = some (.int .i64 (0)) := hW.xf.1 6 _ rfl
              have yf0 := hW.xf.2 0
              have yf1 := hW.xf.2 1
              have yf2 := hW.xf.2 2
              have yf3 := hW.xf.2 3
              have yf4 := hW.xf.2 4
              have yf5 := hW.xf.2 5
              have yf6 := hW.xf.2 6
              go_wp2_with fail
              refine bodyPost_ret (results_2 rfl _ _ w.heap.size ⟨0, wd, 0, 0, 0, 0, 0⟩ rfl (RowX.of (((((((hW.2.1.set 0 _).set 1 _).set 2 _).set 3 _).set 4 _).set 5 _).set 6 _) rfl)) rfl ?_
              exact fa_mk ⟨0, wd, 0, 0, 0, 0, 0⟩ false HQ (bel_set (bel_set (bel_set (bel_set (bel_set (bel_set (bel_set hW.1 (Nat.le_refl _) _ _) (Nat.le_refl _) _ _) (Nat.le_refl _) _ _) (Nat.le_refl _) _ _) (Nat.le_refl _) _ _) (Nat.le_refl _) _ _) (Nat.le_refl _) _ _)
            have l4i : ¬ ((R.size : Int) < 4) := by omega
            have l4d : decide ((R.size : Int) < 4) = false := decide_eq_false l4i
            have l4n : decide (R.size < 4) = false := decide_eq_false l4
            have VV := hide (fun U => value_4 (R.extract 0 4) U (by simp; omega))
            rw [ext_mid, List.drop_zero] at VV
            have HG2 : Hid (gu t.data.toList = some ⟨19, wd, 0, 0, 0, 0, v4 (R.data.toList.take 4)⟩) := HG.out.trans (by simp [GN, HZ.out, l4])
            clear HG
            generalize v4 (R.data.toList.take 4) = nv at *
            have HQ : Hid (gu t.data.toList = if true then some ⟨19, wd, 0, 0, 0, 0, nv⟩ else none) := HG2.out.trans (by rfl)
            skip
            clear HG2
            have r0 : wc.cell? ⟨w.heap.size, 0, none⟩ = some (.int .i64 0) := hW.rf.1 0 _ rfl
            have r1 : wc.cell? ⟨w.heap.size, 1, none⟩ = some (.bool false) := hW.rf.1 1 _ rfl
            have r2 : wc.cell? ⟨w.heap.size, 2, none⟩ = some (.int .i64 0) := hW.rf.1 2 _ rfl
            have r3 : wc.cell? ⟨w.heap.size, 3, none⟩ = some (.int .i64 0) := hW.rf.1 3 _ rfl
            have r4 : wc.cell? ⟨w.heap.size, 4, none⟩ = some (.int .i64 0) := hW.rf.1 4 _ rfl
            have r5 : wc.cell? ⟨w.heap.size, 5, none⟩ = some (.int .i64 0) := hW.rf.1 5 _ rfl
            have r6 : wc.cell? ⟨w.heap.size, 6, none⟩ = some (.int .i64 0) := hW.rf.1 6 _ rfl
            have rf0 := hW.rf.2 0
            have rf1 := hW.rf.2 1
            have rf2 := hW.rf.2 2
            have rf3 := hW.rf.2 3
            have rf4 := hW.rf.2 4
            have rf5 := hW.rf.2 5
            have rf6 := hW.rf.2 6
            have y0 : wc.cell? ⟨w.heap.size + 1, 0, none⟩ = some (.int .i64 (0)) := hW.xf.1 0 _ rfl
            have y1 : wc.cell? ⟨w.heap.size + 1, 1, none⟩ = some (.bool wd) := hW.xf.1 1 _ rfl
            have y2 : wc.cell? ⟨w.heap.size + 1, 2, none⟩ = some (.int .i64 (0)) := hW.xf.1 2 _ rfl
            have y3 : wc.cell? ⟨w.heap.size + 1, 3, none⟩ = some (.int .i64 (0)) := hW.xf.1 3 _ rfl
            have y4 : wc.cell? ⟨w.heap.size + 1, 4, none⟩ = some (.int .i64 (0)) := hW.xf.1 4 _ rfl
            have y5 : wc.cell? ⟨w.heap.size + 1, 5, none⟩ = some (.int .i64 (0)) := hW.xf.1 5 _ rfl
            have y6 : wc.cell? ⟨w.heap.size + 1, 6, none⟩ = some (.int .i64 (0)) := hW.xf.1 6 _ rfl
            have yf0 := hW.xf.2 0
            have yf1 := hW.xf.2 1
            have yf2 := hW.xf.2 2
            have yf3 := hW.xf.2 3
            have yf4 := hW.xf.2 4
            have yf5 := hW.xf.2 5
            have yf6 := hW.xf.2 6
            go_upto_region 98 with (first | (go_at_call 56; refine (VV.out _).mono ?_; rintro e w' ⟨rfl, rfl⟩) | fail)
            refine gen_world (motive := fun x => Code.wp _ _ _ _ x) (fun V => GW ⟨19, wd, 0, 0, 0, 0, nv⟩ w V) (((hW.set 0 _ (x' := ⟨17, wd, 0, 0, 0, 0, 0⟩) rfl).set 0 _ (x' := ⟨19, wd, 0, 0, 0, 0, 0⟩) rfl).set 6 _ (x' := ⟨19, wd, 0, 0, 0, 0, nv⟩) rfl) ?_
            clear r0 rf0 y0 yf0 r1 rf1 y1 yf1 r2 rf2 y2 yf2 r3 rf3 y3 yf3 r4 rf4 y4 yf4 r5 rf5 y5 yf5 r6 rf6 y6 yf6
            rintro V hV
            have r0 : V.cell? ⟨w.heap.size, 0, none⟩ = some (.int .i64 0) := hV.rf.1 0 _ rfl
            have r1 : V.cell? ⟨w.heap.size, 1, none⟩ = some (.bool false) := hV.rf.1 1 _ rfl
            have r2 : V.cell? ⟨w.heap.size, 2, none⟩ = some (.int .i64 0) := hV.rf.1 2 _ rfl
            have r3 : V.cell? ⟨w.heap.size, 3, none⟩ = some (.int .i64 0) := hV.rf.1 3 _ rfl
            have r4 : V.cell? ⟨w.heap.size, 4, none⟩ = some (.int .i64 0) := hV.rf.1 4 _ rfl
            have r5 : V.cell? ⟨w.heap.size, 5, none⟩ = some (.int .i64 0) := hV.rf.1 5 _ rfl
            have r6 : V.cell? ⟨w.heap.size, 6, none⟩ = some (.int .i64 0) := hV.rf.1 6 _ rfl
            have rf0 := hV.rf.2 0
            have rf1 := hV.rf.2 1
            have rf2 := hV.rf.2 2
            have rf3 := hV.rf.2 3
            have rf4 := hV.rf.2 4
            have rf5 := hV.rf.2 5
            have rf6 := hV.rf.2 6
            have y0 : V.cell? ⟨w.heap.size + 1, 0, none⟩ = some (.int .i64 (19)) := hV.xf.1 0 _ rfl
            have y1 : V.cell? ⟨w.heap.size + 1, 1, none⟩ = some (.bool wd) := hV.xf.1 1 _ rfl
            have y2 : V.cell? ⟨w.heap.size + 1, 2, none⟩ = some (.int .i64 (0)) := hV.xf.1 2 _ rfl
            have y3 : V.cell? ⟨w.heap.size + 1, 3, none⟩ = some (.int .i64 (0)) := hV.xf.1 3 _ rfl
            have y4 : V.cell? ⟨w.heap.size + 1, 4, none⟩ = some (.int .i64 (0)) := hV.xf.1 4 _ rfl
            have y5 : V.cell? ⟨w.heap.size + 1, 5, none⟩ = some (.int .i64 (0)) := hV.xf.1 5 _ rfl
            have y6 : V.cell? ⟨w.heap.size + 1, 6, none⟩ = some (.int .i64 (nv)) := hV.xf.1 6 _ rfl
            have yf0 := hV.xf.2 0
            have yf1 := hV.xf.2 1
            have yf2 := hV.xf.2 2
            have yf3 := hV.xf.2 3
            have yf4 := hV.xf.2 4
            have yf5 := hV.xf.2 5
            have yf6 := hV.xf.2 6
            go_wp2_with fail
            refine bodyPost_ret (results_2 rfl _ _ w.heap.size ⟨19, wd, 0, 0, 0, 0, nv⟩ rfl (RowX.of (((((((hV.2.1.set 0 _).set 1 _).set 2 _).set 3 _).set 4 _).set 5 _).set 6 _) rfl)) rfl ?_
            exact fa_mk ⟨19, wd, 0, 0, 0, 0, nv⟩ true HQ (bel_set (bel_set (bel_set (bel_set (bel_set (bel_set (bel_set hV.1 (Nat.le_refl _) _ _) (Nat.le_refl _) _ _) (Nat.le_refl _) _ _) (Nat.le_refl _) _ _) (Nat.le_refl _) _ _) (Nat.le_refl _) _ _) (Nat.le_refl _) _ _)
          by_cases c195 : op = 195
          · subst c195
            have HQ : Hid (gu t.data.toList = if true then some ⟨20, wd, 0, 0, 0, 0, 0⟩ else none) := HG.out.trans (by simp [GN])
            skip
            clear HG
            have r0 : wc.cell? ⟨w.heap.size, 0, none⟩ = some (.int .i64 0) := hW.rf.1 0 _ rfl
            have r1 : wc.cell? ⟨w.heap.size, 1, none⟩ = some (.bool false) := hW.rf.1 1 _ rfl
            have r2 : wc.cell? ⟨w.heap.size, 2, none⟩ = some (.int .i64 0) := hW.rf.1 2 _ rfl
            have r3 : wc.cell? ⟨w.heap.size, 3, none⟩ = some (.int .i64 0) := hW.rf.1 3 _ rfl
            have r4 : wc.cell? ⟨w.heap.size, 4, none⟩ = some (.int .i64 0) := hW.rf.1 4 _ rfl
            have r5 : wc.cell? ⟨w.heap.size, 5, none⟩ = some (.int .i64 0) := hW.rf.1 5 _ rfl
            have r6 : wc.cell? ⟨w.heap.size, 6, none⟩ = some (.int .i64 0) := hW.rf.1 6 _ rfl
            have rf0 := hW.rf.2 0
            have rf1 := hW.rf.2 1
            have rf2 := hW.rf.2 2
            have rf3 := hW.rf.2 3
            have rf4 := hW.rf.2 4
            have rf5 := hW.rf.2 5
            have rf6 := hW.rf.2 6
            have y0 : wc.cell? ⟨w.heap.size + 1, 0, none⟩ = some (.int .i64 (0)) := hW.xf.1 0 _ rfl
            have y1 : wc.cell? ⟨w.heap.size + 1, 1, none⟩ = some (.bool wd) := hW.xf.1 1 _ rfl
            have y2 : wc.cell? ⟨w.heap.size + 1, 2, none⟩ = some (.int .i64 (0)) := hW.xf.1 2 _ rfl
            have y3 : wc.cell? ⟨w.heap.size + 1, 3, none⟩ = some (.int .i64 (0)) := hW.xf.1 3 _ rfl
            have y4 : wc.cell? ⟨w.heap.size + 1, 4, none⟩ = some (.int .i64 (0)) := hW.xf.1 4 _ rfl
            have y5 : wc.cell? ⟨w.heap.size + 1, 5, none⟩ = some (.int .i64 (0)) := hW.xf.1 5 _ rfl
            have y6 : wc.cell? ⟨w.heap.size + 1, 6, none⟩ = some (.int .i64 (0)) := hW.xf.1 6 _ rfl
            have yf0 := hW.xf.2 0
            have yf1 := hW.xf.2 1
            have yf2 := hW.xf.2 2
            have yf3 := hW.xf.2 3
            have yf4 := hW.xf.2 4
            have yf5 := hW.xf.2 5
            have yf6 := hW.xf.2 6
            go_upto_region 98 with fail
            refine gen_world (motive := fun x => Code.wp _ _ _ _ x) (fun V => GW ⟨20, wd, 0, 0, 0, 0, 0⟩ w V) (hW.set 0 _ (x' := ⟨20, wd, 0, 0, 0, 0, 0⟩) rfl) ?_
            clear r0 rf0 y0 yf0 r1 rf1 y1 yf1 r2 rf2 y2 yf2 r3 rf3 y3 yf3 r4 rf4 y4 yf4 r5 rf5 y5 yf5 r6 rf6 y6 yf6
            rintro V hV
            have r0 : V.cell? ⟨w.heap.size, 0, none⟩ = some (.int .i64 0) := hV.rf.1 0 _ rfl
            have r1 : V.cell? ⟨w.heap.size, 1, none⟩ = some (.bool false) := hV.rf.1 1 _ rfl
            have r2 : V.cell? ⟨w.heap.size, 2, none⟩ = some (.int .i64 0) := hV.rf.1 2 _ rfl
            have r3 : V.cell? ⟨w.heap.size, 3, none⟩ = some (.int .i64 0) := hV.rf.1 3 _ rfl
            have r4 : V.cell? ⟨w.heap.size, 4, none⟩ = some (.int .i64 0) := hV.rf.1 4 _ rfl
            have r5 : V.cell? ⟨w.heap.size, 5, none⟩ = some (.int .i64 0) := hV.rf.1 5 _ rfl
            have r6 : V.cell? ⟨w.heap.size, 6, none⟩ = some (.int .i64 0) := hV.rf.1 6 _ rfl
            have rf0 := hV.rf.2 0
            have rf1 := hV.rf.2 1
            have rf2 := hV.rf.2 2
            have rf3 := hV.rf.2 3
            have rf4 := hV.rf.2 4
            have rf5 := hV.rf.2 5
            have rf6 := hV.rf.2 6
            have y0 : V.cell? ⟨w.heap.size + 1, 0, none⟩ = some (.int .i64 (20)) := hV.xf.1 0 _ rfl
            have y1 : V.cell? ⟨w.heap.size + 1, 1, none⟩ = some (.bool wd) := hV.xf.1 1 _ rfl
            have y2 : V.cell? ⟨w.heap.size + 1, 2, none⟩ = some (.int .i64 (0)) := hV.xf.1 2 _ rfl
            have y3 : V.cell? ⟨w.heap.size + 1, 3, none⟩ = some (.int .i64 (0)) := hV.xf.1 3 _ rfl
            have y4 : V.cell? ⟨w.heap.size + 1, 4, none⟩ = some (.int .i64 (0)) := hV.xf.1 4 _ rfl
            have y5 : V.cell? ⟨w.heap.size + 1, 5, none⟩ = some (.int .i64 (0)) := hV.xf.1 5 _ rfl
            have y6 : V.cell? ⟨w.heap.size + 1, 6, none⟩ = some (.int .i64 (0)) := hV.xf.1 6 _ rfl
            have yf0 := hV.xf.2 0
            have yf1 := hV.xf.2 1
            have yf2 := hV.xf.2 2
            have yf3 := hV.xf.2 3
            have yf4 := hV.xf.2 4
            have yf5 := hV.xf.2 5
            have yf6 := hV.xf.2 6
            go_wp2_with fail
            refine bodyPost_ret (results_2 rfl _ _ w.heap.size ⟨20, wd, 0, 0, 0, 0, 0⟩ rfl (RowX.of (((((((hV.2.1.set 0 _).set 1 _).set 2 _).set 3 _).set 4 _).set 5 _).set 6 _) rfl)) rfl ?_
            exact fa_mk ⟨20, wd, 0, 0, 0, 0, 0⟩ true HQ (bel_set (bel_set (bel_set (bel_set (bel_set (bel_set (bel_set hV.1 (Nat.le_refl _) _ _) (Nat.le_refl _) _ _) (Nat.le_refl _) _ _) (Nat.le_refl _) _ _) (Nat.le_refl _) _ _) (Nat.le_refl _) _ _) (Nat.le_refl _) _ _)
          by_cases c244 : op = 244
          · exfalso; omega
          by_cases c204 : op = 204
          · exfalso; omega
          exfalso; omega
end Go.Proofs.Ytddepkiefkngdaa
