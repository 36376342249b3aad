/-
  The document's Fits.
-/
import Derived.Test.YtjgaaofpfepfhaaDoorR4
import Derived.Test.YtjgaaofpfepfhaaDoorFits
namespace Go.Proofs.YtjgaaofpfepfhaaDoor
open Go.RowKit
set_option linter.unusedSimpArgs false
set_option linter.unusedVariables false
/-- What is asked of what is written. -/
def badw (x : Ir) (m : Int) : Bool := decide (m ≤ df x) || (decide (df x < -1) || (decide (df x = -1) && wrs x))
theorem nam_is {x : Ir} {m : Int} (hm : 0 ≤ m) : nam x m = ((us x).all (fun y => isC y m) && !badw x m) := by
  have e1 : (us x).all (fun y => isC y m) = (raw x).all (fun y => isC y m) := by
    rw [Bool.eq_iff_iff, List.all_eq_true, List.all_eq_true]
    exact ⟨fun h y hy => h y ((us_mem x y).2 hy), fun h y hy => h y ((us_mem x y).1 hy)⟩
  unfold nam
  rw [e1]
  congr 1
  have hw : wrs x = true ↔ (x.op = 1 ∨ x.op = 2 ∨ x.op = 3 ∨ x.op = 4 ∨ x.op = 5 ∨ x.op = 7) := by
    unfold wrs
    simp only [Bool.or_eq_true, beq_iff_eq]
    omega
  have hd : df x = if x.op = 1 ∨ x.op = 2 ∨ x.op = 3 ∨ x.op = 4 ∨ x.op = 5 ∨ x.op = 7 ∨ x.op = 14 then x.dst else -1 := rfl
  unfold badw
  by_cases h14 : x.op = 14
  · rw [if_pos h14]
    rw [if_pos (by omega)] at hd
    have hf : wrs x = false := by
      cases h : wrs x
      · rfl
      · have := hw.1 h; omega
    rw [hd, hf, Bool.eq_iff_iff]
    simp [isC]
    omega
  · rw [if_neg h14]
    cases h : wrs x
    · have : ¬ (x.op = 1 ∨ x.op = 2 ∨ x.op = 3 ∨ x.op = 4 ∨ x.op = 5 ∨ x.op = 7) := fun h' => by rw [hw.2 h'] at h; cases h
      rw [if_neg (by omega)] at hd
      rw [hd, if_neg (by simp)]
      simp
      omega
    · have := hw.1 h
      rw [if_pos (by omega)] at hd
      rw [hd, if_pos rfl, Bool.eq_iff_iff]
      simp [isC]
      omega
set_option maxRecDepth 100000 in
set_option maxHeartbeats 6400000 in
theorem rfits_any (d : Cd) (a : Option Addr) (cap : Nat) (l : List Ir) (w : World) (hl : l.length ≤ 1000) (hr : IR w.heap.size w a l) :
    Calls Tryd.prog 29 #[cv d a l.length cap] w fun e w' => e = .returned (.bool (fitb d l)) ∧ Below w.heap.size w w' := by
  have hl2 : ¬ 1000 < (l.length : Int) := by omega
  have HL := hide hl
  have HR := hide hr
  have B0 : FB d a l.length cap w.heap.size l w (w.alloc (.cells #[.int .i64 d.cells, .int .i64 d.params, .slice a l.length cap, .int .i64 d.labels] 24)) := ⟨bel_one _ _, by simp, heap_alloc_new _ _⟩
  have FA := hide (@fit_all d l)
  have FD := hide (show fitb d l = (decide (0 ≤ d.params) && (decide (d.params ≤ d.cells) && (decide (d.cells ≤ 60) && l.all (okx l d.cells)))) from rfl)
  have CVF := hide (fun nn U (hU : IR U.heap.size U a l) => rfind_any d a cap l nn U hl hU)
  obtain ⟨cs, ps, ls⟩ := d
  unfold cv at CVF ⊢
  simp only at B0 FA FD CVF ⊢
  clear hl hr
  go_enter Tryd.func29, Tryd.ntmps29
  go_upto_region 1 with fail
  refine gw (motive := fun x => Code.wp _ _ _ _ x) (fun W => Hid (FB ⟨cs, ps, ls⟩ a l.length cap w.heap.size l w W)) B0 ?_
  rintro W HW
  clear B0
  obtain ⟨c0, c1, c2, c3⟩ := HW.out.cells (Below.refl _ W) HW.out.lt
  simp only at c0 c1 c2 c3
  by_cases hcn : cs < 0
  · have FD2 : Hid (fitb ⟨cs, ps, ls⟩ l = false) := by
      show _ = _; rw [FD.out]
      by_cases h : 0 ≤ ps
      · simp [show ¬ ps ≤ cs by omega]
      · simp [h]
    go_wp2_with fail
    go_ret
    exact ⟨by rw [FD2.out]; rfl, HW.out.b⟩
  by_cases hc : 60 < cs
  · have FD2 : Hid (fitb ⟨cs, ps, ls⟩ l = false) := by show _ = _; rw [FD.out]; simp [show ¬ cs ≤ 60 by omega]
    go_wp2_with fail
    go_ret
    exact ⟨by rw [FD2.out]; rfl, HW.out.b⟩
  by_cases hp : ps < 0
  · have FD2 : Hid (fitb ⟨cs, ps, ls⟩ l = false) := by show _ = _; rw [FD.out]; simp [show ¬ 0 ≤ ps by omega]
    go_wp2_with fail
    go_ret
    exact ⟨by rw [FD2.out]; rfl, HW.out.b⟩
  by_cases hpc : cs < ps
  · have FD2 : Hid (fitb ⟨cs, ps, ls⟩ l = false) := by show _ = _; rw [FD.out]; simp [show ¬ ps ≤ cs by omega]
    go_wp2_with fail
    go_ret
    exact ⟨by rw [FD2.out]; rfl, HW.out.b⟩
  have FF := hide (FA.out (by omega) (by omega) (by omega))
  clear FA FD
  have hqW := HW.out.lt
  go_wp2_with fail
  clear c0 c1 c2 c3
  go_loopw [3, 4, 5, 6, 7, 8, 9] (fun s3 _ _ _ _ _ _ wr => ∃ k : Nat, k ≤ l.length ∧ s3 = .int .i64 (k : Int) ∧ Hid (Below W.heap.size W wr) ∧ Hid (∀ j (hj : j < l.length), j < k → okx l cs l[j] = true)) (fun s3 _ _ _ _ _ _ _ => l.length - (intOf s3).toNat)
  case atStart => exact ⟨0, Nat.zero_le _, rfl, Below.refl _ _, fun j hj h => absurd h (Nat.not_lt_zero _)⟩
  case round =>
    obtain ⟨k, hk, rfl, HB, HA⟩ := hrel
    have hk1 := HL.out
    obtain ⟨c0, c1, c2, c3⟩ := HW.out.cells HB.out hqW
    simp only at c0 c1 c2 c3
    by_cases hlt : k < l.length
    · obtain ⟨b, o, rfl, hb, hcx, hox⟩ := (HR.out.bel HW.out.b) k hlt
      have hbW : b < W.heap.size := Nat.lt_of_lt_of_le hb HW.out.b.size
      obtain ⟨d0, d1, d2, d3, d4, d5, d6⟩ := hcx.of (HB.out.block b hbW)
      have OX := hide (show okx l cs l[k] = (nam l[k] cs && (!jmp l[k] || decide (cnt l l[k].n = 1))) from rfl)
      have NM := hide (nam_is (x := l[k]) (m := cs) (by omega))
      have BW := hide (show badw l[k] cs = (decide (cs ≤ df l[k]) || (decide (df l[k] < -1) || (decide (df l[k] = -1) && wrs l[k]))) from rfl)
      have AN := hide (fun h => all_no (p := okx l cs) hlt h)
      have AY : Hid (okx l cs l[k] = true → ∀ j (hj : j < l.length), j < k + 1 → okx l cs l[j] = true) := fun h j hj hjk => by
        rcases Nat.lt_succ_iff_lt_or_eq.1 hjk with h' | h'
        · exact HA.out j hj h'
        · subst h'; exact h
      have hB0 := Bx.made l[k] wr
      have UA := hide (fun U => ruses_any l[k] U)
      have DA := hide (fun U => rdefs_any l[k] U)
      have JA := hide (fun U => rjump_any l[k] U)
      have WA := hide (fun U => rwrites_any l[k] U)
      have UL := us_len l[k]
      have h1 : (k : Int) < (l.length : Int) := by omega
      have h0 : (0 : Int) ≤ (k : Int) := by omega
      have CV2 := hide (fun U (hU : Below W.heap.size W U) => CVF.out l[k].n U (((HR.out.bel HW.out.b).up HW.out.b.size).bel hU |>.up hU.size))
      clear hcx CVF
      generalize l[k] = x at *
      obtain ⟨op, dst, aa, bb, cc, nn, mm⟩ := x
      unfold xv xc at UA DA
      unfold xc at hB0
      simp only at d0 d1 d2 d3 d4 d5 d6 OX CV2 JA WA
      go_upto_region 7 with fail
      refine gw (motive := fun x => Code.wp _ _ _ _ x) (fun V => Hid (Bx wr.heap.size ⟨op, dst, aa, bb, cc, nn, mm⟩ wr V)) hB0 ?_
      rintro V HV
      clear hB0 d0 d1 d2 d3 d4 d5 d6 c0 c1 c2 c3
      obtain ⟨e0, e1, e2, e3, e4, e5, e6⟩ := HV.out.c7 (Below.refl _ V)
      simp only at e0 e1 e2 e3 e4 e5 e6
      have HBV := hide (bel_tr HB.out HV.out.b)
      go_wp2_with fail
      refine (UA.out V).mono ?_
      rintro e w1 ⟨v, rfl, hv, hb1⟩
      have HB1 := hide (bel_tr HBV.out hb1)
      have HX1 : Hid (Bx wr.heap.size ⟨op, dst, aa, bb, cc, nn, mm⟩ V w1) := ⟨hb1, Nat.lt_of_lt_of_le HV.out.lt hb1.size, (hb1.block _ HV.out.lt).trans HV.out.r⟩
      have HV1 := hide hv
      obtain ⟨av, cav, hf⟩ := hv.form
      subst hf
      clear hv hb1 UA e0 e1 e2 e3 e4 e5 e6
      generalize us ⟨op, dst, aa, bb, cc, nn, mm⟩ = ux at *
      go_wp2_with fail
      go_loopw [6] (fun s6 wr2 => ∃ j : Nat, j ≤ ux.length ∧ s6 = .int .i64 (j : Int) ∧ Hid (Below w1.heap.size w1 wr2) ∧ Hid (∀ q (hq : q < ux.length), q < j → isC ux[q] cs = true)) (fun s6 _ => ux.length - (intOf s6).toNat)
      case atStart => exact ⟨0, Nat.zero_le _, rfl, Below.refl _ _, fun q hq h => absurd h (Nat.not_lt_zero _)⟩
      case round =>
        obtain ⟨j, hj, rfl, HB2, HQ⟩ := hrel
        have HBA := hide (bel_tr HB1.out HB2.out)
        obtain ⟨c0, c1, c2, c3⟩ := HW.out.cells HBA.out hqW
        simp only at c0 c1 c2 c3
        by_cases hjl : j < ux.length
        · obtain ⟨g, c', e, hg1, hg2, hx⟩ := (HV1.out.kept HB2.out).at_ hjl
          injection e with ea e3 e2
          subst ea e2
          have j1 : (j : Int) < (ux.length : Int) := by omega
          have j0 : (0 : Int) ≤ (j : Int) := by omega
          have HB3 := hide HB2.out.drew
          have HBF := hide (HW.out.b.trans (HBA.out.drew.mono HW.out.b.size))
          have ISC := hide (show isC ux[j] cs = (decide (0 ≤ ux[j]) && decide (ux[j] < cs)) from rfl)
          have QY : Hid (isC ux[j] cs = true → ∀ q (hq : q < ux.length), q < j + 1 → isC ux[q] cs = true) := fun h q hq hqj => by
            rcases Nat.lt_succ_iff_lt_or_eq.1 hqj with h' | h'
            · exact HQ.out q hq h'
            · subst h'; exact h
          have QN : Hid (isC ux[j] cs = false → ux.all (fun y => isC y cs) = false) := fun h => List.all_eq_false.2 ⟨ux[j], List.getElem_mem _, by simp [h]⟩
          generalize ux[j] = y at *
          by_cases y0 : y < 0
          · have hdy : decide (y < 0) = true := by simpa using y0
            have FN : Hid (fitb ⟨cs, ps, ls⟩ l = false) := by show _ = _; rw [FF.out]; exact AN.out (by rw [OX.out, NM.out, QN.out (by rw [ISC.out]; simp; omega)]; rfl)
            go_wp2_with fail
            go_region
            go_wp2_with fail
            go_ret
            exact ⟨by rw [FN.out]; rfl, HBF.out⟩
          have hdy : decide (y < 0) = false := by simpa using y0
          by_cases y1 : y < cs
          · have QY2 := hide (QY.out (by rw [ISC.out]; simp; omega))
            go_wp2_with fail
            go_region
            go_wp2_with fail
            go_roundw
            case rel => exact ⟨j + 1, hjl, by go_num, HB3, QY2⟩
            case measure => simp [intOf]; omega
          · have FN : Hid (fitb ⟨cs, ps, ls⟩ l = false) := by show _ = _; rw [FF.out]; exact AN.out (by rw [OX.out, NM.out, QN.out (by rw [ISC.out]; simp; omega)]; rfl)
            go_wp2_with fail
            go_region
            go_wp2_with fail
            go_ret
            exact ⟨by rw [FN.out]; rfl, HBF.out⟩
        · obtain rfl : j = ux.length := by omega
          have UALL : Hid (ux.all (fun y => isC y cs) = true) := List.all_eq_true.2 fun y hy => by
            obtain ⟨q, hq, rfl⟩ := List.mem_iff_getElem.1 hy
            exact HQ.out q hq hq
          have j1 : ¬ (ux.length : Int) < (ux.length : Int) := by omega
          obtain ⟨U2, hU2⟩ : ∃ z, z = wr := ⟨_, rfl⟩
          subst hU2
          have HVU := hide (HX1.out.b.trans (HB2.out.mono HX1.out.b.size))
          obtain ⟨e0, e1, e2, e3, e4, e5, e6⟩ := HV.out.c7 HVU.out
          simp only at e0 e1 e2 e3 e4 e5 e6
          rw [UALL.out] at NM
          simp only [Bool.true_and] at NM
          clear HV1 HB2 HQ HB1
          go_wp2_with fail
          refine (DA.out U2).mono ?_
          rintro e w3 ⟨rfl, hb3⟩
          have HB3 := hide (bel_tr HBA.out hb3)
          obtain ⟨c0, c1, c2, c3⟩ := HW.out.cells HB3.out hqW
          obtain ⟨e0, e1, e2, e3, e4, e5, e6⟩ := HV.out.c7 (bel_tr HVU.out hb3)
          simp only at c0 c1 c2 c3 e0 e1 e2 e3 e4 e5 e6
          have HVW := hide (bel_tr HVU.out hb3)
          have HBF := hide (HW.out.b.trans (HB3.out.mono HW.out.b.size))
          clear hb3 DA
          generalize df ⟨op, dst, aa, bb, cc, nn, mm⟩ = dd at *
          by_cases q1 : cs ≤ dd
          · have FN : Hid (fitb ⟨cs, ps, ls⟩ l = false) := by show _ = _; rw [FF.out]; exact AN.out (by rw [OX.out, NM.out, BW.out]; simp [q1])
            go_wp2_with fail
            go_ret
            exact ⟨by rw [FN.out]; rfl, HBF.out⟩
          by_cases q2 : dd < -1
          · have FN : Hid (fitb ⟨cs, ps, ls⟩ l = false) := by show _ = _; rw [FF.out]; exact AN.out (by rw [OX.out, NM.out, BW.out]; simp [q2])
            go_wp2_with fail
            go_ret
            exact ⟨by rw [FN.out]; rfl, HBF.out⟩
          by_cases q3 : dd = -1
          · subst q3
            cases hw : wrs ⟨op, dst, aa, bb, cc, nn, mm⟩ with
            | true =>
              rw [hw] at WA BW
              have FN : Hid (fitb ⟨cs, ps, ls⟩ l = false) := by show _ = _; rw [FF.out]; exact AN.out (by rw [OX.out, NM.out, BW.out]; simp)
              go_wp2_with fail
              refine (WA.out _).mono ?_
              rintro e w4 ⟨rfl, rfl⟩
              go_wp2_with fail
              go_ret
              exact ⟨by rw [FN.out]; rfl, HBF.out⟩
            | false =>
              rw [hw] at WA BW
              go_wp2_with fail
              refine (WA.out _).mono ?_
              rintro e w4' ⟨rfl, rfl⟩
              have NM2 : Hid (nam ⟨op, dst, aa, bb, cc, nn, mm⟩ cs = true) := by show _ = _; rw [NM.out, BW.out]; simp; omega
              have OX2 : Hid (okx l cs ⟨op, dst, aa, bb, cc, nn, mm⟩ = (!jmp ⟨op, dst, aa, bb, cc, nn, mm⟩ || decide (cnt l nn = 1))) := by show _ = _; rw [OX.out, NM2.out]; rfl
              clear NM BW OX NM2
              cases hj : jmp ⟨op, dst, aa, bb, cc, nn, mm⟩ with
              | false =>
                rw [hj] at JA OX2
                have AY2 := hide (AY.out (by rw [OX2.out]; rfl))
                go_wp2_with fail
                refine (JA.out _).mono ?_
                rintro e w4 ⟨rfl, rfl⟩
                go_wp2_with fail
                go_roundw
                case rel => exact ⟨k + 1, hlt, by go_num, HB3, AY2⟩
                case measure => simp [intOf]; omega
              | true =>
                rw [hj] at JA OX2
                have FI := hide (CV2.out w4' HB3.out)
                go_wp2_with fail
                refine (JA.out _).mono ?_
                rintro e w4 ⟨rfl, rfl⟩
                go_wp2_with fail
                refine FI.out.mono ?_
                rintro e w5 ⟨rfl, hb5⟩
                have HB5 := hide (bel_tr HB3.out hb5)
                have HBG := hide (HW.out.b.trans (HB5.out.mono HW.out.b.size))
                clear hb5 FI
                by_cases hc1 : cnt l nn = 1
                · have AY2 := hide (AY.out (by rw [OX2.out, hc1]; rfl))
                  rw [hc1]
                  clear hc1
                  go_wp2_with fail
                  go_roundw
                  case rel => exact ⟨k + 1, hlt, by go_num, HB5, AY2⟩
                  case measure => simp [intOf]; omega
                · have FN : Hid (fitb ⟨cs, ps, ls⟩ l = false) := by show _ = _; rw [FF.out]; exact AN.out (by rw [OX2.out]; simp [hc1])
                  have hne : ¬ ((cnt l nn : Nat) : Int) = 1 := by omega
                  generalize ((cnt l nn : Nat) : Int) = cn at *
                  go_wp2_with fail
                  go_ret
                  exact ⟨by rw [FN.out]; rfl, HBG.out⟩
          have NM2 : Hid (nam ⟨op, dst, aa, bb, cc, nn, mm⟩ cs = true) := by show _ = _; rw [NM.out, BW.out]; simp; omega
          have OX2 : Hid (okx l cs ⟨op, dst, aa, bb, cc, nn, mm⟩ = (!jmp ⟨op, dst, aa, bb, cc, nn, mm⟩ || decide (cnt l nn = 1))) := by show _ = _; rw [OX.out, NM2.out]; rfl
          clear NM BW OX NM2
          cases hj : jmp ⟨op, dst, aa, bb, cc, nn, mm⟩ with
          | false =>
            rw [hj] at JA OX2
            have AY2 := hide (AY.out (by rw [OX2.out]; rfl))
            go_wp2_with fail
            refine (JA.out _).mono ?_
            rintro e w4 ⟨rfl, rfl⟩
            go_wp2_with fail
            go_roundw
            case rel => exact ⟨k + 1, hlt, by go_num, HB3, AY2⟩
            case measure => simp [intOf]; omega
          | true =>
            rw [hj] at JA OX2
            have FI := hide (CV2.out w3 HB3.out)
            go_wp2_with fail
            refine (JA.out _).mono ?_
            rintro e w4 ⟨rfl, rfl⟩
            go_wp2_with fail
            refine FI.out.mono ?_
            rintro e w5 ⟨rfl, hb5⟩
            have HB5 := hide (bel_tr HB3.out hb5)
            have HBG := hide (HW.out.b.trans (HB5.out.mono HW.out.b.size))
            clear hb5 FI
            by_cases hc1 : cnt l nn = 1
            · have AY2 := hide (AY.out (by rw [OX2.out, hc1]; rfl))
              rw [hc1]
              clear hc1
              go_wp2_with fail
              go_roundw
              case rel => exact ⟨k + 1, hlt, by go_num, HB5, AY2⟩
              case measure => simp [intOf]; omega
            · have FN : Hid (fitb ⟨cs, ps, ls⟩ l = false) := by show _ = _; rw [FF.out]; exact AN.out (by rw [OX2.out]; simp [hc1])
              have hne : ¬ ((cnt l nn : Nat) : Int) = 1 := by omega
              generalize ((cnt l nn : Nat) : Int) = cn at *
              go_wp2_with fail
              go_ret
              exact ⟨by rw [FN.out]; rfl, HBG.out⟩
    · obtain rfl : k = l.length := by omega
      have h1 : ¬ (l.length : Int) < (l.length : Int) := by omega
      have FN : Hid (fitb ⟨cs, ps, ls⟩ l = true) := by show _ = _; rw [FF.out]; exact all_yes fun j hj => HA.out j hj hj
      have HB5 := hide (HW.out.b.trans (HB.out.mono HW.out.b.size))
      go_wp2_with fail
      go_ret
      exact ⟨by rw [FN.out]; rfl, HB5.out⟩
end Go.Proofs.YtjgaaofpfepfhaaDoor
