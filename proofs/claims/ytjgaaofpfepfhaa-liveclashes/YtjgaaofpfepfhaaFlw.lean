/-
  The law LiveFlows.
-/
import Derived.Test.YtjgaaofpfepfhaaSym
import Derived.Test.YtjgaaofpfepfhaaNum
namespace Go.Proofs.Ytjgaaofpfepfhaa
open Go.RowKit
set_option linter.unusedSimpArgs false
set_option linter.unusedVariables false
/-- The code in its box. -/
structure FQ (cs ps ls : Int) (q : Option Addr) (n cap q0 : Nat) (w W : World) : Prop where
  b : Below w.heap.size w W
  lt : q0 < W.heap.size
  c0 : W.cell? ⟨q0, 0, none⟩ = some (.int .i64 cs)
  c1 : W.cell? ⟨q0, 1, none⟩ = some (.int .i64 ps)
  c2 : W.cell? ⟨q0, 2, none⟩ = some (.slice q n cap)
  c3 : W.cell? ⟨q0, 3, none⟩ = some (.int .i64 ls)
theorem FQ.bel {cs ps ls : Int} {q : Option Addr} {n cap q0 : Nat} {w W U : World} (h : FQ cs ps ls q n cap q0 w W) (k : Below W.heap.size W U) : FQ cs ps ls q n cap q0 w U :=
  ⟨h.b.trans (k.mono h.b.size), Nat.lt_of_lt_of_le h.lt k.size, (k.cell (p := ⟨q0, 0, none⟩) h.lt).trans h.c0, (k.cell (p := ⟨q0, 1, none⟩) h.lt).trans h.c1, (k.cell (p := ⟨q0, 2, none⟩) h.lt).trans h.c2, (k.cell (p := ⟨q0, 3, none⟩) h.lt).trans h.c3⟩
theorem IR.take {n₀ : Nat} {W : World} {a : Option Addr} {l : List Ir} (h : IR n₀ W a l) (m : Nat) : IR n₀ W a (l.take m) := fun j hj => by
  rw [List.length_take] at hj
  rw [List.getElem_take]
  exact h j (by omega)
theorem dn_none {s : Nat} (h : s < lim) : dn s 0 = s := Nat.eq_of_testBit_eq fun i => by
  rw [dn_bit h (by decide)]
  simp
set_option maxRecDepth 100000 in
set_option maxHeartbeats 6400000 in
theorem flows_walk (EX : ∀ U : World, Calls Try.prog 6 #[] U fun e w' => e = .returned (.bool true) ∧ Below U.heap.size U w') (d : Cd) (q : Option Addr) (cap : Nat) (l : List Ir) (a b : Int) (w : World) (hc : l.length ≤ cap) (hr : IR w.heap.size w q l) :
    Calls Try.prog 5 #[cv d q l.length cap, .int .i64 a, .int .i64 b] w fun e w' => e = .returned (.bool true) ∧ Below w.heap.size w w' := by
  have HR := hide hr
  have HE := hide EX
  clear hr EX
  obtain ⟨cs, ps, ls⟩ := d
  have B0 : FB ⟨cs, ps, ls⟩ q l.length cap w.heap.size l w (w.alloc (.cells #[.int .i64 cs, .int .i64 ps, .slice q l.length cap, .int .i64 ls] 24)) := ⟨bel_one _ _, by simp, heap_alloc_new _ _⟩
  unfold cv
  go_enter Try.func5, Try.ntmps5
  go_wp2_with fail
  refine (HE.out _).mono ?_
  rintro e W1 ⟨rfl, h1⟩
  have F1 : FB ⟨cs, ps, ls⟩ q l.length cap w.heap.size l w W1 := ⟨B0.b.trans (h1.mono B0.b.size), Nat.lt_of_lt_of_le B0.lt h1.size, (h1.block _ B0.lt).trans B0.r⟩
  have HF1 := hide F1
  have hfz : W1.frozen? ⟨w.heap.size, 2, none⟩ = false := by simp [World.frozen?, F1.r]
  obtain ⟨c0, c1, c2, c3⟩ := F1.cells (Below.refl _ W1) F1.lt
  simp only at c0 c1 c2 c3
  clear B0 F1 h1 HE
  obtain ⟨m, hm⟩ : ∃ m : Nat, min l.length 100 = m := ⟨_, rfl⟩
  have hmm : min (l.length : Int) 100 = (m : Int) := by omega
  have hmc : (m : Int) ≤ (cap : Int) := by omega
  have hm0 : (0 : Int) ≤ (m : Int) := by omega
  go_upto_region 3 with fail
  obtain ⟨t, ht⟩ : ∃ t, l.take m = t := ⟨_, rfl⟩
  have htl : m = t.length := by rw [← ht, List.length_take]; omega
  have htn : t.length ≤ 100 := by omega
  have HT := hide (HR.out.take m)
  rw [ht] at HT
  have hq0 : w.heap.size < W1.heap.size := HF1.out.lt
  have Q0 : FQ cs ps ls q m cap w.heap.size w (W1.setCell ⟨w.heap.size, 2, none⟩ (.slice q m cap)) := by
    refine ⟨HF1.out.b.setCell (p := ⟨w.heap.size, 2, none⟩) (Nat.le_refl _) _, by simpa [World.setCell] using hq0, ?_, ?_, World.cell?_setCell_same' _ _ _ (by rw [c2]; rfl), ?_⟩
    · exact (World.cell?_setCell_other _ _ _ _ (by simp)).trans c0
    · exact (World.cell?_setCell_other _ _ _ _ (by simp)).trans c1
    · exact (World.cell?_setCell_other _ _ _ _ (by simp)).trans c3
  clear c0 c1 c2 c3 hfz HF1 hmm hmc hm0 HR hm ht
  subst htl
  refine gw (motive := fun x => Code.wp _ _ _ _ x) (fun U => Hid (FQ cs ps ls q t.length cap w.heap.size w U)) Q0 ?_
  rintro W HQ
  clear Q0
  have htn2 : t.length ≤ 1000 := by omega
  obtain ⟨c0, c1, c2, c3⟩ : _ ∧ _ ∧ _ ∧ _ := ⟨HQ.out.c0, HQ.out.c1, HQ.out.c2, HQ.out.c3⟩
  have AF := hide (after_any ⟨cs, ps, ls⟩ q cap t W htn2 ((HT.out.bel HQ.out.b).up HQ.out.b.size))
  unfold cv at AF
  go_wp2_with fail
  refine AF.out.mono ?_
  clear c0 c1 c2 c3 AF
  rintro e W2 (⟨hf, rfl, k2⟩ | ⟨hf, r, A, F, rfl, k2, n2, s2, b2⟩)
  · have HQ2 := hide (HQ.out.bel k2)
    obtain ⟨c0, c1, c2, c3⟩ : _ ∧ _ ∧ _ ∧ _ := ⟨HQ2.out.c0, HQ2.out.c1, HQ2.out.c2, HQ2.out.c3⟩
    have AG := hide (ahead_any ⟨cs, ps, ls⟩ q cap t W2 htn2 ((HT.out.bel HQ2.out.b).up HQ2.out.b.size))
    unfold cv at AG
    go_wp2_with fail
    refine AG.out.mono ?_
    clear c0 c1 c2 c3 AG
    rintro e W3 (⟨hf', rfl, k3⟩ | ⟨hf', _⟩)
    · have HQ3 := hide (HQ2.out.bel k3)
      obtain ⟨c0, c1, c2, c3⟩ : _ ∧ _ ∧ _ ∧ _ := ⟨HQ3.out.c0, HQ3.out.c1, HQ3.out.c2, HQ3.out.c3⟩
      have FA := hide (fits_any ⟨cs, ps, ls⟩ q cap t W3 htn2 ((HT.out.bel HQ3.out.b).up HQ3.out.b.size))
      rw [hf] at FA
      unfold cv at FA
      clear k2 k3
      go_wp2_with fail
      refine FA.out.mono ?_
      rintro e W4 ⟨rfl, k4⟩
      have HQ4 := hide (HQ3.out.bel k4)
      clear k4 FA
      go_wp2_with fail
      go_ret
      exact ⟨rfl, HQ4.out.b⟩
    · rw [hf] at hf'; cases hf'
  · have HQ2 := hide (HQ.out.bel (b2.mono (Nat.le_refl _)))
    obtain ⟨c0, c1, c2, c3⟩ : _ ∧ _ ∧ _ ∧ _ := ⟨HQ2.out.c0, HQ2.out.c1, HQ2.out.c2, HQ2.out.c3⟩
    have AG := hide (ahead_any ⟨cs, ps, ls⟩ q cap t W2 htn2 ((HT.out.bel HQ2.out.b).up HQ2.out.b.size))
    unfold cv at AG
    have hSol := hide s2
    have hFn := hide n2
    have hOk := hide (fitb_ok hf)
    clear s2 n2 b2
    go_wp2_with fail
    refine AG.out.mono ?_
    clear c0 c1 c2 c3 AG
    rintro e W3 (⟨hf', _⟩ | ⟨hf', r', A', F', rfl, k3, n3, s3, b3⟩)
    · rw [hf] at hf'; cases hf'
    have HA3 : Hid (NRow r' t.length A W3) := by
      refine ⟨n3.lt, fun i hi => ?_, n3.f⟩
      rw [n3.c i hi]
      have := (s3.one hSol.out (show i < (sy t).n from hi)).1
      simp [this]
    have HF3 : Hid (NRow r t.length F W3) := NRow.of hFn.out (b3.block _ hFn.out.lt)
    have HQ3 := hide (HQ2.out.bel b3)
    clear n3 s3 b3 hf' hFn HQ2 k2 k3
    obtain ⟨c0, c1, c2, c3⟩ : _ ∧ _ ∧ _ ∧ _ := ⟨HQ3.out.c0, HQ3.out.c1, HQ3.out.c2, HQ3.out.c3⟩
    go_wp2_with fail
    have hWW := HQ3.out.b.size
    have HIR3 := hide ((HT.out.bel HQ3.out.b).up HQ3.out.b.size)
    clear c0 c1 c2 c3
    go_loopw [12] (fun s12 wr => ∃ k : Nat, k ≤ t.length ∧ s12 = .int .i64 (k : Int) ∧ Hid (Below W3.heap.size W3 wr)) (fun s12 _ => t.length - (intOf s12).toNat)
    case atStart => exact ⟨0, Nat.zero_le _, rfl, Below.refl _ _⟩
    case round =>
      obtain ⟨k, hk, rfl, HB⟩ := hrel
      have HQr := hide (HQ3.out.bel HB.out)
      obtain ⟨c0, c1, c2, c3⟩ : _ ∧ _ ∧ _ ∧ _ := ⟨HQr.out.c0, HQr.out.c1, HQr.out.c2, HQr.out.c3⟩
      by_cases hlt : k < t.length
      · have hk1 : (k : Int) < (t.length : Int) := by omega
        have hk0 : (0 : Int) ≤ (k : Int) := by omega
        have NX := hide (ask_next ⟨cs, ps, ls⟩ q cap t k wr htn2 hlt ((HIR3.out.bel HB.out).up HB.out.size))
        unfold cv at NX
        go_wp2_with fail
        refine NX.out.mono ?_
        rintro e U1 ⟨v, rfl, hv, b1⟩
        have HQ1 := hide (HQr.out.bel b1)
        clear NX c0 c1 c2 c3
        have HB1 := hide (HB.out.trans (b1.mono HB.out.size))
        have HV := hide hv
        have hnl := nxt_le t k
        obtain ⟨va, vc, rfl⟩ := hv.form
        clear hv b1
        go_wp2_with fail
        have US := hide (fun (j : Nat) (h : j < (nxt t k).length) => unT_succ (A := A) h)
        have UL := hide (unT_lim hSol.out.la k)
        go_loopw [13, 15] (fun s13 s15 wq => ∃ j : Nat, j ≤ (nxt t k).length ∧ s15 = .int .i64 (j : Int) ∧ s13 = .int .i64 ((unT t A k j : Nat) : Int) ∧ Hid (Below U1.heap.size U1 wq)) (fun _ s15 _ => (nxt t k).length - (intOf s15).toNat)
        case atStart => exact ⟨0, Nat.zero_le _, rfl, rfl, Below.refl _ _⟩
        case round =>
          obtain ⟨j, hj, rfl, rfl, HBq⟩ := hrel
          by_cases hjl : j < (nxt t k).length
          · have hj1 : (j : Int) < ((nxt t k).length : Int) := by omega
            have hj0 : (0 : Int) ≤ (j : Int) := by omega
            rcases HV.out with ⟨e, _⟩ | ⟨g, c2, e, g1, g2, g3⟩
            · rw [e] at hjl; simp at hjl
            injection e with ea _ ec
            subst ea ec
            have hy := nxt_in (l := t) (i := k) _ (List.getElem_mem hjl)
            have hgy := (HBq.out.cell (p := ⟨g, j, none⟩) g2).trans (g3 j hjl)
            obtain ⟨p, hp⟩ : ∃ p : Nat, (nxt t k)[j] = (p : Int) := ⟨(nxt t k)[j].toNat, by omega⟩
            have US1 := US.out j hjl
            rw [hp] at US1 hgy
            rw [Int.toNat_natCast] at US1
            have hpl : p < t.length := by omega
            have hp1 : (p : Int) < (t.length : Int) := by omega
            have hp0 : (0 : Int) ≤ (p : Int) := by omega
            have hAp := (HBq.out.cell (p := ⟨r', p, none⟩) (Nat.lt_of_lt_of_le HA3.out.lt HB1.out.size)).trans ((HB1.out.cell (p := ⟨r', p, none⟩) HA3.out.lt).trans (HA3.out.c p hpl))
            have hor := bits_or (UL.out j) (hSol.out.la p hpl)
            rw [← US1] at hor
            clear g3 US1 hy hp
            generalize hz1 : unT t A k (j + 1) = z1 at *
            generalize unT t A k j = z0 at *
            go_wp2_with fail
            go_roundw
            case rel => exact ⟨j + 1, hjl, by go_num, by rw [hz1], HBq⟩
            case measure => simp [intOf]; omega
          · have hjn : j = (nxt t k).length := by omega
            subst hjn
            have hU : unT t A k (nxt t k).length = F k := (unT_all t A k).trans (hSol.out.f k hlt).symm
            rw [hU]
            have HQ5 := hide (HQ1.out.bel HBq.out)
            obtain ⟨c0, c1, c2, c3⟩ : _ ∧ _ ∧ _ ∧ _ := ⟨HQ5.out.c0, HQ5.out.c1, HQ5.out.c2, HQ5.out.c3⟩
            obtain ⟨g, o, rfl, hb, hcx, hox⟩ := HT.out k hlt
            have hcx2 := hcx.of (HQ5.out.b.block g hb)
            obtain ⟨d0, d1, d2, d3, d4, d5, d6⟩ := hcx2
            have HG : Hid (t.getD k ir0 = t[k]) := by show _ = _; simp [List.getD, hlt]
            have hAk : A k = rdS t[k] ||| dn (F k) (wrS t[k]) := by
              have := hSol.out.a k hlt
              unfold lv at this
              rw [this]
              show rdS (t.getD k ir0) ||| dn (F k) (wrS (t.getD k ir0)) = _
              rw [HG.out]
            have hFk := hSol.out.lf k hlt
            have hmem : t[k] ∈ t := List.getElem_mem hlt
            have OU := hide (hOk.out.us hmem)
            have OD := hide ((hOk.out t[k] hmem).2)
            have OW := hOk.out.wr hmem
            have WE := hide (show wrS t[k] = if df t[k] = -1 then 0 else one (df t[k]) from rfl)
            have DA := hide (fun U => defs_any t[k] U)
            have UA := hide (fun U => uses_any t[k] U)
            have RS := hide (fun (j : Nat) (h : j < (us t[k]).length) => rdT_succ t[k] h)
            have RL := hide (rdT_lim OU.out)
            have RA := hide (rdT_all t[k])
            have HCX := hide hcx
            have HNF := hide ((HF3.out.of (HB1.out.block _ HF3.out.lt)).of (HBq.out.block _ (Nat.lt_of_lt_of_le HF3.out.lt HB1.out.size)))
            have HNA := hide ((HA3.out.of (HB1.out.block _ HA3.out.lt)).of (HBq.out.block _ (Nat.lt_of_lt_of_le HA3.out.lt HB1.out.size)))
            have HAK := hide hAk
            have HB5 := hide (HB1.out.trans (HBq.out.mono HB1.out.size))
            clear hcx hAk US UL HV hU
            have HFE := hide (show F k = F k from rfl)
            generalize hxt : t[k] = x at *
            obtain ⟨op, dst, aa, bb, cc, nn, mm⟩ := x
            unfold xv xc at DA UA
            simp only at d0 d1 d2 d3 d4 d5 d6
            go_wp2_with fail
            refine (DA.out _).mono ?_
            rintro e U5 ⟨rfl, b5⟩
            have HQ5b := hide (HQ5.out.bel b5)
            have HB5b := hide (HB5.out.trans (b5.mono HB5.out.size))
            have HNFb := hide (HNF.out.of (b5.block _ HNF.out.lt))
            have HNAb := hide (HNA.out.of (b5.block _ HNA.out.lt))
            obtain ⟨d0, d1, d2, d3, d4, d5, d6⟩ := HCX.out.of (HQ5b.out.b.block g hb)
            obtain ⟨c0, c1, c2, c3⟩ : _ ∧ _ ∧ _ ∧ _ := ⟨HQ5b.out.c0, HQ5b.out.c1, HQ5b.out.c2, HQ5b.out.c3⟩
            simp only at d0 d1 d2 d3 d4 d5 d6
            clear DA b5
            by_cases hd : df ⟨op, dst, aa, bb, cc, nn, mm⟩ = -1
            · obtain ⟨T0, hT0d⟩ : ∃ T0, F k = T0 := ⟨_, rfl⟩
              have hT0e : T0 = dn (F k) (wrS ⟨op, dst, aa, bb, cc, nn, mm⟩) := by rw [WE.out, if_pos hd, dn_none hFk, hT0d]
              have hT0 : T0 < lim := by rw [← hT0d]; exact hFk
              have HTE := hide hT0e
              rw [hT0d]
              clear hT0e
              rw [hd]
              go_wp2_with fail
              refine (UA.out _).mono ?_
              rintro e U6 ⟨uv, rfl, hu, b6⟩
              have HQ6 := hide (HQ5b.out.bel b6)
              have HB6 := hide (HB5b.out.trans (b6.mono HB5b.out.size))
              have HNF6 := hide (HNFb.out.of (b6.block _ HNFb.out.lt))
              have HNA6 := hide (HNAb.out.of (b6.block _ HNAb.out.lt))
              have HU6 := hide hu
              obtain ⟨ua, uc, hue⟩ := hu.form
              subst hue
              clear hu b6 UA
              have hul := us_len ⟨op, dst, aa, bb, cc, nn, mm⟩
              go_wp2_with fail
              go_loopw [16, 19] (fun s16 s19 wq => ∃ j : Nat, j ≤ (us ⟨op, dst, aa, bb, cc, nn, mm⟩).length ∧ s19 = .int .i64 (j : Int) ∧ s16 = .int .i64 ((T0 ||| rdT ⟨op, dst, aa, bb, cc, nn, mm⟩ j : Nat) : Int) ∧ Hid (Below U6.heap.size U6 wq)) (fun _ s19 _ => (us ⟨op, dst, aa, bb, cc, nn, mm⟩).length - (intOf s19).toNat)
              case atStart => exact ⟨0, Nat.zero_le _, rfl, by first | (simp [rdT, ors]; done) | (rw [hsn, hdn]; simp [rdT, ors]), Below.refl _ _⟩
              case round =>
                obtain ⟨j, hj, rfl, rfl, HBp⟩ := hrel
                by_cases hjl : j < (us ⟨op, dst, aa, bb, cc, nn, mm⟩).length
                · have hj1 : (j : Int) < ((us ⟨op, dst, aa, bb, cc, nn, mm⟩).length : Int) := by omega
                  have hj0 : (0 : Int) ≤ (j : Int) := by omega
                  rcases HU6.out with ⟨e, _⟩ | ⟨g3, c3', e, g1, g2, g4⟩
                  · rw [e] at hjl; simp at hjl
                  injection e with ea _ ec
                  subst ea ec
                  have hy := OU.out _ (List.getElem_mem hjl)
                  have hgy := (HBp.out.cell (p := ⟨g3, j, none⟩) g2).trans (g4 j hjl)
                  have R1 := RS.out j hjl
                  have hor := bits_or (or_lim hT0 (RL.out j)) (one_lim hy.2)
                  have hR1 : T0 ||| rdT ⟨op, dst, aa, bb, cc, nn, mm⟩ j ||| one (us ⟨op, dst, aa, bb, cc, nn, mm⟩)[j] = T0 ||| rdT ⟨op, dst, aa, bb, cc, nn, mm⟩ (j + 1) := by rw [R1, Nat.or_assoc]
                  rw [hR1] at hor
                  have hsh : wrap64 (2 ^ min ((us ⟨op, dst, aa, bb, cc, nn, mm⟩)[j]).toNat 64) = _ := (by rw [Nat.min_eq_left (by omega)] : _ = wrap64 (2 ^ ((us ⟨op, dst, aa, bb, cc, nn, mm⟩)[j]).toNat)).trans (shl_one _ hy.1 hy.2)
                  have hy0 := hy.1
                  have hyn : ¬ (us ⟨op, dst, aa, bb, cc, nn, mm⟩)[j] < 0 := by omega
                  clear g4 R1 hR1 hy
                  generalize hz1 : T0 ||| rdT ⟨op, dst, aa, bb, cc, nn, mm⟩ (j + 1) = z1 at *
                  generalize T0 ||| rdT ⟨op, dst, aa, bb, cc, nn, mm⟩ j = z0 at *
                  generalize (us ⟨op, dst, aa, bb, cc, nn, mm⟩)[j] = y at *
                  go_wp2_with fail
                  go_roundw
                  case rel => exact ⟨j + 1, hjl, by go_num, by rw [hz1], HBp⟩
                  case measure => simp [intOf]; omega
                · have hjn : j = (us ⟨op, dst, aa, bb, cc, nn, mm⟩).length := by omega
                  subst hjn
                  have hEnd : T0 ||| rdT ⟨op, dst, aa, bb, cc, nn, mm⟩ (us ⟨op, dst, aa, bb, cc, nn, mm⟩).length = A k := by rw [RA.out, HAK.out, HTE.out, Nat.or_comm]
                  rw [hEnd]
                  have hna := (HNA6.out.of (HBp.out.block _ HNA6.out.lt)).c k hlt
                  have hnf := (HNF6.out.of (HBp.out.block _ HNF6.out.lt)).c k hlt
                  have HB7 := hide (HB6.out.trans (HBp.out.mono HB6.out.size))
                  clear hEnd
                  clear HTE HAK
                  generalize A k = Ak at *
                  go_wp2_with fail
                  go_roundw
                  case rel => exact ⟨k + 1, hlt, by go_num, HB7⟩
                  case measure => simp [intOf]; omega
            · have hdd : 0 ≤ df ⟨op, dst, aa, bb, cc, nn, mm⟩ ∧ df ⟨op, dst, aa, bb, cc, nn, mm⟩ < 60 := by
                rcases OD.out with h | h
                · exact absurd h hd
                · exact h
              have hsn := shl_one _ hdd.1 hdd.2
              have hsh : wrap64 (2 ^ min (df ⟨op, dst, aa, bb, cc, nn, mm⟩).toNat 64) = _ := (by rw [Nat.min_eq_left (by omega)] : _ = wrap64 (2 ^ (df ⟨op, dst, aa, bb, cc, nn, mm⟩).toNat)).trans (shl_one _ hdd.1 hdd.2)
              have hdn := bits_dn hFk (one_lim hdd.2)
              obtain ⟨T0, hT0d⟩ : ∃ T0, dn (F k) (one (df ⟨op, dst, aa, bb, cc, nn, mm⟩)) = T0 := ⟨_, rfl⟩
              have hT0e : T0 = dn (F k) (wrS ⟨op, dst, aa, bb, cc, nn, mm⟩) := by rw [WE.out, if_neg hd, hT0d]
              have hT0 : T0 < lim := by rw [← hT0d]; exact dn_lim hFk (one_lim hdd.2)
              rw [hT0d] at hdn
              have HTE := hide hT0e
              clear hT0e
              have hd0 := hdd.1
              have hd1 : ¬ df ⟨op, dst, aa, bb, cc, nn, mm⟩ < 0 := by omega
              go_wp2_with fail
              refine (UA.out _).mono ?_
              rintro e U6 ⟨uv, rfl, hu, b6⟩
              have HQ6 := hide (HQ5b.out.bel b6)
              have HB6 := hide (HB5b.out.trans (b6.mono HB5b.out.size))
              have HNF6 := hide (HNFb.out.of (b6.block _ HNFb.out.lt))
              have HNA6 := hide (HNAb.out.of (b6.block _ HNAb.out.lt))
              have HU6 := hide hu
              obtain ⟨ua, uc, hue⟩ := hu.form
              subst hue
              clear hu b6 UA
              have hul := us_len ⟨op, dst, aa, bb, cc, nn, mm⟩
              go_wp2_with fail
              go_loopw [16, 19] (fun s16 s19 wq => ∃ j : Nat, j ≤ (us ⟨op, dst, aa, bb, cc, nn, mm⟩).length ∧ s19 = .int .i64 (j : Int) ∧ s16 = .int .i64 ((T0 ||| rdT ⟨op, dst, aa, bb, cc, nn, mm⟩ j : Nat) : Int) ∧ Hid (Below U6.heap.size U6 wq)) (fun _ s19 _ => (us ⟨op, dst, aa, bb, cc, nn, mm⟩).length - (intOf s19).toNat)
              case atStart => exact ⟨0, Nat.zero_le _, rfl, by first | (simp [rdT, ors]; done) | (rw [hsn, hdn]; simp [rdT, ors]), Below.refl _ _⟩
              case round =>
                obtain ⟨j, hj, rfl, rfl, HBp⟩ := hrel
                by_cases hjl : j < (us ⟨op, dst, aa, bb, cc, nn, mm⟩).length
                · have hj1 : (j : Int) < ((us ⟨op, dst, aa, bb, cc, nn, mm⟩).length : Int) := by omega
                  have hj0 : (0 : Int) ≤ (j : Int) := by omega
                  rcases HU6.out with ⟨e, _⟩ | ⟨g3, c3', e, g1, g2, g4⟩
                  · rw [e] at hjl; simp at hjl
                  injection e with ea _ ec
                  subst ea ec
                  have hy := OU.out _ (List.getElem_mem hjl)
                  have hgy := (HBp.out.cell (p := ⟨g3, j, none⟩) g2).trans (g4 j hjl)
                  have R1 := RS.out j hjl
                  have hor := bits_or (or_lim hT0 (RL.out j)) (one_lim hy.2)
                  have hR1 : T0 ||| rdT ⟨op, dst, aa, bb, cc, nn, mm⟩ j ||| one (us ⟨op, dst, aa, bb, cc, nn, mm⟩)[j] = T0 ||| rdT ⟨op, dst, aa, bb, cc, nn, mm⟩ (j + 1) := by rw [R1, Nat.or_assoc]
                  rw [hR1] at hor
                  have hsh : wrap64 (2 ^ min ((us ⟨op, dst, aa, bb, cc, nn, mm⟩)[j]).toNat 64) = _ := (by rw [Nat.min_eq_left (by omega)] : _ = wrap64 (2 ^ ((us ⟨op, dst, aa, bb, cc, nn, mm⟩)[j]).toNat)).trans (shl_one _ hy.1 hy.2)
                  have hy0 := hy.1
                  have hyn : ¬ (us ⟨op, dst, aa, bb, cc, nn, mm⟩)[j] < 0 := by omega
                  clear g4 R1 hR1 hy
                  generalize hz1 : T0 ||| rdT ⟨op, dst, aa, bb, cc, nn, mm⟩ (j + 1) = z1 at *
                  generalize T0 ||| rdT ⟨op, dst, aa, bb, cc, nn, mm⟩ j = z0 at *
                  generalize (us ⟨op, dst, aa, bb, cc, nn, mm⟩)[j] = y at *
                  go_wp2_with fail
                  go_roundw
                  case rel => exact ⟨j + 1, hjl, by go_num, by rw [hz1], HBp⟩
                  case measure => simp [intOf]; omega
                · have hjn : j = (us ⟨op, dst, aa, bb, cc, nn, mm⟩).length := by omega
                  subst hjn
                  have hEnd : T0 ||| rdT ⟨op, dst, aa, bb, cc, nn, mm⟩ (us ⟨op, dst, aa, bb, cc, nn, mm⟩).length = A k := by rw [RA.out, HAK.out, HTE.out, Nat.or_comm]
                  rw [hEnd]
                  have hna := (HNA6.out.of (HBp.out.block _ HNA6.out.lt)).c k hlt
                  have hnf := (HNF6.out.of (HBp.out.block _ HNF6.out.lt)).c k hlt
                  have HB7 := hide (HB6.out.trans (HBp.out.mono HB6.out.size))
                  clear hEnd
                  clear HTE HAK
                  generalize A k = Ak at *
                  go_wp2_with fail
                  go_roundw
                  case rel => exact ⟨k + 1, hlt, by go_num, HB7⟩
                  case measure => simp [intOf]; omega
      · have hk1 : ¬ (k : Int) < (t.length : Int) := by omega
        go_wp2_with fail
        have CA := hide (clash_any ⟨cs, ps, ls⟩ q cap t a b wr htn2 ((HIR3.out.bel HB.out).up HB.out.size))
        unfold cv at CA
        go_wp2_with fail
        refine CA.out.mono ?_
        intro e1 V1 hc1
        have hc0 := hc1
        obtain ⟨v1, n1, rfl, b1, _⟩ := hc1
        have HQ8 := hide (HQr.out.bel b1)
        have HB8 := hide (HB.out.trans (b1.mono HB.out.size))
        have HC1 := hide hc0
        obtain ⟨c0, c1, c2, c3⟩ : _ ∧ _ ∧ _ ∧ _ := ⟨HQ8.out.c0, HQ8.out.c1, HQ8.out.c2, HQ8.out.c3⟩
        have CB := hide (clash_any ⟨cs, ps, ls⟩ q cap t b a V1 htn2 ((HIR3.out.bel HB8.out).up HB8.out.size))
        unfold cv at CB
        clear hc0 b1 CA
        go_wp2_with fail
        refine CB.out.mono ?_
        intro e2 V2 hc2
        obtain ⟨v, n, r1, rfl, _, b2⟩ := clash_two HC1.out hc2
        injection r1 with r1
        injection r1 with r1
        have r2 : v1 = v ∧ n1 = n := by simpa using r1
        obtain ⟨rfl, rfl⟩ := r2
        have HB9 := hide (HQ8.out.b.trans (b2.mono HQ8.out.b.size))
        clear hc2 HC1 b2 r1
        go_wp2_with fail
        go_ret
        exact ⟨by simp, HB9.out⟩
end Go.Proofs.Ytjgaaofpfepfhaa
