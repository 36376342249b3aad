/-
  The document's After and Ahead.
-/
import Derived.Test.YtjgaaofpfepfhaaDoorPbs
import Derived.Test.YtjgaaofpfepfhaaDoorR2
namespace Go.Proofs.YtjgaaofpfepfhaaDoor
open Go.RowKit
set_option linter.unusedSimpArgs false
set_option linter.unusedVariables false
/-- What Both brings. -/
def BothEnds (d : Cd) (l : List Ir) (w : World) (e : Ending) (w' : World) : Prop :=
  (fitb d l = false ∧ e = .returned (.tuple #[.slice none 0 0, .slice none 0 0, .bool false]) ∧ Below w.heap.size w w') ∨
  (fitb d l = true ∧ ∃ (rb ra : Nat) (A F : Nat → Nat), e = .returned (.tuple #[.slice (some ⟨rb, 0, none⟩) l.length l.length, .slice (some ⟨ra, 0, none⟩) l.length l.length, .bool true]) ∧ w.heap.size ≤ ra ∧ w.heap.size ≤ rb ∧ NRow ra l.length A w' ∧ NRow rb l.length F w' ∧ Sol (sy l) A F ∧ Below w.heap.size w w')
def SolIf (ch : Bool) (S : Sy) (A F : Nat → Nat) : Prop := ch = false → Sol S A F
theorem SolIf.get {S : Sy} {A F : Nat → Nat} (h : SolIf false S A F) : Sol S A F := h rfl
theorem SolIf.yes (S : Sy) (A F : Nat → Nat) : SolIf true S A F := fun h => by cases h
def blN : Value → Nat
  | .bool true => 1
  | _ => 0
theorem tot_two {S : Sy} {A F : Nat → Nat} (h : Inv S A F) : tot A S.n + tot F S.n ≤ 2 * (S.n * lim) := by
  have h1 := tot_le h.la
  have h2 := tot_le h.lf
  omega
theorem ors_rd (x : Ir) : ors ((us x).map one) = rdS x := rfl
set_option maxRecDepth 100000 in
set_option maxHeartbeats 6400000 in
theorem both_any (d : Cd) (a : Option Addr) (cap : Nat) (l : List Ir) (w : World) (hl : l.length ≤ 1000) (hr : IR w.heap.size w a l) :
    Calls Tryd.prog 27 #[cv d a l.length cap] w (BothEnds d l w) := by
  have HL := hide hl
  have HR := hide hr
  have B0 : FB d a l.length cap w.heap.size l w (w.alloc (.cells #[.int .i64 d.cells, .int .i64 d.params, .slice a l.length cap, .int .i64 d.labels] 24)) := ⟨bel_one _ _, by simp, heap_alloc_new _ _⟩
  have NXA := hide (fun j U (hU : IR U.heap.size U a l) => rnext_any d a cap l j U hl hU)
  have FTA := hide (fun U (hU : IR U.heap.size U a l) => rfits_any d a cap l U hl hU)
  clear hl hr
  obtain ⟨cs, ps, ls⟩ := d
  unfold cv at NXA FTA ⊢
  simp only at B0 NXA FTA ⊢
  go_enter Tryd.func27, Tryd.ntmps27
  go_upto_region 1 with fail
  refine gw (motive := fun x => Code.wp _ _ _ _ x) (fun W => Hid (FB ⟨cs, ps, ls⟩ a l.length cap w.heap.size l w W)) B0 ?_
  rintro W HW
  clear B0
  obtain ⟨c0, c1, c2, c3⟩ := HW.out.cells (Below.refl _ W) HW.out.lt
  simp only at c0 c1 c2 c3
  have FA := hide (FTA.out W ((HR.out.bel HW.out.b).up HW.out.b.size))
  have hqW := HW.out.lt
  clear FTA
  go_wp2_with fail
  refine FA.out.mono ?_
  rintro e W1 ⟨rfl, hb1⟩
  clear FA
  have HB1 := hide hb1
  have HBB := hide (HW.out.b.trans (hb1.mono HW.out.b.size))
  clear hb1
  obtain ⟨c0, c1, c2, c3⟩ := HW.out.cells HB1.out hqW
  simp only at c0 c1 c2 c3
  cases hf : fitb ⟨cs, ps, ls⟩ l
  · have HF := hide hf
    clear hf
    go_wp2_with fail
    refine bodyPost_ret (results_tmp3 rfl _ _ _) rfl ?_
    exact Or.inl ⟨HF.out, rfl, HBB.out⟩
  have HF := hide hf
  clear hf
  have hmk := make_ints l.length HL.out
  have hmr := make_rows l.length HL.out
  have N1 := NRow.made l.length W1
  have k1 := bel_one W1 (.cells (madeCells z1 l.length) 3)
  have s1 : (W1.alloc (.cells (madeCells z1 l.length) 3)).heap.size = W1.heap.size + 1 := by simp
  go_upto_region 5 with fail
  refine gw (motive := fun x => Code.wp _ _ _ _ x) (fun U => Hid (NRow W1.heap.size l.length (fun _ => 0) U) ∧ Hid (Below W1.heap.size W1 U) ∧ U.heap.size = W1.heap.size + 1) ⟨N1, k1, s1⟩ ?_
  rintro U1 ⟨M1, K1, S1⟩
  clear N1 k1 s1
  obtain ⟨c0, c1, c2, c3⟩ := HW.out.cells (bel_tr HB1.out K1.out) hqW
  simp only at c0 c1 c2 c3
  have N2 := NRow.made l.length U1
  have k2 := bel_one U1 (.cells (madeCells z1 l.length) 3)
  have s2 : (U1.alloc (.cells (madeCells z1 l.length) 3)).heap.size = U1.heap.size + 1 := by simp
  go_upto_region 6 with fail
  refine gw (motive := fun x => Code.wp _ _ _ _ x) (fun U => Hid (NRow U1.heap.size l.length (fun _ => 0) U) ∧ Hid (Below U1.heap.size U1 U) ∧ U.heap.size = U1.heap.size + 1) ⟨N2, k2, s2⟩ ?_
  rintro U2 ⟨M2, K2, S2⟩
  clear N2 k2 s2
  obtain ⟨c0, c1, c2, c3⟩ := HW.out.cells (bel_tr HB1.out (bel_tr K1.out K2.out)) hqW
  simp only at c0 c1 c2 c3
  have N3 := VRow.made l.length U2
  have k3 := bel_one U2 (.cells (madeCells zs1 l.length) 25)
  have s3 : (U2.alloc (.cells (madeCells zs1 l.length) 25)).heap.size = U2.heap.size + 1 := by simp
  go_upto_region 7 with fail
  refine gw (motive := fun x => Code.wp _ _ _ _ x) (fun U => Hid (VRow U2.heap.size l.length (fun _ => .slice none 0 0) U) ∧ Hid (Below U2.heap.size U2 U) ∧ U.heap.size = U2.heap.size + 1) ⟨N3, k3, s3⟩ ?_
  rintro U ⟨HV0, K3, S3⟩
  clear N3 k3 s3 hmk hmr
  have HF0 := hide ((M1.out.of (K2.out.block _ M1.out.lt)).of (K3.out.block _ (Nat.lt_of_lt_of_le M1.out.lt K2.out.size)))
  have HA0 := hide (M2.out.of (K3.out.block _ M2.out.lt))
  have HWU := hide (HB1.out.trans ((bel_tr K1.out (bel_tr K2.out K3.out)).mono HB1.out.size))
  have HIR := hide ((HR.out.bel HW.out.b).bel (HWU.out.mono HW.out.b.size))
  have hpw := HB1.out.size
  clear M1 M2 K1 K2 K3 HB1
  rw [S1] at S2 HA0
  rw [S2] at S3 HV0
  have hq1 : U1.heap.size = W1.heap.size + 1 := S1
  have hq2 : U2.heap.size = W1.heap.size + 1 + 1 := S2
  generalize hp : W1.heap.size = p at *
  clear hp S1 S2 hq1 hq2
  have NQ := hide (fun k (hk : k < l.length) => show nxa l (k : Int) = nxt l k from by unfold nxa; rw [if_pos (by omega), Int.toNat_natCast])
  go_wp2_with fail
  go_loopw [9] (fun s9 wr => ∃ (k : Nat) (vn : Nat → Value), k ≤ l.length ∧ s9 = .int .i64 (k : Int) ∧ Hid (VRow (p + 1 + 1) l.length vn wr) ∧ Hid (∀ j, j < k → Nv (p + 1 + 1 + 1) (vn j) (nxt l j) wr) ∧ Hid (Bt (fun b => b = p + 1 + 1) U wr)) (fun s9 _ => l.length - (intOf s9).toNat)
  case atStart => exact ⟨0, _, Nat.zero_le _, rfl, HV0, fun j h => absurd h (Nat.not_lt_zero _), Bt.refl _ _⟩
  case round =>
    clear HV0
    obtain ⟨k, vn, hk, rfl, HV, HN, HBt⟩ := hrel
    have hk1 := HL.out
    have HWR := hide (HWU.out.trans (HBt.out.below (n := W.heap.size) (by omega) (fun b h => by omega)))
    obtain ⟨c0, c1, c2, c3⟩ := HW.out.cells HWR.out hqW
    simp only at c0 c1 c2 c3
    have HIRW := hide ((HR.out.bel HW.out.b).bel (HWR.out.mono HW.out.b.size))
    by_cases hlt : k < l.length
    · have h1 : (k : Int) < (l.length : Int) := by omega
      have h0 : (0 : Int) ≤ (k : Int) := by omega
      have NX := hide (NXA.out (k : Int) wr (HIRW.out.up (by have := HWR.out.size; have := HW.out.b.size; omega)))
      rw [NQ.out k hlt] at NX
      have hsz := HBt.out.size
      go_wp2_with fail
      refine NX.out.mono ?_
      rintro e w2 ⟨v, rfl, hv, hb⟩
      have HV2 := hide (HV.out.of (hb.block _ HV.out.lt))
      have hx := HV2.out.f k
      have hy := HV2.out.c k hlt
      have HV3 := hide (HV2.out.set hlt v)
      have HB3 := hide ((HBt.out.bel hb).set (b := p + 1 + 1) rfl k v)
      have HN3 : Hid (∀ j, j < k + 1 → Nv (p + 1 + 1 + 1) (upv vn k v j) (nxt l j) (w2.setCell ⟨p + 1 + 1, k, none⟩ v)) := fun j hj => by
        refine Nv.bt (X := fun b => b = p + 1 + 1) (w := w2) ?_ (bt_self (p + 1 + 1) w2 k v) (fun b h1 h2 => by omega)
        rcases Nat.lt_succ_iff_lt_or_eq.1 hj with e | e
        · rw [upv_other vn v (by omega)]; exact (HN.out j e).kept hb
        · subst e; rw [upv_same]; exact hv.mono (by omega)
      obtain ⟨av, cv_, hf⟩ := hv.form
      subst hf
      clear hv hb NX HV2 HN HV HBt
      go_wp2_with fail
      go_roundw
      case rel => exact ⟨k + 1, _, hlt, by go_num, HV3, HN3, HB3⟩
      case measure => simp [intOf]; omega
    · obtain rfl : k = l.length := by omega
      have h1 : ¬ (l.length : Int) < (l.length : Int) := by omega
      obtain ⟨U1, hU1⟩ : ∃ z, z = wr := ⟨_, rfl⟩
      subst hU1
      have HA1 := hide (HA0.out.bt HBt.out (by omega))
      have HF1 := hide (HF0.out.bt HBt.out (by omega))
      have hsz := HBt.out.size
      clear HA0 HF0 HBt NXA NQ HWU HIR
      go_wp2_with fail
      go_loopw [10, 11, 12, 13, 14, 15, 16] (fun s10 _ _ _ _ _ _ wr => ∃ (ch : Bool) (A F : Nat → Nat), s10 = .bool ch ∧ Hid (NRow (p + 1) l.length A wr) ∧ Hid (NRow p l.length F wr) ∧ Hid (Inv (sy l) A F) ∧ Hid (SolIf ch (sy l) A F) ∧ Hid (Bt (fun b => b = p ∨ b = p + 1) U1 wr)) (fun s10 _ _ _ _ _ _ wr => 2 * (2 * (l.length * lim) - (tot (rdA (p + 1) wr) l.length + tot (rdA p wr) l.length)) + blN s10)
      case atStart => exact ⟨true, _, _, rfl, HA1, HF1, inv_zero, SolIf.yes _ _ _, Bt.refl _ _⟩
      case round =>
        clear HA1 HF1
        obtain ⟨ch, A, F, rfl, HA, HFr, HI, HS, HBt⟩ := hrel
        have HWR2 := hide (HWR.out.trans (HBt.out.below (n := W.heap.size) (by omega) (fun b h => by omega)))
        obtain ⟨c0, c1, c2, c3⟩ := HW.out.cells HWR2.out hqW
        simp only at c0 c1 c2 c3
        cases ch with
        | false =>
          have HBF := hide (HW.out.b.trans (HWR2.out.mono HW.out.b.size))
          have hwp := HW.out.b.size
          go_wp2_with fail
          refine bodyPost_ret (results_tmp3 rfl _ _ _) rfl ?_
          exact Or.inr ⟨HF.out, p, p + 1, A, F, rfl, by omega, by omega, HA.out, HFr.out, HS.out.get, HBF.out⟩
        | true =>
          obtain ⟨U2, hU2⟩ : ∃ z, z = wr := ⟨_, rfl⟩
          subst hU2
          have E0 := hide (tot_rd HA.out)
          have E1 := hide (tot_rd HFr.out)
          have P0 : Hid (Pbs (sy l) A F l.length false A F) := Pbs.start HI.out
          have hlen := HL.out
          go_wp2_with fail
          go_loopw [10, 11, 12, 13, 14, 15, 16] (fun s10 s11 _ _ _ _ _ wr => ∃ (i : Nat) (ch : Bool) (A' F' : Nat → Nat), i ≤ l.length ∧ s10 = .bool ch ∧ s11 = .int .i64 ((i : Int) - 1) ∧ Hid (NRow (p + 1) l.length A' wr) ∧ Hid (NRow p l.length F' wr) ∧ Hid (Pbs (sy l) A F i ch A' F') ∧ Hid (Bt (fun b => b = p ∨ b = p + 1) U1 wr)) (fun _ s11 _ _ _ _ _ _ => (intOf s11 + 1).toNat)
          case atStart => exact ⟨l.length, false, _, _, Nat.le_refl _, rfl, rfl, HA, HFr, P0, HBt⟩
          case round =>
            clear HA HFr HI HS HBt P0 HWR2 c0 c1 c2 c3
            obtain ⟨i, ch, A', F', hi, rfl, rfl, HA, HFr, HP, HBt⟩ := hrel
            have HWR2 := hide (HWR.out.trans (HBt.out.below (n := W.heap.size) (by omega) (fun b h => by omega)))
            obtain ⟨c0, c1, c2, c3⟩ := HW.out.cells HWR2.out hqW
            simp only at c0 c1 c2 c3
            match i with
            | 0 =>
              have HS2 : Hid (SolIf ch (sy l) A' F') := fun h => (h ▸ HP.out).sol
              have F0 := hide (tot_rd HA.out)
              have F1 := hide (tot_rd HFr.out)
              have HI2 := hide HP.out.inv
              go_wp2_with fail
              go_roundw
              case rel => exact ⟨ch, A', F', rfl, HA, HFr, HI2, HS2, HBt⟩
              case measure =>
                rw [E0.out, E1.out, F0.out, F1.out]
                have g1 : tot A' l.length + tot F' l.length ≤ 2 * (l.length * lim) := tot_two HI2.out
                have g2 : tot A l.length + tot F l.length ≤ tot A' l.length + tot F' l.length := HP.out.ge
                have g3 : ch = true → tot A l.length + tot F l.length < tot A' l.length + tot F' l.length := HP.out.yes
                generalize l.length * lim = M at *
                cases ch with
                | false => simp only [blN]; omega
                | true => have := g3 rfl; simp only [blN]; omega
            | k + 1 =>
              have hlt : k < l.length := hi
              obtain ⟨b, o, rfl, hb, hcx, hox⟩ := HIRW.out k hlt
              have hbp : ¬ (b = p ∨ b = p + 1) := by have := HW.out.b.size; omega
              obtain ⟨d0, d1, d2, d3, d4, d5, d6⟩ := hcx.of (HBt.out.block b (by have := HWR.out.size; have := HW.out.b.size; omega) hbp)
              have hB0 := Bx.made l[k] wr
              have UA := hide (fun U => ruses_any l[k] U)
              have DA := hide (fun U => rdefs_any l[k] U)
              have hG : l.getD k ir0 = l[k] := by simp [List.getD, hlt]
              have OK := hide (sy_ok (fitb_ok HF.out))
              have PN := hide (HP.out.next OK.out hlt)
              have HO := fitb_ok HF.out
              have HU6 := hide (HO.us (List.getElem_mem hlt))
              have HD6 := hide ((HO l[k] (List.getElem_mem hlt)).2)
              have UL := us_len l[k]
              have hNV := HN.out k hlt
              have LVN := hide (fun s hs h => lv_none (l := l) (i := k) (s := s) hs h)
              have LVS := hide (fun s h => lv_some (l := l) (i := k) (s := s) h)
              have LRD := hide (OK.out.rd k hlt)
              have LR2 : Hid (rdS l[k] < lim) := by show _ < _; have := LRD.out; rwa [show (sy l).rd k = rdS l[k] from by show rdS (l.getD k ir0) = _; rw [hG]] at this
              rw [hG] at LVN LVS
              have hun := unT_all l A' k
              have hul : un (sy l) A' k < lim := by rw [← hun]; exact unT_lim HP.out.inv.la k _
              have hk0 : (0 : Int) ≤ (k : Int) := by omega
              have hk1 : (k : Int) < (l.length : Int) := by omega
              have e1 : ((k + 1 : Nat) : Int) - 1 = (k : Int) := by omega
              rw [e1]
              clear hcx hG HO OK LRD
              generalize l[k] = x at *
              obtain ⟨op, dst, aa, bb, cc, nn, mm⟩ := x
              unfold xv xc at UA DA
              unfold xc at hB0
              simp only at d0 d1 d2 d3 d4 d5 d6
              have hVV := (HV.out.bt HBt.out (by omega)).c k hlt
              have hAlt := HA.out.lt
              have hFlt := HFr.out.lt
              have hsz2 := HBt.out.size
              go_upto_region 18 with fail
              refine gw (motive := fun x => Code.wp _ _ _ _ x) (fun V => Hid (Bx wr.heap.size ⟨op, dst, aa, bb, cc, nn, mm⟩ wr V)) hB0 ?_
              rintro V HBX
              clear hB0 d0 d1 d2 d3 d4 d5 d6 c0 c1 c2 c3
              have HBV := hide (HBt.out.bel HBX.out.b)
              have HAV := hide (HA.out.of (HBX.out.b.block _ hAlt))
              have HFV := hide (HFr.out.of (HBX.out.b.block _ hFlt))
              have hVV := (HV.out.bt HBV.out (by omega)).c k hlt
              have HNV := hide (hNV.bt HBV.out (fun b h1 h2 => by omega))
              obtain ⟨an, cn, hf⟩ := hNV.form
              rw [hf] at hVV HNV
              clear hNV hf HA HFr HBt
              have U0 := unT_zero l A' k
              have hnl := nxt_le l k
              go_wp2_with fail
              go_loopw [13, 14] (fun s13 s14 wr' => ∃ j : Nat, j ≤ (nxt l k).length ∧ s13 = .int .i64 ((unT l A' k j : Nat) : Int) ∧ s14 = .int .i64 (j : Int) ∧ wr' = V) (fun _ s14 _ => (nxt l k).length - (intOf s14).toNat)
              case atStart => exact ⟨0, Nat.zero_le _, by rw [U0]; rfl, rfl, rfl⟩
              case round =>
                obtain ⟨j, hj, rfl, rfl, rfl⟩ := hrel
                by_cases hjl : j < (nxt l k).length
                · obtain ⟨g, c', e, hg1, hg2, hx⟩ := HNV.out.at_ hjl
                  injection e with ea e3 e2
                  subst ea e2
                  have hin := nxt_in _ (List.getElem_mem hjl)
                  have HT := hide (unT_succ (A := A') hjl)
                  obtain ⟨yn, hyn⟩ : ∃ yn : Nat, (nxt l k)[j] = (yn : Int) := ⟨((nxt l k)[j]).toNat, by omega⟩
                  rw [hyn] at hx hin HT
                  simp only [Int.toNat_natCast] at HT
                  have hyl : yn < l.length := by omega
                  have hy := HAV.out.c yn hyl
                  have hbits := bits_or (unT_lim HP.out.inv.la k j) (HP.out.inv.la yn hyl)
                  have j1 : (j : Int) < ((nxt l k).length : Int) := by omega
                  have j0 : (0 : Int) ≤ (j : Int) := by omega
                  have y0 : (0 : Int) ≤ (yn : Int) := by omega
                  have y1 : (yn : Int) < (l.length : Int) := by omega
                  rw [← HT.out] at hbits
                  generalize hR : unT l A' k (j + 1) = R1 at *
                  have HRR := hide hR
                  clear hR HT hin hyn
                  generalize unT l A' k j = R0 at *
                  generalize A' yn = Ay at *
                  go_wp2_with fail
                  go_roundw
                  case rel => exact ⟨j + 1, hjl, by rw [HRR.out], by go_num, trivial⟩
                  case measure => simp [intOf]; omega
                · obtain rfl : j = (nxt l k).length := by omega
                  have j1 : ¬ ((nxt l k).length : Int) < ((nxt l k).length : Int) := by omega
                  rw [hun]
                  obtain ⟨e0, e1, e2, e3, e4, e5, e6⟩ := HBX.out.c7 (Below.refl _ _)
                  simp only at e0 e1 e2 e3 e4 e5 e6
                  have PNe := PN.out
                  have LVN2 := hide (LVN.out _ hul)
                  have LVS2 := hide (LVS.out (un (sy l) A' k))
                  clear LVN LVS PNe hun U0
                  have hNlt : True := trivial
                  generalize hSv : un (sy l) A' k = Sv at *
                  have HSv := hide hSv
                  clear hSv
                  generalize hTv : lv (sy l) k Sv = Tv at *
                  have HTv := hide hTv
                  clear hTv
                  go_wp2_with fail
                  refine (DA.out _).mono ?_
                  rintro e w3 ⟨rfl, hb3⟩
                  have HA3 := hide (HAV.out.of (hb3.block _ HAV.out.lt))
                  have HF3 := hide (HFV.out.of (hb3.block _ HFV.out.lt))
                  have HB3 := hide (HBV.out.bel hb3)
                  obtain ⟨e0, e1, e2, e3, e4, e5, e6⟩ := HBX.out.c7 hb3
                  simp only at e0 e1 e2 e3 e4 e5 e6
                  clear hb3 DA HAV HFV HBV
                  by_cases hd : df ⟨op, dst, aa, bb, cc, nn, mm⟩ = -1
                  · have LT := hide (LVN2.out hd)
                    have hbits2 := bits_or hul LR2.out
                    rw [← LT.out] at hbits2
                    rw [hd]
                    go_wp2_with fail
                    refine (UA.out _).mono ?_
                    rintro e w4 ⟨v4, rfl, hv4, hb4⟩
                    have RS : Hid (Calls Tryd.prog 47 #[v4] w4 fun e w' => e = .returned (.int .i64 ((rdS ⟨op, dst, aa, bb, cc, nn, mm⟩ : Nat) : Int)) ∧ w' = w4) := rset_any hv4 HU6.out (by omega)
                    obtain ⟨a4, c4, hf4⟩ := hv4.form
                    subst hf4
                    have HA4 := hide (HA3.out.of (hb4.block _ HA3.out.lt))
                    have HF4 := hide (HF3.out.of (hb4.block _ HF3.out.lt))
                    have HB4 := hide (HB3.out.bel hb4)
                    clear hv4 hb4 UA HA3 HF3 HB3 e0 e1 e2 e3 e4 e5 e6
                    generalize rdS ⟨op, dst, aa, bb, cc, nn, mm⟩ = RD at *
                    go_wp2_with fail
                    refine RS.out.mono ?_
                    rintro e w5 ⟨rfl, rfl⟩
                    have xf := HF4.out.c k hlt
                    have xa := HA4.out.c k hlt
                    have ff := HF4.out.f k
                    have fa := HA4.out.f k
                    have HFS := hide ((HF4.out.set hlt Sv).of (W' := (w5.setCell ⟨p, k, none⟩ (.int .i64 ((Sv : Nat) : Int))).setCell ⟨p + 1, k, none⟩ (.int .i64 ((Tv : Nat) : Int))) (Below.heap_setCell _ ⟨p + 1, k, none⟩ _ p (by simp)))
                    have HAS := hide ((HA4.out.of (W' := w5.setCell ⟨p, k, none⟩ (.int .i64 ((Sv : Nat) : Int))) (Below.heap_setCell _ ⟨p, k, none⟩ _ (p + 1) (by simp))).set hlt Tv)
                    have HBS := hide ((HB4.out.set (b := p) (Or.inl rfl) k (.int .i64 ((Sv : Nat) : Int))).set (b := p + 1) (Or.inr rfl) k (.int .i64 ((Tv : Nat) : Int)))
                    have fa2 : (w5.setCell ⟨p, k, none⟩ (.int .i64 ((Sv : Nat) : Int))).frozen? ⟨p + 1, k, none⟩ = false := by rw [World.frozen?_setCell]; exact fa
                    have xa2 : (w5.setCell ⟨p, k, none⟩ (.int .i64 ((Sv : Nat) : Int))).cell? ⟨p + 1, k, none⟩ = some (.int .i64 ((A' k : Nat) : Int)) := (HA4.out.of (W' := w5.setCell ⟨p, k, none⟩ (.int .i64 ((Sv : Nat) : Int))) (Below.heap_setCell _ ⟨p, k, none⟩ _ (p + 1) (by simp))).c k hlt
                    have PQ := PN.out
                    have HL2 := HP
                    clear RS HA4 HF4 HB4 PN HSv HTv LT hul
                    generalize F' k = Fk at *
                    generalize A' k = Ak at *
                    by_cases q1 : Sv = Fk
                    · by_cases q2 : Tv = Ak
                      · have PZ : Hid (Pbs (sy l) A F k ch (upd A' k Tv) (upd F' k Sv)) := by
                          have : (ch || (Sv != Fk || Tv != Ak)) = ch := by simp [q1, q2]
                          rw [this] at PQ; exact PQ
                        have z1 : ((Fk : Nat) : Int) = (Sv : Int) := by rw [q1]
                        have z2 : ((Ak : Nat) : Int) = (Tv : Int) := by rw [q2]
                        rw [z1] at xf
                        rw [z2] at xa xa2
                        clear PQ q1 q2 z1 z2
                        go_wp2_with fail
                        go_roundw
                        case rel => exact ⟨k, ch, _, _, Nat.le_of_lt hlt, rfl, by go_num, HAS, HFS, PZ, HBS⟩
                        case measure => simp [intOf]
                      · have PZ : Hid (Pbs (sy l) A F k true (upd A' k Tv) (upd F' k Sv)) := by
                          have : (ch || (Sv != Fk || Tv != Ak)) = true := by simp [q2]
                          rw [this] at PQ; exact PQ
                        have z1 : ((Fk : Nat) : Int) = (Sv : Int) := by rw [q1]
                        have z2 : (((Tv : Nat) : Int) != ((Ak : Nat) : Int)) = true := by rw [bne_iff_ne]; omega
                        have z3 : ¬ ((Tv : Nat) : Int) = ((Ak : Nat) : Int) := by omega
                        rw [z1] at xf
                        clear PQ q1 q2 z1
                        go_wp2_with fail
                        go_roundw
                        case rel => exact ⟨k, true, _, _, Nat.le_of_lt hlt, rfl, by go_num, HAS, HFS, PZ, HBS⟩
                        case measure => simp [intOf]
                    · have PZ : Hid (Pbs (sy l) A F k true (upd A' k Tv) (upd F' k Sv)) := by
                        have : (ch || (Sv != Fk || Tv != Ak)) = true := by simp [q1]
                        rw [this] at PQ; exact PQ
                      have z2 : (((Sv : Nat) : Int) != ((Fk : Nat) : Int)) = true := by rw [bne_iff_ne]; omega
                      have z3 : ¬ ((Sv : Nat) : Int) = ((Fk : Nat) : Int) := by omega
                      clear PQ q1
                      go_wp2_with fail
                      go_roundw
                      case rel => exact ⟨k, true, _, _, Nat.le_of_lt hlt, rfl, by go_num, HAS, HFS, PZ, HBS⟩
                      case measure => simp [intOf]
                  · obtain ⟨g0, g1⟩ : 0 ≤ df ⟨op, dst, aa, bb, cc, nn, mm⟩ ∧ df ⟨op, dst, aa, bb, cc, nn, mm⟩ < 60 := by
                      rcases HD6.out with h | h
                      · exact absurd h hd
                      · exact h
                    have LT := hide (LVS2.out hd)
                    obtain ⟨dd, hdd⟩ : ∃ dd : Nat, df ⟨op, dst, aa, bb, cc, nn, mm⟩ = (dd : Int) := ⟨(df ⟨op, dst, aa, bb, cc, nn, mm⟩).toNat, by omega⟩
                    rw [hdd] at LT g0 g1 ⊢
                    have hbits1 := bits_dn hul (one_lim (n := (dd : Int)) g1)
                    have hbits2 := bits_or (dn_lim hul (one_lim (n := (dd : Int)) g1)) LR2.out
                    have hs := shl_nat dd (by omega)
                    rw [← LT.out] at hbits2
                    clear hdd hd LVN2 LVS2 HD6
                    generalize dn Sv (one (dd : Int)) = T0 at *
                    generalize one (dd : Int) = O at *
                    go_wp2_with fail
                    refine (UA.out _).mono ?_
                    rintro e w4 ⟨v4, rfl, hv4, hb4⟩
                    have RS : Hid (Calls Tryd.prog 47 #[v4] w4 fun e w' => e = .returned (.int .i64 ((rdS ⟨op, dst, aa, bb, cc, nn, mm⟩ : Nat) : Int)) ∧ w' = w4) := rset_any hv4 HU6.out (by omega)
                    obtain ⟨a4, c4, hf4⟩ := hv4.form
                    subst hf4
                    have HA4 := hide (HA3.out.of (hb4.block _ HA3.out.lt))
                    have HF4 := hide (HF3.out.of (hb4.block _ HF3.out.lt))
                    have HB4 := hide (HB3.out.bel hb4)
                    clear hv4 hb4 UA HA3 HF3 HB3 e0 e1 e2 e3 e4 e5 e6
                    generalize rdS ⟨op, dst, aa, bb, cc, nn, mm⟩ = RD at *
                    go_wp2_with fail
                    refine RS.out.mono ?_
                    rintro e w5 ⟨rfl, rfl⟩
                    have xf := HF4.out.c k hlt
                    have xa := HA4.out.c k hlt
                    have ff := HF4.out.f k
                    have fa := HA4.out.f k
                    have HFS := hide ((HF4.out.set hlt Sv).of (W' := (w5.setCell ⟨p, k, none⟩ (.int .i64 ((Sv : Nat) : Int))).setCell ⟨p + 1, k, none⟩ (.int .i64 ((Tv : Nat) : Int))) (Below.heap_setCell _ ⟨p + 1, k, none⟩ _ p (by simp)))
                    have HAS := hide ((HA4.out.of (W' := w5.setCell ⟨p, k, none⟩ (.int .i64 ((Sv : Nat) : Int))) (Below.heap_setCell _ ⟨p, k, none⟩ _ (p + 1) (by simp))).set hlt Tv)
                    have HBS := hide ((HB4.out.set (b := p) (Or.inl rfl) k (.int .i64 ((Sv : Nat) : Int))).set (b := p + 1) (Or.inr rfl) k (.int .i64 ((Tv : Nat) : Int)))
                    have fa2 : (w5.setCell ⟨p, k, none⟩ (.int .i64 ((Sv : Nat) : Int))).frozen? ⟨p + 1, k, none⟩ = false := by rw [World.frozen?_setCell]; exact fa
                    have xa2 : (w5.setCell ⟨p, k, none⟩ (.int .i64 ((Sv : Nat) : Int))).cell? ⟨p + 1, k, none⟩ = some (.int .i64 ((A' k : Nat) : Int)) := (HA4.out.of (W' := w5.setCell ⟨p, k, none⟩ (.int .i64 ((Sv : Nat) : Int))) (Below.heap_setCell _ ⟨p, k, none⟩ _ (p + 1) (by simp))).c k hlt
                    have PQ := PN.out
                    have HL2 := HP
                    clear RS HA4 HF4 HB4 PN HSv HTv LT hul
                    generalize F' k = Fk at *
                    generalize A' k = Ak at *
                    by_cases q1 : Sv = Fk
                    · by_cases q2 : Tv = Ak
                      · have PZ : Hid (Pbs (sy l) A F k ch (upd A' k Tv) (upd F' k Sv)) := by
                          have : (ch || (Sv != Fk || Tv != Ak)) = ch := by simp [q1, q2]
                          rw [this] at PQ; exact PQ
                        have z1 : ((Fk : Nat) : Int) = (Sv : Int) := by rw [q1]
                        have z2 : ((Ak : Nat) : Int) = (Tv : Int) := by rw [q2]
                        rw [z1] at xf
                        rw [z2] at xa xa2
                        clear PQ q1 q2 z1 z2
                        go_wp2_with fail
                        go_roundw
                        case rel => exact ⟨k, ch, _, _, Nat.le_of_lt hlt, rfl, by go_num, HAS, HFS, PZ, HBS⟩
                        case measure => simp [intOf]
                      · have PZ : Hid (Pbs (sy l) A F k true (upd A' k Tv) (upd F' k Sv)) := by
                          have : (ch || (Sv != Fk || Tv != Ak)) = true := by simp [q2]
                          rw [this] at PQ; exact PQ
                        have z1 : ((Fk : Nat) : Int) = (Sv : Int) := by rw [q1]
                        have z2 : (((Tv : Nat) : Int) != ((Ak : Nat) : Int)) = true := by rw [bne_iff_ne]; omega
                        have z3 : ¬ ((Tv : Nat) : Int) = ((Ak : Nat) : Int) := by omega
                        rw [z1] at xf
                        clear PQ q1 q2 z1
                        go_wp2_with fail
                        go_roundw
                        case rel => exact ⟨k, true, _, _, Nat.le_of_lt hlt, rfl, by go_num, HAS, HFS, PZ, HBS⟩
                        case measure => simp [intOf]
                    · have PZ : Hid (Pbs (sy l) A F k true (upd A' k Tv) (upd F' k Sv)) := by
                        have : (ch || (Sv != Fk || Tv != Ak)) = true := by simp [q1]
                        rw [this] at PQ; exact PQ
                      have z2 : (((Sv : Nat) : Int) != ((Fk : Nat) : Int)) = true := by rw [bne_iff_ne]; omega
                      have z3 : ¬ ((Sv : Nat) : Int) = ((Fk : Nat) : Int) := by omega
                      clear PQ q1
                      go_wp2_with fail
                      go_roundw
                      case rel => exact ⟨k, true, _, _, Nat.le_of_lt hlt, rfl, by go_num, HAS, HFS, PZ, HBS⟩
                      case measure => simp [intOf]
end Go.Proofs.YtjgaaofpfepfhaaDoor
