/-
  The program's named.
-/
import Derived.Test.YtjgaaofpfepfhaaDoorWs
import Derived.Test.YtjgaaofpfepfhaaDoorUses
namespace Go.Proofs.YtjgaaofpfepfhaaDoor
open Go.RowKit
set_option linter.unusedSimpArgs false
set_option linter.unusedVariables false
/-- What the first k name, and the parameters. -/
def nmT (l : List Ir) (m : Nat) : Nat → Nat
  | 0 => full m
  | k + 1 => (nmT l m k ||| wrS (l.getD k ir0)) ||| rdS (l.getD k ir0)
theorem nmT_is (l : List Ir) (m k : Nat) : nmT l m (k + 1) = (nmT l m k ||| wrS (l.getD k ir0)) ||| rdS (l.getD k ir0) := rfl
theorem nmT_lim {l : List Ir} {m : Nat} (h : Ok60 l) (hm : m ≤ 60) : ∀ k, k ≤ l.length → nmT l m k < lim
  | 0, _ => full_lim hm
  | k + 1, hk => or_lim (or_lim (nmT_lim h hm k (by omega)) (wr_lim h k (by omega))) (rd_lim h k (by omega))
set_option maxRecDepth 100000 in
set_option maxHeartbeats 6400000 in
theorem named_any (d : Cd) (q : Option Addr) (cap : Nat) (l : List Ir) (m : Nat) (w : World) (hl : l.length ≤ 1000) (hr : IR w.heap.size w q l) (ho : Ok60 l) (hm : d.params = (m : Int)) (hm60 : m ≤ 60) :
    Calls Tryd.prog 24 #[cv d q l.length cap] w fun e w' => e = .returned (.int .i64 ((nmT l m l.length : Nat) : Int)) ∧ Below w.heap.size w w' := by
  have HL := hide hl
  have HR := hide hr
  have HO := hide ho
  have HFU := hide (full_is hm60)
  have C0 : Hid (nmT l m 0 = full m) := rfl
  have B0 : FB d q l.length cap w.heap.size l w (w.alloc (.cells #[.int .i64 d.cells, .int .i64 d.params, .slice q l.length cap, .int .i64 d.labels] 24)) := ⟨bel_one _ _, by simp, heap_alloc_new _ _⟩
  clear hl hr ho
  obtain ⟨cs, ps, ls⟩ := d
  simp only at hm
  subst hm
  unfold cv
  simp only at B0 ⊢
  go_enter Tryd.func24, Tryd.ntmps24
  go_upto_region 1 with fail
  refine gw (motive := fun x => Code.wp _ _ _ _ x) (fun W => Hid (FB ⟨cs, (m : Int), ls⟩ q l.length cap w.heap.size l w W)) B0 ?_
  rintro W HW
  clear B0
  obtain ⟨c0, c1, c2, c3⟩ := HW.out.cells (Below.refl _ W) HW.out.lt
  simp only at c0 c1 c2 c3
  have hs := HFU.out
  have HIR := hide (HR.out.bel HW.out.b)
  go_wp2_with fail
  clear c0 c1 c2 c3 hs
  go_loopw [3, 5, 7, 15] (fun s3 _ _ s15 wr => ∃ k : Nat, k ≤ l.length ∧ s3 = .int .i64 ((nmT l m k : Nat) : Int) ∧ s15 = .int .i64 (k : Int) ∧ Hid (Below W.heap.size W wr)) (fun _ _ _ s15 _ => l.length - (intOf s15).toNat)
  case atStart => exact ⟨0, Nat.zero_le _, by rw [C0.out], rfl, Below.refl _ _⟩
  case round =>
    obtain ⟨k, hk, rfl, rfl, HB⟩ := hrel
    have hk1 := HL.out
    by_cases hlt : k < l.length
    · obtain ⟨g, o, rfl, hb, hcx, hox⟩ := HIR.out k hlt
      have hgW : g < W.heap.size := Nat.lt_of_lt_of_le hb HW.out.b.size
      obtain ⟨d0, d1, d2, d3, d4, d5, d6⟩ := hcx.of (HB.out.block g hgW)
      have hB0 := Bx.made l[k] wr
      have hG : l.getD k ir0 = l[k] := by simp [List.getD, hlt]
      have HD6 := (HO.out l[k] (List.getElem_mem hlt)).2
      have HU6 := hide (HO.out.us (List.getElem_mem hlt))
      have WA := hide (fun U => written_any l[k] U HD6)
      have UA := hide (fun U => uses_any l[k] U)
      have UL := us_len l[k]
      have CT := hide (nmT_is l m k)
      have hw := wr_lim HO.out k hlt
      have hC := nmT_lim HO.out hm60 k hk
      rw [hG] at CT hw
      have hbo := bits_or hC hw
      have hCw := or_lim hC hw
      have RDS : Hid (ors ((us l[k]).map one) = rdS l[k]) := rfl
      have h1 : (k : Int) < (l.length : Int) := by omega
      have h0 : (0 : Int) ≤ (k : Int) := by omega
      clear hcx hG HD6
      generalize hC1 : nmT l m (k + 1) = C1 at *
      have HC1 := hide hC1
      clear hC1
      generalize nmT l m k = Ck at *
      generalize l[k] = x at *
      obtain ⟨op, dst, aa, bb, cc, nn, mm⟩ := x
      unfold xv xc at WA UA
      unfold xc at hB0
      simp only at d0 d1 d2 d3 d4 d5 d6
      generalize wrS ⟨op, dst, aa, bb, cc, nn, mm⟩ = ws at *
      generalize Ck ||| ws = Cw at *
      generalize rdS ⟨op, dst, aa, bb, cc, nn, mm⟩ = RD at *
      generalize us ⟨op, dst, aa, bb, cc, nn, mm⟩ = ux at *
      go_upto_region 5 with fail
      refine gw (motive := fun x => Code.wp _ _ _ _ x) (fun V => Hid (Bx wr.heap.size ⟨op, dst, aa, bb, cc, nn, mm⟩ wr V)) hB0 ?_
      rintro V HV
      clear hB0 d0 d1 d2 d3 d4 d5 d6
      obtain ⟨e0, e1, e2, e3, e4, e5, e6⟩ := HV.out.c7 (Below.refl _ V)
      simp only at e0 e1 e2 e3 e4 e5 e6
      have HBV := hide (bel_tr HB.out HV.out.b)
      go_wp2_with fail
      refine (WA.out _).mono ?_
      rintro e w3 ⟨rfl, hb3⟩
      obtain ⟨e0, e1, e2, e3, e4, e5, e6⟩ := HV.out.c7 hb3
      simp only at e0 e1 e2 e3 e4 e5 e6
      have HB3 := hide (bel_tr HBV.out hb3)
      clear hb3 WA
      go_wp2_with fail
      refine (UA.out _).mono ?_
      rintro e w4 ⟨v, rfl, hv, hb4⟩
      have HB4 := hide (bel_tr HB3.out hb4)
      have HV4 := hide hv
      obtain ⟨av, cav, hf⟩ := hv.form
      subst hf
      have U0 : Hid (Cw ||| orT ux 0 = Cw) := by show _ = _; simp [orT, ors]
      clear hv hb4 UA e0 e1 e2 e3 e4 e5 e6
      go_wp2_with fail
      go_loopw [3, 7, 26] (fun s3 _ s26 wr' => ∃ j : Nat, j ≤ ux.length ∧ s3 = .int .i64 ((Cw ||| orT ux j : Nat) : Int) ∧ s26 = .int .i64 (j : Int) ∧ wr' = w4) (fun _ _ s26 _ => ux.length - (intOf s26).toNat)
      case atStart => exact ⟨0, Nat.zero_le _, by rw [U0.out], rfl, rfl⟩
      case round =>
        obtain ⟨j, hj, rfl, rfl, rfl⟩ := hrel
        by_cases hjl : j < ux.length
        · obtain ⟨g', c', e, hg1, hg2, hx⟩ := HV4.out.at_ hjl
          injection e with ea e3 e2
          subst ea e2
          have hyj := HU6.out _ (List.getElem_mem hjl)
          have HT := hide (orT_succ hjl)
          have hbits := bits_or (or_lim hCw (orT_lim HU6.out j)) (one_lim hyj.2)
          obtain ⟨yn, hyn⟩ : ∃ yn : Nat, ux[j] = (yn : Int) := ⟨(ux[j]).toNat, by omega⟩
          rw [hyn] at hx hyj HT hbits
          have hs := shl_nat yn (by omega)
          rw [Nat.or_assoc, ← HT.out] at hbits
          have j1 : (j : Int) < (ux.length : Int) := by omega
          have j0 : (0 : Int) ≤ (j : Int) := by omega
          generalize hR : Cw ||| orT ux (j + 1) = R1 at *
          have HRR := hide hR
          clear hR HT hyn
          generalize Cw ||| orT ux j = R0 at *
          generalize one (yn : Int) = O at *
          go_wp2_with fail
          go_roundw
          case rel => exact ⟨j + 1, hjl, by rw [HRR.out], by go_num, trivial⟩
          case measure => simp [intOf]; omega
        · obtain rfl : j = ux.length := by omega
          have j1 : ¬ (ux.length : Int) < (ux.length : Int) := by omega
          have C2 : Hid (C1 = Cw ||| orT ux ux.length) := by show _ = _; rw [CT.out, orT_all, RDS.out]
          go_wp2_with fail
          go_roundw
          case rel => exact ⟨k + 1, hlt, by rw [HC1.out, C2.out], by go_num, HB4⟩
          case measure => simp [intOf]; omega
    · obtain rfl : k = l.length := by omega
      have h1 : ¬ (l.length : Int) < (l.length : Int) := by omega
      have HBF := hide (HW.out.b.trans (HB.out.mono HW.out.b.size))
      go_wp2_with fail
      go_ret
      exact ⟨rfl, HBF.out⟩
end Go.Proofs.YtjgaaofpfepfhaaDoor
