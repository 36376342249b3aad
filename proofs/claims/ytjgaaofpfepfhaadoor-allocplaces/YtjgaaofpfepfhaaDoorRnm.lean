/-
  The document's Named.
-/
import Derived.Test.YtjgaaofpfepfhaaDoorR5
import Derived.Test.YtjgaaofpfepfhaaDoorR4
import Derived.Test.YtjgaaofpfepfhaaDoorCrn
namespace Go.Proofs.YtjgaaofpfepfhaaDoor
open Go.RowKit
set_option linter.unusedSimpArgs false
set_option linter.unusedVariables false
def RNmEnds (d : Cd) (l : List Ir) (w : World) (e : Ending) (w' : World) : Prop :=
  (fitb d l = false ∧ e = .returned (.tuple #[.int .i64 0, .bool false]) ∧ Below w.heap.size w w') ∨
  (fitb d l = true ∧ ∃ m : Nat, d.params = (m : Int) ∧ e = .returned (.tuple #[.int .i64 ((nmT l m l.length : Nat) : Int), .bool true]) ∧ Below w.heap.size w w')
theorem or_turn (a b c : Nat) : (a ||| b) ||| c = (a ||| c) ||| b := by rw [Nat.or_assoc, Nat.or_comm b c, ← Nat.or_assoc]
set_option maxRecDepth 100000 in
set_option maxHeartbeats 6400000 in
theorem rnamed_any (d : Cd) (q : Option Addr) (cap : Nat) (l : List Ir) (w : World) (hl : l.length ≤ 1000) (hr : IR w.heap.size w q l) :
    Calls Tryd.prog 13 #[cv d q l.length cap] w (RNmEnds d l w) := by
  have HL := hide hl
  have HR := hide hr
  have B0 : FB d q l.length cap w.heap.size l w (w.alloc (.cells #[.int .i64 d.cells, .int .i64 d.params, .slice q l.length cap, .int .i64 d.labels] 24)) := ⟨bel_one _ _, by simp, heap_alloc_new _ _⟩
  have BA := hide (fun U (hU : IR U.heap.size U q l) => rfits_any d q cap l U hl hU)
  clear hl hr
  obtain ⟨cs, ps, ls⟩ := d
  unfold cv at BA ⊢
  simp only at B0 BA ⊢
  go_enter Tryd.func13, Tryd.ntmps13
  go_upto_region 1 with fail
  refine gw (motive := fun x => Code.wp _ _ _ _ x) (fun W => Hid (FB ⟨cs, ps, ls⟩ q l.length cap w.heap.size l w W)) B0 ?_
  rintro W HW
  clear B0
  obtain ⟨c0, c1, c2, c3⟩ := HW.out.cells (Below.refl _ W) HW.out.lt
  simp only at c0 c1 c2 c3
  have hqW := HW.out.lt
  go_wp2_with fail
  refine (BA.out W ((HR.out.bel HW.out.b).up HW.out.b.size)).mono ?_
  clear c0 c1 c2 c3 BA
  rintro e W1 ⟨rfl, k2⟩
  have HB1 := hide k2
  have HB := hide (HW.out.b.trans (k2.mono HW.out.b.size))
  clear k2
  cases hf : fitb ⟨cs, ps, ls⟩ l
  · have HF := hide hf
    clear hf
    go_wp2_with fail
    refine bodyPost_ret (results_tmp2 rfl _ _ _) rfl ?_
    exact Or.inl ⟨HF.out, rfl, HB.out⟩
  have HF := hide hf
  have HO := hide (fitb_ok hf)
  have FP := fit_parts hf
  simp only at FP
  obtain ⟨m, hm⟩ : ∃ m : Nat, ps = (m : Int) := ⟨ps.toNat, by omega⟩
  subst hm
  have hm60 : m ≤ 60 := by omega
  have HFU := hide (full_is hm60)
  have C0 : Hid (nmT l m 0 = full m) := rfl
  have HIR := hide (HR.out.bel HB.out)
  obtain ⟨c0, c1, c2, c3⟩ := HW.out.cells HB1.out hqW
  simp only at c0 c1 c2 c3
  have hs := HFU.out
  clear hf FP
  go_wp2_with fail
  clear c0 c1 c2 c3 hs
  go_loopw [5, 6, 7, 8, 9] (fun s5 s6 _ _ _ wr => ∃ k : Nat, k ≤ l.length ∧ s6 = .int .i64 (k : Int) ∧ s5 = .int .i64 ((nmT l m k : Nat) : Int) ∧ Hid (Below W1.heap.size W1 wr)) (fun _ s6 _ _ _ _ => l.length - (intOf s6).toNat)
  case atStart => exact ⟨0, Nat.zero_le _, rfl, by rw [C0.out], Below.refl _ _⟩
  case round =>
    obtain ⟨k, hk, rfl, rfl, HBl⟩ := hrel
    have hk1 := HL.out
    obtain ⟨c0, c1, c2, c3⟩ := HW.out.cells (bel_tr HB1.out HBl.out) hqW
    simp only at c0 c1 c2 c3
    by_cases hlt : k < l.length
    · obtain ⟨g, o, rfl, hb, hcx, hox⟩ := HIR.out k hlt
      have hgW : g < W1.heap.size := Nat.lt_of_lt_of_le hb HB.out.size
      obtain ⟨d0, d1, d2, d3, d4, d5, d6⟩ := hcx.of (HBl.out.block g hgW)
      have hG : l.getD k ir0 = l[k] := by simp [List.getD, hlt]
      have hD := (HO.out l[k] (List.getElem_mem hlt)).2
      have HU6 := hide (HO.out.us (List.getElem_mem hlt))
      have CT := hide (nmT_is l m k)
      have hw := wr_lim HO.out k hlt
      have hC := nmT_lim HO.out hm60 k hk
      rw [hG] at CT hw
      have UA := hide (fun U => ruses_any l[k] U)
      have DA := hide (fun U => rdefs_any l[k] U)
      have RDS : Hid (ors ((us l[k]).map one) = rdS l[k]) := rfl
      have UL := us_len l[k]
      have hws : wrS l[k] = if df l[k] = -1 then 0 else one (df l[k]) := rfl
      rw [hws] at CT hw
      have h1 : (k : Int) < (l.length : Int) := by omega
      have h0 : (0 : Int) ≤ (k : Int) := by omega
      have HCX := hide (fun U (hU : Below W1.heap.size W1 U) => hcx.of (hU.block g hgW))
      clear hcx hG hws
      generalize hC1 : nmT l m (k + 1) = C1 at *
      have HC1 := hide hC1
      clear hC1
      generalize nmT l m k = Ck at *
      generalize l[k] = x at *
      obtain ⟨op, dst, aa, bb, cc, nn, mm⟩ := x
      unfold xv xc at UA DA
      simp only at d0 d1 d2 d3 d4 d5 d6 HCX
      generalize rdS ⟨op, dst, aa, bb, cc, nn, mm⟩ = RD at *
      generalize us ⟨op, dst, aa, bb, cc, nn, mm⟩ = ux at *
      generalize df ⟨op, dst, aa, bb, cc, nn, mm⟩ = dd at *
      go_wp2_with fail
      refine (UA.out _).mono ?_
      rintro e w4 ⟨v, rfl, hv, hb4⟩
      have HB4 := hide (bel_tr HBl.out hb4)
      have HV4 := hide hv
      obtain ⟨av, cav, hf⟩ := hv.form
      subst hf
      have U0 : Hid (Ck ||| orT ux 0 = Ck) := by show _ = _; simp [orT, ors]
      clear hv hb4 UA d0 d1 d2 d3 d4 d5 d6 c0 c1 c2 c3
      go_wp2_with fail
      go_loopw [5, 8] (fun s5 s8 wr' => ∃ j : Nat, j ≤ ux.length ∧ s8 = .int .i64 (j : Int) ∧ s5 = .int .i64 ((Ck ||| orT ux j : Nat) : Int) ∧ wr' = w4) (fun _ s8 _ => ux.length - (intOf s8).toNat)
      case atStart => exact ⟨0, Nat.zero_le _, rfl, by rw [U0.out], rfl⟩
      case round =>
        obtain ⟨j, hj, rfl, rfl, rfl⟩ := hrel
        by_cases hjl : j < ux.length
        · obtain ⟨g', c', e, hg1, hg2, hx⟩ := HV4.out.at_ hjl
          injection e with ea e3 e2
          subst ea e2
          have hyj := HU6.out _ (List.getElem_mem hjl)
          have HT := hide (orT_succ hjl)
          have hbits := bits_or (or_lim hC (orT_lim HU6.out j)) (one_lim hyj.2)
          obtain ⟨yn, hyn⟩ : ∃ yn : Nat, ux[j] = (yn : Int) := ⟨(ux[j]).toNat, by omega⟩
          rw [hyn] at hx hyj HT hbits
          have hs := shl_nat yn (by omega)
          rw [Nat.or_assoc, ← HT.out] at hbits
          have j1 : (j : Int) < (ux.length : Int) := by omega
          have j0 : (0 : Int) ≤ (j : Int) := by omega
          generalize hR : Ck ||| orT ux (j + 1) = R1 at *
          have HRR := hide hR
          clear hR HT hyn
          generalize Ck ||| orT ux j = R0 at *
          generalize one (yn : Int) = O at *
          go_wp2_with fail
          go_roundw
          case rel => exact ⟨j + 1, hjl, by go_num, by rw [HRR.out], trivial⟩
          case measure => simp [intOf]; omega
        · obtain rfl : j = ux.length := by omega
          have j1 : ¬ (ux.length : Int) < (ux.length : Int) := by omega
          obtain ⟨c0, c1, c2, c3⟩ := HW.out.cells (bel_tr HB1.out HB4.out) hqW
          simp only at c0 c1 c2 c3
          obtain ⟨d0, d1, d2, d3, d4, d5, d6⟩ := HCX.out _ HB4.out
          simp only at d0 d1 d2 d3 d4 d5 d6
          have C2 : Hid (C1 = (Ck ||| orT ux ux.length) ||| (if dd = -1 then 0 else one dd)) := by show _ = _; rw [CT.out, orT_all, RDS.out, or_turn]
          have hCw := or_lim hC (orT_lim HU6.out ux.length)
          clear CT
          generalize Ck ||| orT ux ux.length = R0 at *
          go_wp2_with fail
          refine (DA.out _).mono ?_
          rintro e w5 ⟨rfl, hb5⟩
          have HB5 := hide (bel_tr HB4.out hb5)
          clear hb5 DA c0 c1 c2 c3 d0 d1 d2 d3 d4 d5 d6
          by_cases hd1 : dd = -1
          · subst hd1
            have C3 : Hid (C1 = R0) := by show _ = _; rw [C2.out, if_pos rfl]; simp
            clear C2 hw
            go_wp2_with fail
            go_roundw
            case rel => exact ⟨k + 1, hlt, by go_num, by rw [HC1.out, C3.out], HB5⟩
            case measure => simp [intOf]; omega
          · obtain ⟨g0, g1⟩ : 0 ≤ dd ∧ dd < 60 := by
              rcases hD with h | h
              · exact absurd h hd1
              · exact h
            rw [if_neg hd1] at hw
            have C3 : Hid (C1 = R0 ||| one dd) := by show _ = _; rw [C2.out, if_neg hd1]
            obtain ⟨j, rfl⟩ : ∃ j : Nat, dd = (j : Int) := ⟨dd.toNat, by omega⟩
            have hs := shl_nat j (by omega)
            have hbo := bits_or hCw hw
            rw [← C3.out] at hbo
            clear C2 hD hd1
            generalize one (j : Int) = oj at *
            go_wp2_with fail
            go_roundw
            case rel => exact ⟨k + 1, hlt, by go_num, by rw [HC1.out], HB5⟩
            case measure => simp [intOf]; omega
    · obtain rfl : k = l.length := by omega
      have h1 : ¬ (l.length : Int) < (l.length : Int) := by omega
      have HBB := hide (HB.out.trans (HBl.out.mono HB.out.size))
      go_wp2_with fail
      refine bodyPost_ret (results_tmp2 rfl _ _ _) rfl ?_
      exact Or.inr ⟨HF.out, m, rfl, rfl, HBB.out⟩
end Go.Proofs.YtjgaaofpfepfhaaDoor
