/-
  The law AllocApart.
-/
import Derived.Test.YtjgaaofpfepfhaaDoorApx
import Derived.Test.YtjgaaofpfepfhaaDoorFits
import Derived.Test.YtjgaaofpfepfhaaDoorCls
import Derived.BigQuiet
import Derived.Deep.QuietTactic
namespace Go.Proofs.YtjgaaofpfepfhaaDoor
open Go.RowKit
set_option linter.unusedSimpArgs false
set_option linter.unusedVariables false
theorem bel_drewN {B : Nat} {w w' : World} (h : Below B w w') (n : Nat) : Below B w (w'.drewN n) := ⟨h.os, h.tape, h.output, h.size, h.block⟩
theorem FQ.drewN {cs ps ls : Int} {q : Option Addr} {n cap q0 : Nat} {w W : World} (h : FQ cs ps ls q n cap q0 w W) (k : Nat) : FQ cs ps ls q n cap q0 w (W.drewN k) := ⟨bel_drewN h.b k, h.lt, h.c0, h.c1, h.c2, h.c3⟩
theorem VRow.drewN {b n : Nat} {f : Nat → Value} {W : World} (h : VRow b n f W) (k : Nat) : VRow b n f (W.drewN k) := h.of rfl
theorem wrap_small {x : Int} (h0 : 0 ≤ x) (h : x ≤ 1000) : wrap64 x = x := by simp only [wrap64]; omega
/-- A bit of a set, as the walk asks it. -/
theorem bit_yes {s : Nat} (n : Nat) (hs : s < lim) (h : s.testBit n = true) : bits .and .i64 ((s : Int) / 2 ^ n) 1 = 1 := by
  have := bit_at n hs
  rw [h] at this
  simpa using this
theorem bit_no {s : Nat} (n : Nat) (hs : s < lim) (h : s.testBit n = false) : bits .and .i64 ((s : Int) / 2 ^ n) 1 = 0 := by
  have := bit_zero n hs
  rw [h] at this
  simpa using this
/-- What a call of Clash tells of two cells. -/
theorem clash_two_ends {d : Cd} {l : List Ir} {n NM CR k b : Nat} {pl : Nat → Int} {v : Bool} {n2 : Int} (hf : fitb d l = true) (ha : ApF d l n NM CR pl) (hk : k < n) (hb : b < k) (hn : d.cells = (n : Int))
    (h : ((fitb d l = false ∨ isC (k : Int) d.cells = false ∨ isC (b : Int) d.cells = false) ∧ v = false ∧ n2 = 4) ∨
      ((fitb d l = true ∧ isC (k : Int) d.cells = true ∧ isC (b : Int) d.cells = true) ∧ n2 = 0 ∧ (((k : Int) = (b : Int) ∧ v = false) ∨ ((k : Int) ≠ (b : Int) ∧ ∃ A F, Sol (sy l) A F ∧ v = cls d l A F (k : Int) (b : Int))))) :
    n2 = 0 ∧ (v = true → pl k ≠ pl b) := by
  have ik : isC (k : Int) d.cells = true := isc_iff.2 (by omega)
  have ib : isC (b : Int) d.cells = true := isc_iff.2 (by omega)
  rcases h with ⟨h1, _⟩ | ⟨_, rfl, h2⟩
  · rw [hf, ik, ib] at h1; simp at h1
  · refine ⟨rfl, fun hv => ?_⟩
    rcases h2 with ⟨h3, _⟩ | ⟨_, A, F, hs, rfl⟩
    · omega
    · exact ha.apart k hk b hb A F hs hv
set_option maxRecDepth 100000 in
set_option maxHeartbeats 6400000 in
theorem apart_walk (d : Cd) (q : Option Addr) (cap : Nat) (l : List Ir) (w : World) (hc : l.length ≤ cap) (hr : IR w.heap.size w q l) (hT : Laid w) (hw0 : 0 < w.heap.size) :
    Calls Tryd.prog 4 #[cv d q l.length cap] w fun e w' => e = .returned (.bool true) ∧ Below w.heap.size w w' := by
  have HR := hide hr
  have HTb := hide hT
  clear hr hT
  obtain ⟨cs, ps, ls⟩ := d
  have B0 : FB ⟨cs, ps, ls⟩ q l.length cap w.heap.size l w (w.alloc (.cells #[.int .i64 cs, .int .i64 ps, .slice q l.length cap, .int .i64 ls] 24)) := ⟨bel_one _ _, by simp, heap_alloc_new _ _⟩
  have HE := hide (examples_any _ (HTb.out.kept B0.b hw0) (by have := B0.b.size; omega))
  unfold cv
  go_enter Tryd.func4, Tryd.ntmps4
  go_wp2_with fail
  refine HE.out.mono ?_
  rintro e W1 ⟨rfl, h1⟩
  have F1 : FB ⟨cs, ps, ls⟩ q l.length cap w.heap.size l w W1 := ⟨B0.b.trans (h1.mono B0.b.size), Nat.lt_of_lt_of_le B0.lt h1.size, (h1.block _ B0.lt).trans B0.r⟩
  have HF1 := hide F1
  have hfz : W1.frozen? ⟨w.heap.size, 2, none⟩ = false := by simp [World.frozen?, F1.r]
  obtain ⟨c0, c1, c2, c3⟩ := F1.cells (Below.refl _ W1) F1.lt
  simp only at c0 c1 c2 c3
  clear B0 F1 h1 HE
  obtain ⟨m, hm⟩ : ∃ m : Nat, min l.length 100 = m := ⟨_, rfl⟩
  have hmm : min (l.length : Int) 100 = (m : Int) := by omega
  have hmc : (m : Int) ≤ (cap : Int) := by omega
  have hm0 : (0 : Int) ≤ (m : Int) := by omega
  go_upto_region 3 with fail
  obtain ⟨t, ht⟩ : ∃ t, l.take m = t := ⟨_, rfl⟩
  have htl : m = t.length := by rw [← ht, List.length_take]; omega
  have htn : t.length ≤ 100 := by omega
  have HT := hide (HR.out.take m)
  rw [ht] at HT
  have hq0 : w.heap.size < W1.heap.size := HF1.out.lt
  have Q0 : FQ cs ps ls q m cap w.heap.size w (W1.setCell ⟨w.heap.size, 2, none⟩ (.slice q m cap)) := by
    refine ⟨HF1.out.b.setCell (p := ⟨w.heap.size, 2, none⟩) (Nat.le_refl _) _, by simpa [World.setCell] using hq0, ?_, ?_, World.cell?_setCell_same' _ _ _ (by rw [c2]; rfl), ?_⟩
    · exact (World.cell?_setCell_other _ _ _ _ (by simp)).trans c0
    · exact (World.cell?_setCell_other _ _ _ _ (by simp)).trans c1
    · exact (World.cell?_setCell_other _ _ _ _ (by simp)).trans c3
  clear c0 c1 c2 c3 hfz HF1 hmm hmc hm0 HR hm ht
  subst htl
  refine gw (motive := fun x => Code.wp _ _ _ _ x) (fun U => Hid (FQ cs ps ls q t.length cap w.heap.size w U)) Q0 ?_
  rintro W HQ
  clear Q0
  have htn2 : t.length ≤ 1000 := by omega
  have RD := hide (fun U (h : FQ cs ps ls q t.length cap w.heap.size w U) => (HT.out.bel h.b).up h.b.size)
  have PA := hide (fun U (h : FQ cs ps ls q t.length cap w.heap.size w U) => alloc_any ⟨cs, ps, ls⟩ q cap t U htn2 (RD.out U h) (HTb.out.kept h.b hw0) (by have := h.b.size; omega))
  have PC := hide (fun U (h : FQ cs ps ls q t.length cap w.heap.size w U) => crosses_any ⟨cs, ps, ls⟩ q cap t U htn2 (RD.out U h))
  have PE := hide (fun U (h : FQ cs ps ls q t.length cap w.heap.size w U) => nam_any ⟨cs, ps, ls⟩ q cap t U htn2 (RD.out U h))
  have PG := hide (fun U (h : FQ cs ps ls q t.length cap w.heap.size w U) => fits_any ⟨cs, ps, ls⟩ q cap t U htn2 (RD.out U h))
  have PH := hide (fun (a b : Int) U (h : FQ cs ps ls q t.length cap w.heap.size w U) => clash_any ⟨cs, ps, ls⟩ q cap t a b U htn2 (RD.out U h))
  unfold cv at PA PC PE PG PH
  simp only at PA PC PE PG PH
  clear HT RD
  obtain ⟨c0, c1, c2, c3⟩ : _ ∧ _ ∧ _ ∧ _ := ⟨HQ.out.c0, HQ.out.c1, HQ.out.c2, HQ.out.c3⟩
  go_wp2_with fail
  refine (PA.out W HQ.out).mono ?_
  clear c0 c1 c2 c3 PA
  rintro e W2 (⟨hf, rfl, k2⟩ | ⟨hf, n, m, r, A, F, S, pl, hn, hm, rfl, hr, hv, hs, hS, hp, k2⟩)
  · have HQ2 := hide (HQ.out.bel k2)
    clear k2
    obtain ⟨c0, c1, c2, c3⟩ : _ ∧ _ ∧ _ ∧ _ := ⟨HQ2.out.c0, HQ2.out.c1, HQ2.out.c2, HQ2.out.c3⟩
    go_wp2_with fail
    refine (PG.out W2 HQ2.out).mono ?_
    rintro e W3 ⟨rfl, k3⟩
    have HB3 := hide (HQ2.out.b.trans (k3.mono HQ2.out.b.size))
    rw [hf]
    clear k3 PG PC PE PH c0 c1 c2 c3
    go_wp2_with fail
    go_ret
    exact ⟨rfl, HB3.out⟩
  obtain rfl : cs = (n : Int) := hn
  have hps := hide (show ps = (m : Int) from hm)
  have HF := hide hf
  have FP := fit_parts hf
  have hn60 : n ≤ 60 := by have := FP; simp only at this; omega
  have hm60 : m ≤ 60 := by have := FP; simp only at this; omega
  have HAP := hide (apf_of hf rfl hm hs hS hp)
  have HS := hide hs
  have hnl : nmT t m t.length < lim := nmT_lim (fit_ok hf) hm60 _ (Nat.le_refl _)
  have hcl : crT t F t.length < lim := crT_lim (fit_ok hf) (fun i hi => hs.lf i hi) _ (Nat.le_refl _)
  have HQ2 := hide (HQ.out.bel k2)
  have HV2 := hide hv
  clear k2 hv hS hp hf FP PG HQ hs hm
  obtain ⟨c0, c1, c2, c3⟩ : _ ∧ _ ∧ _ ∧ _ := ⟨HQ2.out.c0, HQ2.out.c1, HQ2.out.c2, HQ2.out.c3⟩
  go_wp2_with fail
  refine (PC.out W2 HQ2.out).mono ?_
  clear c0 c1 c2 c3 PC
  rintro e W3 (⟨kf, _⟩ | ⟨_, A', F', rfl, ks, k3⟩)
  · rw [HF.out] at kf; cases kf
  rw [crT_same (fun i hi => (ks.one HS.out (show i < (sy t).n from hi)).2) t.length (Nat.le_refl _)]
  have HQ3 := hide (HQ2.out.bel k3)
  have HV3 := hide (HV2.out.of (k3.block _ HV2.out.lt))
  clear k3 ks HV2 HQ2
  obtain ⟨c0, c1, c2, c3⟩ : _ ∧ _ ∧ _ ∧ _ := ⟨HQ3.out.c0, HQ3.out.c1, HQ3.out.c2, HQ3.out.c3⟩
  go_wp2_with fail
  refine (PE.out W3 HQ3.out).mono ?_
  clear c0 c1 c2 c3 PE
  rintro e W4 (⟨kf, _⟩ | ⟨_, m', hm', rfl, k4⟩)
  · rw [HF.out] at kf; cases kf
  obtain rfl : m' = m := by have : ps = (m' : Int) := hm'; have := hps.out; omega
  have HQ4 := hide (HQ3.out.bel k4)
  have HV4 := hide (HV3.out.of (k4.block _ HV3.out.lt))
  clear k4 hm' HV3 HQ3
  obtain ⟨c0, c1, c2, c3⟩ : _ ∧ _ ∧ _ ∧ _ := ⟨HQ4.out.c0, HQ4.out.c1, HQ4.out.c2, HQ4.out.c3⟩
  generalize nmT t m' t.length = NM at *
  generalize crT t F t.length = CR at *
  go_wp2_with fail
  clear c0 c1 c2 c3
  go_loopw [2, 10, 11, 12, 13] (fun s2 s10 _ _ _ wr => ∃ k : Nat, k ≤ n ∧ s2 = .bool false ∧ s10 = .int .i64 (k : Int) ∧ Hid (FQ (n : Int) ps ls q t.length cap w.heap.size w wr) ∧ Hid (VRow r n (fun i => .int .i64 (pl i)) wr)) (fun _ s10 _ _ _ _ => n - (intOf s10).toNat)
  case atStart => exact ⟨0, Nat.zero_le _, rfl, rfl, HQ4, HV4⟩
  case round =>
    obtain ⟨k, hk, rfl, rfl, HQr, HVr⟩ := hrel
    clear HQ4 HV4
    by_cases hlt : k < n
    · have hx := HVr.out.c k hlt
      have h1 : (k : Int) < (n : Int) := by omega
      have h0 : (0 : Int) ≤ (k : Int) := by omega
      have h64 : k < 64 := by omega
      obtain ⟨a1, a2, a3⟩ := HAP.out.at_ k hlt
      obtain ⟨c0, c1, c2, c3⟩ : _ ∧ _ ∧ _ ∧ _ := ⟨HQr.out.c0, HQr.out.c1, HQr.out.c2, HQr.out.c3⟩
      have hle : ¬ (5 + (n : Int) + 6 < pl k) := by omega
      obtain ⟨pk, hpk⟩ : ∃ pk, pl k = pk := ⟨_, rfl⟩
      rw [hpk] at hx a1 a2 a3 hle
      have HPK := hide hpk
      clear hpk
      have hgo : ∃ x y : Bool, (bits .and .i64 ((NM : Int) / 2 ^ k) 1 == 1) = x ∧ (bits .and .i64 ((CR : Int) / 2 ^ k) 1 == 1) = y ∧ (x = true ∧ 0 ≤ pk ∨ x = false ∧ y = false ∧ pk = -1) ∧ (y = true → 6 ≤ pk) := by
        rcases a1 with ⟨b1, b2⟩ | ⟨b1, b2⟩ <;> cases hcb : CR.testBit k
        · exact ⟨true, false, (bit_at k hnl).trans b1, (bit_at k hcl).trans hcb, Or.inl ⟨rfl, b2⟩, fun h => by cases h⟩
        · exact ⟨true, true, (bit_at k hnl).trans b1, (bit_at k hcl).trans hcb, Or.inl ⟨rfl, b2⟩, fun _ => a2 hcb⟩
        · exact ⟨false, false, (bit_at k hnl).trans b1, (bit_at k hcl).trans hcb, Or.inr ⟨rfl, rfl, b2⟩, fun h => by cases h⟩
        · have := a2 hcb; omega
      obtain ⟨x, y, hbn, hbc, hxy, h6⟩ := hgo
      clear a1 a2 a3 hk
      have main : ∀ nq, Hid (FQ (n : Int) ps ls q t.length cap w.heap.size w (wr.drewN nq)) ∧ Hid (VRow r n (fun i => .int .i64 (pl i)) (wr.drewN nq)) := fun nq => ⟨hide (HQr.out.drewN nq), hide (HVr.out.drewN nq)⟩
      have MAIN := hide main
      clear main
      have hx6 : Hid (y = true → 6 ≤ pk) := hide h6
      clear h6
      rcases hxy with ⟨rfl, p0⟩ | ⟨rfl, rfl, rfl⟩
      · cases y
        · go_wp2_with fail
          go_quiet (fail)
          clear c0 c1 c2 c3 hx hbn hbc
          go_wp2_with fail
          clear hle
          go_loopw [2, 11, 12, 13] (fun s2 s11 _ _ wq => ∃ b : Nat, b ≤ k ∧ s2 = .bool false ∧ s11 = .int .i64 (b : Int) ∧ Hid (FQ (n : Int) ps ls q t.length cap w.heap.size w wq) ∧ Hid (VRow r n (fun i => .int .i64 (pl i)) wq)) (fun _ s11 _ _ _ => k - (intOf s11).toNat)
          case atStart => exact ⟨0, Nat.zero_le _, rfl, rfl, (MAIN.out _).1, (MAIN.out _).2⟩
          case round =>
            obtain ⟨b, hbk, rfl, rfl, HQq, HVq⟩ := hrel
            by_cases hltb : b < k
            · have i1 : (b : Int) < (k : Int) := by omega
              have i0 : (0 : Int) ≤ (b : Int) := by omega
              obtain ⟨c0, c1, c2, c3⟩ : _ ∧ _ ∧ _ ∧ _ := ⟨HQq.out.c0, HQq.out.c1, HQq.out.c2, HQq.out.c3⟩
              go_wp2_with fail
              refine (PH.out k b _ HQq.out).mono ?_
              clear c0 c1 c2 c3
              rintro e wq2 ⟨v, n2, rfl, kb, hcase⟩
              have HQ2 := hide (HQq.out.bel kb)
              have HV2 := hide (HVq.out.of (kb.block _ HVq.out.lt))
              clear kb
              have hc2 : n2 = 0 ∧ (v = true → pl k ≠ pl b) := clash_two_ends HF.out HAP.out hlt hltb rfl hcase
              clear hcase
              obtain ⟨rfl, hne⟩ := hc2
              have hx := HV2.out.c k hlt
              have hxb := HV2.out.c b (by omega)
              have hbn2 : (b : Int) < (n : Int) := by omega
              try simp only at hx hxb
              cases v
              · clear hne
                generalize pl k = pk1 at *
                generalize pl b = pb1 at *
                go_wp2_with fail
                go_quiet (fail)
                go_wp2_with fail
                go_roundw
                case rel => exact ⟨b + 1, by omega, rfl, by go_num, hide (HQ2.out.drewN _), hide (HV2.out.drewN _)⟩
                case measure => simp [intOf]; omega
              · have hne1 := hne rfl
                clear hne
                have hne2 : (pl k == pl b) = false := by simpa using hne1
                generalize pl k = pk1 at *
                generalize pl b = pb1 at *
                go_wp2_with fail
                go_quiet (fail)
                go_wp2_with fail
                go_roundw
                case rel => exact ⟨b + 1, by omega, rfl, by go_num, hide (HQ2.out.drewN _), hide (HV2.out.drewN _)⟩
                case measure => simp [intOf]; omega
            · obtain rfl : b = k := by omega
              have i1 : ¬ (b : Int) < (b : Int) := by omega
              go_wp2_with fail
              go_roundw
              case rel => exact ⟨b + 1, hlt, rfl, by go_num, HQq, HVq⟩
              case measure => simp [intOf]; omega
        · have p6 : decide (pk < 6) = false := decide_eq_false (by have := hx6.out rfl; clear hbn hbc; omega)
          go_wp2_with fail
          go_quiet (fail)
          clear c0 c1 c2 c3 hx hbn hbc
          go_wp2_with fail
          clear hle
          go_loopw [2, 11, 12, 13] (fun s2 s11 _ _ wq => ∃ b : Nat, b ≤ k ∧ s2 = .bool false ∧ s11 = .int .i64 (b : Int) ∧ Hid (FQ (n : Int) ps ls q t.length cap w.heap.size w wq) ∧ Hid (VRow r n (fun i => .int .i64 (pl i)) wq)) (fun _ s11 _ _ _ => k - (intOf s11).toNat)
          case atStart => exact ⟨0, Nat.zero_le _, rfl, rfl, (MAIN.out _).1, (MAIN.out _).2⟩
          case round =>
            obtain ⟨b, hbk, rfl, rfl, HQq, HVq⟩ := hrel
            by_cases hltb : b < k
            · have i1 : (b : Int) < (k : Int) := by omega
              have i0 : (0 : Int) ≤ (b : Int) := by omega
              obtain ⟨c0, c1, c2, c3⟩ : _ ∧ _ ∧ _ ∧ _ := ⟨HQq.out.c0, HQq.out.c1, HQq.out.c2, HQq.out.c3⟩
              go_wp2_with fail
              refine (PH.out k b _ HQq.out).mono ?_
              clear c0 c1 c2 c3
              rintro e wq2 ⟨v, n2, rfl, kb, hcase⟩
              have HQ2 := hide (HQq.out.bel kb)
              have HV2 := hide (HVq.out.of (kb.block _ HVq.out.lt))
              clear kb
              have hc2 : n2 = 0 ∧ (v = true → pl k ≠ pl b) := clash_two_ends HF.out HAP.out hlt hltb rfl hcase
              clear hcase
              obtain ⟨rfl, hne⟩ := hc2
              have hx := HV2.out.c k hlt
              have hxb := HV2.out.c b (by omega)
              have hbn2 : (b : Int) < (n : Int) := by omega
              try simp only at hx hxb
              cases v
              · clear hne
                generalize pl k = pk1 at *
                generalize pl b = pb1 at *
                go_wp2_with fail
                go_quiet (fail)
                go_wp2_with fail
                go_roundw
                case rel => exact ⟨b + 1, by omega, rfl, by go_num, hide (HQ2.out.drewN _), hide (HV2.out.drewN _)⟩
                case measure => simp [intOf]; omega
              · have hne1 := hne rfl
                clear hne
                have hne2 : (pl k == pl b) = false := by simpa using hne1
                generalize pl k = pk1 at *
                generalize pl b = pb1 at *
                go_wp2_with fail
                go_quiet (fail)
                go_wp2_with fail
                go_roundw
                case rel => exact ⟨b + 1, by omega, rfl, by go_num, hide (HQ2.out.drewN _), hide (HV2.out.drewN _)⟩
                case measure => simp [intOf]; omega
            · obtain rfl : b = k := by omega
              have i1 : ¬ (b : Int) < (b : Int) := by omega
              go_wp2_with fail
              go_roundw
              case rel => exact ⟨b + 1, hlt, rfl, by go_num, HQq, HVq⟩
              case measure => simp [intOf]; omega
      · go_wp2_with fail
        go_quiet (fail)
        clear c0 c1 c2 c3 hx hbn hbc
        go_wp2_with fail
        clear hle
        go_loopw [2, 11, 12, 13] (fun s2 s11 _ _ wq => ∃ b : Nat, b ≤ k ∧ s2 = .bool false ∧ s11 = .int .i64 (b : Int) ∧ Hid (FQ (n : Int) ps ls q t.length cap w.heap.size w wq) ∧ Hid (VRow r n (fun i => .int .i64 (pl i)) wq)) (fun _ s11 _ _ _ => k - (intOf s11).toNat)
        case atStart => exact ⟨0, Nat.zero_le _, rfl, rfl, (MAIN.out _).1, (MAIN.out _).2⟩
        case round =>
          obtain ⟨b, hbk, rfl, rfl, HQq, HVq⟩ := hrel
          by_cases hltb : b < k
          · have i1 : (b : Int) < (k : Int) := by omega
            have i0 : (0 : Int) ≤ (b : Int) := by omega
            obtain ⟨c0, c1, c2, c3⟩ : _ ∧ _ ∧ _ ∧ _ := ⟨HQq.out.c0, HQq.out.c1, HQq.out.c2, HQq.out.c3⟩
            go_wp2_with fail
            refine (PH.out k b _ HQq.out).mono ?_
            clear c0 c1 c2 c3
            rintro e wq2 ⟨v, n2, rfl, kb, hcase⟩
            have HQ2 := hide (HQq.out.bel kb)
            have HV2 := hide (HVq.out.of (kb.block _ HVq.out.lt))
            clear kb
            have hc2 : n2 = 0 ∧ (v = true → pl k ≠ pl b) := clash_two_ends HF.out HAP.out hlt hltb rfl hcase
            clear hcase
            obtain ⟨rfl, hne⟩ := hc2
            have hx := HV2.out.c k hlt
            have hxb := HV2.out.c b (by omega)
            have hbn2 : (b : Int) < (n : Int) := by omega
            try simp only at hx hxb
            cases v
            · clear hne
              generalize pl k = pk1 at *
              generalize pl b = pb1 at *
              go_wp2_with fail
              go_quiet (fail)
              go_wp2_with fail
              go_roundw
              case rel => exact ⟨b + 1, by omega, rfl, by go_num, hide (HQ2.out.drewN _), hide (HV2.out.drewN _)⟩
              case measure => simp [intOf]; omega
            · have hne1 := hne rfl
              clear hne
              have hne2 : (pl k == pl b) = false := by simpa using hne1
              generalize pl k = pk1 at *
              generalize pl b = pb1 at *
              go_wp2_with fail
              go_quiet (fail)
              go_wp2_with fail
              go_roundw
              case rel => exact ⟨b + 1, by omega, rfl, by go_num, hide (HQ2.out.drewN _), hide (HV2.out.drewN _)⟩
              case measure => simp [intOf]; omega
          · obtain rfl : b = k := by omega
            have i1 : ¬ (b : Int) < (b : Int) := by omega
            go_wp2_with fail
            go_roundw
            case rel => exact ⟨b + 1, hlt, rfl, by go_num, HQq, HVq⟩
            case measure => simp [intOf]; omega
    · obtain rfl : k = n := by omega
      have h1 : ¬ (k : Int) < (k : Int) := by omega
      go_wp2_with fail
      go_ret
      exact ⟨rfl, HQr.out.b⟩
end Go.Proofs.YtjgaaofpfepfhaaDoor
