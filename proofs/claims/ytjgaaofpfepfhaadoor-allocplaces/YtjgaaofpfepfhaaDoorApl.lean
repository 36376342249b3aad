/-
  The law AllocPlaces.
-/
import Derived.Test.YtjgaaofpfepfhaaDoorX4
namespace Go.Proofs.YtjgaaofpfepfhaaDoor
open Go.RowKit
set_option linter.unusedSimpArgs false
set_option linter.unusedVariables false
set_option maxRecDepth 100000 in
set_option maxHeartbeats 6400000 in
theorem places_walk (d : Cd) (q : Option Addr) (cap : Nat) (l : List Ir) (la : Option Addr) (ln lc : Nat) (g : Nat → Int) (w : World) (hc : l.length ≤ cap) (hr : IR w.heap.size w q l) (hT : Laid w) (hw0 : 0 < w.heap.size)
    (hlc : ln ≤ lc) (hg : ∀ j, I64 (g j)) (hL : RdI w.heap.size w la ln g) :
    Calls Tryd.prog 3 #[cv d q l.length cap, .slice la ln lc] w fun e w' => e = .returned (.bool true) ∧ Below w.heap.size w w' := by
  have HR := hide hr
  have HTb := hide hT
  have HG := hide hg
  have HL := hide hL
  clear hr hT hg hL
  obtain ⟨cs, ps, ls⟩ := d
  have B0 : FB ⟨cs, ps, ls⟩ q l.length cap w.heap.size l w (w.alloc (.cells #[.int .i64 cs, .int .i64 ps, .slice q l.length cap, .int .i64 ls] 24)) := ⟨bel_one _ _, by simp, heap_alloc_new _ _⟩
  have HE := hide (examples_any _ (HTb.out.kept B0.b hw0) (by have := B0.b.size; omega))
  unfold cv
  go_enter Tryd.func3, Tryd.ntmps3
  go_wp2_with fail
  refine HE.out.mono ?_
  rintro e W1 ⟨rfl, h1⟩
  have F1 : FB ⟨cs, ps, ls⟩ q l.length cap w.heap.size l w W1 := ⟨B0.b.trans (h1.mono B0.b.size), Nat.lt_of_lt_of_le B0.lt h1.size, (h1.block _ B0.lt).trans B0.r⟩
  have HF1 := hide F1
  have hfz : W1.frozen? ⟨w.heap.size, 2, none⟩ = false := by simp [World.frozen?, F1.r]
  obtain ⟨c0, c1, c2, c3⟩ := F1.cells (Below.refl _ W1) F1.lt
  simp only at c0 c1 c2 c3
  clear B0 F1 h1 HE
  obtain ⟨m, hm⟩ : ∃ m : Nat, min l.length 100 = m := ⟨_, rfl⟩
  have hmm : min (l.length : Int) 100 = (m : Int) := by omega
  have hmc : (m : Int) ≤ (cap : Int) := by omega
  have hm0 : (0 : Int) ≤ (m : Int) := by omega
  go_upto_region 3 with fail
  obtain ⟨t, ht⟩ : ∃ t, l.take m = t := ⟨_, rfl⟩
  have htl : m = t.length := by rw [← ht, List.length_take]; omega
  have htn : t.length ≤ 100 := by omega
  have HT := hide (HR.out.take m)
  rw [ht] at HT
  have hq0 : w.heap.size < W1.heap.size := HF1.out.lt
  have Q0 : FQ cs ps ls q m cap w.heap.size w (W1.setCell ⟨w.heap.size, 2, none⟩ (.slice q m cap)) := by
    refine ⟨HF1.out.b.setCell (p := ⟨w.heap.size, 2, none⟩) (Nat.le_refl _) _, by simpa [World.setCell] using hq0, ?_, ?_, World.cell?_setCell_same' _ _ _ (by rw [c2]; rfl), ?_⟩
    · exact (World.cell?_setCell_other _ _ _ _ (by simp)).trans c0
    · exact (World.cell?_setCell_other _ _ _ _ (by simp)).trans c1
    · exact (World.cell?_setCell_other _ _ _ _ (by simp)).trans c3
  clear c0 c1 c2 c3 hfz HF1 hmm hmc hm0 HR hm ht
  subst htl
  refine gw (motive := fun x => Code.wp _ _ _ _ x) (fun U => Hid (FQ cs ps ls q t.length cap w.heap.size w U)) Q0 ?_
  rintro W HQ
  clear Q0
  have htn2 : t.length ≤ 1000 := by omega
  have RD := hide (fun U (h : FQ cs ps ls q t.length cap w.heap.size w U) => (HT.out.bel h.b).up h.b.size)
  have PA := hide (fun U (h : FQ cs ps ls q t.length cap w.heap.size w U) => alloc_any ⟨cs, ps, ls⟩ q cap t U htn2 (RD.out U h) (HTb.out.kept h.b hw0) (by have := h.b.size; omega))
  have PB := hide (fun U (h : FQ cs ps ls q t.length cap w.heap.size w U) => ralloc_any ⟨cs, ps, ls⟩ q cap t U htn2 (RD.out U h))
  have PC := hide (fun U (h : FQ cs ps ls q t.length cap w.heap.size w U) => crosses_any ⟨cs, ps, ls⟩ q cap t U htn2 (RD.out U h))
  have PD := hide (fun U (h : FQ cs ps ls q t.length cap w.heap.size w U) => rcrosses_any ⟨cs, ps, ls⟩ q cap t U htn2 (RD.out U h))
  have PE := hide (fun U (h : FQ cs ps ls q t.length cap w.heap.size w U) => nam_any ⟨cs, ps, ls⟩ q cap t U htn2 (RD.out U h))
  have PF := hide (fun U (h : FQ cs ps ls q t.length cap w.heap.size w U) => rnamed_any ⟨cs, ps, ls⟩ q cap t U htn2 (RD.out U h))
  unfold cv at PA PB PC PD PE PF
  simp only at PA PB PC PD PE PF
  clear HT RD
  obtain ⟨c0, c1, c2, c3⟩ : _ ∧ _ ∧ _ ∧ _ := ⟨HQ.out.c0, HQ.out.c1, HQ.out.c2, HQ.out.c3⟩
  go_wp2_with fail
  refine (PA.out W HQ.out).mono ?_
  clear c0 c1 c2 c3 PA
  rintro e W2 hA
  have HA := hide hA
  have hA2 : ∃ (v : Value) (n : Int), e = .returned (.tuple #[v, .int .i64 n]) ∧ Below W.heap.size W W2 := by
    rcases hA with ⟨_, rfl, k⟩ | ⟨_, _, _, _, _, _, _, _, _, _, rfl, _, _, _, _, _, k⟩
    · exact ⟨_, _, rfl, k⟩
    · exact ⟨_, _, rfl, k⟩
  obtain ⟨v1, n1, rfl, k2⟩ := hA2
  have HQ2 := hide (HQ.out.bel k2)
  clear k2 hA
  obtain ⟨c0, c1, c2, c3⟩ : _ ∧ _ ∧ _ ∧ _ := ⟨HQ2.out.c0, HQ2.out.c1, HQ2.out.c2, HQ2.out.c3⟩
  go_wp2_with fail
  refine (PB.out W2 HQ2.out).mono ?_
  clear c0 c1 c2 c3 PB
  rintro e W3 hB
  obtain ⟨v, v2, n, b, e1, e2, hon, _, k3, hnum⟩ := alloc_rows HA.out hB (cells_60 _ _)
  subst e2
  injection e1 with e1
  injection e1 with e1
  simp only [List.toArray_inj, Array.mk.injEq, List.cons.injEq, and_true, Value.bool.injEq, Value.int.injEq, true_and] at e1
  obtain ⟨rfl, rfl⟩ := e1
  have HN := hide hnum
  have HON := hide hon
  have HQ3 := hide (HQ2.out.bel k3)
  clear k3 HA hB hnum hon
  obtain ⟨c0, c1, c2, c3⟩ : _ ∧ _ ∧ _ ∧ _ := ⟨HQ3.out.c0, HQ3.out.c1, HQ3.out.c2, HQ3.out.c3⟩
  go_wp2_with fail
  refine (HN.out W3 (Below.refl _ W3)).mono ?_
  clear c0 c1 c2 c3 HN
  rintro e W4 ⟨rfl, k4⟩
  have HQ4 := hide (HQ3.out.bel k4)
  clear k4
  obtain ⟨c0, c1, c2, c3⟩ : _ ∧ _ ∧ _ ∧ _ := ⟨HQ4.out.c0, HQ4.out.c1, HQ4.out.c2, HQ4.out.c3⟩
  go_wp2_with fail
  refine (PC.out W4 HQ4.out).mono ?_
  clear c0 c1 c2 c3 PC
  rintro e W5 hA
  have HA := hide hA
  have hA2 : ∃ (x n : Int), e = .returned (.tuple #[.int .i64 x, .int .i64 n]) ∧ Below W4.heap.size W4 W5 := by
    rcases hA with ⟨_, rfl, k⟩ | ⟨_, _, _, rfl, _, k⟩
    · exact ⟨_, _, rfl, k⟩
    · exact ⟨_, _, rfl, k⟩
  obtain ⟨x, f, rfl, k5⟩ := hA2
  have HQ5 := hide (HQ4.out.bel k5)
  clear k5 hA
  obtain ⟨c0, c1, c2, c3⟩ : _ ∧ _ ∧ _ ∧ _ := ⟨HQ5.out.c0, HQ5.out.c1, HQ5.out.c2, HQ5.out.c3⟩
  go_wp2_with fail
  refine (PD.out W5 HQ5.out).mono ?_
  clear c0 c1 c2 c3 PD
  rintro e W6 hB
  obtain ⟨x', f', is, e1, e2, hof, _, k6⟩ := cross_both HA.out hB
  subst e2
  injection e1 with e1
  injection e1 with e1
  simp only [List.toArray_inj, Array.mk.injEq, List.cons.injEq, and_true, Value.bool.injEq, Value.int.injEq, true_and] at e1
  obtain ⟨rfl, rfl⟩ := e1
  have HOF := hide hof
  have HQ6 := hide (HQ5.out.bel k6)
  clear k6 HA hB hof
  obtain ⟨c0, c1, c2, c3⟩ : _ ∧ _ ∧ _ ∧ _ := ⟨HQ6.out.c0, HQ6.out.c1, HQ6.out.c2, HQ6.out.c3⟩
  go_wp2_with fail
  refine (PE.out W6 HQ6.out).mono ?_
  clear c0 c1 c2 c3 PE
  rintro e W7 hA
  have HA := hide hA
  have hA2 : ∃ (x n : Int), e = .returned (.tuple #[.int .i64 x, .int .i64 n]) ∧ Below W6.heap.size W6 W7 := by
    rcases hA with ⟨_, rfl, k⟩ | ⟨_, _, _, rfl, k⟩
    · exact ⟨_, _, rfl, k⟩
    · exact ⟨_, _, rfl, k⟩
  obtain ⟨z, gg, rfl, k7⟩ := hA2
  have HQ7 := hide (HQ6.out.bel k7)
  clear k7 hA
  obtain ⟨c0, c1, c2, c3⟩ : _ ∧ _ ∧ _ ∧ _ := ⟨HQ7.out.c0, HQ7.out.c1, HQ7.out.c2, HQ7.out.c3⟩
  go_wp2_with fail
  refine (PF.out W7 HQ7.out).mono ?_
  clear c0 c1 c2 c3 PF
  rintro e W8 hB
  obtain ⟨z', gg', fine, e1, e2, hog, _, k8⟩ := named_both HA.out hB
  subst e2
  injection e1 with e1
  injection e1 with e1
  simp only [List.toArray_inj, Array.mk.injEq, List.cons.injEq, and_true, Value.bool.injEq, Value.int.injEq, true_and] at e1
  obtain ⟨rfl, rfl⟩ := e1
  have HOG := hide hog
  have HQ8 := hide (HQ7.out.bel k8)
  clear k8 HA hB hog HQ7 HQ6 HQ5 HQ4 HQ3 HQ2 HQ
  obtain ⟨m2, hm2⟩ : ∃ m2 : Nat, min ln 100 = m2 := ⟨_, rfl⟩
  have hmm2 : min (ln : Int) 100 = (m2 : Int) := by omega
  have hmc2 : (m2 : Int) ≤ (lc : Int) := by omega
  have hm02 : (0 : Int) ≤ (m2 : Int) := by omega
  have hm21 : m2 ≤ 1000 := by omega
  have HL2 := hide ((HL.out.take (show m2 ≤ ln by omega)).bel HQ8.out.b)
  have HB8 := hide HQ8.out.b
  clear HL HQ8 hm2
  go_wp2_with fail
  go_loopw [4, 19] (fun s4 s19 wr => ∃ k : Nat, k ≤ m2 ∧ s4 = .bool false ∧ s19 = .int .i64 (k : Int) ∧ (∀ i, i < k → -1099511627776 ≤ g i) ∧ wr = W8) (fun _ s19 _ => m2 - (intOf s19).toNat)
  case atStart => exact ⟨0, Nat.zero_le _, rfl, rfl, fun i hi => absurd hi (Nat.not_lt_zero _), rfl⟩
  case round =>
    obtain ⟨k, hk, rfl, rfl, hlow, rfl⟩ := hrel
    have HLow := hide hlow
    clear hlow
    by_cases hlt : k < m2
    · obtain ⟨b0, o0, rfl, _, hx⟩ := HL2.out k hlt
      have h1 : (k : Int) < (m2 : Int) := by omega
      have h0 : (0 : Int) ≤ (k : Int) := by omega
      by_cases hg1 : g k < -1099511627776
      · go_wp2_with fail
        go_ret
        exact ⟨rfl, HB8.out⟩
      · have hng := hide (Int.not_lt.1 hg1)
        go_wp2_with fail
        go_roundw
        case rel => exact ⟨k + 1, hlt, rfl, by go_num, fun i hi => by
          rcases Nat.lt_succ_iff_lt_or_eq.1 hi with h | rfl
          · exact HLow.out i h
          · exact hng.out, trivial⟩
        case measure => simp [intOf]; omega
    · obtain rfl : k = m2 := by omega
      have h1 : ¬ (k : Int) < (k : Int) := by omega
      have SA := hide (slots_in (c := lc) HL2.out hm21 (fun i hi => (HG.out i).2))
      have SB := hide (rslots_in (c := lc) HL2.out hm21 (fun i hi => ⟨HLow.out i hi, (HG.out i).2⟩))
      have hon := HON.out
      have hof := HOF.out
      have hog := HOG.out
      rcases hof with ⟨_, rfl, rfl⟩ | ⟨_, rfl, rfl⟩ <;> rcases hog with ⟨_, rfl, rfl⟩ | ⟨_, rfl, rfl⟩ <;> rcases hon with ⟨rfl, rfl⟩ | ⟨rfl, rfl⟩
      all_goals
        go_wp2_with fail
        refine SA.out.mono ?_
        rintro e W9 ⟨rfl, rfl⟩
        go_wp2_with fail
        refine SB.out.mono ?_
        rintro e W10 ⟨rfl, rfl⟩
        go_wp2_with fail
        go_ret
        exact ⟨rfl, HB8.out⟩
end Go.Proofs.YtjgaaofpfepfhaaDoor
