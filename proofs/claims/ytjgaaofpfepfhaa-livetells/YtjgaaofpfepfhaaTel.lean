/-
  The law LiveTells.
-/
import Derived.Test.YtjgaaofpfepfhaaR7
import Derived.Test.YtjgaaofpfepfhaaFlw
import Derived.Deep.CutBlock
import Derived.Deep.CutRange
namespace Go.Proofs.Ytjgaaofpfepfhaa
open Go.RowKit
set_option linter.unusedSimpArgs false
set_option linter.unusedVariables false
theorem NRow.same {l : List Ir} {r : Nat} {A A' F F' : Nat → Nat} {W : World} (h : NRow r l.length A' W) (s : Sol (sy l) A' F') (s2 : Sol (sy l) A F) : NRow r l.length A W := h.congr fun i hi => (s.one s2 (show i < (sy l).n from hi)).1
theorem NRow.same2 {l : List Ir} {r : Nat} {A A' F F' : Nat → Nat} {W : World} (h : NRow r l.length F' W) (s : Sol (sy l) A' F') (s2 : Sol (sy l) A F) : NRow r l.length F W := h.congr fun i hi => (s.one s2 (show i < (sy l).n from hi)).2
set_option maxRecDepth 100000 in
set_option maxHeartbeats 6400000 in
theorem tells_walk (EX : ∀ U : World, Calls Try.prog 6 #[] U fun e w' => e = .returned (.bool true) ∧ Below U.heap.size U w') (d : Cd) (q : Option Addr) (cap : Nat) (l : List Ir) (a : Int) (w : World) (hc : l.length ≤ cap) (hr : IR w.heap.size w q l) :
    Calls Try.prog 3 #[cv d q l.length cap, .int .i64 a] w fun e w' => e = .returned (.bool true) ∧ Below w.heap.size w w' := by
  have HR := hide hr
  have HE := hide EX
  clear hr EX
  obtain ⟨cs, ps, ls⟩ := d
  have B0 : FB ⟨cs, ps, ls⟩ q l.length cap w.heap.size l w (w.alloc (.cells #[.int .i64 cs, .int .i64 ps, .slice q l.length cap, .int .i64 ls] 24)) := ⟨bel_one _ _, by simp, heap_alloc_new _ _⟩
  unfold cv
  go_enter Try.func3, Try.ntmps3
  go_wp2_with fail
  refine (HE.out _).mono ?_
  rintro e W1 ⟨rfl, h1⟩
  have F1 : FB ⟨cs, ps, ls⟩ q l.length cap w.heap.size l w W1 := ⟨B0.b.trans (h1.mono B0.b.size), Nat.lt_of_lt_of_le B0.lt h1.size, (h1.block _ B0.lt).trans B0.r⟩
  have HF1 := hide F1
  have hfz : W1.frozen? ⟨w.heap.size, 2, none⟩ = false := by simp [World.frozen?, F1.r]
  obtain ⟨c0, c1, c2, c3⟩ := F1.cells (Below.refl _ W1) F1.lt
  simp only at c0 c1 c2 c3
  clear B0 F1 h1 HE
  obtain ⟨m, hm⟩ : ∃ m : Nat, min l.length 120 = m := ⟨_, rfl⟩
  have hmm : min (l.length : Int) 120 = (m : Int) := by omega
  have hmc : (m : Int) ≤ (cap : Int) := by omega
  have hm0 : (0 : Int) ≤ (m : Int) := by omega
  go_upto_region 3 with fail
  obtain ⟨t, ht⟩ : ∃ t, l.take m = t := ⟨_, rfl⟩
  have htl : m = t.length := by rw [← ht, List.length_take]; omega
  have htn : t.length ≤ 120 := by omega
  have HT := hide (HR.out.take m)
  rw [ht] at HT
  have hq0 : w.heap.size < W1.heap.size := HF1.out.lt
  have Q0 : FQ cs ps ls q m cap w.heap.size w (W1.setCell ⟨w.heap.size, 2, none⟩ (.slice q m cap)) := by
    refine ⟨HF1.out.b.setCell (p := ⟨w.heap.size, 2, none⟩) (Nat.le_refl _) _, by simpa [World.setCell] using hq0, ?_, ?_, World.cell?_setCell_same' _ _ _ (by rw [c2]; rfl), ?_⟩
    · exact (World.cell?_setCell_other _ _ _ _ (by simp)).trans c0
    · exact (World.cell?_setCell_other _ _ _ _ (by simp)).trans c1
    · exact (World.cell?_setCell_other _ _ _ _ (by simp)).trans c3
  clear c0 c1 c2 c3 hfz HF1 hmm hmc hm0 HR hm ht
  subst htl
  refine gw (motive := fun x => Code.wp _ _ _ _ x) (fun U => Hid (FQ cs ps ls q t.length cap w.heap.size w U)) Q0 ?_
  rintro W HQ
  clear Q0
  have htn2 : t.length ≤ 1000 := by omega
  have RD := hide (fun U (h : FQ cs ps ls q t.length cap w.heap.size w U) => (HT.out.bel h.b).up h.b.size)
  have PA := hide (fun U (h : FQ cs ps ls q t.length cap w.heap.size w U) => after_any ⟨cs, ps, ls⟩ q cap t U htn2 (RD.out U h))
  have PB := hide (fun U (h : FQ cs ps ls q t.length cap w.heap.size w U) => ahead_any ⟨cs, ps, ls⟩ q cap t U htn2 (RD.out U h))
  have PC := hide (fun U (h : FQ cs ps ls q t.length cap w.heap.size w U) => both_any ⟨cs, ps, ls⟩ q cap t U htn2 (RD.out U h))
  have PF := hide (fun U (h : FQ cs ps ls q t.length cap w.heap.size w U) => fits_any ⟨cs, ps, ls⟩ q cap t U htn2 (RD.out U h))
  have PG := hide (fun U (h : FQ cs ps ls q t.length cap w.heap.size w U) => rfits_any ⟨cs, ps, ls⟩ q cap t U htn2 (RD.out U h))
  have PN := hide (fun U (h : FQ cs ps ls q t.length cap w.heap.size w U) => nx_any ⟨cs, ps, ls⟩ q cap t a U htn2 (RD.out U h))
  have PM := hide (fun U (h : FQ cs ps ls q t.length cap w.heap.size w U) => rnext_any ⟨cs, ps, ls⟩ q cap t a U htn2 (RD.out U h))
  unfold cv at PA PB PC PF PG PN PM
  simp only at PA PB PC PF PG PN PM
  have NL : (nxa t a).length ≤ 1000 := by
    unfold nxa
    split
    · exact Nat.le_trans (nxt_le _ _) (by omega)
    · simp
  clear HT RD
  obtain ⟨c0, c1, c2, c3⟩ : _ ∧ _ ∧ _ ∧ _ := ⟨HQ.out.c0, HQ.out.c1, HQ.out.c2, HQ.out.c3⟩
  cases hf : fitb ⟨cs, ps, ls⟩ t
  · rw [hf] at PF PG
    go_wp2_with fail
    refine (PA.out W HQ.out).mono ?_
    clear c0 c1 c2 c3
    rintro e W2 (⟨hf1, rfl, k2⟩ | ⟨hf1, _⟩)
    rotate_left 1
    · rw [hf] at hf1; cases hf1
    have HQ2 := hide (HQ.out.bel k2)
    clear k2 hf1
    obtain ⟨c0, c1, c2, c3⟩ : _ ∧ _ ∧ _ ∧ _ := ⟨HQ2.out.c0, HQ2.out.c1, HQ2.out.c2, HQ2.out.c3⟩
    go_wp2_with fail
    refine (PB.out W2 HQ2.out).mono ?_
    clear c0 c1 c2 c3
    rintro e W3 (⟨hf1, rfl, k2⟩ | ⟨hf1, _⟩)
    rotate_left 1
    · rw [hf] at hf1; cases hf1
    have HQ3 := hide (HQ2.out.bel k2)
    clear k2 hf1
    obtain ⟨c0, c1, c2, c3⟩ : _ ∧ _ ∧ _ ∧ _ := ⟨HQ3.out.c0, HQ3.out.c1, HQ3.out.c2, HQ3.out.c3⟩
    go_wp2_with fail
    refine (PC.out W3 HQ3.out).mono ?_
    clear c0 c1 c2 c3
    rintro e W4 (⟨hf1, rfl, k2⟩ | ⟨hf1, _⟩)
    rotate_left 1
    · rw [hf] at hf1; cases hf1
    have HQ4 := hide (HQ3.out.bel k2)
    clear k2 hf1
    go_wp2_with fail
    refine (numbers_none none none 0 0 W4).mono ?_
    rintro e W5 ⟨rfl, k2⟩
    have HQ5 := hide (HQ4.out.bel k2)
    clear k2
    go_wp2_with fail
    refine (numbers_none none none 0 0 W5).mono ?_
    rintro e W6 ⟨rfl, k2⟩
    have HQ6 := hide (HQ5.out.bel k2)
    clear k2
    obtain ⟨c0, c1, c2, c3⟩ : _ ∧ _ ∧ _ ∧ _ := ⟨HQ6.out.c0, HQ6.out.c1, HQ6.out.c2, HQ6.out.c3⟩
    have HQD := hide (HQ6.out.bel (bel_drew W6))
    clear PA PB PC
    go_upto_region 8 with fail
    go_cut [15] from 47 to 93 (fun s15 wx => s15 = .bool true ∧ Hid (FQ cs ps ls q t.length cap w.heap.size w wx))
    case first =>
      go_region_with (first
        | (go_at_call 11; refine (PN.out _ HQD.out).mono ?_; rintro e w1 ⟨v1, rfl, hv1, hb1⟩; obtain ⟨a1, q1, hf1⟩ := hv1.form; subst hf1; have HQE := hide (HQD.out.bel hb1); obtain ⟨c0, c1, c2, c3⟩ : _ ∧ _ ∧ _ ∧ _ := ⟨HQE.out.c0, HQE.out.c1, HQE.out.c2, HQE.out.c3⟩)
        | (go_at_call 12; refine (PM.out _ HQE.out).mono ?_; rintro e w2 ⟨v2, rfl, hv2, hb2⟩; obtain ⟨a2, q2, hf2⟩ := hv2.form; subst hf2; have HQF := hide (HQE.out.bel hb2))
        | (go_at_call 10; refine (numbers_nv (hv1.kept hb2) hv2 NL).mono ?_; rintro e w3 ⟨rfl, hb3⟩; have HQG := hide (HQF.out.bel hb3)))
      all_goals
        go_wp2_with fail
        go_meet
        case rel => exact ⟨rfl, HQG⟩
    case rest =>
      obtain ⟨rfl, HQG⟩ := hcut
      clear c0 c1 c2 c3 HQD HQ6 PN PM
      obtain ⟨c0, c1, c2, c3⟩ : _ ∧ _ ∧ _ ∧ _ := ⟨HQG.out.c0, HQG.out.c1, HQG.out.c2, HQG.out.c3⟩
      have HQH := hide (HQG.out.bel (bel_drew wc))
      go_wp2_with fail
      refine wp_region_held_drew (S := fun X => X.cell? ⟨w.heap.size, 0, none⟩ = some (.int .i64 cs) ∧ X.cell? ⟨w.heap.size, 1, none⟩ = some (.int .i64 ps) ∧ X.cell? ⟨w.heap.size, 2, none⟩ = some (.slice q t.length cap) ∧ X.cell? ⟨w.heap.size, 3, none⟩ = some (.int .i64 ls)) (by kernel_rfl) ⟨c0, c1, c2, c3⟩ ?_
      intro hHeld
      change wpAnyH _ _ _ _ _ _ _ _ (World.drew _)
      refine wpAnyH_take (i := 0) (v := ?_) rfl (by kernel_rfl) (by kernel_rfl) (by kernel_rfl) (fun _ _ _ h => h) (Or.inl ⟨by kernel_rfl, ?hy⟩) (by assumption) ?_
      case hy => intro w hSw; obtain ⟨g0, g1, g2, g3⟩ := hSw; go_simp; try with_reducible rfl
      simp only [Act.put, List.getElem_toArray, List.getElem_cons_succ, List.getElem_cons_zero, List.setIfInBounds_toArray, List.set_cons_zero, List.set_cons_succ]
      refine wpAnyH_take (i := 1) (v := ?_) rfl (by kernel_rfl) (by kernel_rfl) (by kernel_rfl) (fun _ _ _ h => h) (Or.inl ⟨by kernel_rfl, ?hy⟩) (by assumption) ?_
      case hy => intro w hSw; obtain ⟨g0, g1, g2, g3⟩ := hSw; go_simp; try with_reducible rfl
      simp only [Act.put, List.getElem_toArray, List.getElem_cons_succ, List.getElem_cons_zero, List.setIfInBounds_toArray, List.set_cons_zero, List.set_cons_succ]
      refine wpAnyH_take (i := 2) (v := ?_) rfl (by kernel_rfl) (by kernel_rfl) (by kernel_rfl) (fun _ _ _ h => h) (Or.inl ⟨by kernel_rfl, ?hy⟩) (by assumption) ?_
      case hy => intro w hSw; obtain ⟨g0, g1, g2, g3⟩ := hSw; go_simp; try with_reducible rfl
      simp only [Act.put, List.getElem_toArray, List.getElem_cons_succ, List.getElem_cons_zero, List.setIfInBounds_toArray, List.set_cons_zero, List.set_cons_succ]
      refine wpAnyH_take (i := 3) (v := ?_) rfl (by kernel_rfl) (by kernel_rfl) (by kernel_rfl) (fun _ _ _ h => h) (Or.inl ⟨by kernel_rfl, ?hy⟩) (by assumption) ?_
      case hy => intro w hSw; obtain ⟨g0, g1, g2, g3⟩ := hSw; go_simp; try with_reducible rfl
      simp only [Act.put, List.getElem_toArray, List.getElem_cons_succ, List.getElem_cons_zero, List.setIfInBounds_toArray, List.set_cons_zero, List.set_cons_succ]
      refine wpAnyH_take (i := 4) (v := ?_) rfl (by kernel_rfl) (by kernel_rfl) (by kernel_rfl) (fun _ _ _ h => h) (Or.inl ⟨by kernel_rfl, ?hy⟩) (by assumption) ?_
      case hy => intro w hSw; obtain ⟨g0, g1, g2, g3⟩ := hSw; go_simp; try with_reducible rfl
      simp only [Act.put, List.getElem_toArray, List.getElem_cons_succ, List.getElem_cons_zero, List.setIfInBounds_toArray, List.set_cons_zero, List.set_cons_succ]
      refine wpAnyH_take (i := 5) (v := ?_) rfl (by kernel_rfl) (by kernel_rfl) (by kernel_rfl) (fun _ _ _ h => h) (Or.inl ⟨by kernel_rfl, ?hy⟩) (by assumption) ?_
      case hy => intro w hSw; obtain ⟨g0, g1, g2, g3⟩ := hSw; go_simp; try with_reducible rfl
      simp only [Act.put, List.getElem_toArray, List.getElem_cons_succ, List.getElem_cons_zero, List.setIfInBounds_toArray, List.set_cons_zero, List.set_cons_succ]
      refine wpAnyH_take (i := 6) (v := ?_) rfl (by kernel_rfl) (by kernel_rfl) (by kernel_rfl) (fun _ _ _ h => h) (Or.inl ⟨by kernel_rfl, ?hy⟩) (by assumption) ?_
      case hy => intro w hSw; obtain ⟨g0, g1, g2, g3⟩ := hSw; go_simp; try with_reducible rfl
      simp only [Act.put, List.getElem_toArray, List.getElem_cons_succ, List.getElem_cons_zero, List.setIfInBounds_toArray, List.set_cons_zero, List.set_cons_succ]
      refine wpAnyH_take (i := 7) (v := ?_) rfl (by kernel_rfl) (by kernel_rfl) (by kernel_rfl) (fun _ _ _ h => h) (Or.inl ⟨by kernel_rfl, ?hy⟩) (by assumption) ?_
      case hy => intro w hSw; obtain ⟨g0, g1, g2, g3⟩ := hSw; go_simp; try with_reducible rfl
      simp only [Act.put, List.getElem_toArray, List.getElem_cons_succ, List.getElem_cons_zero, List.setIfInBounds_toArray, List.set_cons_zero, List.set_cons_succ]
      refine wpAnyH_take (i := 8) (v := ?_) rfl (by kernel_rfl) (by kernel_rfl) (by kernel_rfl) (fun _ _ _ h => h) (Or.inl ⟨by kernel_rfl, ?hy⟩) (by assumption) ?_
      case hy => intro w hSw; obtain ⟨g0, g1, g2, g3⟩ := hSw; go_simp; try with_reducible rfl
      simp only [Act.put, List.getElem_toArray, List.getElem_cons_succ, List.getElem_cons_zero, List.setIfInBounds_toArray, List.set_cons_zero, List.set_cons_succ]
      refine wpAnyH_take (i := 9) (v := ?_) rfl (by kernel_rfl) (by kernel_rfl) (by kernel_rfl) (fun _ _ _ h => h) (Or.inl ⟨by kernel_rfl, ?hy⟩) (by assumption) ?_
      case hy => intro w hSw; obtain ⟨g0, g1, g2, g3⟩ := hSw; go_simp; try with_reducible rfl
      simp only [Act.put, List.getElem_toArray, List.getElem_cons_succ, List.getElem_cons_zero, List.setIfInBounds_toArray, List.set_cons_zero, List.set_cons_succ]
      refine wpAnyH_take (i := 10) (v := ?_) rfl (by kernel_rfl) (by kernel_rfl) (by kernel_rfl) (fun _ _ _ h => h) (Or.inl ⟨by kernel_rfl, ?hy⟩) (by assumption) ?_
      case hy => intro w hSw; obtain ⟨g0, g1, g2, g3⟩ := hSw; go_simp; try with_reducible rfl
      simp only [Act.put, List.getElem_toArray, List.getElem_cons_succ, List.getElem_cons_zero, List.setIfInBounds_toArray, List.set_cons_zero, List.set_cons_succ]
      refine wpAnyH_take (i := 11) (v := ?_) rfl (by kernel_rfl) (by kernel_rfl) (by kernel_rfl) (fun _ _ _ h => h) (Or.inl ⟨by kernel_rfl, ?hy⟩) (by assumption) ?_
      case hy => intro w hSw; obtain ⟨g0, g1, g2, g3⟩ := hSw; go_simp; try with_reducible rfl
      simp only [Act.put, List.getElem_toArray, List.getElem_cons_succ, List.getElem_cons_zero, List.setIfInBounds_toArray, List.set_cons_zero, List.set_cons_succ]
      refine wpAnyH_take (i := 12) (v := ?_) rfl (by kernel_rfl) (by kernel_rfl) (by kernel_rfl) (fun _ _ _ h => h) (Or.inl ⟨by kernel_rfl, ?hy⟩) (by assumption) ?_
      case hy => intro w hSw; obtain ⟨g0, g1, g2, g3⟩ := hSw; go_simp; try with_reducible rfl
      simp only [Act.put, List.getElem_toArray, List.getElem_cons_succ, List.getElem_cons_zero, List.setIfInBounds_toArray, List.set_cons_zero, List.set_cons_succ]
      refine wpAnyH_take (i := 13) (v := undef) rfl (by kernel_rfl) (by kernel_rfl) (by kernel_rfl) (fun _ _ _ h => h) (Or.inr ⟨by kernel_rfl, rfl⟩) (by assumption) ?_
      simp only [Act.put, List.getElem_toArray, List.getElem_cons_succ, List.getElem_cons_zero, List.setIfInBounds_toArray, List.set_cons_zero, List.set_cons_succ]
      refine wpAnyH_take (i := 14) (v := undef) rfl (by kernel_rfl) (by kernel_rfl) (by kernel_rfl) (fun _ _ _ h => h) (Or.inr ⟨by kernel_rfl, rfl⟩) (by assumption) ?_
      simp only [Act.put, List.getElem_toArray, List.getElem_cons_succ, List.getElem_cons_zero, List.setIfInBounds_toArray, List.set_cons_zero, List.set_cons_succ]
      refine wpAnyH_take (i := 15) (v := ?_) rfl (by kernel_rfl) (by kernel_rfl) (by kernel_rfl) (fun _ _ _ h => h) (Or.inl ⟨by kernel_rfl, ?hy⟩) (by assumption) ?_
      case hy => intro w hSw; obtain ⟨g0, g1, g2, g3⟩ := hSw; go_simp; try with_reducible rfl
      simp only [Act.put, List.getElem_toArray, List.getElem_cons_succ, List.getElem_cons_zero, List.setIfInBounds_toArray, List.set_cons_zero, List.set_cons_succ]
      refine wpAnyH_take (i := 16) (v := ?_) rfl (by kernel_rfl) (by kernel_rfl) (by kernel_rfl) (fun _ _ _ h => h) (Or.inl ⟨by kernel_rfl, ?hy⟩) (by assumption) ?_
      case hy => intro w hSw; obtain ⟨g0, g1, g2, g3⟩ := hSw; go_simp; try with_reducible rfl
      simp only [Act.put, List.getElem_toArray, List.getElem_cons_succ, List.getElem_cons_zero, List.setIfInBounds_toArray, List.set_cons_zero, List.set_cons_succ]
      refine wpAnyH_take (i := 17) (v := undef) rfl (by kernel_rfl) (by kernel_rfl) (by kernel_rfl) (fun _ _ _ h => h) (Or.inr ⟨by kernel_rfl, rfl⟩) (by assumption) ?_
      simp only [Act.put, List.getElem_toArray, List.getElem_cons_succ, List.getElem_cons_zero, List.setIfInBounds_toArray, List.set_cons_zero, List.set_cons_succ]
      refine wpAnyH_take (i := 18) (v := undef) rfl (by kernel_rfl) (by kernel_rfl) (by kernel_rfl) (fun _ _ _ h => h) (Or.inr ⟨by kernel_rfl, rfl⟩) (by assumption) ?_
      simp only [Act.put, List.getElem_toArray, List.getElem_cons_succ, List.getElem_cons_zero, List.setIfInBounds_toArray, List.set_cons_zero, List.set_cons_succ]
      refine wpAnyH_take (i := 19) (v := ?_) rfl (by kernel_rfl) (by kernel_rfl) (by kernel_rfl) (fun _ _ _ h => h) (Or.inl ⟨by kernel_rfl, ?hy⟩) (by assumption) ?_
      case hy => intro w hSw; obtain ⟨g0, g1, g2, g3⟩ := hSw; go_simp; try with_reducible rfl
      simp only [Act.put, List.getElem_toArray, List.getElem_cons_succ, List.getElem_cons_zero, List.setIfInBounds_toArray, List.set_cons_zero, List.set_cons_succ]
      refine wpAnyH_take (i := 20) (v := ?_) rfl (by kernel_rfl) (by kernel_rfl) (by kernel_rfl) (fun _ _ _ h => h) (Or.inl ⟨by kernel_rfl, ?hy⟩) (by assumption) ?_
      case hy => intro w hSw; obtain ⟨g0, g1, g2, g3⟩ := hSw; go_simp; try with_reducible rfl
      simp only [Act.put, List.getElem_toArray, List.getElem_cons_succ, List.getElem_cons_zero, List.setIfInBounds_toArray, List.set_cons_zero, List.set_cons_succ]
      refine wpAnyH_take (i := 21) (v := ?_) rfl (by kernel_rfl) (by kernel_rfl) (by kernel_rfl) (fun _ _ _ h => h) (Or.inl ⟨by kernel_rfl, ?hy⟩) (by assumption) ?_
      case hy => intro w hSw; obtain ⟨g0, g1, g2, g3⟩ := hSw; go_simp; try with_reducible rfl
      simp only [Act.put, List.getElem_toArray, List.getElem_cons_succ, List.getElem_cons_zero, List.setIfInBounds_toArray, List.set_cons_zero, List.set_cons_succ]
      refine wpAnyH_take (i := 22) (v := ?_) rfl (by kernel_rfl) (by kernel_rfl) (by kernel_rfl) (fun _ _ _ h => h) (Or.inl ⟨by kernel_rfl, ?hy⟩) (by assumption) ?_
      case hy => intro w hSw; obtain ⟨g0, g1, g2, g3⟩ := hSw; go_simp; try with_reducible rfl
      simp only [Act.put, List.getElem_toArray, List.getElem_cons_succ, List.getElem_cons_zero, List.setIfInBounds_toArray, List.set_cons_zero, List.set_cons_succ]
      refine wpAnyH_take (i := 23) (v := ?_) rfl (by kernel_rfl) (by kernel_rfl) (by kernel_rfl) (fun _ _ _ h => h) (Or.inl ⟨by kernel_rfl, ?hy⟩) (by assumption) ?_
      case hy => intro w hSw; obtain ⟨g0, g1, g2, g3⟩ := hSw; go_simp; try with_reducible rfl
      simp only [Act.put, List.getElem_toArray, List.getElem_cons_succ, List.getElem_cons_zero, List.setIfInBounds_toArray, List.set_cons_zero, List.set_cons_succ]
      refine wpAnyH_take (i := 24) (v := ?_) rfl (by kernel_rfl) (by kernel_rfl) (by kernel_rfl) (fun _ _ _ h => h) (Or.inl ⟨by kernel_rfl, ?hy⟩) (by assumption) ?_
      case hy => intro w hSw; obtain ⟨g0, g1, g2, g3⟩ := hSw; go_simp; try with_reducible rfl
      simp only [Act.put, List.getElem_toArray, List.getElem_cons_succ, List.getElem_cons_zero, List.setIfInBounds_toArray, List.set_cons_zero, List.set_cons_succ]
      refine wpAnyH_take (i := 25) (v := ?_) rfl (by kernel_rfl) (by kernel_rfl) (by kernel_rfl) (fun _ _ _ h => h) (Or.inl ⟨by kernel_rfl, ?hy⟩) (by assumption) ?_
      case hy => intro w hSw; obtain ⟨g0, g1, g2, g3⟩ := hSw; go_simp; try with_reducible rfl
      simp only [Act.put, List.getElem_toArray, List.getElem_cons_succ, List.getElem_cons_zero, List.setIfInBounds_toArray, List.set_cons_zero, List.set_cons_succ]
      refine wpAnyH_take (i := 26) (v := ?_) rfl (by kernel_rfl) (by kernel_rfl) (by kernel_rfl) (fun _ _ _ h => h) (Or.inl ⟨by kernel_rfl, ?hy⟩) (by assumption) ?_
      case hy => intro w hSw; obtain ⟨g0, g1, g2, g3⟩ := hSw; go_simp; try with_reducible rfl
      simp only [Act.put, List.getElem_toArray, List.getElem_cons_succ, List.getElem_cons_zero, List.setIfInBounds_toArray, List.set_cons_zero, List.set_cons_succ]
      refine wpAnyH_take (i := 27) (v := ?_) rfl (by kernel_rfl) (by kernel_rfl) (by kernel_rfl) (fun _ _ _ h => h) (Or.inl ⟨by kernel_rfl, ?hy⟩) (by assumption) ?_
      case hy => intro w hSw; obtain ⟨g0, g1, g2, g3⟩ := hSw; go_simp; try with_reducible rfl
      simp only [Act.put, List.getElem_toArray, List.getElem_cons_succ, List.getElem_cons_zero, List.setIfInBounds_toArray, List.set_cons_zero, List.set_cons_succ]
      refine wpAnyH_take (i := 28) (v := ?_) rfl (by kernel_rfl) (by kernel_rfl) (by kernel_rfl) (fun _ _ _ h => h) (Or.inl ⟨by kernel_rfl, ?hy⟩) (by assumption) ?_
      case hy => intro w hSw; obtain ⟨g0, g1, g2, g3⟩ := hSw; go_simp; try with_reducible rfl
      simp only [Act.put, List.getElem_toArray, List.getElem_cons_succ, List.getElem_cons_zero, List.setIfInBounds_toArray, List.set_cons_zero, List.set_cons_succ]
      refine wpAnyH_take (i := 29) (v := ?_) rfl (by kernel_rfl) (by kernel_rfl) (by kernel_rfl) (fun _ _ _ h => h) (Or.inl ⟨by kernel_rfl, ?hy⟩) (by assumption) ?_
      case hy => intro w hSw; obtain ⟨g0, g1, g2, g3⟩ := hSw; go_simp; try with_reducible rfl
      simp only [Act.put, List.getElem_toArray, List.getElem_cons_succ, List.getElem_cons_zero, List.setIfInBounds_toArray, List.set_cons_zero, List.set_cons_succ]
      refine wpAnyH_take (i := 30) (v := ?_) rfl (by kernel_rfl) (by kernel_rfl) (by kernel_rfl) (fun _ _ _ h => h) (Or.inl ⟨by kernel_rfl, ?hy⟩) (by assumption) ?_
      case hy => intro w hSw; obtain ⟨g0, g1, g2, g3⟩ := hSw; go_simp; try with_reducible rfl
      simp only [Act.put, List.getElem_toArray, List.getElem_cons_succ, List.getElem_cons_zero, List.setIfInBounds_toArray, List.set_cons_zero, List.set_cons_succ]
      refine wpAnyH_take (i := 31) (v := ?_) rfl (by kernel_rfl) (by kernel_rfl) (by kernel_rfl) (fun _ _ _ h => h) (Or.inl ⟨by kernel_rfl, ?hy⟩) (by assumption) ?_
      case hy => intro w hSw; obtain ⟨g0, g1, g2, g3⟩ := hSw; go_simp; try with_reducible rfl
      simp only [Act.put, List.getElem_toArray, List.getElem_cons_succ, List.getElem_cons_zero, List.setIfInBounds_toArray, List.set_cons_zero, List.set_cons_succ]
      refine wpAnyH_take (i := 32) (v := ?_) rfl (by kernel_rfl) (by kernel_rfl) (by kernel_rfl) (fun _ _ _ h => h) (Or.inl ⟨by kernel_rfl, ?hy⟩) (by assumption) ?_
      case hy => intro w hSw; obtain ⟨g0, g1, g2, g3⟩ := hSw; go_simp; try with_reducible rfl
      simp only [Act.put, List.getElem_toArray, List.getElem_cons_succ, List.getElem_cons_zero, List.setIfInBounds_toArray, List.set_cons_zero, List.set_cons_succ]
      refine wpAnyH_take (i := 33) (v := ?_) rfl (by kernel_rfl) (by kernel_rfl) (by kernel_rfl) (fun _ _ _ h => h) (Or.inl ⟨by kernel_rfl, ?hy⟩) (by assumption) ?_
      case hy => intro w hSw; obtain ⟨g0, g1, g2, g3⟩ := hSw; go_simp; try with_reducible rfl
      simp only [Act.put, List.getElem_toArray, List.getElem_cons_succ, List.getElem_cons_zero, List.setIfInBounds_toArray, List.set_cons_zero, List.set_cons_succ]
      refine wpAnyH_take (i := 34) (v := ?_) rfl (by kernel_rfl) (by kernel_rfl) (by kernel_rfl) (fun _ _ _ h => h) (Or.inl ⟨by kernel_rfl, ?hy⟩) (by assumption) ?_
      case hy => intro w hSw; obtain ⟨g0, g1, g2, g3⟩ := hSw; go_simp; try with_reducible rfl
      simp only [Act.put, List.getElem_toArray, List.getElem_cons_succ, List.getElem_cons_zero, List.setIfInBounds_toArray, List.set_cons_zero, List.set_cons_succ]
      refine wpAnyH_take (i := 36) (v := ?_) rfl (by kernel_rfl) (by kernel_rfl) (by kernel_rfl) (fun _ _ _ h => h) (Or.inl ⟨by kernel_rfl, ?hy⟩) (by assumption) ?_
      case hy => intro w hSw; obtain ⟨g0, g1, g2, g3⟩ := hSw; go_simp; try with_reducible rfl
      simp only [Act.put, List.getElem_toArray, List.getElem_cons_succ, List.getElem_cons_zero, List.setIfInBounds_toArray, List.set_cons_zero, List.set_cons_succ]
      refine wpAnyH_ready (rs := [35]) (by kernel_rfl) (by simp) ?_
      refine AllReadyH.cons rfl (fun K hK => ?_) AllReadyH.nil
      go_simp
      refine (PF.out _ HQH.out).mono ?_
      rintro e w4 ⟨rfl, hb4⟩
      have HQI := hide (HQH.out.bel hb4)
      refine hK.out _ _ ⟨HQI.out.c0, HQI.out.c1, HQI.out.c2, HQI.out.c3⟩ (fun hHeld => ?_)
      clear hK K
      refine wpAnyH_ready (rs := [37]) (by kernel_rfl) (by simp) ?_
      refine AllReadyH.cons rfl (fun K hK => ?_) AllReadyH.nil
      go_simp
      refine (PG.out _ HQI.out).mono ?_
      rintro e w5 ⟨rfl, hb5⟩
      have HQJ := hide (HQI.out.bel hb5)
      refine hK.out _ _ ⟨HQJ.out.c0, HQJ.out.c1, HQJ.out.c2, HQJ.out.c3⟩ (fun hHeld => ?_)
      clear hK K
      refine wpAnyH_take (i := 38) (v := ?_) rfl (by kernel_rfl) (by kernel_rfl) (by kernel_rfl) (fun _ _ _ h => h) (Or.inl ⟨by kernel_rfl, ?hy⟩) (by assumption) ?_
      case hy => intro w hSw; obtain ⟨g0, g1, g2, g3⟩ := hSw; go_simp; try with_reducible rfl
      simp only [Act.put, List.getElem_toArray, List.getElem_cons_succ, List.getElem_cons_zero, List.setIfInBounds_toArray, List.set_cons_zero, List.set_cons_succ]
      refine wpAnyH_take (i := 39) (v := ?_) rfl (by kernel_rfl) (by kernel_rfl) (by kernel_rfl) (fun _ _ _ h => h) (Or.inl ⟨by kernel_rfl, ?hy⟩) (by assumption) ?_
      case hy => intro w hSw; obtain ⟨g0, g1, g2, g3⟩ := hSw; go_simp; try with_reducible rfl
      simp only [Act.put, List.getElem_toArray, List.getElem_cons_succ, List.getElem_cons_zero, List.setIfInBounds_toArray, List.set_cons_zero, List.set_cons_succ]
      refine wpAnyH_ready (rs := [40]) (by kernel_rfl) (by simp) ?_
      refine AllReadyH.cons rfl (fun K hK => ?_) AllReadyH.nil
      go_simp
      refine hK.out _ _ hHeld (fun hHeld => ?_)
      clear hK K
      refine wpAnyH_done (by kernel_rfl) ?_ _
      go_wp2_with fail
      go_ret
      exact ⟨rfl, HQJ.out.b⟩
  · rw [hf] at PF PG
    go_wp2_with fail
    refine (PA.out W HQ.out).mono ?_
    clear c0 c1 c2 c3
    rintro e W2 (⟨hf1, _⟩ | ⟨hf1, r2, A2, F2, rfl, k1, n2, s2, k2⟩)
    · rw [hf] at hf1; cases hf1
    have HQ2 := hide (HQ.out.bel k2)
    have RA := hide (nrow_nv (c := t.length) n2)
    clear k2 hf1
    obtain ⟨c0, c1, c2, c3⟩ : _ ∧ _ ∧ _ ∧ _ := ⟨HQ2.out.c0, HQ2.out.c1, HQ2.out.c2, HQ2.out.c3⟩
    go_wp2_with fail
    refine (PB.out W2 HQ2.out).mono ?_
    clear c0 c1 c2 c3
    rintro e W3 (⟨hf1, _⟩ | ⟨hf1, r3, A3, F3, rfl, k1, n3, s3, k2⟩)
    · rw [hf] at hf1; cases hf1
    have HQ3 := hide (HQ2.out.bel k2)
    have RA3 := hide (RA.out.kept k2)
    have RB3 := hide (nrow_nv (c := t.length) (n3.same s3 s2))
    clear k2 hf1
    obtain ⟨c0, c1, c2, c3⟩ : _ ∧ _ ∧ _ ∧ _ := ⟨HQ3.out.c0, HQ3.out.c1, HQ3.out.c2, HQ3.out.c3⟩
    go_wp2_with fail
    refine (PC.out W3 HQ3.out).mono ?_
    clear c0 c1 c2 c3
    rintro e W4 (⟨hf1, _⟩ | ⟨hf1, rb, ra, A4, F4, rfl, k1, k1', n4, n4', s4, k2⟩)
    · rw [hf] at hf1; cases hf1
    have HQ4 := hide (HQ3.out.bel k2)
    have RA4 := hide (RA3.out.kept k2)
    have RB4 := hide (RB3.out.kept k2)
    have RC4 := hide (nrow_nv (c := t.length) (n4'.same2 s4 s2))
    have RD4 := hide (nrow_nv (c := t.length) (n4.same s4 s2))
    clear k2 hf1
    go_wp2_with fail
    refine (numbers_nv RA4.out RC4.out (by simp; omega)).mono ?_
    rintro e W5 ⟨rfl, k2⟩
    have HQ5 := hide (HQ4.out.bel k2)
    have RB5 := hide (RB4.out.kept k2)
    have RD5 := hide (RD4.out.kept k2)
    clear k2
    go_wp2_with fail
    refine (numbers_nv RB5.out RD5.out (by simp; omega)).mono ?_
    rintro e W6 ⟨rfl, k2⟩
    have HQ6 := hide (HQ5.out.bel k2)
    clear k2
    obtain ⟨c0, c1, c2, c3⟩ : _ ∧ _ ∧ _ ∧ _ := ⟨HQ6.out.c0, HQ6.out.c1, HQ6.out.c2, HQ6.out.c3⟩
    have HQD := hide (HQ6.out.bel (bel_drew W6))
    clear PA PB PC
    go_upto_region 8 with fail
    go_cut [15] from 47 to 93 (fun s15 wx => s15 = .bool true ∧ Hid (FQ cs ps ls q t.length cap w.heap.size w wx))
    case first =>
      go_region_with (first
        | (go_at_call 11; refine (PN.out _ HQD.out).mono ?_; rintro e w1 ⟨v1, rfl, hv1, hb1⟩; obtain ⟨a1, q1, hf1⟩ := hv1.form; subst hf1; have HQE := hide (HQD.out.bel hb1); obtain ⟨c0, c1, c2, c3⟩ : _ ∧ _ ∧ _ ∧ _ := ⟨HQE.out.c0, HQE.out.c1, HQE.out.c2, HQE.out.c3⟩)
        | (go_at_call 12; refine (PM.out _ HQE.out).mono ?_; rintro e w2 ⟨v2, rfl, hv2, hb2⟩; obtain ⟨a2, q2, hf2⟩ := hv2.form; subst hf2; have HQF := hide (HQE.out.bel hb2))
        | (go_at_call 10; refine (numbers_nv (hv1.kept hb2) hv2 NL).mono ?_; rintro e w3 ⟨rfl, hb3⟩; have HQG := hide (HQF.out.bel hb3)))
      all_goals
        go_wp2_with fail
        go_meet
        case rel => exact ⟨rfl, HQG⟩
    case rest =>
      obtain ⟨rfl, HQG⟩ := hcut
      clear c0 c1 c2 c3 HQD HQ6 PN PM
      obtain ⟨c0, c1, c2, c3⟩ : _ ∧ _ ∧ _ ∧ _ := ⟨HQG.out.c0, HQG.out.c1, HQG.out.c2, HQG.out.c3⟩
      have HQH := hide (HQG.out.bel (bel_drew wc))
      go_wp2_with fail
      refine wp_region_held_drew (S := fun X => X.cell? ⟨w.heap.size, 0, none⟩ = some (.int .i64 cs) ∧ X.cell? ⟨w.heap.size, 1, none⟩ = some (.int .i64 ps) ∧ X.cell? ⟨w.heap.size, 2, none⟩ = some (.slice q t.length cap) ∧ X.cell? ⟨w.heap.size, 3, none⟩ = some (.int .i64 ls)) (by kernel_rfl) ⟨c0, c1, c2, c3⟩ ?_
      intro hHeld
      change wpAnyH _ _ _ _ _ _ _ _ (World.drew _)
      refine wpAnyH_take (i := 0) (v := ?_) rfl (by kernel_rfl) (by kernel_rfl) (by kernel_rfl) (fun _ _ _ h => h) (Or.inl ⟨by kernel_rfl, ?hy⟩) (by assumption) ?_
      case hy => intro w hSw; obtain ⟨g0, g1, g2, g3⟩ := hSw; go_simp; try with_reducible rfl
      simp only [Act.put, List.getElem_toArray, List.getElem_cons_succ, List.getElem_cons_zero, List.setIfInBounds_toArray, List.set_cons_zero, List.set_cons_succ]
      refine wpAnyH_take (i := 1) (v := ?_) rfl (by kernel_rfl) (by kernel_rfl) (by kernel_rfl) (fun _ _ _ h => h) (Or.inl ⟨by kernel_rfl, ?hy⟩) (by assumption) ?_
      case hy => intro w hSw; obtain ⟨g0, g1, g2, g3⟩ := hSw; go_simp; try with_reducible rfl
      simp only [Act.put, List.getElem_toArray, List.getElem_cons_succ, List.getElem_cons_zero, List.setIfInBounds_toArray, List.set_cons_zero, List.set_cons_succ]
      refine wpAnyH_take (i := 2) (v := ?_) rfl (by kernel_rfl) (by kernel_rfl) (by kernel_rfl) (fun _ _ _ h => h) (Or.inl ⟨by kernel_rfl, ?hy⟩) (by assumption) ?_
      case hy => intro w hSw; obtain ⟨g0, g1, g2, g3⟩ := hSw; go_simp; try with_reducible rfl
      simp only [Act.put, List.getElem_toArray, List.getElem_cons_succ, List.getElem_cons_zero, List.setIfInBounds_toArray, List.set_cons_zero, List.set_cons_succ]
      refine wpAnyH_take (i := 3) (v := ?_) rfl (by kernel_rfl) (by kernel_rfl) (by kernel_rfl) (fun _ _ _ h => h) (Or.inl ⟨by kernel_rfl, ?hy⟩) (by assumption) ?_
      case hy => intro w hSw; obtain ⟨g0, g1, g2, g3⟩ := hSw; go_simp; try with_reducible rfl
      simp only [Act.put, List.getElem_toArray, List.getElem_cons_succ, List.getElem_cons_zero, List.setIfInBounds_toArray, List.set_cons_zero, List.set_cons_succ]
      refine wpAnyH_take (i := 4) (v := ?_) rfl (by kernel_rfl) (by kernel_rfl) (by kernel_rfl) (fun _ _ _ h => h) (Or.inl ⟨by kernel_rfl, ?hy⟩) (by assumption) ?_
      case hy => intro w hSw; obtain ⟨g0, g1, g2, g3⟩ := hSw; go_simp; try with_reducible rfl
      simp only [Act.put, List.getElem_toArray, List.getElem_cons_succ, List.getElem_cons_zero, List.setIfInBounds_toArray, List.set_cons_zero, List.set_cons_succ]
      refine wpAnyH_take (i := 5) (v := ?_) rfl (by kernel_rfl) (by kernel_rfl) (by kernel_rfl) (fun _ _ _ h => h) (Or.inl ⟨by kernel_rfl, ?hy⟩) (by assumption) ?_
      case hy => intro w hSw; obtain ⟨g0, g1, g2, g3⟩ := hSw; go_simp; try with_reducible rfl
      simp only [Act.put, List.getElem_toArray, List.getElem_cons_succ, List.getElem_cons_zero, List.setIfInBounds_toArray, List.set_cons_zero, List.set_cons_succ]
      refine wpAnyH_take (i := 6) (v := ?_) rfl (by kernel_rfl) (by kernel_rfl) (by kernel_rfl) (fun _ _ _ h => h) (Or.inl ⟨by kernel_rfl, ?hy⟩) (by assumption) ?_
      case hy => intro w hSw; obtain ⟨g0, g1, g2, g3⟩ := hSw; go_simp; try with_reducible rfl
      simp only [Act.put, List.getElem_toArray, List.getElem_cons_succ, List.getElem_cons_zero, List.setIfInBounds_toArray, List.set_cons_zero, List.set_cons_succ]
      refine wpAnyH_take (i := 7) (v := ?_) rfl (by kernel_rfl) (by kernel_rfl) (by kernel_rfl) (fun _ _ _ h => h) (Or.inl ⟨by kernel_rfl, ?hy⟩) (by assumption) ?_
      case hy => intro w hSw; obtain ⟨g0, g1, g2, g3⟩ := hSw; go_simp; try with_reducible rfl
      simp only [Act.put, List.getElem_toArray, List.getElem_cons_succ, List.getElem_cons_zero, List.setIfInBounds_toArray, List.set_cons_zero, List.set_cons_succ]
      refine wpAnyH_take (i := 8) (v := ?_) rfl (by kernel_rfl) (by kernel_rfl) (by kernel_rfl) (fun _ _ _ h => h) (Or.inl ⟨by kernel_rfl, ?hy⟩) (by assumption) ?_
      case hy => intro w hSw; obtain ⟨g0, g1, g2, g3⟩ := hSw; go_simp; try with_reducible rfl
      simp only [Act.put, List.getElem_toArray, List.getElem_cons_succ, List.getElem_cons_zero, List.setIfInBounds_toArray, List.set_cons_zero, List.set_cons_succ]
      refine wpAnyH_take (i := 9) (v := ?_) rfl (by kernel_rfl) (by kernel_rfl) (by kernel_rfl) (fun _ _ _ h => h) (Or.inl ⟨by kernel_rfl, ?hy⟩) (by assumption) ?_
      case hy => intro w hSw; obtain ⟨g0, g1, g2, g3⟩ := hSw; go_simp; try with_reducible rfl
      simp only [Act.put, List.getElem_toArray, List.getElem_cons_succ, List.getElem_cons_zero, List.setIfInBounds_toArray, List.set_cons_zero, List.set_cons_succ]
      refine wpAnyH_take (i := 10) (v := ?_) rfl (by kernel_rfl) (by kernel_rfl) (by kernel_rfl) (fun _ _ _ h => h) (Or.inl ⟨by kernel_rfl, ?hy⟩) (by assumption) ?_
      case hy => intro w hSw; obtain ⟨g0, g1, g2, g3⟩ := hSw; go_simp; try with_reducible rfl
      simp only [Act.put, List.getElem_toArray, List.getElem_cons_succ, List.getElem_cons_zero, List.setIfInBounds_toArray, List.set_cons_zero, List.set_cons_succ]
      refine wpAnyH_take (i := 11) (v := ?_) rfl (by kernel_rfl) (by kernel_rfl) (by kernel_rfl) (fun _ _ _ h => h) (Or.inl ⟨by kernel_rfl, ?hy⟩) (by assumption) ?_
      case hy => intro w hSw; obtain ⟨g0, g1, g2, g3⟩ := hSw; go_simp; try with_reducible rfl
      simp only [Act.put, List.getElem_toArray, List.getElem_cons_succ, List.getElem_cons_zero, List.setIfInBounds_toArray, List.set_cons_zero, List.set_cons_succ]
      refine wpAnyH_take (i := 12) (v := ?_) rfl (by kernel_rfl) (by kernel_rfl) (by kernel_rfl) (fun _ _ _ h => h) (Or.inl ⟨by kernel_rfl, ?hy⟩) (by assumption) ?_
      case hy => intro w hSw; obtain ⟨g0, g1, g2, g3⟩ := hSw; go_simp; try with_reducible rfl
      simp only [Act.put, List.getElem_toArray, List.getElem_cons_succ, List.getElem_cons_zero, List.setIfInBounds_toArray, List.set_cons_zero, List.set_cons_succ]
      refine wpAnyH_take (i := 13) (v := ?_) rfl (by kernel_rfl) (by kernel_rfl) (by kernel_rfl) (fun _ _ _ h => h) (Or.inl ⟨by kernel_rfl, ?hy⟩) (by assumption) ?_
      case hy => intro w hSw; obtain ⟨g0, g1, g2, g3⟩ := hSw; go_simp; try with_reducible rfl
      simp only [Act.put, List.getElem_toArray, List.getElem_cons_succ, List.getElem_cons_zero, List.setIfInBounds_toArray, List.set_cons_zero, List.set_cons_succ]
      refine wpAnyH_take (i := 14) (v := ?_) rfl (by kernel_rfl) (by kernel_rfl) (by kernel_rfl) (fun _ _ _ h => h) (Or.inl ⟨by kernel_rfl, ?hy⟩) (by assumption) ?_
      case hy => intro w hSw; obtain ⟨g0, g1, g2, g3⟩ := hSw; go_simp; try with_reducible rfl
      simp only [Act.put, List.getElem_toArray, List.getElem_cons_succ, List.getElem_cons_zero, List.setIfInBounds_toArray, List.set_cons_zero, List.set_cons_succ]
      refine wpAnyH_take (i := 15) (v := ?_) rfl (by kernel_rfl) (by kernel_rfl) (by kernel_rfl) (fun _ _ _ h => h) (Or.inl ⟨by kernel_rfl, ?hy⟩) (by assumption) ?_
      case hy => intro w hSw; obtain ⟨g0, g1, g2, g3⟩ := hSw; go_simp; try with_reducible rfl
      simp only [Act.put, List.getElem_toArray, List.getElem_cons_succ, List.getElem_cons_zero, List.setIfInBounds_toArray, List.set_cons_zero, List.set_cons_succ]
      refine wpAnyH_take (i := 16) (v := ?_) rfl (by kernel_rfl) (by kernel_rfl) (by kernel_rfl) (fun _ _ _ h => h) (Or.inl ⟨by kernel_rfl, ?hy⟩) (by assumption) ?_
      case hy => intro w hSw; obtain ⟨g0, g1, g2, g3⟩ := hSw; go_simp; try with_reducible rfl
      simp only [Act.put, List.getElem_toArray, List.getElem_cons_succ, List.getElem_cons_zero, List.setIfInBounds_toArray, List.set_cons_zero, List.set_cons_succ]
      refine wpAnyH_take (i := 17) (v := ?_) rfl (by kernel_rfl) (by kernel_rfl) (by kernel_rfl) (fun _ _ _ h => h) (Or.inl ⟨by kernel_rfl, ?hy⟩) (by assumption) ?_
      case hy => intro w hSw; obtain ⟨g0, g1, g2, g3⟩ := hSw; go_simp; try with_reducible rfl
      simp only [Act.put, List.getElem_toArray, List.getElem_cons_succ, List.getElem_cons_zero, List.setIfInBounds_toArray, List.set_cons_zero, List.set_cons_succ]
      refine wpAnyH_take (i := 18) (v := ?_) rfl (by kernel_rfl) (by kernel_rfl) (by kernel_rfl) (fun _ _ _ h => h) (Or.inl ⟨by kernel_rfl, ?hy⟩) (by assumption) ?_
      case hy => intro w hSw; obtain ⟨g0, g1, g2, g3⟩ := hSw; go_simp; try with_reducible rfl
      simp only [Act.put, List.getElem_toArray, List.getElem_cons_succ, List.getElem_cons_zero, List.setIfInBounds_toArray, List.set_cons_zero, List.set_cons_succ]
      refine wpAnyH_take (i := 19) (v := ?_) rfl (by kernel_rfl) (by kernel_rfl) (by kernel_rfl) (fun _ _ _ h => h) (Or.inl ⟨by kernel_rfl, ?hy⟩) (by assumption) ?_
      case hy => intro w hSw; obtain ⟨g0, g1, g2, g3⟩ := hSw; go_simp; try with_reducible rfl
      simp only [Act.put, List.getElem_toArray, List.getElem_cons_succ, List.getElem_cons_zero, List.setIfInBounds_toArray, List.set_cons_zero, List.set_cons_succ]
      refine wpAnyH_take (i := 20) (v := ?_) rfl (by kernel_rfl) (by kernel_rfl) (by kernel_rfl) (fun _ _ _ h => h) (Or.inl ⟨by kernel_rfl, ?hy⟩) (by assumption) ?_
      case hy => intro w hSw; obtain ⟨g0, g1, g2, g3⟩ := hSw; go_simp; try with_reducible rfl
      simp only [Act.put, List.getElem_toArray, List.getElem_cons_succ, List.getElem_cons_zero, List.setIfInBounds_toArray, List.set_cons_zero, List.set_cons_succ]
      refine wpAnyH_take (i := 21) (v := undef) rfl (by kernel_rfl) (by kernel_rfl) (by kernel_rfl) (fun _ _ _ h => h) (Or.inr ⟨by kernel_rfl, rfl⟩) (by assumption) ?_
      simp only [Act.put, List.getElem_toArray, List.getElem_cons_succ, List.getElem_cons_zero, List.setIfInBounds_toArray, List.set_cons_zero, List.set_cons_succ]
      refine wpAnyH_take (i := 22) (v := undef) rfl (by kernel_rfl) (by kernel_rfl) (by kernel_rfl) (fun _ _ _ h => h) (Or.inr ⟨by kernel_rfl, rfl⟩) (by assumption) ?_
      simp only [Act.put, List.getElem_toArray, List.getElem_cons_succ, List.getElem_cons_zero, List.setIfInBounds_toArray, List.set_cons_zero, List.set_cons_succ]
      refine wpAnyH_take (i := 23) (v := undef) rfl (by kernel_rfl) (by kernel_rfl) (by kernel_rfl) (fun _ _ _ h => h) (Or.inr ⟨by kernel_rfl, rfl⟩) (by assumption) ?_
      simp only [Act.put, List.getElem_toArray, List.getElem_cons_succ, List.getElem_cons_zero, List.setIfInBounds_toArray, List.set_cons_zero, List.set_cons_succ]
      refine wpAnyH_take (i := 24) (v := undef) rfl (by kernel_rfl) (by kernel_rfl) (by kernel_rfl) (fun _ _ _ h => h) (Or.inr ⟨by kernel_rfl, rfl⟩) (by assumption) ?_
      simp only [Act.put, List.getElem_toArray, List.getElem_cons_succ, List.getElem_cons_zero, List.setIfInBounds_toArray, List.set_cons_zero, List.set_cons_succ]
      refine wpAnyH_take (i := 25) (v := undef) rfl (by kernel_rfl) (by kernel_rfl) (by kernel_rfl) (fun _ _ _ h => h) (Or.inr ⟨by kernel_rfl, rfl⟩) (by assumption) ?_
      simp only [Act.put, List.getElem_toArray, List.getElem_cons_succ, List.getElem_cons_zero, List.setIfInBounds_toArray, List.set_cons_zero, List.set_cons_succ]
      refine wpAnyH_take (i := 26) (v := undef) rfl (by kernel_rfl) (by kernel_rfl) (by kernel_rfl) (fun _ _ _ h => h) (Or.inr ⟨by kernel_rfl, rfl⟩) (by assumption) ?_
      simp only [Act.put, List.getElem_toArray, List.getElem_cons_succ, List.getElem_cons_zero, List.setIfInBounds_toArray, List.set_cons_zero, List.set_cons_succ]
      refine wpAnyH_take (i := 27) (v := undef) rfl (by kernel_rfl) (by kernel_rfl) (by kernel_rfl) (fun _ _ _ h => h) (Or.inr ⟨by kernel_rfl, rfl⟩) (by assumption) ?_
      simp only [Act.put, List.getElem_toArray, List.getElem_cons_succ, List.getElem_cons_zero, List.setIfInBounds_toArray, List.set_cons_zero, List.set_cons_succ]
      refine wpAnyH_take (i := 28) (v := undef) rfl (by kernel_rfl) (by kernel_rfl) (by kernel_rfl) (fun _ _ _ h => h) (Or.inr ⟨by kernel_rfl, rfl⟩) (by assumption) ?_
      simp only [Act.put, List.getElem_toArray, List.getElem_cons_succ, List.getElem_cons_zero, List.setIfInBounds_toArray, List.set_cons_zero, List.set_cons_succ]
      refine wpAnyH_take (i := 29) (v := undef) rfl (by kernel_rfl) (by kernel_rfl) (by kernel_rfl) (fun _ _ _ h => h) (Or.inr ⟨by kernel_rfl, rfl⟩) (by assumption) ?_
      simp only [Act.put, List.getElem_toArray, List.getElem_cons_succ, List.getElem_cons_zero, List.setIfInBounds_toArray, List.set_cons_zero, List.set_cons_succ]
      refine wpAnyH_take (i := 30) (v := undef) rfl (by kernel_rfl) (by kernel_rfl) (by kernel_rfl) (fun _ _ _ h => h) (Or.inr ⟨by kernel_rfl, rfl⟩) (by assumption) ?_
      simp only [Act.put, List.getElem_toArray, List.getElem_cons_succ, List.getElem_cons_zero, List.setIfInBounds_toArray, List.set_cons_zero, List.set_cons_succ]
      refine wpAnyH_take (i := 31) (v := ?_) rfl (by kernel_rfl) (by kernel_rfl) (by kernel_rfl) (fun _ _ _ h => h) (Or.inl ⟨by kernel_rfl, ?hy⟩) (by assumption) ?_
      case hy => intro w hSw; obtain ⟨g0, g1, g2, g3⟩ := hSw; go_simp; try with_reducible rfl
      simp only [Act.put, List.getElem_toArray, List.getElem_cons_succ, List.getElem_cons_zero, List.setIfInBounds_toArray, List.set_cons_zero, List.set_cons_succ]
      refine wpAnyH_take (i := 32) (v := ?_) rfl (by kernel_rfl) (by kernel_rfl) (by kernel_rfl) (fun _ _ _ h => h) (Or.inl ⟨by kernel_rfl, ?hy⟩) (by assumption) ?_
      case hy => intro w hSw; obtain ⟨g0, g1, g2, g3⟩ := hSw; go_simp; try with_reducible rfl
      simp only [Act.put, List.getElem_toArray, List.getElem_cons_succ, List.getElem_cons_zero, List.setIfInBounds_toArray, List.set_cons_zero, List.set_cons_succ]
      refine wpAnyH_take (i := 33) (v := ?_) rfl (by kernel_rfl) (by kernel_rfl) (by kernel_rfl) (fun _ _ _ h => h) (Or.inl ⟨by kernel_rfl, ?hy⟩) (by assumption) ?_
      case hy => intro w hSw; obtain ⟨g0, g1, g2, g3⟩ := hSw; go_simp; try with_reducible rfl
      simp only [Act.put, List.getElem_toArray, List.getElem_cons_succ, List.getElem_cons_zero, List.setIfInBounds_toArray, List.set_cons_zero, List.set_cons_succ]
      refine wpAnyH_take (i := 34) (v := ?_) rfl (by kernel_rfl) (by kernel_rfl) (by kernel_rfl) (fun _ _ _ h => h) (Or.inl ⟨by kernel_rfl, ?hy⟩) (by assumption) ?_
      case hy => intro w hSw; obtain ⟨g0, g1, g2, g3⟩ := hSw; go_simp; try with_reducible rfl
      simp only [Act.put, List.getElem_toArray, List.getElem_cons_succ, List.getElem_cons_zero, List.setIfInBounds_toArray, List.set_cons_zero, List.set_cons_succ]
      refine wpAnyH_take (i := 36) (v := ?_) rfl (by kernel_rfl) (by kernel_rfl) (by kernel_rfl) (fun _ _ _ h => h) (Or.inl ⟨by kernel_rfl, ?hy⟩) (by assumption) ?_
      case hy => intro w hSw; obtain ⟨g0, g1, g2, g3⟩ := hSw; go_simp; try with_reducible rfl
      simp only [Act.put, List.getElem_toArray, List.getElem_cons_succ, List.getElem_cons_zero, List.setIfInBounds_toArray, List.set_cons_zero, List.set_cons_succ]
      refine wpAnyH_ready (rs := [35]) (by kernel_rfl) (by simp) ?_
      refine AllReadyH.cons rfl (fun K hK => ?_) AllReadyH.nil
      go_simp
      refine (PF.out _ HQH.out).mono ?_
      rintro e w4 ⟨rfl, hb4⟩
      have HQI := hide (HQH.out.bel hb4)
      refine hK.out _ _ ⟨HQI.out.c0, HQI.out.c1, HQI.out.c2, HQI.out.c3⟩ (fun hHeld => ?_)
      clear hK K
      refine wpAnyH_ready (rs := [37]) (by kernel_rfl) (by simp) ?_
      refine AllReadyH.cons rfl (fun K hK => ?_) AllReadyH.nil
      go_simp
      refine (PG.out _ HQI.out).mono ?_
      rintro e w5 ⟨rfl, hb5⟩
      have HQJ := hide (HQI.out.bel hb5)
      refine hK.out _ _ ⟨HQJ.out.c0, HQJ.out.c1, HQJ.out.c2, HQJ.out.c3⟩ (fun hHeld => ?_)
      clear hK K
      refine wpAnyH_take (i := 38) (v := ?_) rfl (by kernel_rfl) (by kernel_rfl) (by kernel_rfl) (fun _ _ _ h => h) (Or.inl ⟨by kernel_rfl, ?hy⟩) (by assumption) ?_
      case hy => intro w hSw; obtain ⟨g0, g1, g2, g3⟩ := hSw; go_simp; try with_reducible rfl
      simp only [Act.put, List.getElem_toArray, List.getElem_cons_succ, List.getElem_cons_zero, List.setIfInBounds_toArray, List.set_cons_zero, List.set_cons_succ]
      refine wpAnyH_take (i := 39) (v := ?_) rfl (by kernel_rfl) (by kernel_rfl) (by kernel_rfl) (fun _ _ _ h => h) (Or.inl ⟨by kernel_rfl, ?hy⟩) (by assumption) ?_
      case hy => intro w hSw; obtain ⟨g0, g1, g2, g3⟩ := hSw; go_simp; try with_reducible rfl
      simp only [Act.put, List.getElem_toArray, List.getElem_cons_succ, List.getElem_cons_zero, List.setIfInBounds_toArray, List.set_cons_zero, List.set_cons_succ]
      refine wpAnyH_ready (rs := [40]) (by kernel_rfl) (by simp) ?_
      refine AllReadyH.cons rfl (fun K hK => ?_) AllReadyH.nil
      go_simp
      refine hK.out _ _ hHeld (fun hHeld => ?_)
      clear hK K
      refine wpAnyH_done (by kernel_rfl) ?_ _
      go_wp2_with fail
      go_ret
      exact ⟨rfl, HQJ.out.b⟩
end Go.Proofs.Ytjgaaofpfepfhaa
