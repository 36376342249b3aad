/-
  The document's Clash; the law LiveClashes.
-/
import Derived.Test.YtjgaaofpfepfhaaR8
import Derived.Test.YtjgaaofpfepfhaaFlw
namespace Go.Proofs.Ytjgaaofpfepfhaa
open Go.RowKit
set_option linter.unusedSimpArgs false
set_option linter.unusedVariables false
def RClEnds (d : Cd) (l : List Ir) (a b : Int) (w : World) (e : Ending) (w' : World) : Prop := ∃ v ok : Bool, e = .returned (.tuple #[.bool v, .bool ok]) ∧ Below w.heap.size w w' ∧
  (((fitb d l = false ∨ isC a d.cells = false ∨ isC b d.cells = false) ∧ v = false ∧ ok = false) ∨
   ((fitb d l = true ∧ isC a d.cells = true ∧ isC b d.cells = true) ∧ ok = true ∧ ∃ A F, Sol (sy l) A F ∧ v = (decide (a ≠ b) && cls d l A F a b)))
theorem both_clash {d : Cd} {l : List Ir} {a b : Int} {w w1 w2 : World} {e e2 : Ending} (h : ClsEnds d l a b w e w1) (k : RClEnds d l a b w1 e2 w2) :
    ∃ (v ok : Bool) (n : Int), e = .returned (.tuple #[.bool v, .int .i64 n]) ∧ e2 = .returned (.tuple #[.bool v, .bool ok]) ∧ Below w.heap.size w w1 ∧ Below w1.heap.size w1 w2 ∧ ((ok = true ∧ n = 0) ∨ (ok = false ∧ n = 4)) := by
  obtain ⟨v, n, rfl, b1, h⟩ := h
  obtain ⟨v', ok, rfl, b2, k⟩ := k
  rcases h with ⟨h1, rfl, rfl⟩ | ⟨⟨h1, h2, h3⟩, rfl, h4⟩ <;> rcases k with ⟨k1, rfl, rfl⟩ | ⟨⟨k1, k2, k3⟩, rfl, A', F', s2, rfl⟩
  · exact ⟨_, _, _, rfl, rfl, b1, b2, Or.inr ⟨rfl, rfl⟩⟩
  · rw [k1, k2, k3] at h1; simp at h1
  · rw [h1, h2, h3] at k1; simp at k1
  · refine ⟨_, _, _, rfl, ?_, b1, b2, Or.inl ⟨rfl, rfl⟩⟩
    rcases h4 with ⟨e1, rfl⟩ | ⟨e1, A, F, s1, rfl⟩
    · simp [e1]
    · have hA : ∀ i, i < l.length → A i = A' i := fun i hi => (s1.one s2 (show i < (sy l).n from hi)).1
      have hF : ∀ i, i < l.length → F i = F' i := fun i hi => (s1.one s2 (show i < (sy l).n from hi)).2
      have : cls d l A' F' a b = cls d l A F a b := by
        unfold cls
        rw [giv_same hA, spo_same hF a b, spo_same hF b a]
      rw [this]
      simp [e1]
set_option maxRecDepth 100000 in
set_option maxHeartbeats 6400000 in
theorem rclash_any (d : Cd) (q : Option Addr) (cap : Nat) (l : List Ir) (a b : Int) (w : World) (hl : l.length ≤ 1000) (hr : IR w.heap.size w q l) :
    Calls Try.prog 16 #[cv d q l.length cap, .int .i64 a, .int .i64 b] w (RClEnds d l a b w) := by
  have HL := hide hl
  have HR := hide hr
  have B0 : FB d q l.length cap w.heap.size l w (w.alloc (.cells #[.int .i64 d.cells, .int .i64 d.params, .slice q l.length cap, .int .i64 d.labels] 24)) := ⟨bel_one _ _, by simp, heap_alloc_new _ _⟩
  have BA := hide (fun U (hU : IR U.heap.size U q l) => both_any d q cap l U hl hU)
  have MA := hide (fun ra rb m A F i j U (hU : IR U.heap.size U q l) => meets_any d q cap l ra rb m A F i j U hl hU)
  clear hl hr
  obtain ⟨cs, ps, ls⟩ := d
  unfold cv at BA MA ⊢
  simp only at B0 BA MA ⊢
  go_enter Try.func16, Try.ntmps16
  go_upto_region 1 with fail
  refine gw (motive := fun x => Code.wp _ _ _ _ x) (fun W => Hid (FB ⟨cs, ps, ls⟩ q l.length cap w.heap.size l w W)) B0 ?_
  rintro W HW
  clear B0
  obtain ⟨c0, c1, c2, c3⟩ := HW.out.cells (Below.refl _ W) HW.out.lt
  simp only at c0 c1 c2 c3
  have hqW := HW.out.lt
  have HIA := hide (show isC a cs = (decide (0 ≤ a) && decide (a < cs)) from rfl)
  have HIB := hide (show isC b cs = (decide (0 ≤ b) && decide (b < cs)) from rfl)
  go_wp2_with fail
  refine (BA.out W ((HR.out.bel HW.out.b).up HW.out.b.size)).mono ?_
  clear c0 c1 c2 c3
  rintro e W1 (⟨hf, rfl, k2⟩ | ⟨hf, rb, ra, A, F, rfl, k1, k1', n1, n2, s1, k2⟩)
  · have HB := hide (HW.out.b.trans (k2.mono HW.out.b.size))
    have HF := hide hf
    clear k2 hf
    go_wp2_with fail
    refine bodyPost_ret (results_tmp2 rfl _ _ _) rfl ?_
    exact ⟨false, false, rfl, HB.out, Or.inl ⟨Or.inl HF.out, rfl, rfl⟩⟩
  have HB1 := hide k2
  have HB := hide (HW.out.b.trans (k2.mono HW.out.b.size))
  obtain ⟨c0, c1, c2, c3⟩ := HW.out.cells k2 hqW
  simp only at c0 c1 c2 c3
  have HF := hide hf
  have FP := fit_parts hf
  simp only at FP
  have HN1 := hide n1
  have HN2 := hide n2
  have HS := hide s1
  clear k2 hf n1 n2 s1
  by_cases a0 : a < 0
  · have IA : Hid (isC a cs = false) := by show _ = _; rw [HIA.out]; simp; omega
    go_wp2_with fail
    refine bodyPost_ret (results_tmp2 rfl _ _ _) rfl ?_
    exact ⟨false, false, rfl, HB.out, Or.inl ⟨Or.inr (Or.inl IA.out), rfl, rfl⟩⟩
  by_cases b0 : b < 0
  · have IB : Hid (isC b cs = false) := by show _ = _; rw [HIB.out]; simp; omega
    go_wp2_with fail
    refine bodyPost_ret (results_tmp2 rfl _ _ _) rfl ?_
    exact ⟨false, false, rfl, HB.out, Or.inl ⟨Or.inr (Or.inr IB.out), rfl, rfl⟩⟩
  by_cases a1 : a < cs
  case neg =>
    have IA : Hid (isC a cs = false) := by show _ = _; rw [HIA.out]; simp; omega
    go_wp2_with fail
    refine bodyPost_ret (results_tmp2 rfl _ _ _) rfl ?_
    exact ⟨false, false, rfl, HB.out, Or.inl ⟨Or.inr (Or.inl IA.out), rfl, rfl⟩⟩
  by_cases b1 : b < cs
  case neg =>
    have IB : Hid (isC b cs = false) := by show _ = _; rw [HIB.out]; simp; omega
    go_wp2_with fail
    refine bodyPost_ret (results_tmp2 rfl _ _ _) rfl ?_
    exact ⟨false, false, rfl, HB.out, Or.inl ⟨Or.inr (Or.inr IB.out), rfl, rfl⟩⟩
  have IA : Hid (isC a cs = true) := by show _ = _; rw [HIA.out]; simp; omega
  have IB : Hid (isC b cs = true) := by show _ = _; rw [HIB.out]; simp; omega
  obtain ⟨m, hm⟩ : ∃ m : Nat, ps = (m : Int) := ⟨ps.toNat, by omega⟩
  obtain ⟨i, hi⟩ : ∃ i : Nat, a = (i : Int) := ⟨a.toNat, by omega⟩
  obtain ⟨j, hj⟩ : ∃ j : Nat, b = (j : Int) := ⟨b.toNat, by omega⟩
  have ME := hide (MA.out ra rb m A F i j W1 ((HR.out.bel HB.out).up HB.out.size) hm (by omega) HN1.out HN2.out HS.out.la HS.out.lf (by omega) (by omega))
  subst hm hi hj
  clear MA BA HN1 HN2 FP HIA HIB
  go_wp2_with fail
  refine ME.out.mono ?_
  rintro e W2 ⟨rfl, k3⟩
  have HB2 := hide (HB.out.trans (k3.mono HB.out.size))
  clear k3 ME
  go_wp2_with fail
  refine bodyPost_ret (results_tmp2 rfl _ _ _) rfl ?_
  have e : decide (i ≠ j) = decide ((i : Int) ≠ (j : Int)) := by
    rw [Bool.eq_iff_iff, decide_eq_true_eq, decide_eq_true_eq]; omega
  exact ⟨_, true, rfl, HB2.out, Or.inr ⟨⟨HF.out, IA.out, IB.out⟩, rfl, A, F, HS.out, by have e' := e; simp only [ne_eq, decide_not] at e' ⊢; rw [e']⟩⟩
set_option maxRecDepth 100000 in
set_option maxHeartbeats 6400000 in
theorem clashes_walk (EX : ∀ U : World, Calls Try.prog 6 #[] U fun e w' => e = .returned (.bool true) ∧ Below U.heap.size U w') (d : Cd) (q : Option Addr) (cap : Nat) (l : List Ir) (a b : Int) (w : World) (hc : l.length ≤ cap) (hr : IR w.heap.size w q l) :
    Calls Try.prog 4 #[cv d q l.length cap, .int .i64 a, .int .i64 b] w fun e w' => e = .returned (.bool true) ∧ Below w.heap.size w w' := by
  have HR := hide hr
  have HE := hide EX
  clear hr EX
  obtain ⟨cs, ps, ls⟩ := d
  have B0 : FB ⟨cs, ps, ls⟩ q l.length cap w.heap.size l w (w.alloc (.cells #[.int .i64 cs, .int .i64 ps, .slice q l.length cap, .int .i64 ls] 24)) := ⟨bel_one _ _, by simp, heap_alloc_new _ _⟩
  unfold cv
  go_enter Try.func4, Try.ntmps4
  go_wp2_with fail
  refine (HE.out _).mono ?_
  rintro e W1 ⟨rfl, h1⟩
  have F1 : FB ⟨cs, ps, ls⟩ q l.length cap w.heap.size l w W1 := ⟨B0.b.trans (h1.mono B0.b.size), Nat.lt_of_lt_of_le B0.lt h1.size, (h1.block _ B0.lt).trans B0.r⟩
  have HF1 := hide F1
  have hfz : W1.frozen? ⟨w.heap.size, 2, none⟩ = false := by simp [World.frozen?, F1.r]
  obtain ⟨c0, c1, c2, c3⟩ := F1.cells (Below.refl _ W1) F1.lt
  simp only at c0 c1 c2 c3
  clear B0 F1 h1 HE
  obtain ⟨m, hm⟩ : ∃ m : Nat, min l.length 120 = m := ⟨_, rfl⟩
  have hmm : min (l.length : Int) 120 = (m : Int) := by omega
  have hmc : (m : Int) ≤ (cap : Int) := by omega
  have hm0 : (0 : Int) ≤ (m : Int) := by omega
  go_upto_region 3 with fail
  obtain ⟨t, ht⟩ : ∃ t, l.take m = t := ⟨_, rfl⟩
  have htl : m = t.length := by rw [← ht, List.length_take]; omega
  have htn : t.length ≤ 120 := by omega
  have HT := hide (HR.out.take m)
  rw [ht] at HT
  have hq0 : w.heap.size < W1.heap.size := HF1.out.lt
  have Q0 : FQ cs ps ls q m cap w.heap.size w (W1.setCell ⟨w.heap.size, 2, none⟩ (.slice q m cap)) := by
    refine ⟨HF1.out.b.setCell (p := ⟨w.heap.size, 2, none⟩) (Nat.le_refl _) _, by simpa [World.setCell] using hq0, ?_, ?_, World.cell?_setCell_same' _ _ _ (by rw [c2]; rfl), ?_⟩
    · exact (World.cell?_setCell_other _ _ _ _ (by simp)).trans c0
    · exact (World.cell?_setCell_other _ _ _ _ (by simp)).trans c1
    · exact (World.cell?_setCell_other _ _ _ _ (by simp)).trans c3
  clear c0 c1 c2 c3 hfz HF1 hmm hmc hm0 HR hm ht
  subst htl
  refine gw (motive := fun x => Code.wp _ _ _ _ x) (fun U => Hid (FQ cs ps ls q t.length cap w.heap.size w U)) Q0 ?_
  rintro W HQ
  clear Q0
  have htn2 : t.length ≤ 1000 := by omega
  have RD := hide (fun U (h : FQ cs ps ls q t.length cap w.heap.size w U) => (HT.out.bel h.b).up h.b.size)
  have PA := hide (fun U (h : FQ cs ps ls q t.length cap w.heap.size w U) => clash_any ⟨cs, ps, ls⟩ q cap t a b U htn2 (RD.out U h))
  have PB := hide (fun U (h : FQ cs ps ls q t.length cap w.heap.size w U) => rclash_any ⟨cs, ps, ls⟩ q cap t a b U htn2 (RD.out U h))
  unfold cv at PA PB
  simp only at PA PB
  clear HT RD
  obtain ⟨c0, c1, c2, c3⟩ : _ ∧ _ ∧ _ ∧ _ := ⟨HQ.out.c0, HQ.out.c1, HQ.out.c2, HQ.out.c3⟩
  go_wp2_with fail
  refine (PA.out W HQ.out).mono ?_
  clear c0 c1 c2 c3
  rintro e W2 hA
  have HA := hide hA
  obtain ⟨v0, n0, rfl, k2, _⟩ := hA
  have HQ2 := hide (HQ.out.bel k2)
  clear k2
  obtain ⟨c0, c1, c2, c3⟩ : _ ∧ _ ∧ _ ∧ _ := ⟨HQ2.out.c0, HQ2.out.c1, HQ2.out.c2, HQ2.out.c3⟩
  go_wp2_with fail
  refine (PB.out W2 HQ2.out).mono ?_
  clear c0 c1 c2 c3
  rintro e W3 hB
  obtain ⟨v, ok, n, e1, e2, _, k3, hon⟩ := both_clash HA.out hB
  subst e2
  injection e1 with e1
  injection e1 with e1
  simp only [List.toArray_inj, Array.mk.injEq, List.cons.injEq, and_true, Value.bool.injEq, Value.int.injEq, true_and] at e1
  obtain ⟨rfl, rfl⟩ := e1
  have HQ3 := hide (HQ2.out.bel k3)
  clear k3 HA hB
  rcases hon with ⟨rfl, rfl⟩ | ⟨rfl, rfl⟩
  · cases v0
    · go_wp2_with fail
      go_ret
      exact ⟨rfl, HQ3.out.b⟩
    · go_wp2_with fail
      go_ret
      exact ⟨rfl, HQ3.out.b⟩
  · cases v0
    · go_wp2_with fail
      go_ret
      exact ⟨rfl, HQ3.out.b⟩
    · go_wp2_with fail
      go_ret
      exact ⟨rfl, HQ3.out.b⟩
end Go.Proofs.Ytjgaaofpfepfhaa
