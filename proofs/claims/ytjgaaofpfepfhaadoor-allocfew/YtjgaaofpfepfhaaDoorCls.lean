/-
  The program's Clash.
-/
import Derived.Test.YtjgaaofpfepfhaaDoorStw
namespace Go.Proofs.YtjgaaofpfepfhaaDoor
open Go.RowKit
set_option linter.unusedSimpArgs false
set_option linter.unusedVariables false
def ClsEnds (d : Cd) (l : List Ir) (a b : Int) (w : World) (e : Ending) (w' : World) : Prop := ∃ (v : Bool) (n : Int), e = .returned (.tuple #[.bool v, .int .i64 n]) ∧ Below w.heap.size w w' ∧
  (((fitb d l = false ∨ isC a d.cells = false ∨ isC b d.cells = false) ∧ v = false ∧ n = 4) ∨
   ((fitb d l = true ∧ isC a d.cells = true ∧ isC b d.cells = true) ∧ n = 0 ∧ ((a = b ∧ v = false) ∨ (a ≠ b ∧ ∃ A F, Sol (sy l) A F ∧ v = cls d l A F a b))))
theorem isC_60 {d : Cd} {l : List Ir} {a : Int} (h : fitb d l = true) (k : isC a d.cells = true) : 0 ≤ a ∧ a < 60 := by
  unfold fitb at h
  simp only [Bool.and_eq_true, decide_eq_true_eq] at h
  unfold isC at k
  simp only [Bool.and_eq_true, decide_eq_true_eq] at k
  have := h.2.2.1
  omega
theorem bne_nat (s : Nat) : ((s : Int) != 0) = decide (s ≠ 0) := by
  rw [Bool.eq_iff_iff, bne_iff_ne, decide_eq_true_eq]; omega
set_option maxRecDepth 100000 in
set_option maxHeartbeats 6400000 in
theorem clash_any (d : Cd) (q : Option Addr) (cap : Nat) (l : List Ir) (a b : Int) (w : World) (hl : l.length ≤ 1000) (hr : IR w.heap.size w q l) :
    Calls Tryd.prog 17 #[cv d q l.length cap, .int .i64 a, .int .i64 b] w (ClsEnds d l a b w) := by
  have HL := hide hl
  have HR := hide hr
  clear hl hr
  have B0 : FB d q l.length cap w.heap.size l w (w.alloc (.cells #[.int .i64 d.cells, .int .i64 d.params, .slice q l.length cap, .int .i64 d.labels] 24)) := ⟨bel_one _ _, by simp, heap_alloc_new _ _⟩
  obtain ⟨cs, ps, ls⟩ := d
  unfold cv
  simp only at B0 ⊢
  go_enter Tryd.func17, Tryd.ntmps17
  go_upto_region 1 with fail
  refine gw (motive := fun x => Code.wp _ _ _ _ x) (fun W => Hid (FB ⟨cs, ps, ls⟩ q l.length cap w.heap.size l w W)) B0 ?_
  rintro W HW
  clear B0
  obtain ⟨c0, c1, c2, c3⟩ := HW.out.cells (Below.refl _ W) HW.out.lt
  simp only at c0 c1 c2 c3
  have hqW := HW.out.lt
  have FA := hide (fits_any ⟨cs, ps, ls⟩ q cap l W HL.out ((HR.out.bel HW.out.b).up HW.out.b.size))
  have IA := hide (fun U => isc_any a cs U)
  have IB := hide (fun U => isc_any b cs U)
  unfold cv at FA
  go_wp2_with fail
  refine FA.out.mono ?_
  rintro e W1 ⟨rfl, hb1⟩
  clear FA
  have HB1 := hide hb1
  have HBB := hide (HW.out.b.trans (hb1.mono HW.out.b.size))
  clear hb1
  obtain ⟨c0, c1, c2, c3⟩ := HW.out.cells HB1.out hqW
  simp only at c0 c1 c2 c3
  cases hf : fitb ⟨cs, ps, ls⟩ l
  · have HF := hide hf
    clear hf
    go_wp2_with fail
    refine bodyPost_ret (results_tmp2 rfl _ _ _) rfl ?_
    exact ⟨false, 4, rfl, HBB.out, Or.inl ⟨Or.inl HF.out, rfl, rfl⟩⟩
  have HF := hide hf
  clear hf
  go_wp2_with fail
  refine (IA.out _).mono ?_
  rintro e W1' ⟨rfl, rfl⟩
  cases ha : isC a cs
  · have HA := hide ha
    clear ha
    go_wp2_with fail
    refine bodyPost_ret (results_tmp2 rfl _ _ _) rfl ?_
    exact ⟨false, 4, rfl, HBB.out, Or.inl ⟨Or.inr (Or.inl HA.out), rfl, rfl⟩⟩
  have HA := hide ha
  clear ha
  go_wp2_with fail
  refine (IB.out _).mono ?_
  rintro e W1'' ⟨rfl, rfl⟩
  cases hb : isC b cs
  · have HB := hide hb
    clear hb
    go_wp2_with fail
    refine bodyPost_ret (results_tmp2 rfl _ _ _) rfl ?_
    exact ⟨false, 4, rfl, HBB.out, Or.inl ⟨Or.inr (Or.inr HB.out), rfl, rfl⟩⟩
  have HB := hide hb
  clear hb
  have WA := hide (walked_any q cap l W1'' HL.out ((HR.out.bel HBB.out).up HBB.out.size) (fitb_ok HF.out))
  go_wp2_with fail
  refine WA.out.mono ?_
  rintro e W2 ⟨ra, rb, A, F, rfl, h1, h2, h3, h4, h5, h6⟩
  clear WA
  have HBC := hide (HBB.out.trans (h6.mono HBB.out.size))
  obtain ⟨c0, c1, c2, c3⟩ := HW.out.cells (HB1.out.trans (h6.mono HB1.out.size)) hqW
  simp only at c0 c1 c2 c3
  have HSo := hide h5
  have hA60 := isC_60 HF.out HA.out
  have hB60 := isC_60 HF.out HB.out
  have hAC := isc_iff.1 HA.out
  have hBC := isc_iff.1 HB.out
  have FP := fit_parts HF.out
  simp only at FP hAC hBC
  obtain ⟨n, hn⟩ : ∃ n : Nat, cs = (n : Int) := ⟨cs.toNat, by omega⟩
  obtain ⟨m, hm⟩ : ∃ m : Nat, ps = (m : Int) := ⟨ps.toNat, by omega⟩
  obtain ⟨i, hi⟩ : ∃ i : Nat, a = (i : Int) := ⟨a.toNat, by omega⟩
  obtain ⟨j, hj⟩ : ∃ j : Nat, b = (j : Int) := ⟨b.toNat, by omega⟩
  have SA := hide (sets_any ⟨cs, ps, ls⟩ q cap l ra rb n m A F W2.drew HL.out ((HR.out.bel HBC.out.drew).up HBC.out.size) HF.out hn hm (h3.of rfl) (h4.of rfl) h5.la h5.lf)
  have CB := hide (fun U => cell_any b U hB60.1 hB60.2)
  have hin : i < n := by omega
  have hjn : j < n := by omega
  have ST := hide (st_cls (d := ⟨cs, ps, ls⟩) (l := l) (A := A) (F := F) (n := n) (m := m) (i := i) (j := j) hm hin hjn)
  subst hn hm hi hj
  unfold cv at SA
  simp only at SA
  clear h3 h4 h5 h6 h1 h2 FP hAC hBC IA IB
  go_wp2_with fail
  go_region_with (first
    | (go_at_call 20; refine SA.out.mono ?_; rintro e w3 ⟨r, rfl, hr0, hM, hb⟩; obtain ⟨S, q1, q2, q3⟩ := hM.ex; have hx := q1.c i hin; have hbits := bits_and (q2 i hin) (one_lim (n := (j : Int)) hB60.2); have hq3 := (q3 i hin j).trans ST.out)
    | (go_at_call 36; refine (CB.out _).mono ?_; rintro e w4 ⟨rfl, rfl⟩))
  all_goals
    have HBE := hide (HBC.out.trans ((bel_drew W2).trans hb |>.mono HBC.out.size))
    have AO := and_one (S i) j
    rw [hq3] at AO
    go_wp2_with fail
    simp only [Act.put, List.getElem_toArray, List.getElem_cons_succ, List.getElem_cons_zero, List.setIfInBounds_toArray, List.set_cons_zero, List.set_cons_succ]
    refine bodyPost_ret (results_tmp2 rfl _ _ _) rfl ?_
    refine ⟨decide (S i &&& one (j : Int) ≠ 0), 0, congrArg (fun z => Ending.returned (.tuple #[.bool z, .int .i64 0])) (bne_nat _), HBE.out, Or.inr ⟨⟨HF.out, HA.out, HB.out⟩, rfl, ?_⟩⟩
    rw [AO]
    by_cases e : i = j
    · exact Or.inl ⟨by rw [e], by simp [e]⟩
    · exact Or.inr ⟨by omega, A, F, HSo.out, by simp [e]⟩
end Go.Proofs.YtjgaaofpfepfhaaDoor
