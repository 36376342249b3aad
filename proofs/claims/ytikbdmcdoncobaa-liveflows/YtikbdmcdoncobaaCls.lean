/-
  The program's Clash.
-/
import Derived.Test.YtikbdmcdoncobaaClh
import Derived.Test.YtikbdmcdoncobaaGvn
namespace Go.Proofs.Ytikbdmcdoncobaa
open Go.RowKit
set_option linter.unusedSimpArgs false
set_option linter.unusedVariables false
/-- What Clash brings, where it brings something. -/
def cls (d : Cd) (l : List Ir) (A F : Nat → Nat) (a b : Int) : Bool := giv d l.length A a b || (spo l F a b || spo l F b a)
def ClsEnds (d : Cd) (l : List Ir) (a b : Int) (w : World) (e : Ending) (w' : World) : Prop := ∃ (v : Bool) (n : Int), e = .returned (.tuple #[.bool v, .int .i64 n]) ∧ Below w.heap.size w w' ∧
  (((fitb d l = false ∨ isC a d.cells = false ∨ isC b d.cells = false) ∧ v = false ∧ n = 4) ∨
   ((fitb d l = true ∧ isC a d.cells = true ∧ isC b d.cells = true) ∧ n = 0 ∧ ((a = b ∧ v = false) ∨ (a ≠ b ∧ ∃ A F, Sol (sy l) A F ∧ v = cls d l A F a b))))
theorem isC_60 {d : Cd} {l : List Ir} {a : Int} (h : fitb d l = true) (k : isC a d.cells = true) : 0 ≤ a ∧ a < 60 := by
  unfold fitb at h
  simp only [Bool.and_eq_true, decide_eq_true_eq] at h
  unfold isC at k
  simp only [Bool.and_eq_true, decide_eq_true_eq] at k
  have := h.2.2.1
  omega
set_option maxRecDepth 100000 in
set_option maxHeartbeats 6400000 in
theorem clash_any (d : Cd) (q : Option Addr) (cap : Nat) (l : List Ir) (a b : Int) (w : World) (hl : l.length ≤ 1000) (hr : IR w.heap.size w q l) :
    Calls Try.prog 15 #[cv d q l.length cap, .int .i64 a, .int .i64 b] w (ClsEnds d l a b w) := by
  have HL := hide hl
  have HR := hide hr
  clear hl hr
  have B0 : FB d q l.length cap w.heap.size l w (w.alloc (.cells #[.int .i64 d.cells, .int .i64 d.params, .slice q l.length cap, .int .i64 d.labels] 24)) := ⟨bel_one _ _, by simp, heap_alloc_new _ _⟩
  obtain ⟨cs, ps, ls⟩ := d
  unfold cv
  simp only at B0 ⊢
  go_enter Try.func15, Try.ntmps15
  go_upto_region 1 with fail
  refine gw (motive := fun x => Code.wp _ _ _ _ x) (fun W => Hid (FB ⟨cs, ps, ls⟩ q l.length cap w.heap.size l w W)) B0 ?_
  rintro W HW
  clear B0
  obtain ⟨c0, c1, c2, c3⟩ := HW.out.cells (Below.refl _ W) HW.out.lt
  simp only at c0 c1 c2 c3
  have hqW := HW.out.lt
  have FA := hide (fits_any ⟨cs, ps, ls⟩ q cap l W HL.out ((HR.out.bel HW.out.b).up HW.out.b.size))
  have IA := hide (fun U => isc_any a cs U)
  have IB := hide (fun U => isc_any b cs U)
  unfold cv at FA
  go_wp2_with fail
  refine FA.out.mono ?_
  rintro e W1 ⟨rfl, hb1⟩
  clear FA
  have HB1 := hide hb1
  have HBB := hide (HW.out.b.trans (hb1.mono HW.out.b.size))
  clear hb1
  obtain ⟨c0, c1, c2, c3⟩ := HW.out.cells HB1.out hqW
  simp only at c0 c1 c2 c3
  cases hf : fitb ⟨cs, ps, ls⟩ l
  · have HF := hide hf
    clear hf
    go_wp2_with fail
    refine bodyPost_ret (results_tmp2 rfl _ _ _) rfl ?_
    exact ⟨false, 4, rfl, HBB.out, Or.inl ⟨Or.inl HF.out, rfl, rfl⟩⟩
  have HF := hide hf
  clear hf
  go_wp2_with fail
  refine (IA.out _).mono ?_
  rintro e W1' ⟨rfl, rfl⟩
  cases ha : isC a cs
  · have HA := hide ha
    clear ha
    go_wp2_with fail
    refine bodyPost_ret (results_tmp2 rfl _ _ _) rfl ?_
    exact ⟨false, 4, rfl, HBB.out, Or.inl ⟨Or.inr (Or.inl HA.out), rfl, rfl⟩⟩
  have HA := hide ha
  clear ha
  go_wp2_with fail
  refine (IB.out _).mono ?_
  rintro e W1'' ⟨rfl, rfl⟩
  cases hb : isC b cs
  · have HB := hide hb
    clear hb
    go_wp2_with fail
    refine bodyPost_ret (results_tmp2 rfl _ _ _) rfl ?_
    exact ⟨false, 4, rfl, HBB.out, Or.inl ⟨Or.inr (Or.inr HB.out), rfl, rfl⟩⟩
  have HB := hide hb
  clear hb
  by_cases hab : a = b
  · go_wp2_with fail
    refine bodyPost_ret (results_tmp2 rfl _ _ _) rfl ?_
    exact ⟨false, 0, rfl, HBB.out, Or.inr ⟨⟨HF.out, HA.out, HB.out⟩, rfl, Or.inl ⟨hab, rfl⟩⟩⟩
  have WA := hide (walked_any q cap l W1'' HL.out ((HR.out.bel HBB.out).up HBB.out.size) (fitb_ok HF.out))
  go_wp2_with fail
  refine WA.out.mono ?_
  rintro e W2 ⟨ra, rb, A, F, rfl, h1, h2, h3, h4, h5, h6⟩
  clear WA
  have HBC := hide (HBB.out.trans (h6.mono HBB.out.size))
  obtain ⟨c0, c1, c2, c3⟩ := HW.out.cells (HB1.out.trans (h6.mono HB1.out.size)) hqW
  simp only at c0 c1 c2 c3
  have HSo := hide h5
  have HAr := hide h3
  have HFr := hide h4
  have HB12 := hide h6
  clear h3 h4 h5 h6
  have hA60 := isC_60 HF.out HA.out
  have hB60 := isC_60 HF.out HB.out
  have GA := hide (given_any ⟨cs, ps, ls⟩ q cap l.length ra A a b W2 HL.out hA60 hB60 HAr.out HSo.out.la)
  unfold cv at GA
  go_wp2_with fail
  refine GA.out.mono ?_
  rintro e W3 ⟨rfl, k3⟩
  clear GA
  have HB3 := hide (HBC.out.trans (k3.mono HBC.out.size))
  obtain ⟨c0, c1, c2, c3⟩ := HW.out.cells ((HB1.out.trans (HB12.out.mono HB1.out.size)).trans (k3.mono (Nat.le_trans HB1.out.size HB12.out.size))) hqW
  simp only at c0 c1 c2 c3
  have HF3 := hide (HFr.out.of (k3.block _ HFr.out.lt))
  have HK3 := hide ((HB1.out.trans (HB12.out.mono HB1.out.size)).trans (k3.mono (Nat.le_trans HB1.out.size HB12.out.size)))
  clear k3
  cases hg : giv ⟨cs, ps, ls⟩ l.length A a b
  · have HG := hide hg
    clear hg
    have SA := hide (spoilt_any q cap l rb F a b W3 HL.out ((HR.out.bel HB3.out).up HB3.out.size) hA60 HF3.out HSo.out.lf)
    go_wp2_with fail
    refine SA.out.mono ?_
    rintro e W4 ⟨rfl, k4⟩
    clear SA
    have HB4 := hide (HB3.out.trans (k4.mono HB3.out.size))
    have HF4 := hide (HF3.out.of (k4.block _ HF3.out.lt))
    obtain ⟨c0, c1, c2, c3⟩ := HW.out.cells (HK3.out.trans (k4.mono HK3.out.size)) hqW
    simp only at c0 c1 c2 c3
    clear k4
    cases hs : spo l F a b
    · have HS := hide hs
      clear hs
      have SB := hide (spoilt_any q cap l rb F b a W4 HL.out ((HR.out.bel HB4.out).up HB4.out.size) hB60 HF4.out HSo.out.lf)
      go_wp2_with fail
      refine SB.out.mono ?_
      rintro e W5 ⟨rfl, k5⟩
      clear SB
      have HB5 := hide (HB4.out.trans (k5.mono HB4.out.size))
      clear k5
      go_wp2_with fail
      refine bodyPost_ret (results_tmp2 rfl _ _ _) rfl ?_
      exact ⟨spo l F b a, 0, rfl, HB5.out, Or.inr ⟨⟨HF.out, HA.out, HB.out⟩, rfl, Or.inr ⟨hab, A, F, HSo.out, by unfold cls; rw [HG.out, HS.out]; simp⟩⟩⟩
    · have HS := hide hs
      clear hs
      go_wp2_with fail
      refine bodyPost_ret (results_tmp2 rfl _ _ _) rfl ?_
      exact ⟨true, 0, rfl, HB4.out, Or.inr ⟨⟨HF.out, HA.out, HB.out⟩, rfl, Or.inr ⟨hab, A, F, HSo.out, by unfold cls; rw [HG.out, HS.out]; simp⟩⟩⟩
  · have HG := hide hg
    clear hg
    go_wp2_with fail
    refine bodyPost_ret (results_tmp2 rfl _ _ _) rfl ?_
    exact ⟨true, 0, rfl, HB3.out, Or.inr ⟨⟨HF.out, HA.out, HB.out⟩, rfl, Or.inr ⟨hab, A, F, HSo.out, by unfold cls; rw [HG.out]; simp⟩⟩⟩
end Go.Proofs.Ytikbdmcdoncobaa
