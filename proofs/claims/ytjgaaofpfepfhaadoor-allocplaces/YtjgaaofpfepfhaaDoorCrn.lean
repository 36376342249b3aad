/-
  The program's Crosses and Named.
-/
import Derived.Test.YtjgaaofpfepfhaaDoorAlo
namespace Go.Proofs.YtjgaaofpfepfhaaDoor
open Go.RowKit
set_option linter.unusedSimpArgs false
set_option linter.unusedVariables false
def CrEnds (d : Cd) (l : List Ir) (w : World) (e : Ending) (w' : World) : Prop :=
  (fitb d l = false ∧ e = .returned (.tuple #[.int .i64 0, .int .i64 4]) ∧ Below w.heap.size w w') ∨
  (fitb d l = true ∧ ∃ (A F : Nat → Nat), e = .returned (.tuple #[.int .i64 ((crT l F l.length : Nat) : Int), .int .i64 0]) ∧ Sol (sy l) A F ∧ Below w.heap.size w w')
def NmEnds (d : Cd) (l : List Ir) (w : World) (e : Ending) (w' : World) : Prop :=
  (fitb d l = false ∧ e = .returned (.tuple #[.int .i64 0, .int .i64 4]) ∧ Below w.heap.size w w') ∨
  (fitb d l = true ∧ ∃ m : Nat, d.params = (m : Int) ∧ e = .returned (.tuple #[.int .i64 ((nmT l m l.length : Nat) : Int), .int .i64 0]) ∧ Below w.heap.size w w')
set_option maxRecDepth 100000 in
set_option maxHeartbeats 6400000 in
theorem crosses_any (d : Cd) (q : Option Addr) (cap : Nat) (l : List Ir) (w : World) (hl : l.length ≤ 1000) (hr : IR w.heap.size w q l) :
    Calls Tryd.prog 10 #[cv d q l.length cap] w (CrEnds d l w) := by
  have HL := hide hl
  have HR := hide hr
  clear hl hr
  have B0 : FB d q l.length cap w.heap.size l w (w.alloc (.cells #[.int .i64 d.cells, .int .i64 d.params, .slice q l.length cap, .int .i64 d.labels] 24)) := ⟨bel_one _ _, by simp, heap_alloc_new _ _⟩
  obtain ⟨cs, ps, ls⟩ := d
  unfold cv
  simp only at B0 ⊢
  go_enter Tryd.func10, Tryd.ntmps10
  go_upto_region 1 with fail
  refine gw (motive := fun x => Code.wp _ _ _ _ x) (fun W => Hid (FB ⟨cs, ps, ls⟩ q l.length cap w.heap.size l w W)) B0 ?_
  rintro W HW
  clear B0
  obtain ⟨c0, c1, c2, c3⟩ := HW.out.cells (Below.refl _ W) HW.out.lt
  simp only at c0 c1 c2 c3
  have hqW := HW.out.lt
  have FA := hide (after_any ⟨cs, ps, ls⟩ q cap l W HL.out ((HR.out.bel HW.out.b).up HW.out.b.size))
  unfold cv at FA
  go_wp2_with fail
  refine FA.out.mono ?_
  clear FA
  rintro e W1 (⟨hf, rfl, k2⟩ | ⟨hf, r1, A, F, rfl, g1, n1, s1, k2⟩)
  · have HF := hide hf
    have HB := hide (HW.out.b.trans (k2.mono HW.out.b.size))
    clear hf k2 c0 c1 c2 c3
    go_wp2_with fail
    refine bodyPost_ret (results_tmp2 rfl _ _ _) rfl ?_
    exact Or.inl ⟨HF.out, rfl, HB.out⟩
  · have HF := hide hf
    have HB := hide (HW.out.b.trans (k2.mono HW.out.b.size))
    obtain ⟨c0, c1, c2, c3⟩ := HW.out.cells k2 hqW
    simp only at c0 c1 c2 c3
    have HS := hide s1
    have n1 : NRow r1 l.length F W1 := n1
    have CA := hide (crossing_any q cap l r1 l.length F W1 HL.out ((HR.out.bel HB.out).up HB.out.size) (fitb_ok HF.out) n1 HS.out.lf)
    clear hf k2 n1 s1
    go_wp2_with fail
    refine CA.out.mono ?_
    rintro e W2 ⟨rfl, k2⟩
    have HB2 := hide (HB.out.trans (k2.mono HB.out.size))
    clear CA k2 c0 c1 c2 c3
    go_wp2_with fail
    refine bodyPost_ret (results_tmp2 rfl _ _ _) rfl ?_
    exact Or.inr ⟨HF.out, A, F, rfl, HS.out, HB2.out⟩
set_option maxRecDepth 100000 in
set_option maxHeartbeats 6400000 in
theorem nam_any (d : Cd) (q : Option Addr) (cap : Nat) (l : List Ir) (w : World) (hl : l.length ≤ 1000) (hr : IR w.heap.size w q l) :
    Calls Tryd.prog 12 #[cv d q l.length cap] w (NmEnds d l w) := by
  have HL := hide hl
  have HR := hide hr
  clear hl hr
  have B0 : FB d q l.length cap w.heap.size l w (w.alloc (.cells #[.int .i64 d.cells, .int .i64 d.params, .slice q l.length cap, .int .i64 d.labels] 24)) := ⟨bel_one _ _, by simp, heap_alloc_new _ _⟩
  obtain ⟨cs, ps, ls⟩ := d
  unfold cv
  simp only at B0 ⊢
  go_enter Tryd.func12, Tryd.ntmps12
  go_upto_region 1 with fail
  refine gw (motive := fun x => Code.wp _ _ _ _ x) (fun W => Hid (FB ⟨cs, ps, ls⟩ q l.length cap w.heap.size l w W)) B0 ?_
  rintro W HW
  clear B0
  obtain ⟨c0, c1, c2, c3⟩ := HW.out.cells (Below.refl _ W) HW.out.lt
  simp only at c0 c1 c2 c3
  have hqW := HW.out.lt
  have FA := hide (fits_any ⟨cs, ps, ls⟩ q cap l W HL.out ((HR.out.bel HW.out.b).up HW.out.b.size))
  unfold cv at FA
  go_wp2_with fail
  refine FA.out.mono ?_
  clear FA
  rintro e W1 ⟨rfl, k2⟩
  have HB := hide (HW.out.b.trans (k2.mono HW.out.b.size))
  obtain ⟨c0, c1, c2, c3⟩ := HW.out.cells k2 hqW
  simp only at c0 c1 c2 c3
  clear k2
  cases hf : fitb ⟨cs, ps, ls⟩ l
  · have HF := hide hf
    clear hf c0 c1 c2 c3
    go_wp2_with fail
    refine bodyPost_ret (results_tmp2 rfl _ _ _) rfl ?_
    exact Or.inl ⟨HF.out, rfl, HB.out⟩
  · have HF := hide hf
    clear hf
    have FP := fit_parts HF.out
    simp only at FP
    obtain ⟨m, hm⟩ : ∃ m : Nat, ps = (m : Int) := ⟨ps.toNat, by omega⟩
    subst hm
    have NA := hide (named_any ⟨cs, (m : Int), ls⟩ q cap l m W1 HL.out ((HR.out.bel HB.out).up HB.out.size) (fitb_ok HF.out) rfl (by omega))
    unfold cv at NA
    clear FP
    go_wp2_with fail
    refine NA.out.mono ?_
    rintro e W2 ⟨rfl, k2⟩
    have HB2 := hide (HB.out.trans (k2.mono HB.out.size))
    clear NA k2 c0 c1 c2 c3
    go_wp2_with fail
    refine bodyPost_ret (results_tmp2 rfl _ _ _) rfl ?_
    exact Or.inr ⟨HF.out, m, rfl, rfl, HB2.out⟩
end Go.Proofs.YtjgaaofpfepfhaaDoor
