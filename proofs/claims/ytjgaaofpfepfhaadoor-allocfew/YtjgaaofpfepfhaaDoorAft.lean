/-
  The program's After and Ahead.
-/
import Derived.Test.YtjgaaofpfepfhaaDoorWlk
import Derived.Test.YtjgaaofpfepfhaaDoorFits
namespace Go.Proofs.YtjgaaofpfepfhaaDoor
open Go.RowKit
set_option linter.unusedSimpArgs false
set_option linter.unusedVariables false
theorem fitb_ok {d : Cd} {l : List Ir} (h : fitb d l = true) : Ok60 l := by
  unfold fitb at h
  simp only [Bool.and_eq_true, decide_eq_true_eq] at h
  refine fit_60 (d := d.cells) h.2.2.1 fun x hx => ?_
  have := List.all_eq_true.1 h.2.2.2 x hx
  unfold okx at this
  rw [Bool.and_eq_true] at this
  exact this.1
/-- What After and Ahead bring. -/
def TwoEnds (d : Cd) (l : List Ir) (back : Bool) (w : World) (e : Ending) (w' : World) : Prop :=
  (fitb d l = false ∧ e = .returned (.tuple #[.slice none 0 0, .int .i64 4]) ∧ Below w.heap.size w w') ∨
  (fitb d l = true ∧ ∃ (r : Nat) (A F : Nat → Nat), e = .returned (.tuple #[.slice (some ⟨r, 0, none⟩) l.length l.length, .int .i64 0]) ∧ w.heap.size ≤ r ∧ NRow r l.length (if back then F else A) w' ∧ Sol (sy l) A F ∧ Below w.heap.size w w')
set_option maxRecDepth 100000 in
set_option maxHeartbeats 6400000 in
theorem after_any (d : Cd) (a : Option Addr) (cap : Nat) (l : List Ir) (w : World) (hl : l.length ≤ 1000) (hr : IR w.heap.size w a l) :
    Calls Tryd.prog 18 #[cv d a l.length cap] w (TwoEnds d l true w) := by
  have HL := hide hl
  have HR := hide hr
  have B0 : FB d a l.length cap w.heap.size l w (w.alloc (.cells #[.int .i64 d.cells, .int .i64 d.params, .slice a l.length cap, .int .i64 d.labels] 24)) := ⟨bel_one _ _, by simp, heap_alloc_new _ _⟩
  clear hl hr
  obtain ⟨cs, ps, ls⟩ := d
  unfold cv
  simp only at B0 ⊢
  go_enter Tryd.func18, Tryd.ntmps18
  go_upto_region 1 with fail
  refine gw (motive := fun x => Code.wp _ _ _ _ x) (fun W => Hid (FB ⟨cs, ps, ls⟩ a l.length cap w.heap.size l w W)) B0 ?_
  rintro W HW
  clear B0
  obtain ⟨c0, c1, c2, c3⟩ := HW.out.cells (Below.refl _ W) HW.out.lt
  simp only at c0 c1 c2 c3
  have FA := hide (fits_any ⟨cs, ps, ls⟩ a cap l W HL.out ((HR.out.bel HW.out.b).up HW.out.b.size))
  unfold cv at FA
  go_wp2_with fail
  refine FA.out.mono ?_
  rintro e W1 ⟨rfl, hb1⟩
  clear FA
  have HB1 := hide hb1
  clear hb1
  have hqW := HW.out.lt
  obtain ⟨c0, c1, c2, c3⟩ := HW.out.cells HB1.out hqW
  simp only at c0 c1 c2 c3
  have hbb : Below w.heap.size w W1 := HW.out.b.trans (HB1.out.mono HW.out.b.size)
  cases hf : fitb ⟨cs, ps, ls⟩ l
  · go_wp2_with fail
    refine bodyPost_ret (results_tmp2 rfl _ _ _) rfl ?_
    exact Or.inl ⟨hf, rfl, hbb⟩
  · have WA := hide (walked_any a cap l W1 HL.out ((HR.out.bel hbb).up hbb.size) (fitb_ok hf))
    have HBB := hide hbb
    have HF := hide hf
    clear hf hbb
    go_wp2_with fail
    refine WA.out.mono ?_
    rintro e W2 ⟨ra, rb, A, F, rfl, h1, h2, h3, h4, h5, h6⟩
    have HA := hide (And.intro h3 (And.intro h4 (And.intro h5 h6)))
    clear h3 h4 h5 h6 WA
    go_wp2_with fail
    refine bodyPost_ret (results_tmp2 rfl _ _ _) rfl ?_
    exact Or.inr ⟨HF.out, rb, A, F, rfl, by have := HBB.out.size; omega, HA.out.2.1, HA.out.2.2.1, HBB.out.trans (HA.out.2.2.2.mono HBB.out.size)⟩
set_option maxRecDepth 100000 in
set_option maxHeartbeats 6400000 in
theorem ahead_any (d : Cd) (a : Option Addr) (cap : Nat) (l : List Ir) (w : World) (hl : l.length ≤ 1000) (hr : IR w.heap.size w a l) :
    Calls Tryd.prog 19 #[cv d a l.length cap] w (TwoEnds d l false w) := by
  have HL := hide hl
  have HR := hide hr
  have B0 : FB d a l.length cap w.heap.size l w (w.alloc (.cells #[.int .i64 d.cells, .int .i64 d.params, .slice a l.length cap, .int .i64 d.labels] 24)) := ⟨bel_one _ _, by simp, heap_alloc_new _ _⟩
  clear hl hr
  obtain ⟨cs, ps, ls⟩ := d
  unfold cv
  simp only at B0 ⊢
  go_enter Tryd.func19, Tryd.ntmps19
  go_upto_region 1 with fail
  refine gw (motive := fun x => Code.wp _ _ _ _ x) (fun W => Hid (FB ⟨cs, ps, ls⟩ a l.length cap w.heap.size l w W)) B0 ?_
  rintro W HW
  clear B0
  obtain ⟨c0, c1, c2, c3⟩ := HW.out.cells (Below.refl _ W) HW.out.lt
  simp only at c0 c1 c2 c3
  have FA := hide (fits_any ⟨cs, ps, ls⟩ a cap l W HL.out ((HR.out.bel HW.out.b).up HW.out.b.size))
  unfold cv at FA
  go_wp2_with fail
  refine FA.out.mono ?_
  rintro e W1 ⟨rfl, hb1⟩
  clear FA
  have HB1 := hide hb1
  clear hb1
  have hqW := HW.out.lt
  obtain ⟨c0, c1, c2, c3⟩ := HW.out.cells HB1.out hqW
  simp only at c0 c1 c2 c3
  have hbb : Below w.heap.size w W1 := HW.out.b.trans (HB1.out.mono HW.out.b.size)
  cases hf : fitb ⟨cs, ps, ls⟩ l
  · go_wp2_with fail
    refine bodyPost_ret (results_tmp2 rfl _ _ _) rfl ?_
    exact Or.inl ⟨hf, rfl, hbb⟩
  · have WA := hide (walked_any a cap l W1 HL.out ((HR.out.bel hbb).up hbb.size) (fitb_ok hf))
    have HBB := hide hbb
    have HF := hide hf
    clear hf hbb
    go_wp2_with fail
    refine WA.out.mono ?_
    rintro e W2 ⟨ra, rb, A, F, rfl, h1, h2, h3, h4, h5, h6⟩
    have HA := hide (And.intro h3 (And.intro h4 (And.intro h5 h6)))
    clear h3 h4 h5 h6 WA
    go_wp2_with fail
    refine bodyPost_ret (results_tmp2 rfl _ _ _) rfl ?_
    exact Or.inr ⟨HF.out, ra, A, F, rfl, by have := HBB.out.size; omega, HA.out.1, HA.out.2.2.1, HBB.out.trans (HA.out.2.2.2.mono HBB.out.size)⟩
end Go.Proofs.YtjgaaofpfepfhaaDoor
