/-
  The program's Next, asked of a code.
-/
import Derived.Test.YtjgaaofpfepfhaaAft
namespace Go.Proofs.Ytjgaaofpfepfhaa
open Go.RowKit
set_option linter.unusedSimpArgs false
set_option linter.unusedVariables false
set_option maxRecDepth 100000 in
set_option maxHeartbeats 6400000 in
theorem ask_next (d : Cd) (a : Option Addr) (cap : Nat) (l : List Ir) (i : Nat) (w : World) (hl : l.length ≤ 1000) (hi : i < l.length) (hr : IR w.heap.size w a l) :
    Calls Try.prog 11 #[cv d a l.length cap, .int .i64 (i : Int)] w fun e w' => ∃ v, e = .returned v ∧ Nv w.heap.size v (nxt l i) w' ∧ Below w.heap.size w w' := by
  have HL := hide hl
  have HR := hide hr
  have hi0 : (0 : Int) ≤ (i : Int) := by omega
  have hi1 : (i : Int) < (l.length : Int) := by omega
  have B0 : FB d a l.length cap w.heap.size l w (w.alloc (.cells #[.int .i64 d.cells, .int .i64 d.params, .slice a l.length cap, .int .i64 d.labels] 24)) := ⟨bel_one _ _, by simp, heap_alloc_new _ _⟩
  clear hl hr
  obtain ⟨cs, ps, ls⟩ := d
  unfold cv
  simp only at B0 ⊢
  go_enter Try.func11, Try.ntmps11
  go_upto_region 1 with fail
  refine gw (motive := fun x => Code.wp _ _ _ _ x) (fun W => Hid (FB ⟨cs, ps, ls⟩ a l.length cap w.heap.size l w W)) B0 ?_
  rintro W HW
  clear B0
  obtain ⟨c0, c1, c2, c3⟩ := HW.out.cells (Below.refl _ W) HW.out.lt
  simp only at c0 c1 c2 c3
  go_wp2_with fail
  have hqW := HW.out.lt
  have LA := hide (labels_any a cap l HL.out W.drew (((HR.out.bel HW.out.b).up HW.out.b.size).bel (bel_drew W)))
  refine wp_region_held_drew (S := fun X => X.cell? ⟨w.heap.size, 2, none⟩ = some (.slice a l.length cap)) (by kernel_rfl) c2 ?_
  intro hHeld
  change wpAnyH _ _ _ _ _ _ _ _ (World.drew _)
  refine wpAnyH_take (i := 0) (v := ?_) rfl (by kernel_rfl) (by kernel_rfl) (by kernel_rfl) (fun _ _ _ h => h) (Or.inl ⟨by kernel_rfl, ?hy⟩) (by assumption) ?_
  case hy => intro w hSw; (try dsimp only at hSw); go_simp; try with_reducible rfl
  simp only [Act.put, List.setIfInBounds_toArray, List.set_cons_zero, List.set_cons_succ]
  refine wpAnyH_take (i := 1) (v := ?_) rfl (by kernel_rfl) (by kernel_rfl) (by kernel_rfl) (fun _ _ _ h => h) (Or.inl ⟨by kernel_rfl, ?hy⟩) (by assumption) ?_
  case hy => intro w hSw; (try dsimp only at hSw); go_simp; try with_reducible rfl
  simp only [Act.put, List.setIfInBounds_toArray, List.set_cons_zero, List.set_cons_succ]
  refine wpAnyH_take (i := 2) (v := ?_) rfl (by kernel_rfl) (by kernel_rfl) (by kernel_rfl) (fun _ _ _ h => h) (Or.inl ⟨by kernel_rfl, ?hy⟩) (by assumption) ?_
  case hy => intro w hSw; (try dsimp only at hSw); go_simp; try with_reducible rfl
  simp only [Act.put, List.setIfInBounds_toArray, List.set_cons_zero, List.set_cons_succ]
  refine wpAnyH_take (i := 3) (v := ?_) rfl (by kernel_rfl) (by kernel_rfl) (by kernel_rfl) (fun _ _ _ h => h) (Or.inl ⟨by kernel_rfl, ?hy⟩) (by assumption) ?_
  case hy => intro w hSw; (try dsimp only at hSw); go_simp; try with_reducible rfl
  simp only [Act.put, List.setIfInBounds_toArray, List.set_cons_zero, List.set_cons_succ]
  refine wpAnyH_take (i := 5) (v := ?_) rfl (by kernel_rfl) (by kernel_rfl) (by kernel_rfl) (fun _ _ _ h => h) (Or.inl ⟨by kernel_rfl, ?hy⟩) (by assumption) ?_
  case hy => intro w hSw; (try dsimp only at hSw); go_simp; try with_reducible rfl
  simp only [Act.put, List.setIfInBounds_toArray, List.set_cons_zero, List.set_cons_succ]
  refine wpAnyH_ready (rs := [4]) (by kernel_rfl) (by simp) ?_
  refine AllReadyH.cons rfl (fun K hK => ?_) AllReadyH.nil
  go_simp
  refine LA.out.mono ?_
  rintro e W1 ⟨rfl, hm, hb⟩
  have hb2 : Below W.heap.size W W1 := (bel_drew W).trans hb
  have hbb : Below w.heap.size w W1 := HW.out.b.trans (hb2.mono HW.out.b.size)
  have NX := hide (next_any a cap W.heap.size l i W1 HL.out hi ((HR.out.bel hbb).up hbb.size) hm (World.ownsMap.lt hm))
  refine hK.out _ _ (HW.out.cells hb2 hqW).2.2.1 (fun hHeld => ?_)
  clear hK K LA
  refine wpAnyH_ready (rs := [6]) (by kernel_rfl) (by simp) ?_
  refine AllReadyH.cons rfl (fun K hK => ?_) AllReadyH.nil
  go_simp
  refine NX.out.mono ?_
  rintro e W2 ⟨v, rfl, hv, hb3⟩
  have hb4 : Below w.heap.size w W2 := hbb.trans (hb3.mono hbb.size)
  refine hK.out _ _ (HW.out.cells (hb2.trans (hb3.mono hb2.size)) hqW).2.2.1 (fun hHeld => ?_)
  clear hK K NX
  refine wpAnyH_ready (rs := [7]) (by kernel_rfl) (by simp) ?_
  refine AllReadyH.cons rfl (fun K hK => ?_) AllReadyH.nil
  go_simp
  refine hK.out _ _ hHeld (fun hHeld => ?_)
  clear hK K
  refine wpAnyH_done (by kernel_rfl) ?_ _
  have HV := hide (And.intro (hv.mono hbb.size) hb4)
  clear hv hb4 hb3 hb2 hbb hm hb
  go_wp2_with fail
  go_ret
  exact ⟨v, rfl, HV.out.1, HV.out.2⟩
end Go.Proofs.Ytjgaaofpfepfhaa
