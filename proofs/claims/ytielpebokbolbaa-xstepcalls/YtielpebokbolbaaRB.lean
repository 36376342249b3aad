/-
  Merged: Rkf Rkg Rkh Dv Rk.
-/
import Derived.Test.YtielpebokbolbaaSM
import Derived.Test.YtielpebokbolbaaFIdiv
import Derived.Test.YtielpebokbolbaaRA
/-
  The worker's reckon: shifts.
-/
namespace Go.Proofs.Ytielpebokbolbaa
open Go.RowKit
open Xc (hide bel_one bel_tr bel_al bel_set Xi)
set_option linter.unusedSimpArgs false
set_option linter.unusedVariables false
theorem keepq7 {B q : Nat} {w : World} {k : Nat} {v a1 a2 a3 a5 : Value} (hne : ¬ q = B) (h : w.cell? ⟨q, 1, none⟩ = some a1 ∧ w.cell? ⟨q, 2, none⟩ = some a2 ∧ w.cell? ⟨q, 3, none⟩ = some a3 ∧ w.cell? ⟨q, 5, none⟩ = some a5) : (w.setCell ⟨B, k, none⟩ v).cell? ⟨q, 1, none⟩ = some a1 ∧ (w.setCell ⟨B, k, none⟩ v).cell? ⟨q, 2, none⟩ = some a2 ∧ (w.setCell ⟨B, k, none⟩ v).cell? ⟨q, 3, none⟩ = some a3 ∧ (w.setCell ⟨B, k, none⟩ v).cell? ⟨q, 5, none⟩ = some a5 := by
  have ne : ∀ a b : Nat, (⟨B, a, none⟩ : Addr) ≠ ⟨q, b, none⟩ := fun a b e => hne (by injection e with e1; exact e1.symm)
  rw [World.cell?_setCell_other _ _ _ _ (ne _ _), World.cell?_setCell_other _ _ _ _ (ne _ _), World.cell?_setCell_other _ _ _ _ (ne _ _), World.cell?_setCell_other _ _ _ _ (ne _ _)]; exact h
section
variable {base B : Nat} {ra oa : Option Addr} {rc : Nat} {ss : Nat → ByteArray} {os : Nat → Option (Nat × Nat)} {m : Mc} {w w' : World}
set_option maxRecDepth 100000 in
set_option maxHeartbeats 3200000 in
theorem reckon_7 (hJ : WJ base B ra oa rc ss os m w) (wd : Bool) (b : Nat) (r i c n : Int) (hb : b < 16) : Calls Try.prog 41 #[.pointer (some ⟨B, 0, none⟩), .agg #[.int .i64 7, .bool wd, .int .i64 r, .int .i64 b, .int .i64 i, .int .i64 c, .int .i64 n]] w (Does base B ra oa rc ss os (rck m ⟨7, wd, r, b, i, c, n⟩) w) := by
  have hB : B < w.heap.size := hJ.row.lt
  have HE : Hid (rck m ⟨7, wd, r, b, i, c, n⟩ = (m.sr (b : Int) (Fg.sR c wd (Fg.tr wd (m.rg (b : Int))) (Fg.far wd (m.rg 1)))).sf false false false false) := by first | rfl | (show _ = _; simp [rck])
  have HJ := hide hJ
  generalize rck m ⟨7, wd, r, b, i, c, n⟩ = M at *
  clear hJ
  go_enter Try.func41, Try.ntmps41
  go_wp2_with fail
  generalize hW : w.alloc _ = W
  have kW : Below w.heap.size w W := by rw [← hW]; exact bel_one _ _
  have hX : Xc.Bx w.heap.size ⟨7, wd, r, b, i, c, n⟩ W := by rw [← hW]; exact Xc.Bx.made _ _
  have JW := hide (HJ.out.bel kW)
  have HKW := hide (But.of (B := B) kW)
  obtain ⟨x0, x1, x2, x3, x4, x5, x6⟩ := hX.cells
  have hqW : w.heap.size < W.heap.size := hX.lt
  have hBW : B < W.heap.size := JW.out.row.lt
  have nq : W.heap.size ≠ w.heap.size := by omega
  have nB : W.heap.size ≠ B := by omega
  have nqB : ¬ w.heap.size = B := by omega
  have HX := hide hX
  clear hX kW hW HJ
  simp only at x0 x1 x2 x3 x4 x5 x6
  generalize w.heap.size = q at *
  have c_b := JW.out.rgc b hb
  have f_b := JW.out.fr b
  have b0 : (0 : Int) ≤ (b : Int) := by omega
  have b16 : (b : Int) < 16 := by omega
  have c_1 := JW.out.rgc 1 (by decide)
  have f_1 := JW.out.fr 1
  rw [show ((1 : Nat) : Int) = 1 from rfl] at c_1
  have A := hide (fun U => Fg.shift_any c wd (m.rg (b : Int)) (m.rg 1) U (i_rg JW.out.ok _))
  have IV := hide (i_sR c wd (Fg.tr wd (m.rg (b : Int))) (Fg.far wd (m.rg 1)))
  generalize m.rg 1 = v1 at *
  generalize m.rg (b : Int) = vb at *
  generalize Fg.sR c wd (Fg.tr wd vb) (Fg.far wd v1) = out at *
  refine wp_region_held_drew (S := (fun X => X.cell? ⟨q, 1, none⟩ = some (.bool wd) ∧ X.cell? ⟨q, 2, none⟩ = some (.int .i64 r) ∧ X.cell? ⟨q, 3, none⟩ = some (.int .i64 (b : Int)) ∧ X.cell? ⟨q, 5, none⟩ = some (.int .i64 c))) (by kernel_rfl) ⟨x1, x2, x3, x5⟩ ?_
  intro hHeld
  change wpAnyH _ _ _ _ _ _ _ _ (World.drew _)
  refine wpAnyH_take (i := 0) (v := ?_) rfl (by kernel_rfl) (by kernel_rfl) (by kernel_rfl) (fun _ _ _ h => h) (Or.inl ⟨by kernel_rfl, ?hy⟩) (by assumption) ?_
  case hy => intro w hSw; (try dsimp only at hSw); go_simp; try with_reducible rfl
  simp only [Act.put, List.setIfInBounds_toArray, List.set_cons_zero, List.set_cons_succ]
  refine wpAnyH_take (i := 1) (v := ?_) rfl (by kernel_rfl) (by kernel_rfl) (by kernel_rfl) (fun _ _ _ h => h) (Or.inl ⟨by kernel_rfl, ?hy⟩) (by assumption) ?_
  case hy => intro w hSw; (try dsimp only at hSw); go_simp; try with_reducible rfl
  simp only [Act.put, List.setIfInBounds_toArray, List.set_cons_zero, List.set_cons_succ]
  refine wpAnyH_take (i := 2) (v := ?_) rfl (by kernel_rfl) (by kernel_rfl) (by kernel_rfl) (fun _ _ _ h => h) (Or.inl ⟨by kernel_rfl, ?hy⟩) (by assumption) ?_
  case hy => intro w hSw; (try dsimp only at hSw); go_simp; try with_reducible rfl
  simp only [Act.put, List.setIfInBounds_toArray, List.set_cons_zero, List.set_cons_succ]
  refine wpAnyH_take (i := 3) (v := ?_) rfl (by kernel_rfl) (by kernel_rfl) (by kernel_rfl) (fun _ _ _ h => h) (Or.inl ⟨by kernel_rfl, ?hy⟩) (by assumption) ?_
  case hy => intro w hSw; (try dsimp only at hSw); go_simp; try with_reducible rfl
  simp only [Act.put, List.setIfInBounds_toArray, List.set_cons_zero, List.set_cons_succ]
  refine wpAnyH_take (i := 4) (v := ?_) rfl (by kernel_rfl) (by kernel_rfl) (by kernel_rfl) (fun _ _ _ h => h) (Or.inl ⟨by kernel_rfl, ?hy⟩) (by assumption) ?_
  case hy => intro w hSw; (try dsimp only at hSw); go_simp; try with_reducible rfl
  simp only [Act.put, List.setIfInBounds_toArray, List.set_cons_zero, List.set_cons_succ]
  refine wpAnyH_take (i := 5) (v := ?_) rfl (by kernel_rfl) (by kernel_rfl) (by kernel_rfl) (fun _ _ _ h => h) (Or.inl ⟨by kernel_rfl, ?hy⟩) (by assumption) ?_
  case hy => intro w hSw; (try dsimp only at hSw); go_simp; try with_reducible rfl
  simp only [Act.put, List.setIfInBounds_toArray, List.set_cons_zero, List.set_cons_succ]
  refine wpAnyH_take (i := 6) (v := ?_) rfl (by kernel_rfl) (by kernel_rfl) (by kernel_rfl) (fun _ _ _ h => h) (Or.inl ⟨by kernel_rfl, ?hy⟩) (by assumption) ?_
  case hy => intro w hSw; (try dsimp only at hSw); go_simp; try with_reducible rfl
  simp only [Act.put, List.setIfInBounds_toArray, List.set_cons_zero, List.set_cons_succ]
  refine wpAnyH_take (i := 7) (v := ?_) rfl (by kernel_rfl) (by kernel_rfl) (by kernel_rfl) (fun _ _ _ h => h) (Or.inl ⟨by kernel_rfl, ?hy⟩) (by assumption) ?_
  case hy => intro w hSw; (try dsimp only at hSw); go_simp; try with_reducible rfl
  simp only [Act.put, List.setIfInBounds_toArray, List.set_cons_zero, List.set_cons_succ]
  refine wpAnyH_take (i := 8) (v := ?_) rfl (by kernel_rfl) (by kernel_rfl) (by kernel_rfl) (fun _ _ _ h => h) (Or.inl ⟨by kernel_rfl, ?hy⟩) (by assumption) ?_
  case hy => intro w hSw; (try dsimp only at hSw); go_simp; try with_reducible rfl
  simp only [Act.put, List.setIfInBounds_toArray, List.set_cons_zero, List.set_cons_succ]
  refine wpAnyH_take (i := 9) (v := ?_) rfl (by kernel_rfl) (by kernel_rfl) (by kernel_rfl) (fun _ _ _ h => h) (Or.inl ⟨by kernel_rfl, ?hy⟩) (by assumption) ?_
  case hy => intro w hSw; (try dsimp only at hSw); go_simp; try with_reducible rfl
  simp only [Act.put, List.setIfInBounds_toArray, List.set_cons_zero, List.set_cons_succ]
  refine wpAnyH_take (i := 10) (v := ?_) rfl (by kernel_rfl) (by kernel_rfl) (by kernel_rfl) (fun _ _ _ h => h) (Or.inl ⟨by kernel_rfl, ?hy⟩) (by assumption) ?_
  case hy => intro w hSw; (try dsimp only at hSw); go_simp; try with_reducible rfl
  simp only [Act.put, List.setIfInBounds_toArray, List.set_cons_zero, List.set_cons_succ]
  refine wpAnyH_take (i := 11) (v := ?_) rfl (by kernel_rfl) (by kernel_rfl) (by kernel_rfl) (fun _ _ _ h => h) (Or.inl ⟨by kernel_rfl, ?hy⟩) (by assumption) ?_
  case hy => intro w hSw; (try dsimp only at hSw); go_simp; try with_reducible rfl
  simp only [Act.put, List.setIfInBounds_toArray, List.set_cons_zero, List.set_cons_succ]
  refine wpAnyH_take (i := 13) (v := ?_) rfl (by kernel_rfl) (by kernel_rfl) (by kernel_rfl) (fun _ _ _ h => h) (Or.inl ⟨by kernel_rfl, ?hy⟩) (by assumption) ?_
  case hy => intro w hSw; (try dsimp only at hSw); go_simp; try with_reducible rfl
  simp only [Act.put, List.setIfInBounds_toArray, List.set_cons_zero, List.set_cons_succ]
  refine wpAnyH_take (i := 14) (v := ?_) rfl (by kernel_rfl) (by kernel_rfl) (by kernel_rfl) (fun _ _ _ h => h) (Or.inl ⟨by kernel_rfl, ?hy⟩) (by assumption) ?_
  case hy => intro w hSw; (try dsimp only at hSw); go_simp; try with_reducible rfl
  simp only [Act.put, List.setIfInBounds_toArray, List.set_cons_zero, List.set_cons_succ]
  refine wpAnyH_take (i := 15) (v := ?_) rfl (by kernel_rfl) (by kernel_rfl) (by kernel_rfl) (fun _ _ _ h => h) (Or.inl ⟨by kernel_rfl, ?hy⟩) (by assumption) ?_
  case hy => intro w hSw; (try dsimp only at hSw); go_simp; try with_reducible rfl
  simp only [Act.put, List.setIfInBounds_toArray, List.set_cons_zero, List.set_cons_succ]
  refine wpAnyH_take (i := 21) (v := ?_) rfl (by kernel_rfl) (by kernel_rfl) (by kernel_rfl) (fun _ _ _ h => h) (Or.inl ⟨by kernel_rfl, ?hy⟩) (by assumption) ?_
  case hy => intro w hSw; (try dsimp only at hSw); go_simp; try with_reducible rfl
  simp only [Act.put, List.setIfInBounds_toArray, List.set_cons_zero, List.set_cons_succ]
  refine wpAnyH_ready (rs := [12, 16]) (by kernel_rfl) (by simp) ?_
  refine AllReadyH.cons rfl (fun K hK => ?_) (AllReadyH.cons rfl (fun K hK => ?_) AllReadyH.nil)
  · go_simp
    refine hK.out _ _ hHeld (fun hHeld => ?_)
    clear hK K
    refine wpAnyH_ready (rs := [16]) (by kernel_rfl) (by simp) ?_
    refine AllReadyH.cons rfl (fun K hK => ?_) AllReadyH.nil
    go_simp
    refine hK.out _ _ hHeld (fun hHeld => ?_)
    clear hK K
    refine wpAnyH_ready (rs := [17]) (by kernel_rfl) (by simp) ?_
    refine AllReadyH.cons rfl (fun K hK => ?_) AllReadyH.nil
    go_simp
    refine (A.out _).mono ?_
    rintro e w1 ⟨rfl, rfl⟩
    refine hK.out _ _ hHeld (fun hHeld => ?_)
    clear hK K
    refine wpAnyH_take (i := 18) (v := ?_) rfl (by kernel_rfl) (by kernel_rfl) (by kernel_rfl) (fun _ _ _ h => h) (Or.inl ⟨by kernel_rfl, ?hy⟩) (by assumption) ?_
    case hy => intro w hSw; (try dsimp only at hSw); go_simp; try with_reducible rfl
    simp only [Act.put, List.setIfInBounds_toArray, List.set_cons_zero, List.set_cons_succ]
    refine wpAnyH_take (i := 19) (v := ?_) rfl (by kernel_rfl) (by kernel_rfl) (by kernel_rfl) (fun _ _ _ h => h) (Or.inl ⟨by kernel_rfl, ?hy⟩) (by assumption) ?_
    case hy => intro w hSw; (try dsimp only at hSw); go_simp; try with_reducible rfl
    simp only [Act.put, List.setIfInBounds_toArray, List.set_cons_zero, List.set_cons_succ]
    refine wpAnyH_take (i := 20) (v := ?_) rfl (by kernel_rfl) (by kernel_rfl) (by kernel_rfl) (fun _ _ _ h => h) (Or.inl ⟨by kernel_rfl, ?hy⟩) (by assumption) ?_
    case hy => intro w hSw; (try dsimp only at hSw); go_simp; try with_reducible rfl
    simp only [Act.put, List.setIfInBounds_toArray, List.set_cons_zero, List.set_cons_succ]
    refine wpAnyH_take (i := 22) (v := ?_) rfl (by kernel_rfl) (by kernel_rfl) (by kernel_rfl) (fun _ _ _ h => h) (Or.inl ⟨by kernel_rfl, ?hy⟩) (by assumption) ?_
    case hy => intro w hSw; (try dsimp only at hSw); go_simp; try with_reducible rfl
    simp only [Act.put, List.setIfInBounds_toArray, List.set_cons_zero, List.set_cons_succ]
    refine wpAnyH_ready (rs := [23]) (by kernel_rfl) (by simp) ?_
    refine AllReadyH.cons rfl (fun K hK => ?_) AllReadyH.nil
    go_simp
    refine hK.out _ _ (keepq7 nqB hHeld) (fun hHeld => ?_)
    clear hK K
    refine wpAnyH_done (by kernel_rfl) ?_ _
    refine gw (motive := fun x => Exit.then _ _ Exit.normal _ x) (fun V => Hid (WJ base B ra oa rc ss os (m.sr (b : Int) out) V) ∧ Hid (But B w V)) ⟨(JW.out.bel (bel_d (Below.refl _ _))).setr b hb _ IV.out, HKW.out.d.set b _⟩ ?_
    rintro V ⟨JV, BV⟩
    have f16 := JV.out.fr 16
    have f17 := JV.out.fr 17
    have f18 := JV.out.fr 18
    have f19 := JV.out.fr 19
    have c16 := JV.out.cz
    have c17 := JV.out.cs
    have c18 := JV.out.cc
    have c19 := JV.out.co
    clear x0 x1 x2 x3 x4 x5 x6
    go_wp2_with fail
    go_end0
    rw [HE.out]
    exact ⟨rfl, JV.out.setf false false false false, but4 BV.out false false false false⟩
  · go_simp
    refine hK.out _ _ hHeld (fun hHeld => ?_)
    clear hK K
    refine wpAnyH_ready (rs := [12]) (by kernel_rfl) (by simp) ?_
    refine AllReadyH.cons rfl (fun K hK => ?_) AllReadyH.nil
    go_simp
    refine hK.out _ _ hHeld (fun hHeld => ?_)
    clear hK K
    refine wpAnyH_ready (rs := [17]) (by kernel_rfl) (by simp) ?_
    refine AllReadyH.cons rfl (fun K hK => ?_) AllReadyH.nil
    go_simp
    refine (A.out _).mono ?_
    rintro e w1 ⟨rfl, rfl⟩
    refine hK.out _ _ hHeld (fun hHeld => ?_)
    clear hK K
    refine wpAnyH_take (i := 18) (v := ?_) rfl (by kernel_rfl) (by kernel_rfl) (by kernel_rfl) (fun _ _ _ h => h) (Or.inl ⟨by kernel_rfl, ?hy⟩) (by assumption) ?_
    case hy => intro w hSw; (try dsimp only at hSw); go_simp; try with_reducible rfl
    simp only [Act.put, List.setIfInBounds_toArray, List.set_cons_zero, List.set_cons_succ]
    refine wpAnyH_take (i := 19) (v := ?_) rfl (by kernel_rfl) (by kernel_rfl) (by kernel_rfl) (fun _ _ _ h => h) (Or.inl ⟨by kernel_rfl, ?hy⟩) (by assumption) ?_
    case hy => intro w hSw; (try dsimp only at hSw); go_simp; try with_reducible rfl
    simp only [Act.put, List.setIfInBounds_toArray, List.set_cons_zero, List.set_cons_succ]
    refine wpAnyH_take (i := 20) (v := ?_) rfl (by kernel_rfl) (by kernel_rfl) (by kernel_rfl) (fun _ _ _ h => h) (Or.inl ⟨by kernel_rfl, ?hy⟩) (by assumption) ?_
    case hy => intro w hSw; (try dsimp only at hSw); go_simp; try with_reducible rfl
    simp only [Act.put, List.setIfInBounds_toArray, List.set_cons_zero, List.set_cons_succ]
    refine wpAnyH_take (i := 22) (v := ?_) rfl (by kernel_rfl) (by kernel_rfl) (by kernel_rfl) (fun _ _ _ h => h) (Or.inl ⟨by kernel_rfl, ?hy⟩) (by assumption) ?_
    case hy => intro w hSw; (try dsimp only at hSw); go_simp; try with_reducible rfl
    simp only [Act.put, List.setIfInBounds_toArray, List.set_cons_zero, List.set_cons_succ]
    refine wpAnyH_ready (rs := [23]) (by kernel_rfl) (by simp) ?_
    refine AllReadyH.cons rfl (fun K hK => ?_) AllReadyH.nil
    go_simp
    refine hK.out _ _ (keepq7 nqB hHeld) (fun hHeld => ?_)
    clear hK K
    refine wpAnyH_done (by kernel_rfl) ?_ _
    refine gw (motive := fun x => Exit.then _ _ Exit.normal _ x) (fun V => Hid (WJ base B ra oa rc ss os (m.sr (b : Int) out) V) ∧ Hid (But B w V)) ⟨(JW.out.bel (bel_d (Below.refl _ _))).setr b hb _ IV.out, HKW.out.d.set b _⟩ ?_
    rintro V ⟨JV, BV⟩
    have f16 := JV.out.fr 16
    have f17 := JV.out.fr 17
    have f18 := JV.out.fr 18
    have f19 := JV.out.fr 19
    have c16 := JV.out.cz
    have c17 := JV.out.cs
    have c18 := JV.out.cc
    have c19 := JV.out.co
    clear x0 x1 x2 x3 x4 x5 x6
    go_wp2_with fail
    go_end0
    rw [HE.out]
    exact ⟨rfl, JV.out.setf false false false false, but4 BV.out false false false false⟩
set_option maxRecDepth 100000 in
set_option maxHeartbeats 3200000 in
theorem reckon_10 (hJ : WJ base B ra oa rc ss os m w) (wd : Bool) (r b i c n : Int)  : Calls Try.prog 41 #[.pointer (some ⟨B, 0, none⟩), .agg #[.int .i64 10, .bool wd, .int .i64 r, .int .i64 b, .int .i64 i, .int .i64 c, .int .i64 n]] w (Does base B ra oa rc ss os (rck m ⟨10, wd, r, b, i, c, n⟩) w) := by
  have hB : B < w.heap.size := hJ.row.lt
  have HE : Hid (rck m ⟨10, wd, r, b, i, c, n⟩ = m.sr 2 (Fg.sR 7 wd (Fg.tr wd (m.rg 0)) (Fg.far wd 63))) := by first | rfl | (show _ = _; simp [rck])
  have HJ := hide hJ
  generalize rck m ⟨10, wd, r, b, i, c, n⟩ = M at *
  clear hJ
  go_enter Try.func41, Try.ntmps41
  go_wp2_with fail
  generalize hW : w.alloc _ = W
  have kW : Below w.heap.size w W := by rw [← hW]; exact bel_one _ _
  have hX : Xc.Bx w.heap.size ⟨10, wd, r, b, i, c, n⟩ W := by rw [← hW]; exact Xc.Bx.made _ _
  have JW := hide (HJ.out.bel kW)
  have HKW := hide (But.of (B := B) kW)
  obtain ⟨x0, x1, x2, x3, x4, x5, x6⟩ := hX.cells
  have hqW : w.heap.size < W.heap.size := hX.lt
  have hBW : B < W.heap.size := JW.out.row.lt
  have nq : W.heap.size ≠ w.heap.size := by omega
  have nB : W.heap.size ≠ B := by omega
  have nqB : ¬ w.heap.size = B := by omega
  have HX := hide hX
  clear hX kW hW HJ
  simp only at x0 x1 x2 x3 x4 x5 x6
  generalize w.heap.size = q at *
  have c_0 := JW.out.rgc 0 (by decide)
  have f_0 := JW.out.fr 0
  have c_2 := JW.out.rgc 2 (by decide)
  have f_2 := JW.out.fr 2
  rw [show ((0 : Nat) : Int) = 0 from rfl] at c_0
  have A := hide (fun U => Fg.shift_any 7 wd (m.rg 0) 63 U (i_rg JW.out.ok _))
  have IV := hide (i_sR 7 wd (Fg.tr wd (m.rg 0)) (Fg.far wd 63))
  generalize m.rg 0 = v0 at *
  generalize Fg.sR 7 wd (Fg.tr wd v0) (Fg.far wd 63) = out at *
  go_region_with (go_at_call 62; refine (A.out _).mono ?_; rintro e w1 ⟨rfl, rfl⟩)
  all_goals
    go_wp2_with fail
    go_end0
    rw [HE.out]
    exact ⟨rfl, (JW.out.bel (bel_d (Below.refl _ _))).setr 2 (by decide) _ IV.out, HKW.out.d.set 2 _⟩
end
end Go.Proofs.Ytielpebokbolbaa
/-
  The worker's reckon: moves under a condition that does not hold.
-/
namespace Go.Proofs.Ytielpebokbolbaa
open Go.RowKit
open Xc (hide bel_one bel_tr bel_al bel_set Xi)
set_option linter.unusedSimpArgs false
set_option linter.unusedVariables false
section
variable {base B : Nat} {ra oa : Option Addr} {rc : Nat} {ss : Nat → ByteArray} {os : Nat → Option (Nat × Nat)} {m : Mc} {w w' : World}
set_option maxRecDepth 100000 in
set_option maxHeartbeats 3200000 in
theorem reckon_15f (hJ : WJ base B ra oa rc ss os m w) (wd : Bool) (r b : Nat) (i c n : Int) (hr : r < 16) (hb : b < 16) (hq : m.hd c = false) : Calls Try.prog 41 #[.pointer (some ⟨B, 0, none⟩), .agg #[.int .i64 15, .bool wd, .int .i64 r, .int .i64 b, .int .i64 i, .int .i64 c, .int .i64 n]] w (Does base B ra oa rc ss os (rck m ⟨15, wd, r, b, i, c, n⟩) w) := by
  have hB : B < w.heap.size := hJ.row.lt
  have HE : Hid (rck m ⟨15, wd, r, b, i, c, n⟩ = m.sr (r : Int) (Fg.tr wd (m.rg (r : Int)))) := by first | rfl | (show _ = _; simp [rck, hq])
  have HJ := hide hJ
  generalize rck m ⟨15, wd, r, b, i, c, n⟩ = M at *
  clear hJ
  go_enter Try.func41, Try.ntmps41
  go_wp2_with fail
  generalize hW : w.alloc _ = W
  have kW : Below w.heap.size w W := by rw [← hW]; exact bel_one _ _
  have hX : Xc.Bx w.heap.size ⟨15, wd, r, b, i, c, n⟩ W := by rw [← hW]; exact Xc.Bx.made _ _
  have JW := hide (HJ.out.bel kW)
  have HKW := hide (But.of (B := B) kW)
  obtain ⟨x0, x1, x2, x3, x4, x5, x6⟩ := hX.cells
  have hqW : w.heap.size < W.heap.size := hX.lt
  have hBW : B < W.heap.size := JW.out.row.lt
  have nq : W.heap.size ≠ w.heap.size := by omega
  have nB : W.heap.size ≠ B := by omega
  have nqB : ¬ w.heap.size = B := by omega
  have HX := hide hX
  clear hX kW hW HJ
  simp only at x0 x1 x2 x3 x4 x5 x6
  generalize w.heap.size = q at *
  have HQ := hide hq
  clear hq
  refine (whold_any JW.out 15 wd r b i c n).mono ?_
  rintro e w1 ⟨rfl, hb1⟩
  rw [HQ.out]
  have JV := hide (JW.out.bel hb1)
  have BV := hide (HKW.out.trans (But.of hb1))
  have XV := hide (HX.out.kept hb1)
  clear x0 x1 x2 x3 x4 x5 x6 hb1 JW HKW HX
  obtain ⟨x0, x1, x2, x3, x4, x5, x6⟩ := XV.out.cells
  simp only at x0 x1 x2 x3 x4 x5 x6
  have c_r := JV.out.rgc r hr
  have f_r := JV.out.fr r
  have r0 : (0 : Int) ≤ (r : Int) := by omega
  have r16 : (r : Int) < 16 := by omega
  have c_b := JV.out.rgc b hb
  have f_b := JV.out.fr b
  have b0 : (0 : Int) ≤ (b : Int) := by omega
  have b16 : (b : Int) < 16 := by omega
  have IV := hide (i_tr (wide := wd) (i_rg JV.out.ok (r : Int)))
  generalize m.rg (r : Int) = v at *
  generalize m.rg (b : Int) = vb at *
  go_wp2_with fail
  go_region_with (go_at_call 38; refine (Fg.trim_any _ _ _).mono ?_; rintro e w1 ⟨rfl, rfl⟩)
  all_goals
    go_wp2_with fail
    go_end0
    rw [HE.out]
    exact ⟨rfl, (JV.out.bel (bel_d (Below.refl _ _))).setr r hr _ IV.out, BV.out.d.set r _⟩
end
end Go.Proofs.Ytielpebokbolbaa
/-
  The worker's reckon: a move.
-/
namespace Go.Proofs.Ytielpebokbolbaa
open Go.RowKit
open Xc (hide bel_one bel_tr bel_al bel_set Xi)
set_option linter.unusedSimpArgs false
set_option linter.unusedVariables false
section
variable {base B : Nat} {ra oa : Option Addr} {rc : Nat} {ss : Nat → ByteArray} {os : Nat → Option (Nat × Nat)} {m : Mc} {w w' : World}
set_option maxRecDepth 100000 in
set_option maxHeartbeats 3200000 in
theorem reckon_1 (hJ : WJ base B ra oa rc ss os m w) (wd : Bool) (r b : Nat) (i c n : Int) (hr : r < 16) (hb : b < 16) : Calls Try.prog 41 #[.pointer (some ⟨B, 0, none⟩), .agg #[.int .i64 1, .bool wd, .int .i64 r, .int .i64 b, .int .i64 i, .int .i64 c, .int .i64 n]] w (Does base B ra oa rc ss os (rck m ⟨1, wd, r, b, i, c, n⟩) w) := by
  have hB : B < w.heap.size := hJ.row.lt
  have HE : Hid (rck m ⟨1, wd, r, b, i, c, n⟩ = m.sr (b : Int) (Fg.tr wd (m.rg (r : Int)))) := by first | rfl | (show _ = _; simp [rck])
  have HJ := hide hJ
  generalize rck m ⟨1, wd, r, b, i, c, n⟩ = M at *
  clear hJ
  go_enter Try.func41, Try.ntmps41
  go_wp2_with fail
  generalize hW : w.alloc _ = W
  have kW : Below w.heap.size w W := by rw [← hW]; exact bel_one _ _
  have hX : Xc.Bx w.heap.size ⟨1, wd, r, b, i, c, n⟩ W := by rw [← hW]; exact Xc.Bx.made _ _
  have JW := hide (HJ.out.bel kW)
  have HKW := hide (But.of (B := B) kW)
  obtain ⟨x0, x1, x2, x3, x4, x5, x6⟩ := hX.cells
  have hqW : w.heap.size < W.heap.size := hX.lt
  have hBW : B < W.heap.size := JW.out.row.lt
  have nq : W.heap.size ≠ w.heap.size := by omega
  have nB : W.heap.size ≠ B := by omega
  have nqB : ¬ w.heap.size = B := by omega
  have HX := hide hX
  clear hX kW hW HJ
  simp only at x0 x1 x2 x3 x4 x5 x6
  generalize w.heap.size = q at *
  have c_r := JW.out.rgc r hr
  have f_r := JW.out.fr r
  have r0 : (0 : Int) ≤ (r : Int) := by omega
  have r16 : (r : Int) < 16 := by omega
  have c_b := JW.out.rgc b hb
  have f_b := JW.out.fr b
  have b0 : (0 : Int) ≤ (b : Int) := by omega
  have b16 : (b : Int) < 16 := by omega
  have IV := hide (i_tr (wide := wd) (i_rg JW.out.ok (r : Int)))
  generalize m.rg (r : Int) = v at *
  generalize m.rg (b : Int) = vb at *
  go_region_with (go_at_call 38; refine (Fg.trim_any _ _ _).mono ?_; rintro e w1 ⟨rfl, rfl⟩)
  all_goals
    go_wp2_with fail
    go_end0
    rw [HE.out]
    exact ⟨rfl, (JW.out.bel (bel_d (Below.refl _ _))).setr b hb _ IV.out, HKW.out.d.set b _⟩
end
end Go.Proofs.Ytielpebokbolbaa
/-
  The worker's divide: a quotient and a rest, or nothing.
-/
namespace Go.Proofs.Ytielpebokbolbaa
open Go.RowKit
open Xc (hide bel_one bel_tr bel_al bel_set Xi)
set_option linter.unusedSimpArgs false
set_option linter.unusedVariables false
/-- How a function of the worker ends that may find that it can't. -/
def Ends (base B : Nat) (ra oa : Option Addr) (rc : Nat) (ss : Nat → ByteArray) (os : Nat → Option (Nat × Nat)) (m : Mc) (o : Option Mc) (w : World) (e : Ending) (w' : World) : Prop := e = .returned (.bool o.isSome) ∧ WJ base B ra oa rc ss os (o.getD m) w' ∧ But B w w'
theorem ends_yes {base B : Nat} {ra oa : Option Addr} {rc : Nat} {ss : Nat → ByteArray} {os : Nat → Option (Nat × Nat)} {m m' : Mc} {o : Option Mc} {w w' : World} {e : Ending} (h : o = some m') (h1 : e = .returned (.bool true)) (h2 : WJ base B ra oa rc ss os m' w') (h3 : But B w w') : Ends base B ra oa rc ss os m o w e w' := by
  subst h; exact ⟨h1, h2, h3⟩
theorem ends_no {base B : Nat} {ra oa : Option Addr} {rc : Nat} {ss : Nat → ByteArray} {os : Nat → Option (Nat × Nat)} {m : Mc} {o : Option Mc} {w w' : World} {e : Ending} (h : o = none) (h1 : e = .returned (.bool false)) (h2 : WJ base B ra oa rc ss os m w') (h3 : But B w w') : Ends base B ra oa rc ss os m o w e w' := by
  subst h; exact ⟨h1, h2, h3⟩
theorem sr_comm (m : Mc) (a b : Int) : (m.sr 2 b).sr 0 a = (m.sr 0 a).sr 2 b := by
  unfold Mc.sr; simp only; congr 1; exact List.set_comm _ _ (by decide)
theorem dvd_8 (m : Mc) (wd : Bool) (r b i c n : Int) : dvd m ⟨8, wd, r, b, i, c, n⟩ = if Fg.dB wd (m.rg 2) (m.rg b) = true then some (((m.sr 0 (Fg.dQ wd (m.rg 2) (m.rg 0) (m.rg b))).sr 2 (Fg.dM wd (m.rg 2) (m.rg 0) (m.rg b))).sf false false false false) else none := if_neg (show ¬ (8 : Int) = 9 by decide)
theorem dvd_9 (m : Mc) (wd : Bool) (r b i c n : Int) : dvd m ⟨9, wd, r, b, i, c, n⟩ = if Fg.iB wd (m.rg 2) (m.rg 0) (m.rg b) = true then some (((m.sr 0 (Fg.iQ wd (m.rg 2) (m.rg 0) (m.rg b))).sr 2 (Fg.iM wd (m.rg 2) (m.rg 0) (m.rg b))).sf false false false false) else none := if_pos rfl
section
variable {base B : Nat} {ra oa : Option Addr} {rc : Nat} {ss : Nat → ByteArray} {os : Nat → Option (Nat × Nat)} {m : Mc} {w w' : World}
set_option maxRecDepth 100000 in
set_option maxHeartbeats 3200000 in
theorem divide_8y (hJ : WJ base B ra oa rc ss os m w) (wd : Bool) (r i c n : Int) (b : Nat) (hb : b < 16) (hq : Fg.dB wd (m.rg 2) (m.rg (b : Int)) = true) : Calls Try.prog 39 #[.pointer (some ⟨B, 0, none⟩), .agg #[.int .i64 8, .bool wd, .int .i64 r, .int .i64 b, .int .i64 i, .int .i64 c, .int .i64 n]] w (Ends base B ra oa rc ss os m (dvd m ⟨8, wd, r, b, i, c, n⟩) w) := by
  have HE : Hid (dvd m ⟨8, wd, r, b, i, c, n⟩ = some (((m.sr 0 (Fg.dQ wd (m.rg 2) (m.rg 0) (m.rg (b : Int)))).sr 2 (Fg.dM wd (m.rg 2) (m.rg 0) (m.rg (b : Int)))).sf false false false false)) := (dvd_8 m wd r b i c n).trans (if_pos hq)
  generalize dvd m ⟨8, wd, r, b, i, c, n⟩ = O at *
  have DV := hide (fun U => Fg.div_any wd (m.rg 2) (m.rg 0) (m.rg (b : Int)) U (i_rg hJ.ok _) (i_rg hJ.ok _) (i_rg hJ.ok _))
  rw [hq] at DV
  have IQ := hide (i_dQ wd (m.rg 2) (m.rg 0) (m.rg (b : Int)))
  have IM := hide (i_dM wd (m.rg 2) (m.rg 0) (m.rg (b : Int)))
  clear hq
  have HJ := hide hJ
  have hB : B < w.heap.size := hJ.row.lt
  clear hJ
  go_enter Try.func39, Try.ntmps39
  go_wp2_with fail
  generalize hW : w.alloc _ = W
  have kW : Below w.heap.size w W := by rw [← hW]; exact bel_one _ _
  have hX : Xc.Bx w.heap.size ⟨8, wd, r, b, i, c, n⟩ W := by rw [← hW]; exact Xc.Bx.made _ _
  have JW := hide (HJ.out.bel kW)
  have HKW := hide (But.of (B := B) kW)
  obtain ⟨x0, x1, x2, x3, x4, x5, x6⟩ := hX.cells
  have hqW : w.heap.size < W.heap.size := hX.lt
  have hBW : B < W.heap.size := JW.out.row.lt
  have nqB : ¬ w.heap.size = B := by omega
  have HX := hide hX
  clear hX kW hW HJ
  simp only at x0 x1 x2 x3 x4 x5 x6
  generalize w.heap.size = q at *
  have cb := JW.out.rgc b hb
  have c0 := JW.out.rgc 0 (by decide)
  have c2 := JW.out.rgc 2 (by decide)
  rw [show ((0 : Nat) : Int) = 0 from rfl] at c0
  rw [show ((2 : Nat) : Int) = 2 from rfl] at c2
  have b0 : (0 : Int) ≤ (b : Int) := by omega
  have b16 : (b : Int) < 16 := by omega
  generalize Fg.dQ wd (m.rg 2) (m.rg 0) (m.rg (b : Int)) = dq at *
  generalize Fg.dM wd (m.rg 2) (m.rg 0) (m.rg (b : Int)) = dm at *
  generalize m.rg (b : Int) = vb at *
  generalize m.rg 0 = v0 at *
  generalize m.rg 2 = v2 at *
  go_quiet (fail)
  go_wp2_with fail
  refine (DV.out _).mono ?_
  rintro e w1 ⟨rfl, hb1⟩
  have K1 := hide (bel_tr (bel_dr (Below.refl _ W) _) hb1)
  clear hb1 DV
  obtain ⟨y0, y1, y2, y3, y4, y5, y6⟩ := (HX.out.kept K1.out).cells
  simp only at y0 y1 y2 y3 y4 y5 y6
  clear x0 x1 x2 x3 x4 x5 x6 cb c0 c2
  have JV := hide (JW.out.bel K1.out)
  have BV := hide (HKW.out.trans (But.of K1.out))
  have c0 := JV.out.rgc 0 (by decide)
  have f0 := JV.out.fr 0
  have c2 := JV.out.rgc 2 (by decide)
  have f2 := JV.out.fr 2
  go_wp2_with fail
  go_region
  all_goals
    first
    | refine gw (motive := fun x => Exit.then _ _ Exit.normal _ x) (fun V => Hid (WJ base B ra oa rc ss os ((m.sr 0 dq).sr 2 dm) V) ∧ Hid (But B w V)) ⟨((JV.out.setr 0 (by decide) _ IQ.out).setr 2 (by decide) _ IM.out).bel (bel_d (Below.refl _ _)), ((BV.out.set 0 _).set 2 _).d⟩ ?_
    | refine gw (motive := fun x => Exit.then _ _ Exit.normal _ x) (fun V => Hid (WJ base B ra oa rc ss os ((m.sr 0 dq).sr 2 dm) V) ∧ Hid (But B w V)) ⟨by rw [← sr_comm]; exact ((JV.out.setr 2 (by decide) _ IM.out).setr 0 (by decide) _ IQ.out).bel (bel_d (Below.refl _ _)), ((BV.out.set 2 _).set 0 _).d⟩ ?_
    rintro V ⟨JU, BU⟩
    have f16 := JU.out.fr 16
    have f17 := JU.out.fr 17
    have f18 := JU.out.fr 18
    have f19 := JU.out.fr 19
    have c16 := JU.out.cz
    have c17 := JU.out.cs
    have c18 := JU.out.cc
    have c19 := JU.out.co
    clear c0 f0 c2 f2
    go_wp2_with fail
    go_ret
    exact ends_yes HE.out rfl (JU.out.setf false false false false) (but4 BU.out false false false false)
set_option maxRecDepth 100000 in
set_option maxHeartbeats 3200000 in
theorem divide_8n (hJ : WJ base B ra oa rc ss os m w) (wd : Bool) (r i c n : Int) (b : Nat) (hb : b < 16) (hq : Fg.dB wd (m.rg 2) (m.rg (b : Int)) = false) : Calls Try.prog 39 #[.pointer (some ⟨B, 0, none⟩), .agg #[.int .i64 8, .bool wd, .int .i64 r, .int .i64 b, .int .i64 i, .int .i64 c, .int .i64 n]] w (Ends base B ra oa rc ss os m (dvd m ⟨8, wd, r, b, i, c, n⟩) w) := by
  have HE : Hid (dvd m ⟨8, wd, r, b, i, c, n⟩ = none) := (dvd_8 m wd r b i c n).trans (if_neg (by rw [hq]; decide))
  generalize dvd m ⟨8, wd, r, b, i, c, n⟩ = O at *
  have DV := hide (fun U => Fg.div_any wd (m.rg 2) (m.rg 0) (m.rg (b : Int)) U (i_rg hJ.ok _) (i_rg hJ.ok _) (i_rg hJ.ok _))
  rw [hq] at DV
  clear hq
  have HJ := hide hJ
  have hB : B < w.heap.size := hJ.row.lt
  clear hJ
  go_enter Try.func39, Try.ntmps39
  go_wp2_with fail
  generalize hW : w.alloc _ = W
  have kW : Below w.heap.size w W := by rw [← hW]; exact bel_one _ _
  have hX : Xc.Bx w.heap.size ⟨8, wd, r, b, i, c, n⟩ W := by rw [← hW]; exact Xc.Bx.made _ _
  have JW := hide (HJ.out.bel kW)
  have HKW := hide (But.of (B := B) kW)
  obtain ⟨x0, x1, x2, x3, x4, x5, x6⟩ := hX.cells
  have hqW : w.heap.size < W.heap.size := hX.lt
  have hBW : B < W.heap.size := JW.out.row.lt
  have nqB : ¬ w.heap.size = B := by omega
  have HX := hide hX
  clear hX kW hW HJ
  simp only at x0 x1 x2 x3 x4 x5 x6
  generalize w.heap.size = q at *
  have cb := JW.out.rgc b hb
  have c0 := JW.out.rgc 0 (by decide)
  have c2 := JW.out.rgc 2 (by decide)
  rw [show ((0 : Nat) : Int) = 0 from rfl] at c0
  rw [show ((2 : Nat) : Int) = 2 from rfl] at c2
  have b0 : (0 : Int) ≤ (b : Int) := by omega
  have b16 : (b : Int) < 16 := by omega
  generalize Fg.dQ wd (m.rg 2) (m.rg 0) (m.rg (b : Int)) = dq at *
  generalize Fg.dM wd (m.rg 2) (m.rg 0) (m.rg (b : Int)) = dm at *
  generalize m.rg (b : Int) = vb at *
  generalize m.rg 0 = v0 at *
  generalize m.rg 2 = v2 at *
  go_quiet (fail)
  go_wp2_with fail
  refine (DV.out _).mono ?_
  rintro e w1 ⟨rfl, hb1⟩
  have K1 := hide (bel_tr (bel_dr (Below.refl _ W) _) hb1)
  clear hb1 DV
  obtain ⟨y0, y1, y2, y3, y4, y5, y6⟩ := (HX.out.kept K1.out).cells
  simp only at y0 y1 y2 y3 y4 y5 y6
  clear x0 x1 x2 x3 x4 x5 x6 cb c0 c2
  have JV := hide (JW.out.bel K1.out)
  have BV := hide (HKW.out.trans (But.of K1.out))
  go_wp2_with fail
  go_ret
  exact ends_no HE.out rfl JV.out BV.out
set_option maxRecDepth 100000 in
set_option maxHeartbeats 3200000 in
theorem divide_9y (hJ : WJ base B ra oa rc ss os m w) (wd : Bool) (r i c n : Int) (b : Nat) (hb : b < 16) (hq : Fg.iB wd (m.rg 2) (m.rg 0) (m.rg (b : Int)) = true) : Calls Try.prog 39 #[.pointer (some ⟨B, 0, none⟩), .agg #[.int .i64 9, .bool wd, .int .i64 r, .int .i64 b, .int .i64 i, .int .i64 c, .int .i64 n]] w (Ends base B ra oa rc ss os m (dvd m ⟨9, wd, r, b, i, c, n⟩) w) := by
  have HE : Hid (dvd m ⟨9, wd, r, b, i, c, n⟩ = some (((m.sr 0 (Fg.iQ wd (m.rg 2) (m.rg 0) (m.rg (b : Int)))).sr 2 (Fg.iM wd (m.rg 2) (m.rg 0) (m.rg (b : Int)))).sf false false false false)) := (dvd_9 m wd r b i c n).trans (if_pos hq)
  generalize dvd m ⟨9, wd, r, b, i, c, n⟩ = O at *
  have DV := hide (fun U => Fg.div_any wd (m.rg 2) (m.rg 0) (m.rg (b : Int)) U (i_rg hJ.ok _) (i_rg hJ.ok _) (i_rg hJ.ok _))
  have IV := hide (fun U => Fg.idiv_any wd (m.rg 2) (m.rg 0) (m.rg (b : Int)) U (i_rg hJ.ok _))
  rw [hq] at IV
  have IQ := hide (i_iQ wd (m.rg 2) (m.rg 0) (m.rg (b : Int)))
  have IM := hide (i_iM wd (m.rg 2) (m.rg 0) (m.rg (b : Int)) (i_rg hJ.ok _))
  clear hq
  have HJ := hide hJ
  have hB : B < w.heap.size := hJ.row.lt
  clear hJ
  go_enter Try.func39, Try.ntmps39
  go_wp2_with fail
  generalize hW : w.alloc _ = W
  have kW : Below w.heap.size w W := by rw [← hW]; exact bel_one _ _
  have hX : Xc.Bx w.heap.size ⟨9, wd, r, b, i, c, n⟩ W := by rw [← hW]; exact Xc.Bx.made _ _
  have JW := hide (HJ.out.bel kW)
  have HKW := hide (But.of (B := B) kW)
  obtain ⟨x0, x1, x2, x3, x4, x5, x6⟩ := hX.cells
  have hqW : w.heap.size < W.heap.size := hX.lt
  have hBW : B < W.heap.size := JW.out.row.lt
  have nqB : ¬ w.heap.size = B := by omega
  have HX := hide hX
  clear hX kW hW HJ
  simp only at x0 x1 x2 x3 x4 x5 x6
  generalize w.heap.size = q at *
  have cb := JW.out.rgc b hb
  have c0 := JW.out.rgc 0 (by decide)
  have c2 := JW.out.rgc 2 (by decide)
  rw [show ((0 : Nat) : Int) = 0 from rfl] at c0
  rw [show ((2 : Nat) : Int) = 2 from rfl] at c2
  have b0 : (0 : Int) ≤ (b : Int) := by omega
  have b16 : (b : Int) < 16 := by omega
  generalize Fg.dQ wd (m.rg 2) (m.rg 0) (m.rg (b : Int)) = dq at *
  generalize Fg.dM wd (m.rg 2) (m.rg 0) (m.rg (b : Int)) = dm at *
  generalize Fg.iQ wd (m.rg 2) (m.rg 0) (m.rg (b : Int)) = iq at *
  generalize Fg.iM wd (m.rg 2) (m.rg 0) (m.rg (b : Int)) = im at *
  generalize Fg.dB wd (m.rg 2) (m.rg (b : Int)) = db at *
  generalize m.rg (b : Int) = vb at *
  generalize m.rg 0 = v0 at *
  generalize m.rg 2 = v2 at *
  go_quiet (fail)
  go_wp2_with fail
  refine (DV.out _).mono ?_
  rintro e w1 ⟨rfl, hb1⟩
  have K1 := hide (bel_tr (bel_dr (Below.refl _ W) _) hb1)
  clear hb1 DV
  obtain ⟨y0, y1, y2, y3, y4, y5, y6⟩ := (HX.out.kept K1.out).cells
  simp only at y0 y1 y2 y3 y4 y5 y6
  clear x0 x1 x2 x3 x4 x5 x6 cb c0 c2
  go_wp2_with fail
  refine (IV.out _).mono ?_
  rintro e w2 ⟨rfl, hb2⟩
  have K2 := hide (bel_tr K1.out hb2)
  clear hb2 IV K1
  obtain ⟨z0, z1, z2, z3, z4, z5, z6⟩ := (HX.out.kept K2.out).cells
  simp only at z0 z1 z2 z3 z4 z5 z6
  clear y0 y1 y2 y3 y4 y5 y6
  have JV := hide (JW.out.bel K2.out)
  have BV := hide (HKW.out.trans (But.of K2.out))
  have c0 := JV.out.rgc 0 (by decide)
  have f0 := JV.out.fr 0
  have c2 := JV.out.rgc 2 (by decide)
  have f2 := JV.out.fr 2
  go_wp2_with fail
  go_region
  all_goals
    first
    | refine gw (motive := fun x => Exit.then _ _ Exit.normal _ x) (fun V => Hid (WJ base B ra oa rc ss os ((m.sr 0 iq).sr 2 im) V) ∧ Hid (But B w V)) ⟨((JV.out.setr 0 (by decide) _ IQ.out).setr 2 (by decide) _ IM.out).bel (bel_d (Below.refl _ _)), ((BV.out.set 0 _).set 2 _).d⟩ ?_
    | refine gw (motive := fun x => Exit.then _ _ Exit.normal _ x) (fun V => Hid (WJ base B ra oa rc ss os ((m.sr 0 iq).sr 2 im) V) ∧ Hid (But B w V)) ⟨by rw [← sr_comm]; exact ((JV.out.setr 2 (by decide) _ IM.out).setr 0 (by decide) _ IQ.out).bel (bel_d (Below.refl _ _)), ((BV.out.set 2 _).set 0 _).d⟩ ?_
    rintro V ⟨JU, BU⟩
    have f16 := JU.out.fr 16
    have f17 := JU.out.fr 17
    have f18 := JU.out.fr 18
    have f19 := JU.out.fr 19
    have c16 := JU.out.cz
    have c17 := JU.out.cs
    have c18 := JU.out.cc
    have c19 := JU.out.co
    clear c0 f0 c2 f2
    go_wp2_with fail
    go_ret
    exact ends_yes HE.out rfl (JU.out.setf false false false false) (but4 BU.out false false false false)
set_option maxRecDepth 100000 in
set_option maxHeartbeats 3200000 in
theorem divide_9n (hJ : WJ base B ra oa rc ss os m w) (wd : Bool) (r i c n : Int) (b : Nat) (hb : b < 16) (hq : Fg.iB wd (m.rg 2) (m.rg 0) (m.rg (b : Int)) = false) : Calls Try.prog 39 #[.pointer (some ⟨B, 0, none⟩), .agg #[.int .i64 9, .bool wd, .int .i64 r, .int .i64 b, .int .i64 i, .int .i64 c, .int .i64 n]] w (Ends base B ra oa rc ss os m (dvd m ⟨9, wd, r, b, i, c, n⟩) w) := by
  have HE : Hid (dvd m ⟨9, wd, r, b, i, c, n⟩ = none) := (dvd_9 m wd r b i c n).trans (if_neg (by rw [hq]; decide))
  generalize dvd m ⟨9, wd, r, b, i, c, n⟩ = O at *
  have DV := hide (fun U => Fg.div_any wd (m.rg 2) (m.rg 0) (m.rg (b : Int)) U (i_rg hJ.ok _) (i_rg hJ.ok _) (i_rg hJ.ok _))
  have IV := hide (fun U => Fg.idiv_any wd (m.rg 2) (m.rg 0) (m.rg (b : Int)) U (i_rg hJ.ok _))
  rw [hq] at IV
  clear hq
  have HJ := hide hJ
  have hB : B < w.heap.size := hJ.row.lt
  clear hJ
  go_enter Try.func39, Try.ntmps39
  go_wp2_with fail
  generalize hW : w.alloc _ = W
  have kW : Below w.heap.size w W := by rw [← hW]; exact bel_one _ _
  have hX : Xc.Bx w.heap.size ⟨9, wd, r, b, i, c, n⟩ W := by rw [← hW]; exact Xc.Bx.made _ _
  have JW := hide (HJ.out.bel kW)
  have HKW := hide (But.of (B := B) kW)
  obtain ⟨x0, x1, x2, x3, x4, x5, x6⟩ := hX.cells
  have hqW : w.heap.size < W.heap.size := hX.lt
  have hBW : B < W.heap.size := JW.out.row.lt
  have nqB : ¬ w.heap.size = B := by omega
  have HX := hide hX
  clear hX kW hW HJ
  simp only at x0 x1 x2 x3 x4 x5 x6
  generalize w.heap.size = q at *
  have cb := JW.out.rgc b hb
  have c0 := JW.out.rgc 0 (by decide)
  have c2 := JW.out.rgc 2 (by decide)
  rw [show ((0 : Nat) : Int) = 0 from rfl] at c0
  rw [show ((2 : Nat) : Int) = 2 from rfl] at c2
  have b0 : (0 : Int) ≤ (b : Int) := by omega
  have b16 : (b : Int) < 16 := by omega
  generalize Fg.dQ wd (m.rg 2) (m.rg 0) (m.rg (b : Int)) = dq at *
  generalize Fg.dM wd (m.rg 2) (m.rg 0) (m.rg (b : Int)) = dm at *
  generalize Fg.iQ wd (m.rg 2) (m.rg 0) (m.rg (b : Int)) = iq at *
  generalize Fg.iM wd (m.rg 2) (m.rg 0) (m.rg (b : Int)) = im at *
  generalize Fg.dB wd (m.rg 2) (m.rg (b : Int)) = db at *
  generalize m.rg (b : Int) = vb at *
  generalize m.rg 0 = v0 at *
  generalize m.rg 2 = v2 at *
  go_quiet (fail)
  go_wp2_with fail
  refine (DV.out _).mono ?_
  rintro e w1 ⟨rfl, hb1⟩
  have K1 := hide (bel_tr (bel_dr (Below.refl _ W) _) hb1)
  clear hb1 DV
  obtain ⟨y0, y1, y2, y3, y4, y5, y6⟩ := (HX.out.kept K1.out).cells
  simp only at y0 y1 y2 y3 y4 y5 y6
  clear x0 x1 x2 x3 x4 x5 x6 cb c0 c2
  go_wp2_with fail
  refine (IV.out _).mono ?_
  rintro e w2 ⟨rfl, hb2⟩
  have K2 := hide (bel_tr K1.out hb2)
  clear hb2 IV K1
  obtain ⟨z0, z1, z2, z3, z4, z5, z6⟩ := (HX.out.kept K2.out).cells
  simp only at z0 z1 z2 z3 z4 z5 z6
  clear y0 y1 y2 y3 y4 y5 y6
  have JV := hide (JW.out.bel K2.out)
  have BV := hide (HKW.out.trans (But.of K2.out))
  go_wp2_with fail
  go_ret
  exact ends_no HE.out rfl JV.out BV.out
end
end Go.Proofs.Ytielpebokbolbaa
/-
  The worker's reckon and divide, of any instruction that may be.
-/
namespace Go.Proofs.Ytielpebokbolbaa
open Go.RowKit
open Xc (hide bel_one bel_tr bel_al bel_set Xi xv)
set_option linter.unusedSimpArgs false
set_option linter.unusedVariables false
/-- What reckon carries out. -/
def rkK (op : Int) : Bool := !(op == 8 || op == 9 || op == 11 || op == 12 || op == 17 || op == 18 || op == 19 || op == 20 || op == 21 || op == 22 || op == 23)
theorem g_if {c : Prop} [Decidable c] {a b m : Mc} (ha : a.g = m.g) (hb : b.g = m.g) : (if c then a else b).g = m.g := by split <;> assumption
theorem sum_g (m : Mc) (x : Xi) (v : Int) : (sumM m x v).g = m.g := g_if rfl rfl
theorem rck_g (m : Mc) (x : Xi) : (rck m x).g = m.g :=
  g_if rfl (g_if rfl (g_if rfl (g_if (sum_g _ _ _) (g_if (sum_g _ _ _) (g_if rfl (g_if rfl (g_if rfl (g_if rfl (g_if rfl (g_if rfl (g_if rfl rfl)))))))))))
theorem o_if {c : Prop} [Decidable c] {a b : Option Mc} {m : Mc} (ha : (a.getD m).g = m.g) (hb : (b.getD m).g = m.g) : ((if c then a else b).getD m).g = m.g := by split <;> assumption
theorem dvd_g (m : Mc) (x : Xi) : ((dvd m x).getD m).g = m.g := o_if (o_if rfl rfl) (o_if rfl rfl)
theorem nat_of {r : Int} (h : 0 ≤ r ∧ r ≤ 15) : ∃ k : Nat, r = (k : Int) ∧ k < 16 := ⟨r.toNat, by omega, by omega⟩
section
variable {K : Nat → Prop} {base B : Nat} {ra oa : Option Addr} {rc : Nat} {ss : Nat → ByteArray} {os : Nat → Option (Nat × Nat)} {m : Mc} {w : World}
theorem reckon_j (hJ : WJ base B ra oa rc ss os m w) (x : Xi) (hx : Xc.rt x = true) (hn : I64 x.n) (ho : rkK x.op = true) : Calls Try.prog 41 #[.pointer (some ⟨B, 0, none⟩), xv x] w (Does base B ra oa rc ss os (rck m x) w) := by
  revert hn ho
  refine Xc.rt_elim (P := fun x => I64 x.n → rkK x.op = true → Calls Try.prog 41 #[.pointer (some ⟨B, 0, none⟩), xv x] w (Does base B ra oa rc ss os (rck m x) w)) hx ?mov ?movi ?alu ?alui ?test ?mul ?shift ?div ?idiv ?sign ?load ?store ?set ?byte ?cmov ?widen ?jmp ?jcc ?call ?ret ?hlt ?stop ?host
  case mov =>
    intro wd r b h1 h2 hn ho
    obtain ⟨rk, rfl, hr⟩ := nat_of h1
    obtain ⟨bk, rfl, hb⟩ := nat_of h2
    exact reckon_1 hJ wd rk bk 0 0 0 hr hb
  case movi =>
    intro r n h1 hn ho
    obtain ⟨rk, rfl, hr⟩ := nat_of h1
    exact reckon_2 hJ true rk 0 0 0 n hr hn
  case alu =>
    intro wd r b c h1 h2 hc hn ho
    obtain ⟨rk, rfl, hr⟩ := nat_of h1
    obtain ⟨bk, rfl, hb⟩ := nat_of h2
    exact reckon_3 hJ wd rk bk 0 c 0 hr hb
  case alui =>
    intro wd b c n h2 hc hs hn ho
    obtain ⟨bk, rfl, hb⟩ := nat_of h2
    exact reckon_4 hJ wd bk 0 0 c n hb hn
  case test =>
    intro wd r b h1 h2 hn ho
    obtain ⟨rk, rfl, hr⟩ := nat_of h1
    obtain ⟨bk, rfl, hb⟩ := nat_of h2
    exact reckon_5 hJ wd rk bk 0 0 0 hr hb
  case mul =>
    intro wd r b h1 h2 hn ho
    obtain ⟨rk, rfl, hr⟩ := nat_of h1
    obtain ⟨bk, rfl, hb⟩ := nat_of h2
    exact reckon_6 hJ wd rk bk 0 0 0 hr hb
  case shift =>
    intro wd b c h2 hc hn ho
    obtain ⟨bk, rfl, hb⟩ := nat_of h2
    exact reckon_7 hJ wd bk 0 0 c 0 hb
  case sign => exact fun wd hn ho => reckon_10 hJ wd 0 0 0 0 0
  case set =>
    intro c hc hn ho
    cases hq : m.hd c with
    | true => exact reckon_13t hJ false 0 0 0 c 0 hq
    | false => exact reckon_13f hJ false 0 0 0 c 0 hq
  case byte => exact fun hn ho => reckon_14 hJ false 0 0 0 0 0
  case cmov =>
    intro wd r b c h1 h2 hc hn ho
    obtain ⟨rk, rfl, hr⟩ := nat_of h1
    obtain ⟨bk, rfl, hb⟩ := nat_of h2
    cases hq : m.hd c with
    | true => exact reckon_15t hJ wd rk bk 0 c 0 hr hb hq
    | false => exact reckon_15f hJ wd rk bk 0 c 0 hr hb hq
  case widen =>
    intro r b h1 h2 hn ho
    obtain ⟨rk, rfl, hr⟩ := nat_of h1
    obtain ⟨bk, rfl, hb⟩ := nat_of h2
    exact reckon_16 hJ true rk bk 0 0 0 hr hb
  case div => exact fun wd b h2 hn ho => absurd (show rkK 8 = true from ho) (by decide)
  case idiv => exact fun wd b h2 hn ho => absurd (show rkK 9 = true from ho) (by decide)
  case load => exact fun wd r b i n h1 h2 h3 hs hn ho => absurd (show rkK 11 = true from ho) (by decide)
  case store => exact fun wd r b i n h1 h2 h3 hs hn ho => absurd (show rkK 12 = true from ho) (by decide)
  case jmp => exact fun n hs hn ho => absurd (show rkK 17 = true from ho) (by decide)
  case jcc => exact fun c n hc hs hn ho => absurd (show rkK 18 = true from ho) (by decide)
  case call => exact fun n hs hn ho => absurd (show rkK 19 = true from ho) (by decide)
  case ret => exact fun hn ho => absurd (show rkK 20 = true from ho) (by decide)
  case hlt => exact fun hn ho => absurd (show rkK 21 = true from ho) (by decide)
  case stop => exact fun hn ho => absurd (show rkK 22 = true from ho) (by decide)
  case host => exact fun hn ho => absurd (show rkK 23 = true from ho) (by decide)
theorem reckonK (h : WK K base B m w) (x : Xi) (hx : Xc.rt x = true) (hn : I64 x.n) (ho : rkK x.op = true) : Calls Try.prog 41 #[.pointer (some ⟨B, 0, none⟩), xv x] w fun e w' => e = .returned (.tuple #[]) ∧ Goes K base B (rck m x) w w' := by
  obtain ⟨ra, oa, rc, ss, os, hJ, hap, hk⟩ := h
  refine (reckon_j hJ x hx hn ho).mono ?_
  rintro e w' ⟨rfl, hJ', hb⟩
  exact ⟨rfl, goes_but hJ hap hk hJ' (rck_g m x) hb⟩
theorem divideK (h : WK K base B m w) (op : Int) (ho : op = 8 ∨ op = 9) (wd : Bool) (b : Int) (h2 : 0 ≤ b ∧ b ≤ 15) : Calls Try.prog 39 #[.pointer (some ⟨B, 0, none⟩), xv ⟨op, wd, 0, b, 0, 0, 0⟩] w fun e w' => e = .returned (.bool (dvd m ⟨op, wd, 0, b, 0, 0, 0⟩).isSome) ∧ Goes K base B ((dvd m ⟨op, wd, 0, b, 0, 0, 0⟩).getD m) w w' := by
  obtain ⟨bk, rfl, hb⟩ := nat_of h2
  obtain ⟨ra, oa, rc, ss, os, hJ, hap, hk⟩ := h
  have hj : Calls Try.prog 39 #[.pointer (some ⟨B, 0, none⟩), xv ⟨op, wd, 0, bk, 0, 0, 0⟩] w (Ends base B ra oa rc ss os m (dvd m ⟨op, wd, 0, bk, 0, 0, 0⟩) w) := by
    rcases ho with rfl | rfl
    · cases hq : Fg.dB wd (m.rg 2) (m.rg (bk : Int)) with
      | true => exact divide_8y hJ wd 0 0 0 0 bk hb hq
      | false => exact divide_8n hJ wd 0 0 0 0 bk hb hq
    · cases hq : Fg.iB wd (m.rg 2) (m.rg 0) (m.rg (bk : Int)) with
      | true => exact divide_9y hJ wd 0 0 0 0 bk hb hq
      | false => exact divide_9n hJ wd 0 0 0 0 bk hb hq
  refine hj.mono ?_
  rintro e w' ⟨rfl, hJ', hb'⟩
  exact ⟨rfl, goes_but hJ hap hk hJ' (dvd_g m _) hb'⟩
end
end Go.Proofs.Ytielpebokbolbaa
