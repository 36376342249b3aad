/-
  The worker's reckon: shifts.
  The worker's reckon: moves under a condition that does not hold.
  The worker's reckon: a move.
-/
import Derived.Test.YtielpebokbolbaaM16
namespace Go.Proofs.Ytielpebokbolbaa
open Go.RowKit
open Xc (hide bel_one bel_tr bel_al bel_set Xi)
set_option linter.unusedSimpArgs false
set_option linter.unusedVariables false
theorem keepq7 {B q : Nat} {w : World} {k : Nat} {v a1 a2 a3 a5 : Value} (hne : ¬ q = B) (h : w.cell? ⟨q, 1, none⟩ = some a1 ∧ w.cell? ⟨q, 2, none⟩ = some a2 ∧ w.cell? ⟨q, 3, none⟩ = some a3 ∧ w.cell? ⟨q, 5, none⟩ = some a5) : (w.setCell ⟨B, k, none⟩ v).cell? ⟨q, 1, none⟩ = some a1 ∧ (w.setCell ⟨B, k, none⟩ v).cell? ⟨q, 2, none⟩ = some a2 ∧ (w.setCell ⟨B, k, none⟩ v).cell? ⟨q, 3, none⟩ = some a3 ∧ (w.setCell ⟨B, k, none⟩ v).cell? ⟨q, 5, none⟩ = some a5 := by
  have ne : ∀ a b : Nat, (⟨B, a, none⟩ : Addr) ≠ ⟨q, b, none⟩ := fun a b e => hne (by injection e with e1; exact e1.symm)
  rw [World.cell?_setCell_other _ _ _ _ (ne _ _), World.cell?_setCell_other _ _ _ _ (ne _ _), World.cell?_setCell_other _ _ _ _ (ne _ _), World.cell?_setCell_other _ _ _ _ (ne _ _)]; exact h
section
variable {base B : Nat} {ra oa : Option Addr} {rc : Nat} {ss : Nat → ByteArray} {os : Nat → Option (Nat × Nat)} {m : Mc} {w w' : World}
set_option maxRecDepth 100000 in
set_option maxHeartbeats 3200000 in
theorem reckon_7 (hJ : WJ base B ra oa rc ss os m w) (wd : Bool) (b : Nat) (r i c n : Int) (hb : b < 16) : Calls Try.prog 41 #[.pointer (some ⟨B, 0, none⟩), .agg #[.int .i64 7, .bool wd, .int .i64 r, .int .i64 b, .int .i64 i, .int .i64 c, .int .i64 n]] w (Does base B ra oa rc ss os (rck m ⟨7, wd, r, b, i, c, n⟩) w) := by
  have hB : B < w.heap.size := hJ.row.lt
  have HE : Hid (rck m ⟨7, wd, r, b, i, c, n⟩ = (m.sr (b : Int) (Fg.sR c wd (Fg.tr wd (m.rg (b : Int))) (Fg.far wd (m.rg 1)))).sf false false false false) := by first | rfl | (show _ = _; simp [rck])
  have HJ := hide hJ
  generalize rck m ⟨7, wd, r, b, i, c, n⟩ = M at *
  clear hJ
  go_enter Try.func41, Try.ntmps41
  go_wp2_with fail
  generalize hW : w.alloc _ = W
  have kW : Below w.heap.size w W := by rw [← hW]; exact bel_one _ _
  have hX : Xc.Bx w.heap.size ⟨7, wd, r, b, i, c, n⟩ W := by rw [← hW]; exact Xc.Bx.made _ _
  have JW := hide (HJ.out.bel kW)
  have HKW := hide (But.of (B := B) kW)
  obtain ⟨x0, x1, x2, x3, x4, x5, x6⟩ := hX.cells
  have hqW : w.heap.size < W.heap.size := hX.lt
  have hBW : B < W.heap.size := JW.out.row.lt
  have nq : W.heap.size ≠ w.heap.size := by omega
  have nB : W.heap.size ≠ B := by omega
  have nqB : ¬ w.heap.size = B := by omega
  have HX := hide hX
  clear hX kW hW HJ
  simp only at x0 x1 x2 x3 x4 x5 x6
  generalize w.heap.size = q at *
  have c_b := JW.out.rgc b hb
  have f_b := JW.out.fr b
  have b0 : (0 : Int) ≤ (b : Int) := by omega
  have b16 : (b : Int) < 16 := by omega
  have c_1 := JW.out.rgc 1 (by decide)
  have f_1 := JW.out.fr 1
  rw [show ((1 : Nat) : Int) = 1 from rfl] at c_1
  have A := hide (fun U => Fg.shift_any c wd (m.rg (b : Int)) (m.rg 1) U (i_rg JW.out.ok _))
  have IV := hide (i_sR c wd (Fg.tr wd (m.rg (b : Int))) (Fg.far wd (m.rg 1)))
  generalize m.rg 1 = v1 at *
  generalize m.rg (b : Int) = vb at *
  generalize Fg.sR c wd (Fg.tr wd vb) (Fg.far wd v1) = out at *
  refine wp_region_held_drew (S := (fun X => X.cell? ⟨q, 1, none⟩ = some (.bool wd) ∧ X.cell? ⟨q, 2, none⟩ = some (.int .i64 r) ∧ X.cell? ⟨q, 3, none⟩ = some (.int .i64 (b : Int)) ∧ X.cell? ⟨q, 5, none⟩ = some (.int .i64 c))) (by kernel_rfl) ⟨x1, x2, x3, x5⟩ ?_
  intro hHeld
  change wpAnyH _ _ _ _ _ _ _ _ (World.drew _)
  refine wpAnyH_take (i := 0) (v := ?_) rfl (by kernel_rfl) (by kernel_rfl) (by kernel_rfl) (fun _ _ _ h => h) (Or.inl ⟨by kernel_rfl, ?hy⟩) (by assumption) ?_
  case hy => intro w hSw; (try dsimp only at hSw); go_simp; try with_reducible rfl
  simp only [Act.put, List.setIfInBounds_toArray, List.set_cons_zero, List.set_cons_succ]
  refine wpAnyH_take (i := 1) (v := ?_) rfl (by kernel_rfl) (by kernel_rfl) (by kernel_rfl) (fun _ _ _ h => h) (Or.inl ⟨by kernel_rfl, ?hy⟩) (by assumption) ?_
  case hy => intro w hSw; (try dsimp only at hSw); go_simp; try with_reducible rfl
  simp only [Act.put, List.setIfInBounds_toArray, List.set_cons_zero, List.set_cons_succ]
  refine wpAnyH_take (i := 2) (v := ?_) rfl (by kernel_rfl) (by kernel_rfl) (by kernel_rfl) (fun _ _ _ h => h) (Or.inl ⟨by kernel_rfl, ?hy⟩) (by assumption) ?_
  case hy => intro w hSw; (try dsimp only at hSw); go_simp; try with_reducible rfl
  simp only [Act.put, List.setIfInBounds_toArray, List.set_cons_zero, List.set_cons_succ]
  refine wpAnyH_take (i := 3) (v := ?_) rfl (by kernel_rfl) (by kernel_rfl) (by kernel_rfl) (fun _ _ _ h => h) (Or.inl ⟨by kernel_rfl, ?hy⟩) (by assumption) ?_
  case hy => intro w hSw; (try dsimp only at hSw); go_simp; try with_reducible rfl
  simp only [Act.put, List.setIfInBounds_toArray, List.set_cons_zero, List.set_cons_succ]
  refine wpAnyH_take (i := 4) (v := ?_) rfl (by kernel_rfl) (by kernel_rfl) (by kernel_rfl) (fun _ _ _ h => h) (Or.inl ⟨by kernel_rfl, ?hy⟩) (by assumption) ?_
  case hy => intro w hSw; (try dsimp only at hSw); go_simp; try with_reducible rfl
  simp only [Act.put, List.setIfInBounds_toArray, List.set_cons_zero, List.set_cons_succ]
  refine wpAnyH_take (i := 5) (v := ?_) rfl (by kernel_rfl) (by kernel_rfl) (by kernel_rfl) (fun _ _ _ h => h) (Or.inl ⟨by kernel_rfl, ?hy⟩) (by assumption) ?_
  case hy => intro w hSw; (try dsimp only at hSw); go_simp; try with_reducible rfl
  simp only [Act.put, List.setIfInBounds_toArray, List.set_cons_zero, List.set_cons_succ]
  refine wpAnyH_take (i := 6) (v := ?_) rfl (by kernel_rfl) (by kernel_rfl) (by kernel_rfl) (fun _ _ _ h => h) (Or.inl ⟨by kernel_rfl, ?hy⟩) (by assumption) ?_
  case hy => intro w hSw; (try dsimp only at hSw); go_simp; try with_reducible rfl
  simp only [Act.put, List.setIfInBounds_toArray, List.set_cons_zero, List.set_cons_succ]
  refine wpAnyH_take (i := 7) (v := ?_) rfl (by kernel_rfl) (by kernel_rfl) (by kernel_rfl) (fun _ _ _ h => h) (Or.inl ⟨by kernel_rfl, ?hy⟩) (by assumption) ?_
  case hy => intro w hSw; (try dsimp only at hSw); go_simp; try with_reducible rfl
  simp only [Act.put, List.setIfInBounds_toArray, List.set_cons_zero, List.set_cons_succ]
  refine wpAnyH_take (i := 8) (v := ?_) rfl (by kernel_rfl) (by kernel_rfl) (by kernel_rfl) (fun _ _ _ h => h) (Or.inl ⟨by kernel_rfl, ?hy⟩) (by assumption) ?_
  case hy => intro w hSw; (try dsimp only at hSw); go_simp; try with_reducible rfl
  simp only [Act.put, List.setIfInBounds_toArray, List.set_cons_zero, List.set_cons_succ]
  refine wpAnyH_take (i := 9) (v := ?_) rfl (by kernel_rfl) (by kernel_rfl) (by kernel_rfl) (fun _ _ _ h => h) (Or.inl ⟨by kernel_rfl, ?hy⟩) (by assumption) ?_
  case hy => intro w hSw; (try dsimp only at hSw); go_simp; try with_reducible rfl
  simp only [Act.put, List.setIfInBounds_toArray, List.set_cons_zero, List.set_cons_succ]
  refine wpAnyH_take (i := 10) (v := ?_) rfl (by kernel_rfl) (by kernel_rfl) (by kernel_rfl) (fun _ _ _ h => h) (Or.inl ⟨by kernel_rfl, ?hy⟩) (by assumption) ?_
  case hy => intro w hSw; (try dsimp only at hSw); go_simp; try with_reducible rfl
  simp only [Act.put, List.setIfInBounds_toArray, List.set_cons_zero, List.set_cons_succ]
  refine wpAnyH_take (i := 11) (v := ?_) rfl (by kernel_rfl) (by kernel_rfl) (by kernel_rfl) (fun _ _ _ h => h) (Or.inl ⟨by kernel_rfl, ?hy⟩) (by assumption) ?_
  case hy => intro w hSw; (try dsimp only at hSw); go_simp; try with_reducible rfl
  simp only [Act.put, List.setIfInBounds_toArray, List.set_cons_zero, List.set_cons_succ]
  refine wpAnyH_take (i := 13) (v := ?_) rfl (by kernel_rfl) (by kernel_rfl) (by kernel_rfl) (fun _ _ _ h => h) (Or.inl ⟨by kernel_rfl, ?hy⟩) (by assumption) ?_
  case hy => intro w hSw; (try dsimp only at hSw); go_simp; try with_reducible rfl
  simp only [Act.put, List.setIfInBounds_toArray, List.set_cons_zero, List.set_cons_succ]
  refine wpAnyH_take (i := 14) (v := ?_) rfl (by kernel_rfl) (by kernel_rfl) (by kernel_rfl) (fun _ _ _ h => h) (Or.inl ⟨by kernel_rfl, ?hy⟩) (by assumption) ?_
  case hy => intro w hSw; (try dsimp only at hSw); go_simp; try with_reducible rfl
  simp only [Act.put, List.setIfInBounds_toArray, List.set_cons_zero, List.set_cons_succ]
  refine wpAnyH_take (i := 15) (v := ?_) rfl (by kernel_rfl) (by kernel_rfl) (by kernel_rfl) (fun _ _ _ h => h) (Or.inl ⟨by kernel_rfl, ?hy⟩) (by assumption) ?_
  case hy => intro w hSw; (try dsimp only at hSw); go_simp; try with_reducible rfl
  simp only [Act.put, List.setIfInBounds_toArray, List.set_cons_zero, List.set_cons_succ]
  refine wpAnyH_take (i := 21) (v := ?_) rfl (by kernel_rfl) (by kernel_rfl) (by kernel_rfl) (fun _ _ _ h => h) (Or.inl ⟨by kernel_rfl, ?hy⟩) (by assumption) ?_
  case hy => intro w hSw; (try dsimp only at hSw); go_simp; try with_reducible rfl
  simp only [Act.put, List.setIfInBounds_toArray, List.set_cons_zero, List.set_cons_succ]
  refine wpAnyH_ready (rs := [12, 16]) (by kernel_rfl) (by simp) ?_
  refine AllReadyH.cons rfl (fun K hK => ?_) (AllReadyH.cons rfl (fun K hK => ?_) AllReadyH.nil)
  · go_simp
    refine hK.out _ _ hHeld (fun hHeld => ?_)
    clear hK K
    refine wpAnyH_ready (rs := [16]) (by kernel_rfl) (by simp) ?_
    refine AllReadyH.cons rfl (fun K hK => ?_) AllReadyH.nil
    go_simp
    refine hK.out _ _ hHeld (fun hHeld => ?_)
    clear hK K
    refine wpAnyH_ready (rs := [17]) (by kernel_rfl) (by simp) ?_
    refine AllReadyH.cons rfl (fun K hK => ?_) AllReadyH.nil
    go_simp
    refine (A.out _).mono ?_
    rintro e w1 ⟨rfl, rfl⟩
    refine hK.out _ _ hHeld (fun hHeld => ?_)
    clear hK K
    refine wpAnyH_take (i := 18) (v := ?_) rfl (by kernel_rfl) (by kernel_rfl) (by kernel_rfl) (fun _ _ _ h => h) (Or.inl ⟨by kernel_rfl, ?hy⟩) (by assumption) ?_
    case hy => intro w hSw; (try dsimp only at hSw); go_simp; try with_reducible rfl
    simp only [Act.put, List.setIfInBounds_toArray, List.set_cons_zero, List.set_cons_succ]
    refine wpAnyH_take (i := 19) (v := ?_) rfl (by kernel_rfl) (by kernel_rfl) (by kernel_rfl) (fun _ _ _ h => h) (Or.inl ⟨by kernel_rfl, ?hy⟩) (by assumption) ?_
    case hy => intro w hSw; (try dsimp only at hSw); go_simp; try with_reducible rfl
    simp only [Act.put, List.setIfInBounds_toArray, List.set_cons_zero, List.set_cons_succ]
    refine wpAnyH_take (i := 20) (v := ?_) rfl (by kernel_rfl) (by kernel_rfl) (by kernel_rfl) (fun _ _ _ h => h) (Or.inl ⟨by kernel_rfl, ?hy⟩) (by assumption) ?_
    case hy => intro w hSw; (try dsimp only at hSw); go_simp; try with_reducible rfl
    simp only [Act.put, List.setIfInBounds_toArray, List.set_cons_zero, List.set_cons_succ]
    refine wpAnyH_take (i := 22) (v := ?_) rfl (by kernel_rfl) (by kernel_rfl) (by kernel_rfl) (fun _ _ _ h => h) (Or.inl ⟨by kernel_rfl, ?hy⟩) (by assumption) ?_
    case hy => intro w hSw; (try dsimp only at hSw); go_simp; try with_reducible rfl
    simp only [Act.put, List.setIfInBounds_toArray, List.set_cons_zero, List.set_cons_succ]
    refine wpAnyH_ready (rs := [23]) (by kernel_rfl) (by simp) ?_
    refine AllReadyH.cons rfl (fun K hK => ?_) AllReadyH.nil
    go_simp
    refine hK.out _ _ (keepq7 nqB hHeld) (fun hHeld => ?_)
    clear hK K
    refine wpAnyH_done (by kernel_rfl) ?_ _
    refine gw (motive := fun x => Exit.then _ _ Exit.normal _ x) (fun V => Hid (WJ base B ra oa rc ss os (m.sr (b : Int) out) V) ∧ Hid (But B w V)) ⟨(JW.out.bel (bel_d (Below.refl _ _))).setr b hb _ IV.out, HKW.out.d.set b _⟩ ?_
    rintro V ⟨JV, BV⟩
    have f16 := JV.out.fr 16
    have f17 := JV.out.fr 17
    have f18 := JV.out.fr 18
    have f19 := JV.out.fr 19
    have c16 := JV.out.cz
    have c17 := JV.out.cs
    have c18 := JV.out.cc
    have c19 := JV.out.co
    clear x0 x1 x2 x3 x4 x5 x6
    go_wp2_with fail
    go_end0
    rw [HE.out]
    exact ⟨rfl, JV.out.setf false false false false, but4 BV.out false false false false⟩
  · go_simp
    refine hK.out _ _ hHeld (fun hHeld => ?_)
    clear hK K
    refine wpAnyH_ready (rs := [12]) (by kernel_rfl) (by simp) ?_
    refine AllReadyH.cons rfl (fun K hK => ?_) AllReadyH.nil
    go_simp
    refine hK.out _ _ hHeld (fun hHeld => ?_)
    clear hK K
    refine wpAnyH_ready (rs := [17]) (by kernel_rfl) (by simp) ?_
    refine AllReadyH.cons rfl (fun K hK => ?_) AllReadyH.nil
    go_simp
    refine (A.out _).mono ?_
    rintro e w1 ⟨rfl, rfl⟩
    refine hK.out _ _ hHeld (fun hHeld => ?_)
    clear hK K
    refine wpAnyH_take (i := 18) (v := ?_) rfl (by kernel_rfl) (by kernel_rfl) (by kernel_rfl) (fun _ _ _ h => h) (Or.inl ⟨by kernel_rfl, ?hy⟩) (by assumption) ?_
    case hy => intro w hSw; (try dsimp only at hSw); go_simp; try with_reducible rfl
    simp only [Act.put, List.setIfInBounds_toArray, List.set_cons_zero, List.set_cons_succ]
    refine wpAnyH_take (i := 19) (v := ?_) rfl (by kernel_rfl) (by kernel_rfl) (by kernel_rfl) (fun _ _ _ h => h) (Or.inl ⟨by kernel_rfl, ?hy⟩) (by assumption) ?_
    case hy => intro w hSw; (try dsimp only at hSw); go_simp; try with_reducible rfl
    simp only [Act.put, List.setIfInBounds_toArray, List.set_cons_zero, List.set_cons_succ]
    refine wpAnyH_take (i := 20) (v := ?_) rfl (by kernel_rfl) (by kernel_rfl) (by kernel_rfl) (fun _ _ _ h => h) (Or.inl ⟨by kernel_rfl, ?hy⟩) (by assumption) ?_
    case hy => intro w hSw; (try dsimp only at hSw); go_simp; try with_reducible rfl
    simp only [Act.put, List.setIfInBounds_toArray, List.set_cons_zero, List.set_cons_succ]
    refine wpAnyH_take (i := 22) (v := ?_) rfl (by kernel_rfl) (by kernel_rfl) (by kernel_rfl) (fun _ _ _ h => h) (Or.inl ⟨by kernel_rfl, ?hy⟩) (by assumption) ?_
    case hy => intro w hSw; (try dsimp only at hSw); go_simp; try with_reducible rfl
    simp only [Act.put, List.setIfInBounds_toArray, List.set_cons_zero, List.set_cons_succ]
    refine wpAnyH_ready (rs := [23]) (by kernel_rfl) (by simp) ?_
    refine AllReadyH.cons rfl (fun K hK => ?_) AllReadyH.nil
    go_simp
    refine hK.out _ _ (keepq7 nqB hHeld) (fun hHeld => ?_)
    clear hK K
    refine wpAnyH_done (by kernel_rfl) ?_ _
    refine gw (motive := fun x => Exit.then _ _ Exit.normal _ x) (fun V => Hid (WJ base B ra oa rc ss os (m.sr (b : Int) out) V) ∧ Hid (But B w V)) ⟨(JW.out.bel (bel_d (Below.refl _ _))).setr b hb _ IV.out, HKW.out.d.set b _⟩ ?_
    rintro V ⟨JV, BV⟩
    have f16 := JV.out.fr 16
    have f17 := JV.out.fr 17
    have f18 := JV.out.fr 18
    have f19 := JV.out.fr 19
    have c16 := JV.out.cz
    have c17 := JV.out.cs
    have c18 := JV.out.cc
    have c19 := JV.out.co
    clear x0 x1 x2 x3 x4 x5 x6
    go_wp2_with fail
    go_end0
    rw [HE.out]
    exact ⟨rfl, JV.out.setf false false false false, but4 BV.out false false false false⟩
set_option maxRecDepth 100000 in
set_option maxHeartbeats 3200000 in
theorem reckon_10 (hJ : WJ base B ra oa rc ss os m w) (wd : Bool) (r b i c n : Int)  : Calls Try.prog 41 #[.pointer (some ⟨B, 0, none⟩), .agg #[.int .i64 10, .bool wd, .int .i64 r, .int .i64 b, .int .i64 i, .int .i64 c, .int .i64 n]] w (Does base B ra oa rc ss os (rck m ⟨10, wd, r, b, i, c, n⟩) w) := by
  have hB : B < w.heap.size := hJ.row.lt
  have HE : Hid (rck m ⟨10, wd, r, b, i, c, n⟩ = m.sr 2 (Fg.sR 7 wd (Fg.tr wd (m.rg 0)) (Fg.far wd 63))) := by first | rfl | (show _ = _; simp [rck])
  have HJ := hide hJ
  generalize rck m ⟨10, wd, r, b, i, c, n⟩ = M at *
  clear hJ
  go_enter Try.func41, Try.ntmps41
  go_wp2_with fail
  generalize hW : w.alloc _ = W
  have kW : Below w.heap.size w W := by rw [← hW]; exact bel_one _ _
  have hX : Xc.Bx w.heap.size ⟨10, wd, r, b, i, c, n⟩ W := by rw [← hW]; exact Xc.Bx.made _ _
  have JW := hide (HJ.out.bel kW)
  have HKW := hide (But.of (B := B) kW)
  obtain ⟨x0, x1, x2, x3, x4, x5, x6⟩ := hX.cells
  have hqW : w.heap.size < W.heap.size := hX.lt
  have hBW : B < W.heap.size := JW.out.row.lt
  have nq : W.heap.size ≠ w.heap.size := by omega
  have nB : W.heap.size ≠ B := by omega
  have nqB : ¬ w.heap.size = B := by omega
  have HX := hide hX
  clear hX kW hW HJ
  simp only at x0 x1 x2 x3 x4 x5 x6
  generalize w.heap.size = q at *
  have c_0 := JW.out.rgc 0 (by decide)
  have f_0 := JW.out.fr 0
  have c_2 := JW.out.rgc 2 (by decide)
  have f_2 := JW.out.fr 2
  rw [show ((0 : Nat) : Int) = 0 from rfl] at c_0
  have A := hide (fun U => Fg.shift_any 7 wd (m.rg 0) 63 U (i_rg JW.out.ok _))
  have IV := hide (i_sR 7 wd (Fg.tr wd (m.rg 0)) (Fg.far wd 63))
  generalize m.rg 0 = v0 at *
  generalize Fg.sR 7 wd (Fg.tr wd v0) (Fg.far wd 63) = out at *
  go_region_with (go_at_call 62; refine (A.out _).mono ?_; rintro e w1 ⟨rfl, rfl⟩)
  all_goals
    go_wp2_with fail
    go_end0
    rw [HE.out]
    exact ⟨rfl, (JW.out.bel (bel_d (Below.refl _ _))).setr 2 (by decide) _ IV.out, HKW.out.d.set 2 _⟩
end
end Go.Proofs.Ytielpebokbolbaa
namespace Go.Proofs.Ytielpebokbolbaa
open Go.RowKit
open Xc (hide bel_one bel_tr bel_al bel_set Xi)
set_option linter.unusedSimpArgs false
set_option linter.unusedVariables false
section
variable {base B : Nat} {ra oa : Option Addr} {rc : Nat} {ss : Nat → ByteArray} {os : Nat → Option (Nat × Nat)} {m : Mc} {w w' : World}
set_option maxRecDepth 100000 in
set_option maxHeartbeats 3200000 in
theorem reckon_15f (hJ : WJ base B ra oa rc ss os m w) (wd : Bool) (r b : Nat) (i c n : Int) (hr : r < 16) (hb : b < 16) (hq : m.hd c = false) : Calls Try.prog 41 #[.pointer (some ⟨B, 0, none⟩), .agg #[.int .i64 15, .bool wd, .int .i64 r, .int .i64 b, .int .i64 i, .int .i64 c, .int .i64 n]] w (Does base B ra oa rc ss os (rck m ⟨15, wd, r, b, i, c, n⟩) w) := by
  have hB : B < w.heap.size := hJ.row.lt
  have HE : Hid (rck m ⟨15, wd, r, b, i, c, n⟩ = m.sr (r : Int) (Fg.tr wd (m.rg (r : Int)))) := by first | rfl | (show _ = _; simp [rck, hq])
  have HJ := hide hJ
  generalize rck m ⟨15, wd, r, b, i, c, n⟩ = M at *
  clear hJ
  go_enter Try.func41, Try.ntmps41
  go_wp2_with fail
  generalize hW : w.alloc _ = W
  have kW : Below w.heap.size w W := by rw [← hW]; exact bel_one _ _
  have hX : Xc.Bx w.heap.size ⟨15, wd, r, b, i, c, n⟩ W := by rw [← hW]; exact Xc.Bx.made _ _
  have JW := hide (HJ.out.bel kW)
  have HKW := hide (But.of (B := B) kW)
  obtain ⟨x0, x1, x2, x3, x4, x5, x6⟩ := hX.cells
  have hqW : w.heap.size < W.heap.size := hX.lt
  have hBW : B < W.heap.size := JW.out.row.lt
  have nq : W.heap.size ≠ w.heap.size := by omega
  have nB : W.heap.size ≠ B := by omega
  have nqB : ¬ w.heap.size = B := by omega
  have HX := hide hX
  clear hX kW hW HJ
  simp only at x0 x1 x2 x3 x4 x5 x6
  generalize w.heap.size = q at *
  have HQ := hide hq
  clear hq
  refine (whold_any JW.out 15 wd r b i c n).mono ?_
  rintro e w1 ⟨rfl, hb1⟩
  rw [HQ.out]
  have JV := hide (JW.out.bel hb1)
  have BV := hide (HKW.out.trans (But.of hb1))
  have XV := hide (HX.out.kept hb1)
  clear x0 x1 x2 x3 x4 x5 x6 hb1 JW HKW HX
  obtain ⟨x0, x1, x2, x3, x4, x5, x6⟩ := XV.out.cells
  simp only at x0 x1 x2 x3 x4 x5 x6
  have c_r := JV.out.rgc r hr
  have f_r := JV.out.fr r
  have r0 : (0 : Int) ≤ (r : Int) := by omega
  have r16 : (r : Int) < 16 := by omega
  have c_b := JV.out.rgc b hb
  have f_b := JV.out.fr b
  have b0 : (0 : Int) ≤ (b : Int) := by omega
  have b16 : (b : Int) < 16 := by omega
  have IV := hide (i_tr (wide := wd) (i_rg JV.out.ok (r : Int)))
  generalize m.rg (r : Int) = v at *
  generalize m.rg (b : Int) = vb at *
  go_wp2_with fail
  go_region_with (go_at_call 38; refine (Fg.trim_any _ _ _).mono ?_; rintro e w1 ⟨rfl, rfl⟩)
  all_goals
    go_wp2_with fail
    go_end0
    rw [HE.out]
    exact ⟨rfl, (JV.out.bel (bel_d (Below.refl _ _))).setr r hr _ IV.out, BV.out.d.set r _⟩
end
end Go.Proofs.Ytielpebokbolbaa
namespace Go.Proofs.Ytielpebokbolbaa
open Go.RowKit
open Xc (hide bel_one bel_tr bel_al bel_set Xi)
set_option linter.unusedSimpArgs false
set_option linter.unusedVariables false
section
variable {base B : Nat} {ra oa : Option Addr} {rc : Nat} {ss : Nat → ByteArray} {os : Nat → Option (Nat × Nat)} {m : Mc} {w w' : World}
set_option maxRecDepth 100000 in
set_option maxHeartbeats 3200000 in
theorem reckon_1 (hJ : WJ base B ra oa rc ss os m w) (wd : Bool) (r b : Nat) (i c n : Int) (hr : r < 16) (hb : b < 16) : Calls Try.prog 41 #[.pointer (some ⟨B, 0, none⟩), .agg #[.int .i64 1, .bool wd, .int .i64 r, .int .i64 b, .int .i64 i, .int .i64 c, .int .i64 n]] w (Does base B ra oa rc ss os (rck m ⟨1, wd, r, b, i, c, n⟩) w) := by
  have hB : B < w.heap.size := hJ.row.lt
  have HE : Hid (rck m ⟨1, wd, r, b, i, c, n⟩ = m.sr (b : Int) (Fg.tr wd (m.rg (r : Int)))) := by first | rfl | (show _ = _; simp [rck])
  have HJ := hide hJ
  generalize rck m ⟨1, wd, r, b, i, c, n⟩ = M at *
  clear hJ
  go_enter Try.func41, Try.ntmps41
  go_wp2_with fail
  generalize hW : w.alloc _ = W
  have kW : Below w.heap.size w W := by rw [← hW]; exact bel_one _ _
  have hX : Xc.Bx w.heap.size ⟨1, wd, r, b, i, c, n⟩ W := by rw [← hW]; exact Xc.Bx.made _ _
  have JW := hide (HJ.out.bel kW)
  have HKW := hide (But.of (B := B) kW)
  obtain ⟨x0, x1, x2, x3, x4, x5, x6⟩ := hX.cells
  have hqW : w.heap.size < W.heap.size := hX.lt
  have hBW : B < W.heap.size := JW.out.row.lt
  have nq : W.heap.size ≠ w.heap.size := by omega
  have nB : W.heap.size ≠ B := by omega
  have nqB : ¬ w.heap.size = B := by omega
  have HX := hide hX
  clear hX kW hW HJ
  simp only at x0 x1 x2 x3 x4 x5 x6
  generalize w.heap.size = q at *
  have c_r := JW.out.rgc r hr
  have f_r := JW.out.fr r
  have r0 : (0 : Int) ≤ (r : Int) := by omega
  have r16 : (r : Int) < 16 := by omega
  have c_b := JW.out.rgc b hb
  have f_b := JW.out.fr b
  have b0 : (0 : Int) ≤ (b : Int) := by omega
  have b16 : (b : Int) < 16 := by omega
  have IV := hide (i_tr (wide := wd) (i_rg JW.out.ok (r : Int)))
  generalize m.rg (r : Int) = v at *
  generalize m.rg (b : Int) = vb at *
  go_region_with (go_at_call 38; refine (Fg.trim_any _ _ _).mono ?_; rintro e w1 ⟨rfl, rfl⟩)
  all_goals
    go_wp2_with fail
    go_end0
    rw [HE.out]
    exact ⟨rfl, (JW.out.bel (bel_d (Below.refl _ _))).setr b hb _ IV.out, HKW.out.d.set b _⟩
end
end Go.Proofs.Ytielpebokbolbaa
