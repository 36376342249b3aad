/-
  Merged: Rka Rkb Rkc Rkd Rke.
-/
import Derived.Test.YtielpebokbolbaaSM
/-
  The worker's reckon: moves.
-/
namespace Go.Proofs.Ytielpebokbolbaa
open Go.RowKit
open Xc (hide bel_one bel_tr bel_al bel_set Xi)
set_option linter.unusedSimpArgs false
set_option linter.unusedVariables false
section
variable {base B : Nat} {ra oa : Option Addr} {rc : Nat} {ss : Nat → ByteArray} {os : Nat → Option (Nat × Nat)} {m : Mc} {w w' : World}
set_option maxRecDepth 100000 in
set_option maxHeartbeats 3200000 in
theorem reckon_2 (hJ : WJ base B ra oa rc ss os m w) (wd : Bool) (r : Nat) (b i c n : Int) (hr : r < 16) (hn : I64 n) : Calls Try.prog 41 #[.pointer (some ⟨B, 0, none⟩), .agg #[.int .i64 2, .bool wd, .int .i64 r, .int .i64 b, .int .i64 i, .int .i64 c, .int .i64 n]] w (Does base B ra oa rc ss os (rck m ⟨2, wd, r, b, i, c, n⟩) w) := by
  have hB : B < w.heap.size := hJ.row.lt
  have HE : Hid (rck m ⟨2, wd, r, b, i, c, n⟩ = m.sr (r : Int) n) := by first | rfl | (show _ = _; simp [rck])
  have HJ := hide hJ
  generalize rck m ⟨2, wd, r, b, i, c, n⟩ = M at *
  have HN := hide hn
  clear hn
  clear hJ
  go_enter Try.func41, Try.ntmps41
  go_wp2_with fail
  generalize hW : w.alloc _ = W
  have kW : Below w.heap.size w W := by rw [← hW]; exact bel_one _ _
  have hX : Xc.Bx w.heap.size ⟨2, wd, r, b, i, c, n⟩ W := by rw [← hW]; exact Xc.Bx.made _ _
  have JW := hide (HJ.out.bel kW)
  have HKW := hide (But.of (B := B) kW)
  obtain ⟨x0, x1, x2, x3, x4, x5, x6⟩ := hX.cells
  have hqW : w.heap.size < W.heap.size := hX.lt
  have hBW : B < W.heap.size := JW.out.row.lt
  have nq : W.heap.size ≠ w.heap.size := by omega
  have nB : W.heap.size ≠ B := by omega
  have nqB : ¬ w.heap.size = B := by omega
  have HX := hide hX
  clear hX kW hW HJ
  simp only at x0 x1 x2 x3 x4 x5 x6
  generalize w.heap.size = q at *
  have c_r := JW.out.rgc r hr
  have f_r := JW.out.fr r
  have r0 : (0 : Int) ≤ (r : Int) := by omega
  have r16 : (r : Int) < 16 := by omega
  generalize m.rg (r : Int) = v at *
  go_region
  go_wp2_with fail
  go_end0
  rw [HE.out]
  exact ⟨rfl, (JW.out.bel (bel_d (Below.refl _ _))).setr r hr _ HN.out, HKW.out.d.set r _⟩
set_option maxRecDepth 100000 in
set_option maxHeartbeats 3200000 in
theorem reckon_16 (hJ : WJ base B ra oa rc ss os m w) (wd : Bool) (r b : Nat) (i c n : Int) (hr : r < 16) (hb : b < 16) : Calls Try.prog 41 #[.pointer (some ⟨B, 0, none⟩), .agg #[.int .i64 16, .bool wd, .int .i64 r, .int .i64 b, .int .i64 i, .int .i64 c, .int .i64 n]] w (Does base B ra oa rc ss os (rck m ⟨16, wd, r, b, i, c, n⟩) w) := by
  have hB : B < w.heap.size := hJ.row.lt
  have HE : Hid (rck m ⟨16, wd, r, b, i, c, n⟩ = m.sr (r : Int) (wrap32 (m.rg (b : Int)))) := by first | rfl | (show _ = _; simp [rck])
  have HJ := hide hJ
  generalize rck m ⟨16, wd, r, b, i, c, n⟩ = M at *
  clear hJ
  go_enter Try.func41, Try.ntmps41
  go_wp2_with fail
  generalize hW : w.alloc _ = W
  have kW : Below w.heap.size w W := by rw [← hW]; exact bel_one _ _
  have hX : Xc.Bx w.heap.size ⟨16, wd, r, b, i, c, n⟩ W := by rw [← hW]; exact Xc.Bx.made _ _
  have JW := hide (HJ.out.bel kW)
  have HKW := hide (But.of (B := B) kW)
  obtain ⟨x0, x1, x2, x3, x4, x5, x6⟩ := hX.cells
  have hqW : w.heap.size < W.heap.size := hX.lt
  have hBW : B < W.heap.size := JW.out.row.lt
  have nq : W.heap.size ≠ w.heap.size := by omega
  have nB : W.heap.size ≠ B := by omega
  have nqB : ¬ w.heap.size = B := by omega
  have HX := hide hX
  clear hX kW hW HJ
  simp only at x0 x1 x2 x3 x4 x5 x6
  generalize w.heap.size = q at *
  have c_r := JW.out.rgc r hr
  have f_r := JW.out.fr r
  have r0 : (0 : Int) ≤ (r : Int) := by omega
  have r16 : (r : Int) < 16 := by omega
  have c_b := JW.out.rgc b hb
  have f_b := JW.out.fr b
  have b0 : (0 : Int) ≤ (b : Int) := by omega
  have b16 : (b : Int) < 16 := by omega
  generalize m.rg (r : Int) = v at *
  generalize m.rg (b : Int) = vb at *
  have hw := wrap_id (i_wrap32 vb)
  go_region
  all_goals
    go_wp2_with fail
    go_end0
    rw [HE.out]
    exact ⟨rfl, (JW.out.bel (bel_d (Below.refl _ _))).setr r hr _ (i_wrap32 _), HKW.out.d.set r _⟩
set_option maxRecDepth 100000 in
set_option maxHeartbeats 3200000 in
theorem reckon_3 (hJ : WJ base B ra oa rc ss os m w) (wd : Bool) (r b : Nat) (i c n : Int) (hr : r < 16) (hb : b < 16) : Calls Try.prog 41 #[.pointer (some ⟨B, 0, none⟩), .agg #[.int .i64 3, .bool wd, .int .i64 r, .int .i64 b, .int .i64 i, .int .i64 c, .int .i64 n]] w (Does base B ra oa rc ss os (rck m ⟨3, wd, r, b, i, c, n⟩) w) := by
  have hB : B < w.heap.size := hJ.row.lt
  have HE : Hid (rck m ⟨3, wd, r, b, i, c, n⟩ = sumM m ⟨3, wd, r, b, i, c, n⟩ (m.rg (r : Int))) := by first | rfl | (show _ = _; simp [rck])
  have HJ := hide hJ
  generalize rck m ⟨3, wd, r, b, i, c, n⟩ = M at *
  clear hJ
  go_enter Try.func41, Try.ntmps41
  go_wp2_with fail
  generalize hW : w.alloc _ = W
  have kW : Below w.heap.size w W := by rw [← hW]; exact bel_one _ _
  have hX : Xc.Bx w.heap.size ⟨3, wd, r, b, i, c, n⟩ W := by rw [← hW]; exact Xc.Bx.made _ _
  have JW := hide (HJ.out.bel kW)
  have HKW := hide (But.of (B := B) kW)
  obtain ⟨x0, x1, x2, x3, x4, x5, x6⟩ := hX.cells
  have hqW : w.heap.size < W.heap.size := hX.lt
  have hBW : B < W.heap.size := JW.out.row.lt
  have nq : W.heap.size ≠ w.heap.size := by omega
  have nB : W.heap.size ≠ B := by omega
  have nqB : ¬ w.heap.size = B := by omega
  have HX := hide hX
  clear hX kW hW HJ
  simp only at x0 x1 x2 x3 x4 x5 x6
  generalize w.heap.size = q at *
  have c_r := JW.out.rgc r hr
  have f_r := JW.out.fr r
  have r0 : (0 : Int) ≤ (r : Int) := by omega
  have r16 : (r : Int) < 16 := by omega
  have S := hide (wsum_any (JW.out.bel (bel_d (Below.refl _ _))) 3 wd r i c n (m.rg (r : Int)) b hb (i_rg JW.out.ok _))
  generalize m.rg (r : Int) = v at *
  go_region_with (go_at_call 60; refine S.out.mono ?_; rintro e w1 ⟨rfl, JV, BV⟩)
  all_goals
    go_wp2_with fail
    go_end0
    rw [HE.out]
    exact ⟨rfl, JV, HKW.out.d.trans BV⟩
set_option maxRecDepth 100000 in
set_option maxHeartbeats 3200000 in
theorem reckon_4 (hJ : WJ base B ra oa rc ss os m w) (wd : Bool) (b : Nat) (r i c n : Int) (hb : b < 16) (hn : I64 n) : Calls Try.prog 41 #[.pointer (some ⟨B, 0, none⟩), .agg #[.int .i64 4, .bool wd, .int .i64 r, .int .i64 b, .int .i64 i, .int .i64 c, .int .i64 n]] w (Does base B ra oa rc ss os (rck m ⟨4, wd, r, b, i, c, n⟩) w) := by
  have hB : B < w.heap.size := hJ.row.lt
  have HE : Hid (rck m ⟨4, wd, r, b, i, c, n⟩ = sumM m ⟨4, wd, r, b, i, c, n⟩ n) := by first | rfl | (show _ = _; simp [rck])
  have HJ := hide hJ
  generalize rck m ⟨4, wd, r, b, i, c, n⟩ = M at *
  have HN := hide hn
  clear hn
  clear hJ
  go_enter Try.func41, Try.ntmps41
  go_wp2_with fail
  generalize hW : w.alloc _ = W
  have kW : Below w.heap.size w W := by rw [← hW]; exact bel_one _ _
  have hX : Xc.Bx w.heap.size ⟨4, wd, r, b, i, c, n⟩ W := by rw [← hW]; exact Xc.Bx.made _ _
  have JW := hide (HJ.out.bel kW)
  have HKW := hide (But.of (B := B) kW)
  obtain ⟨x0, x1, x2, x3, x4, x5, x6⟩ := hX.cells
  have hqW : w.heap.size < W.heap.size := hX.lt
  have hBW : B < W.heap.size := JW.out.row.lt
  have nq : W.heap.size ≠ w.heap.size := by omega
  have nB : W.heap.size ≠ B := by omega
  have nqB : ¬ w.heap.size = B := by omega
  have HX := hide hX
  clear hX kW hW HJ
  simp only at x0 x1 x2 x3 x4 x5 x6
  generalize w.heap.size = q at *
  refine (wsum_any JW.out 4 wd r i c n n b hb HN.out).mono ?_
  rintro e w1 ⟨rfl, JV, BV⟩
  clear x0 x1 x2 x3 x4 x5 x6
  go_wp2_with fail
  go_end0
  rw [HE.out]
  exact ⟨rfl, JV, HKW.out.trans BV⟩
end
end Go.Proofs.Ytielpebokbolbaa
/-
  The worker's reckon: tests.
-/
namespace Go.Proofs.Ytielpebokbolbaa
open Go.RowKit
open Xc (hide bel_one bel_tr bel_al bel_set Xi)
set_option linter.unusedSimpArgs false
set_option linter.unusedVariables false
theorem held5 {q : Nat} {wd : Bool} {op r b i c n : Int} {w : World} (h : Xc.Bx q ⟨op, wd, r, b, i, c, n⟩ w) : w.cell? ⟨q, 1, none⟩ = some (.bool wd) ∧ w.cell? ⟨q, 2, none⟩ = some (.int .i64 r) ∧ w.cell? ⟨q, 3, none⟩ = some (.int .i64 b) ∧ w.cell? ⟨q, 5, none⟩ = some (.int .i64 c) := ⟨h.cells.2.1, h.cells.2.2.1, h.cells.2.2.2.1, h.cells.2.2.2.2.2.1⟩
theorem keepz {B q : Nat} {w : World} {a1 a2 a3 a5 : Value} {z s c o : Bool} (hne : ¬ q = B) (h : w.cell? ⟨q, 1, none⟩ = some a1 ∧ w.cell? ⟨q, 2, none⟩ = some a2 ∧ w.cell? ⟨q, 3, none⟩ = some a3 ∧ w.cell? ⟨q, 5, none⟩ = some a5) :
    ((((w.setCell ⟨B, 16, none⟩ (.bool z)).setCell ⟨B, 17, none⟩ (.bool s)).setCell ⟨B, 18, none⟩ (.bool c)).setCell ⟨B, 19, none⟩ (.bool o)).cell? ⟨q, 1, none⟩ = some a1 ∧ ((((w.setCell ⟨B, 16, none⟩ (.bool z)).setCell ⟨B, 17, none⟩ (.bool s)).setCell ⟨B, 18, none⟩ (.bool c)).setCell ⟨B, 19, none⟩ (.bool o)).cell? ⟨q, 2, none⟩ = some a2 ∧ ((((w.setCell ⟨B, 16, none⟩ (.bool z)).setCell ⟨B, 17, none⟩ (.bool s)).setCell ⟨B, 18, none⟩ (.bool c)).setCell ⟨B, 19, none⟩ (.bool o)).cell? ⟨q, 3, none⟩ = some a3 ∧ ((((w.setCell ⟨B, 16, none⟩ (.bool z)).setCell ⟨B, 17, none⟩ (.bool s)).setCell ⟨B, 18, none⟩ (.bool c)).setCell ⟨B, 19, none⟩ (.bool o)).cell? ⟨q, 5, none⟩ = some a5 :=
  ⟨set4 hne h.1 z s c o, set4 hne h.2.1 z s c o, set4 hne h.2.2.1 z s c o, set4 hne h.2.2.2 z s c o⟩
section
variable {base B : Nat} {ra oa : Option Addr} {rc : Nat} {ss : Nat → ByteArray} {os : Nat → Option (Nat × Nat)} {m : Mc} {w w' : World}
set_option maxRecDepth 100000 in
set_option maxHeartbeats 3200000 in
theorem reckon_5 (hJ : WJ base B ra oa rc ss os m w) (wd : Bool) (r b : Nat) (i c n : Int) (hr : r < 16) (hb : b < 16) : Calls Try.prog 41 #[.pointer (some ⟨B, 0, none⟩), .agg #[.int .i64 5, .bool wd, .int .i64 r, .int .i64 b, .int .i64 i, .int .i64 c, .int .i64 n]] w (Does base B ra oa rc ss os (rck m ⟨5, wd, r, b, i, c, n⟩) w) := by
  have hB : B < w.heap.size := hJ.row.lt
  have HE : Hid (rck m ⟨5, wd, r, b, i, c, n⟩ = m.fl 4 wd (m.rg (b : Int)) (m.rg (r : Int))) := by first | rfl | (show _ = _; simp [rck])
  have HJ := hide hJ
  generalize rck m ⟨5, wd, r, b, i, c, n⟩ = M at *
  clear hJ
  go_enter Try.func41, Try.ntmps41
  go_wp2_with fail
  generalize hW : w.alloc _ = W
  have kW : Below w.heap.size w W := by rw [← hW]; exact bel_one _ _
  have hX : Xc.Bx w.heap.size ⟨5, wd, r, b, i, c, n⟩ W := by rw [← hW]; exact Xc.Bx.made _ _
  have JW := hide (HJ.out.bel kW)
  have HKW := hide (But.of (B := B) kW)
  obtain ⟨x0, x1, x2, x3, x4, x5, x6⟩ := hX.cells
  have hqW : w.heap.size < W.heap.size := hX.lt
  have hBW : B < W.heap.size := JW.out.row.lt
  have nq : W.heap.size ≠ w.heap.size := by omega
  have nB : W.heap.size ≠ B := by omega
  have nqB : ¬ w.heap.size = B := by omega
  have HX := hide hX
  clear hX kW hW HJ
  simp only at x0 x1 x2 x3 x4 x5 x6
  generalize w.heap.size = q at *
  have c_r := JW.out.rgc r hr
  have f_r := JW.out.fr r
  have r0 : (0 : Int) ≤ (r : Int) := by omega
  have r16 : (r : Int) < 16 := by omega
  have c_b := JW.out.rgc b hb
  have f_b := JW.out.fr b
  have b0 : (0 : Int) ≤ (b : Int) := by omega
  have b16 : (b : Int) < 16 := by omega
  unfold Mc.fl at HE
  have A := hide (fun U => Fg.alu_any 4 wd (m.rg (b : Int)) (m.rg (r : Int)) U (i_rg JW.out.ok _) (i_rg JW.out.ok _))
  generalize m.rg (r : Int) = v at *
  generalize m.rg (b : Int) = vb at *
  generalize Fg.aV 4 wd (Fg.tr wd vb) (Fg.tr wd v) = out at *
  generalize Fg.aZ 4 wd (Fg.tr wd vb) (Fg.tr wd v) = z at *
  generalize Fg.aS 4 wd (Fg.tr wd vb) (Fg.tr wd v) = s at *
  generalize Fg.aC 4 wd (Fg.tr wd vb) (Fg.tr wd v) = cf at *
  generalize Fg.aO 4 wd (Fg.tr wd vb) (Fg.tr wd v) = o at *
  refine wp_region_held_drew (S := (fun X => X.cell? ⟨q, 1, none⟩ = some (.bool wd) ∧ X.cell? ⟨q, 2, none⟩ = some (.int .i64 (r : Int)) ∧ X.cell? ⟨q, 3, none⟩ = some (.int .i64 (b : Int)) ∧ X.cell? ⟨q, 5, none⟩ = some (.int .i64 c))) (by kernel_rfl) ⟨x1, x2, x3, x5⟩ ?_
  intro hHeld
  change wpAnyH _ _ _ _ _ _ _ _ (World.drew _)
  refine wpAnyH_take (i := 0) (v := ?_) rfl (by kernel_rfl) (by kernel_rfl) (by kernel_rfl) (fun _ _ _ h => h) (Or.inl ⟨by kernel_rfl, ?hy⟩) (by assumption) ?_
  case hy => intro w hSw; (try dsimp only at hSw); go_simp; try with_reducible rfl
  simp only [Act.put, List.setIfInBounds_toArray, List.set_cons_zero, List.set_cons_succ]
  refine wpAnyH_take (i := 1) (v := ?_) rfl (by kernel_rfl) (by kernel_rfl) (by kernel_rfl) (fun _ _ _ h => h) (Or.inl ⟨by kernel_rfl, ?hy⟩) (by assumption) ?_
  case hy => intro w hSw; (try dsimp only at hSw); go_simp; try with_reducible rfl
  simp only [Act.put, List.setIfInBounds_toArray, List.set_cons_zero, List.set_cons_succ]
  refine wpAnyH_take (i := 2) (v := ?_) rfl (by kernel_rfl) (by kernel_rfl) (by kernel_rfl) (fun _ _ _ h => h) (Or.inl ⟨by kernel_rfl, ?hy⟩) (by assumption) ?_
  case hy => intro w hSw; (try dsimp only at hSw); go_simp; try with_reducible rfl
  simp only [Act.put, List.setIfInBounds_toArray, List.set_cons_zero, List.set_cons_succ]
  refine wpAnyH_take (i := 3) (v := ?_) rfl (by kernel_rfl) (by kernel_rfl) (by kernel_rfl) (fun _ _ _ h => h) (Or.inl ⟨by kernel_rfl, ?hy⟩) (by assumption) ?_
  case hy => intro w hSw; (try dsimp only at hSw); go_simp; try with_reducible rfl
  simp only [Act.put, List.setIfInBounds_toArray, List.set_cons_zero, List.set_cons_succ]
  refine wpAnyH_take (i := 4) (v := ?_) rfl (by kernel_rfl) (by kernel_rfl) (by kernel_rfl) (fun _ _ _ h => h) (Or.inl ⟨by kernel_rfl, ?hy⟩) (by assumption) ?_
  case hy => intro w hSw; (try dsimp only at hSw); go_simp; try with_reducible rfl
  simp only [Act.put, List.setIfInBounds_toArray, List.set_cons_zero, List.set_cons_succ]
  refine wpAnyH_take (i := 5) (v := ?_) rfl (by kernel_rfl) (by kernel_rfl) (by kernel_rfl) (fun _ _ _ h => h) (Or.inl ⟨by kernel_rfl, ?hy⟩) (by assumption) ?_
  case hy => intro w hSw; (try dsimp only at hSw); go_simp; try with_reducible rfl
  simp only [Act.put, List.setIfInBounds_toArray, List.set_cons_zero, List.set_cons_succ]
  refine wpAnyH_take (i := 6) (v := ?_) rfl (by kernel_rfl) (by kernel_rfl) (by kernel_rfl) (fun _ _ _ h => h) (Or.inl ⟨by kernel_rfl, ?hy⟩) (by assumption) ?_
  case hy => intro w hSw; (try dsimp only at hSw); go_simp; try with_reducible rfl
  simp only [Act.put, List.setIfInBounds_toArray, List.set_cons_zero, List.set_cons_succ]
  refine wpAnyH_take (i := 7) (v := ?_) rfl (by kernel_rfl) (by kernel_rfl) (by kernel_rfl) (fun _ _ _ h => h) (Or.inl ⟨by kernel_rfl, ?hy⟩) (by assumption) ?_
  case hy => intro w hSw; (try dsimp only at hSw); go_simp; try with_reducible rfl
  simp only [Act.put, List.setIfInBounds_toArray, List.set_cons_zero, List.set_cons_succ]
  refine wpAnyH_take (i := 9) (v := ?_) rfl (by kernel_rfl) (by kernel_rfl) (by kernel_rfl) (fun _ _ _ h => h) (Or.inl ⟨by kernel_rfl, ?hy⟩) (by assumption) ?_
  case hy => intro w hSw; (try dsimp only at hSw); go_simp; try with_reducible rfl
  simp only [Act.put, List.setIfInBounds_toArray, List.set_cons_zero, List.set_cons_succ]
  refine wpAnyH_take (i := 10) (v := ?_) rfl (by kernel_rfl) (by kernel_rfl) (by kernel_rfl) (fun _ _ _ h => h) (Or.inl ⟨by kernel_rfl, ?hy⟩) (by assumption) ?_
  case hy => intro w hSw; (try dsimp only at hSw); go_simp; try with_reducible rfl
  simp only [Act.put, List.setIfInBounds_toArray, List.set_cons_zero, List.set_cons_succ]
  refine wpAnyH_take (i := 11) (v := ?_) rfl (by kernel_rfl) (by kernel_rfl) (by kernel_rfl) (fun _ _ _ h => h) (Or.inl ⟨by kernel_rfl, ?hy⟩) (by assumption) ?_
  case hy => intro w hSw; (try dsimp only at hSw); go_simp; try with_reducible rfl
  simp only [Act.put, List.setIfInBounds_toArray, List.set_cons_zero, List.set_cons_succ]
  refine wpAnyH_take (i := 12) (v := ?_) rfl (by kernel_rfl) (by kernel_rfl) (by kernel_rfl) (fun _ _ _ h => h) (Or.inl ⟨by kernel_rfl, ?hy⟩) (by assumption) ?_
  case hy => intro w hSw; (try dsimp only at hSw); go_simp; try with_reducible rfl
  simp only [Act.put, List.setIfInBounds_toArray, List.set_cons_zero, List.set_cons_succ]
  refine wpAnyH_take (i := 13) (v := ?_) rfl (by kernel_rfl) (by kernel_rfl) (by kernel_rfl) (fun _ _ _ h => h) (Or.inl ⟨by kernel_rfl, ?hy⟩) (by assumption) ?_
  case hy => intro w hSw; (try dsimp only at hSw); go_simp; try with_reducible rfl
  simp only [Act.put, List.setIfInBounds_toArray, List.set_cons_zero, List.set_cons_succ]
  refine wpAnyH_ready (rs := [8, 14]) (by kernel_rfl) (by simp) ?_
  refine AllReadyH.cons rfl (fun K hK => ?_) (AllReadyH.cons rfl (fun K hK => ?_) AllReadyH.nil)
  · go_simp
    refine hK.out _ _ hHeld (fun hHeld => ?_)
    clear hK K
    refine wpAnyH_ready (rs := [14]) (by kernel_rfl) (by simp) ?_
    refine AllReadyH.cons rfl (fun K hK => ?_) AllReadyH.nil
    go_simp
    refine hK.out _ _ hHeld (fun hHeld => ?_)
    clear hK K
    refine wpAnyH_ready (rs := [15]) (by kernel_rfl) (by simp) ?_
    refine AllReadyH.cons rfl (fun K hK => ?_) AllReadyH.nil
    go_simp
    refine (A.out _).mono ?_
    rintro e w1 ⟨rfl, hb1⟩
    unfold Fg.flv
    have K1 := hide (bel_tr (bel_d (Below.refl _ W)) hb1)
    have JV := hide (JW.out.bel K1.out)
    have BV := hide (HKW.out.trans (But.of K1.out))
    have hHeld := held5 (HX.out.kept K1.out)
    have f16 := JV.out.fr 16
    have f17 := JV.out.fr 17
    have f18 := JV.out.fr 18
    have f19 := JV.out.fr 19
    have c16 := JV.out.cz
    have c17 := JV.out.cs
    have c18 := JV.out.cc
    have c19 := JV.out.co
    refine hK.out _ _ hHeld (fun hHeld => ?_)
    clear hK K
    refine wpAnyH_take (i := 16) (v := ?_) rfl (by kernel_rfl) (by kernel_rfl) (by kernel_rfl) (fun _ _ _ h => h) (Or.inl ⟨by kernel_rfl, ?hy⟩) (by assumption) ?_
    case hy => intro w hSw; (try dsimp only at hSw); go_simp; try with_reducible rfl
    simp only [Act.put, List.setIfInBounds_toArray, List.set_cons_zero, List.set_cons_succ]
    refine wpAnyH_take (i := 17) (v := ?_) rfl (by kernel_rfl) (by kernel_rfl) (by kernel_rfl) (fun _ _ _ h => h) (Or.inl ⟨by kernel_rfl, ?hy⟩) (by assumption) ?_
    case hy => intro w hSw; (try dsimp only at hSw); go_simp; try with_reducible rfl
    simp only [Act.put, List.setIfInBounds_toArray, List.set_cons_zero, List.set_cons_succ]
    refine wpAnyH_take (i := 18) (v := ?_) rfl (by kernel_rfl) (by kernel_rfl) (by kernel_rfl) (fun _ _ _ h => h) (Or.inl ⟨by kernel_rfl, ?hy⟩) (by assumption) ?_
    case hy => intro w hSw; (try dsimp only at hSw); go_simp; try with_reducible rfl
    simp only [Act.put, List.setIfInBounds_toArray, List.set_cons_zero, List.set_cons_succ]
    refine wpAnyH_take (i := 19) (v := ?_) rfl (by kernel_rfl) (by kernel_rfl) (by kernel_rfl) (fun _ _ _ h => h) (Or.inl ⟨by kernel_rfl, ?hy⟩) (by assumption) ?_
    case hy => intro w hSw; (try dsimp only at hSw); go_simp; try with_reducible rfl
    simp only [Act.put, List.setIfInBounds_toArray, List.set_cons_zero, List.set_cons_succ]
    refine wpAnyH_take (i := 20) (v := ?_) rfl (by kernel_rfl) (by kernel_rfl) (by kernel_rfl) (fun _ _ _ h => h) (Or.inl ⟨by kernel_rfl, ?hy⟩) (by assumption) ?_
    case hy => intro w hSw; (try dsimp only at hSw); go_simp; try with_reducible rfl
    simp only [Act.put, List.setIfInBounds_toArray, List.set_cons_zero, List.set_cons_succ]
    refine wpAnyH_take (i := 21) (v := ?_) rfl (by kernel_rfl) (by kernel_rfl) (by kernel_rfl) (fun _ _ _ h => h) (Or.inl ⟨by kernel_rfl, ?hy⟩) (by assumption) ?_
    case hy => intro w hSw; (try dsimp only at hSw); go_simp; try with_reducible rfl
    simp only [Act.put, List.setIfInBounds_toArray, List.set_cons_zero, List.set_cons_succ]
    refine wpAnyH_take (i := 22) (v := ?_) rfl (by kernel_rfl) (by kernel_rfl) (by kernel_rfl) (fun _ _ _ h => h) (Or.inl ⟨by kernel_rfl, ?hy⟩) (by assumption) ?_
    case hy => intro w hSw; (try dsimp only at hSw); go_simp; try with_reducible rfl
    simp only [Act.put, List.setIfInBounds_toArray, List.set_cons_zero, List.set_cons_succ]
    refine wpAnyH_ready (rs := [23]) (by kernel_rfl) (by simp) ?_
    refine AllReadyH.cons rfl (fun K hK => ?_) AllReadyH.nil
    go_simp
    refine hK.out _ _ (keepz nqB hHeld) (fun hHeld => ?_)
    clear hK K
    refine wpAnyH_done (by kernel_rfl) ?_ _
    go_wp2_with fail
    go_end0
    rw [HE.out]
    exact ⟨rfl, JV.out.setf z s cf o, but4 BV.out z s cf o⟩
  · go_simp
    refine hK.out _ _ hHeld (fun hHeld => ?_)
    clear hK K
    refine wpAnyH_ready (rs := [8]) (by kernel_rfl) (by simp) ?_
    refine AllReadyH.cons rfl (fun K hK => ?_) AllReadyH.nil
    go_simp
    refine hK.out _ _ hHeld (fun hHeld => ?_)
    clear hK K
    refine wpAnyH_ready (rs := [15]) (by kernel_rfl) (by simp) ?_
    refine AllReadyH.cons rfl (fun K hK => ?_) AllReadyH.nil
    go_simp
    refine (A.out _).mono ?_
    rintro e w1 ⟨rfl, hb1⟩
    unfold Fg.flv
    have K1 := hide (bel_tr (bel_d (Below.refl _ W)) hb1)
    have JV := hide (JW.out.bel K1.out)
    have BV := hide (HKW.out.trans (But.of K1.out))
    have hHeld := held5 (HX.out.kept K1.out)
    have f16 := JV.out.fr 16
    have f17 := JV.out.fr 17
    have f18 := JV.out.fr 18
    have f19 := JV.out.fr 19
    have c16 := JV.out.cz
    have c17 := JV.out.cs
    have c18 := JV.out.cc
    have c19 := JV.out.co
    refine hK.out _ _ hHeld (fun hHeld => ?_)
    clear hK K
    refine wpAnyH_take (i := 16) (v := ?_) rfl (by kernel_rfl) (by kernel_rfl) (by kernel_rfl) (fun _ _ _ h => h) (Or.inl ⟨by kernel_rfl, ?hy⟩) (by assumption) ?_
    case hy => intro w hSw; (try dsimp only at hSw); go_simp; try with_reducible rfl
    simp only [Act.put, List.setIfInBounds_toArray, List.set_cons_zero, List.set_cons_succ]
    refine wpAnyH_take (i := 17) (v := ?_) rfl (by kernel_rfl) (by kernel_rfl) (by kernel_rfl) (fun _ _ _ h => h) (Or.inl ⟨by kernel_rfl, ?hy⟩) (by assumption) ?_
    case hy => intro w hSw; (try dsimp only at hSw); go_simp; try with_reducible rfl
    simp only [Act.put, List.setIfInBounds_toArray, List.set_cons_zero, List.set_cons_succ]
    refine wpAnyH_take (i := 18) (v := ?_) rfl (by kernel_rfl) (by kernel_rfl) (by kernel_rfl) (fun _ _ _ h => h) (Or.inl ⟨by kernel_rfl, ?hy⟩) (by assumption) ?_
    case hy => intro w hSw; (try dsimp only at hSw); go_simp; try with_reducible rfl
    simp only [Act.put, List.setIfInBounds_toArray, List.set_cons_zero, List.set_cons_succ]
    refine wpAnyH_take (i := 19) (v := ?_) rfl (by kernel_rfl) (by kernel_rfl) (by kernel_rfl) (fun _ _ _ h => h) (Or.inl ⟨by kernel_rfl, ?hy⟩) (by assumption) ?_
    case hy => intro w hSw; (try dsimp only at hSw); go_simp; try with_reducible rfl
    simp only [Act.put, List.setIfInBounds_toArray, List.set_cons_zero, List.set_cons_succ]
    refine wpAnyH_take (i := 20) (v := ?_) rfl (by kernel_rfl) (by kernel_rfl) (by kernel_rfl) (fun _ _ _ h => h) (Or.inl ⟨by kernel_rfl, ?hy⟩) (by assumption) ?_
    case hy => intro w hSw; (try dsimp only at hSw); go_simp; try with_reducible rfl
    simp only [Act.put, List.setIfInBounds_toArray, List.set_cons_zero, List.set_cons_succ]
    refine wpAnyH_take (i := 21) (v := ?_) rfl (by kernel_rfl) (by kernel_rfl) (by kernel_rfl) (fun _ _ _ h => h) (Or.inl ⟨by kernel_rfl, ?hy⟩) (by assumption) ?_
    case hy => intro w hSw; (try dsimp only at hSw); go_simp; try with_reducible rfl
    simp only [Act.put, List.setIfInBounds_toArray, List.set_cons_zero, List.set_cons_succ]
    refine wpAnyH_take (i := 22) (v := ?_) rfl (by kernel_rfl) (by kernel_rfl) (by kernel_rfl) (fun _ _ _ h => h) (Or.inl ⟨by kernel_rfl, ?hy⟩) (by assumption) ?_
    case hy => intro w hSw; (try dsimp only at hSw); go_simp; try with_reducible rfl
    simp only [Act.put, List.setIfInBounds_toArray, List.set_cons_zero, List.set_cons_succ]
    refine wpAnyH_ready (rs := [23]) (by kernel_rfl) (by simp) ?_
    refine AllReadyH.cons rfl (fun K hK => ?_) AllReadyH.nil
    go_simp
    refine hK.out _ _ (keepz nqB hHeld) (fun hHeld => ?_)
    clear hK K
    refine wpAnyH_done (by kernel_rfl) ?_ _
    go_wp2_with fail
    go_end0
    rw [HE.out]
    exact ⟨rfl, JV.out.setf z s cf o, but4 BV.out z s cf o⟩
end
end Go.Proofs.Ytielpebokbolbaa
/-
  The worker's reckon: products.
-/
namespace Go.Proofs.Ytielpebokbolbaa
open Go.RowKit
open Xc (hide bel_one bel_tr bel_al bel_set Xi)
set_option linter.unusedSimpArgs false
set_option linter.unusedVariables false
theorem keepq6 {B q : Nat} {w : World} {k : Nat} {v a1 a2 a3 a5 : Value} (hne : ¬ q = B) (h : w.cell? ⟨q, 1, none⟩ = some a1 ∧ w.cell? ⟨q, 2, none⟩ = some a2 ∧ w.cell? ⟨q, 3, none⟩ = some a3 ∧ w.cell? ⟨q, 5, none⟩ = some a5) : (w.setCell ⟨B, k, none⟩ v).cell? ⟨q, 1, none⟩ = some a1 ∧ (w.setCell ⟨B, k, none⟩ v).cell? ⟨q, 2, none⟩ = some a2 ∧ (w.setCell ⟨B, k, none⟩ v).cell? ⟨q, 3, none⟩ = some a3 ∧ (w.setCell ⟨B, k, none⟩ v).cell? ⟨q, 5, none⟩ = some a5 := by
  have ne : ∀ a b : Nat, (⟨B, a, none⟩ : Addr) ≠ ⟨q, b, none⟩ := fun a b e => hne (by injection e with e1; exact e1.symm)
  rw [World.cell?_setCell_other _ _ _ _ (ne _ _), World.cell?_setCell_other _ _ _ _ (ne _ _), World.cell?_setCell_other _ _ _ _ (ne _ _), World.cell?_setCell_other _ _ _ _ (ne _ _)]; exact h
section
variable {base B : Nat} {ra oa : Option Addr} {rc : Nat} {ss : Nat → ByteArray} {os : Nat → Option (Nat × Nat)} {m : Mc} {w w' : World}
set_option maxRecDepth 100000 in
set_option maxHeartbeats 3200000 in
theorem reckon_6 (hJ : WJ base B ra oa rc ss os m w) (wd : Bool) (r b : Nat) (i c n : Int) (hr : r < 16) (hb : b < 16) : Calls Try.prog 41 #[.pointer (some ⟨B, 0, none⟩), .agg #[.int .i64 6, .bool wd, .int .i64 r, .int .i64 b, .int .i64 i, .int .i64 c, .int .i64 n]] w (Does base B ra oa rc ss os (rck m ⟨6, wd, r, b, i, c, n⟩) w) := by
  have hB : B < w.heap.size := hJ.row.lt
  have HE : Hid (rck m ⟨6, wd, r, b, i, c, n⟩ = (m.sr (r : Int) (Fg.tr wd (wrap64 (m.rg (r : Int) * m.rg (b : Int))))).sf false false false false) := by first | rfl | (show _ = _; simp [rck])
  have HJ := hide hJ
  generalize rck m ⟨6, wd, r, b, i, c, n⟩ = M at *
  clear hJ
  go_enter Try.func41, Try.ntmps41
  go_wp2_with fail
  generalize hW : w.alloc _ = W
  have kW : Below w.heap.size w W := by rw [← hW]; exact bel_one _ _
  have hX : Xc.Bx w.heap.size ⟨6, wd, r, b, i, c, n⟩ W := by rw [← hW]; exact Xc.Bx.made _ _
  have JW := hide (HJ.out.bel kW)
  have HKW := hide (But.of (B := B) kW)
  obtain ⟨x0, x1, x2, x3, x4, x5, x6⟩ := hX.cells
  have hqW : w.heap.size < W.heap.size := hX.lt
  have hBW : B < W.heap.size := JW.out.row.lt
  have nq : W.heap.size ≠ w.heap.size := by omega
  have nB : W.heap.size ≠ B := by omega
  have nqB : ¬ w.heap.size = B := by omega
  have HX := hide hX
  clear hX kW hW HJ
  simp only at x0 x1 x2 x3 x4 x5 x6
  generalize w.heap.size = q at *
  have c_r := JW.out.rgc r hr
  have f_r := JW.out.fr r
  have r0 : (0 : Int) ≤ (r : Int) := by omega
  have r16 : (r : Int) < 16 := by omega
  have c_b := JW.out.rgc b hb
  have f_b := JW.out.fr b
  have b0 : (0 : Int) ≤ (b : Int) := by omega
  have b16 : (b : Int) < 16 := by omega
  have IV := hide (i_tr (wide := wd) (i_wrap (m.rg (r : Int) * m.rg (b : Int))))
  generalize m.rg (r : Int) = v at *
  generalize m.rg (b : Int) = vb at *
  refine wp_region_held_drew (S := (fun X => X.cell? ⟨q, 1, none⟩ = some (.bool wd) ∧ X.cell? ⟨q, 2, none⟩ = some (.int .i64 (r : Int)) ∧ X.cell? ⟨q, 3, none⟩ = some (.int .i64 (b : Int)) ∧ X.cell? ⟨q, 5, none⟩ = some (.int .i64 c))) (by kernel_rfl) ⟨x1, x2, x3, x5⟩ ?_
  intro hHeld
  change wpAnyH _ _ _ _ _ _ _ _ (World.drew _)
  refine wpAnyH_take (i := 0) (v := ?_) rfl (by kernel_rfl) (by kernel_rfl) (by kernel_rfl) (fun _ _ _ h => h) (Or.inl ⟨by kernel_rfl, ?hy⟩) (by assumption) ?_
  case hy => intro w hSw; (try dsimp only at hSw); go_simp; try with_reducible rfl
  simp only [Act.put, List.setIfInBounds_toArray, List.set_cons_zero, List.set_cons_succ]
  refine wpAnyH_take (i := 1) (v := ?_) rfl (by kernel_rfl) (by kernel_rfl) (by kernel_rfl) (fun _ _ _ h => h) (Or.inl ⟨by kernel_rfl, ?hy⟩) (by assumption) ?_
  case hy => intro w hSw; (try dsimp only at hSw); go_simp; try with_reducible rfl
  simp only [Act.put, List.setIfInBounds_toArray, List.set_cons_zero, List.set_cons_succ]
  refine wpAnyH_take (i := 2) (v := ?_) rfl (by kernel_rfl) (by kernel_rfl) (by kernel_rfl) (fun _ _ _ h => h) (Or.inl ⟨by kernel_rfl, ?hy⟩) (by assumption) ?_
  case hy => intro w hSw; (try dsimp only at hSw); go_simp; try with_reducible rfl
  simp only [Act.put, List.setIfInBounds_toArray, List.set_cons_zero, List.set_cons_succ]
  refine wpAnyH_take (i := 3) (v := ?_) rfl (by kernel_rfl) (by kernel_rfl) (by kernel_rfl) (fun _ _ _ h => h) (Or.inl ⟨by kernel_rfl, ?hy⟩) (by assumption) ?_
  case hy => intro w hSw; (try dsimp only at hSw); go_simp; try with_reducible rfl
  simp only [Act.put, List.setIfInBounds_toArray, List.set_cons_zero, List.set_cons_succ]
  refine wpAnyH_take (i := 4) (v := ?_) rfl (by kernel_rfl) (by kernel_rfl) (by kernel_rfl) (fun _ _ _ h => h) (Or.inl ⟨by kernel_rfl, ?hy⟩) (by assumption) ?_
  case hy => intro w hSw; (try dsimp only at hSw); go_simp; try with_reducible rfl
  simp only [Act.put, List.setIfInBounds_toArray, List.set_cons_zero, List.set_cons_succ]
  refine wpAnyH_take (i := 5) (v := ?_) rfl (by kernel_rfl) (by kernel_rfl) (by kernel_rfl) (fun _ _ _ h => h) (Or.inl ⟨by kernel_rfl, ?hy⟩) (by assumption) ?_
  case hy => intro w hSw; (try dsimp only at hSw); go_simp; try with_reducible rfl
  simp only [Act.put, List.setIfInBounds_toArray, List.set_cons_zero, List.set_cons_succ]
  refine wpAnyH_take (i := 6) (v := ?_) rfl (by kernel_rfl) (by kernel_rfl) (by kernel_rfl) (fun _ _ _ h => h) (Or.inl ⟨by kernel_rfl, ?hy⟩) (by assumption) ?_
  case hy => intro w hSw; (try dsimp only at hSw); go_simp; try with_reducible rfl
  simp only [Act.put, List.setIfInBounds_toArray, List.set_cons_zero, List.set_cons_succ]
  refine wpAnyH_take (i := 7) (v := ?_) rfl (by kernel_rfl) (by kernel_rfl) (by kernel_rfl) (fun _ _ _ h => h) (Or.inl ⟨by kernel_rfl, ?hy⟩) (by assumption) ?_
  case hy => intro w hSw; (try dsimp only at hSw); go_simp; try with_reducible rfl
  simp only [Act.put, List.setIfInBounds_toArray, List.set_cons_zero, List.set_cons_succ]
  refine wpAnyH_take (i := 8) (v := ?_) rfl (by kernel_rfl) (by kernel_rfl) (by kernel_rfl) (fun _ _ _ h => h) (Or.inl ⟨by kernel_rfl, ?hy⟩) (by assumption) ?_
  case hy => intro w hSw; (try dsimp only at hSw); go_simp; try with_reducible rfl
  simp only [Act.put, List.setIfInBounds_toArray, List.set_cons_zero, List.set_cons_succ]
  refine wpAnyH_take (i := 9) (v := ?_) rfl (by kernel_rfl) (by kernel_rfl) (by kernel_rfl) (fun _ _ _ h => h) (Or.inl ⟨by kernel_rfl, ?hy⟩) (by assumption) ?_
  case hy => intro w hSw; (try dsimp only at hSw); go_simp; try with_reducible rfl
  simp only [Act.put, List.setIfInBounds_toArray, List.set_cons_zero, List.set_cons_succ]
  refine wpAnyH_take (i := 11) (v := ?_) rfl (by kernel_rfl) (by kernel_rfl) (by kernel_rfl) (fun _ _ _ h => h) (Or.inl ⟨by kernel_rfl, ?hy⟩) (by assumption) ?_
  case hy => intro w hSw; (try dsimp only at hSw); go_simp; try with_reducible rfl
  simp only [Act.put, List.setIfInBounds_toArray, List.set_cons_zero, List.set_cons_succ]
  refine wpAnyH_take (i := 12) (v := ?_) rfl (by kernel_rfl) (by kernel_rfl) (by kernel_rfl) (fun _ _ _ h => h) (Or.inl ⟨by kernel_rfl, ?hy⟩) (by assumption) ?_
  case hy => intro w hSw; (try dsimp only at hSw); go_simp; try with_reducible rfl
  simp only [Act.put, List.setIfInBounds_toArray, List.set_cons_zero, List.set_cons_succ]
  refine wpAnyH_take (i := 13) (v := ?_) rfl (by kernel_rfl) (by kernel_rfl) (by kernel_rfl) (fun _ _ _ h => h) (Or.inl ⟨by kernel_rfl, ?hy⟩) (by assumption) ?_
  case hy => intro w hSw; (try dsimp only at hSw); go_simp; try with_reducible rfl
  simp only [Act.put, List.setIfInBounds_toArray, List.set_cons_zero, List.set_cons_succ]
  refine wpAnyH_take (i := 14) (v := ?_) rfl (by kernel_rfl) (by kernel_rfl) (by kernel_rfl) (fun _ _ _ h => h) (Or.inl ⟨by kernel_rfl, ?hy⟩) (by assumption) ?_
  case hy => intro w hSw; (try dsimp only at hSw); go_simp; try with_reducible rfl
  simp only [Act.put, List.setIfInBounds_toArray, List.set_cons_zero, List.set_cons_succ]
  refine wpAnyH_take (i := 15) (v := ?_) rfl (by kernel_rfl) (by kernel_rfl) (by kernel_rfl) (fun _ _ _ h => h) (Or.inl ⟨by kernel_rfl, ?hy⟩) (by assumption) ?_
  case hy => intro w hSw; (try dsimp only at hSw); go_simp; try with_reducible rfl
  simp only [Act.put, List.setIfInBounds_toArray, List.set_cons_zero, List.set_cons_succ]
  refine wpAnyH_take (i := 19) (v := ?_) rfl (by kernel_rfl) (by kernel_rfl) (by kernel_rfl) (fun _ _ _ h => h) (Or.inl ⟨by kernel_rfl, ?hy⟩) (by assumption) ?_
  case hy => intro w hSw; (try dsimp only at hSw); go_simp; try with_reducible rfl
  simp only [Act.put, List.setIfInBounds_toArray, List.set_cons_zero, List.set_cons_succ]
  refine wpAnyH_ready (rs := [10, 16]) (by kernel_rfl) (by simp) ?_
  refine AllReadyH.cons rfl (fun K hK => ?_) (AllReadyH.cons rfl (fun K hK => ?_) AllReadyH.nil)
  · go_simp
    refine hK.out _ _ hHeld (fun hHeld => ?_)
    clear hK K
    refine wpAnyH_ready (rs := [16]) (by kernel_rfl) (by simp) ?_
    refine AllReadyH.cons rfl (fun K hK => ?_) AllReadyH.nil
    go_simp
    refine hK.out _ _ hHeld (fun hHeld => ?_)
    clear hK K
    refine wpAnyH_take (i := 17) (v := ?_) rfl (by kernel_rfl) (by kernel_rfl) (by kernel_rfl) (fun _ _ _ h => h) (Or.inl ⟨by kernel_rfl, ?hy⟩) (by assumption) ?_
    case hy => intro w hSw; (try dsimp only at hSw); go_simp; try with_reducible rfl
    simp only [Act.put, List.setIfInBounds_toArray, List.set_cons_zero, List.set_cons_succ]
    refine wpAnyH_ready (rs := [18]) (by kernel_rfl) (by simp) ?_
    refine AllReadyH.cons rfl (fun K hK => ?_) AllReadyH.nil
    go_simp
    refine (Fg.trim_any _ _ _).mono ?_
    rintro e w1 ⟨rfl, rfl⟩
    refine hK.out _ _ hHeld (fun hHeld => ?_)
    clear hK K
    refine wpAnyH_take (i := 20) (v := ?_) rfl (by kernel_rfl) (by kernel_rfl) (by kernel_rfl) (fun _ _ _ h => h) (Or.inl ⟨by kernel_rfl, ?hy⟩) (by assumption) ?_
    case hy => intro w hSw; (try dsimp only at hSw); go_simp; try with_reducible rfl
    simp only [Act.put, List.setIfInBounds_toArray, List.set_cons_zero, List.set_cons_succ]
    refine wpAnyH_ready (rs := [21]) (by kernel_rfl) (by simp) ?_
    refine AllReadyH.cons rfl (fun K hK => ?_) AllReadyH.nil
    go_simp
    refine hK.out _ _ (keepq6 nqB hHeld) (fun hHeld => ?_)
    clear hK K
    refine wpAnyH_done (by kernel_rfl) ?_ _
    simp only [Fg.i64_wrap]
    refine gw (motive := fun x => Exit.then _ _ Exit.normal _ x) (fun V => Hid (WJ base B ra oa rc ss os (m.sr (r : Int) (Fg.tr wd (wrap64 (v * vb)))) V) ∧ Hid (But B w V)) ⟨(JW.out.bel (bel_d (Below.refl _ _))).setr r hr _ IV.out, HKW.out.d.set r _⟩ ?_
    rintro V ⟨JV, BV⟩
    have f16 := JV.out.fr 16
    have f17 := JV.out.fr 17
    have f18 := JV.out.fr 18
    have f19 := JV.out.fr 19
    have c16 := JV.out.cz
    have c17 := JV.out.cs
    have c18 := JV.out.cc
    have c19 := JV.out.co
    clear x0 x1 x2 x3 x4 x5 x6
    go_wp2_with fail
    go_end0
    rw [HE.out]
    exact ⟨rfl, JV.out.setf false false false false, but4 BV.out false false false false⟩
  · go_simp
    refine hK.out _ _ hHeld (fun hHeld => ?_)
    clear hK K
    refine wpAnyH_ready (rs := [10]) (by kernel_rfl) (by simp) ?_
    refine AllReadyH.cons rfl (fun K hK => ?_) AllReadyH.nil
    go_simp
    refine hK.out _ _ hHeld (fun hHeld => ?_)
    clear hK K
    refine wpAnyH_take (i := 17) (v := ?_) rfl (by kernel_rfl) (by kernel_rfl) (by kernel_rfl) (fun _ _ _ h => h) (Or.inl ⟨by kernel_rfl, ?hy⟩) (by assumption) ?_
    case hy => intro w hSw; (try dsimp only at hSw); go_simp; try with_reducible rfl
    simp only [Act.put, List.setIfInBounds_toArray, List.set_cons_zero, List.set_cons_succ]
    refine wpAnyH_ready (rs := [18]) (by kernel_rfl) (by simp) ?_
    refine AllReadyH.cons rfl (fun K hK => ?_) AllReadyH.nil
    go_simp
    refine (Fg.trim_any _ _ _).mono ?_
    rintro e w1 ⟨rfl, rfl⟩
    refine hK.out _ _ hHeld (fun hHeld => ?_)
    clear hK K
    refine wpAnyH_take (i := 20) (v := ?_) rfl (by kernel_rfl) (by kernel_rfl) (by kernel_rfl) (fun _ _ _ h => h) (Or.inl ⟨by kernel_rfl, ?hy⟩) (by assumption) ?_
    case hy => intro w hSw; (try dsimp only at hSw); go_simp; try with_reducible rfl
    simp only [Act.put, List.setIfInBounds_toArray, List.set_cons_zero, List.set_cons_succ]
    refine wpAnyH_ready (rs := [21]) (by kernel_rfl) (by simp) ?_
    refine AllReadyH.cons rfl (fun K hK => ?_) AllReadyH.nil
    go_simp
    refine hK.out _ _ (keepq6 nqB hHeld) (fun hHeld => ?_)
    clear hK K
    refine wpAnyH_done (by kernel_rfl) ?_ _
    simp only [Fg.i64_wrap]
    refine gw (motive := fun x => Exit.then _ _ Exit.normal _ x) (fun V => Hid (WJ base B ra oa rc ss os (m.sr (r : Int) (Fg.tr wd (wrap64 (v * vb)))) V) ∧ Hid (But B w V)) ⟨(JW.out.bel (bel_d (Below.refl _ _))).setr r hr _ IV.out, HKW.out.d.set r _⟩ ?_
    rintro V ⟨JV, BV⟩
    have f16 := JV.out.fr 16
    have f17 := JV.out.fr 17
    have f18 := JV.out.fr 18
    have f19 := JV.out.fr 19
    have c16 := JV.out.cz
    have c17 := JV.out.cs
    have c18 := JV.out.cc
    have c19 := JV.out.co
    clear x0 x1 x2 x3 x4 x5 x6
    go_wp2_with fail
    go_end0
    rw [HE.out]
    exact ⟨rfl, JV.out.setf false false false false, but4 BV.out false false false false⟩
end
end Go.Proofs.Ytielpebokbolbaa
/-
  The worker's reckon: bytes.
-/
namespace Go.Proofs.Ytielpebokbolbaa
open Go.RowKit
open Xc (hide bel_one bel_tr bel_al bel_set Xi)
set_option linter.unusedSimpArgs false
set_option linter.unusedVariables false
theorem and255 (v : Int) (h : I64 v) : bits BinOp.and IntKind.i64 v 255 = v % 256 := by
  have e := Fg.bits_and true v 255 h (by unfold Fg.Wd Fg.I64; simp)
  rw [e]
  have r : Fg.R true 255 = 2 ^ 8 - 1 := by decide
  rw [r, Nat.and_two_pow_sub_one_eq_mod]
  unfold Fg.R Fg.md wrap64
  simp only [if_true]
  omega
theorem andnot255 (v : Int) (h : I64 v) : bits BinOp.andNot IntKind.i64 v 255 = hi8 v := by
  have e : bits BinOp.andNot IntKind.i64 v 255 = IntKind.i64.wrap ((BitVec.ofInt 64 v &&& ~~~ BitVec.ofInt 64 255).toNat : Int) := rfl
  rw [e]
  have hx : (BitVec.ofInt 64 v).toNat = Fg.R true v := Fg.ofInt_R true v h
  have k : (BitVec.ofInt 64 v &&& ~~~ BitVec.ofInt 64 255) = (BitVec.ofInt 64 v >>> 8) <<< 8 := by
    apply BitVec.eq_of_getLsbD_eq
    intro i hi
    have l : (BitVec.ofInt 64 255).getLsbD i = decide (i < 8) := by
      have : ∀ i : Fin 64, (BitVec.ofInt 64 255).getLsbD i.1 = decide (i.1 < 8) := by decide
      exact this ⟨i, hi⟩
    simp only [BitVec.getLsbD_and, BitVec.getLsbD_not, BitVec.getLsbD_shiftLeft, BitVec.getLsbD_ushiftRight, l, hi, decide_true, Bool.true_and]
    by_cases h8 : i < 8
    · simp [h8]
    · simp [h8]
      rw [show 8 + (i - 8) = i by omega]
  rw [k, BitVec.toNat_shiftLeft, BitVec.toNat_ushiftRight, hx, Fg.i64_wrap, Nat.shiftRight_eq_div_pow, Nat.shiftLeft_eq]
  unfold Fg.R Fg.md wrap64 hi8
  simp only [if_true]
  have hv := h
  unfold I64 Xc.I64 at hv
  omega
theorem bx_d {g : Nat} {x : Xi} {w : World} (h : Xc.Bx g x w) : Xc.Bx g x w.drew := h
theorem bx_set {g B : Nat} {x : Xi} {w : World} (h : Xc.Bx g x w) (hne : ¬ g = B) (k : Nat) (v : Value) : Xc.Bx g x (w.setCell ⟨B, k, none⟩ v) := by
  unfold Xc.Bx at *; rw [Below.heap_setCell w ⟨B, k, none⟩ v g hne]; exact h
theorem rg_sr0 {m : Mc} (h : m.r.length = 16) (v : Int) : (m.sr 0 v).rg ((0 : Nat) : Int) = v := by
  simp [Mc.rg, Mc.sr, List.getD_eq_getElem?_getD, h]
section
variable {base B : Nat} {ra oa : Option Addr} {rc : Nat} {ss : Nat → ByteArray} {os : Nat → Option (Nat × Nat)} {m : Mc} {w w' : World}
set_option maxRecDepth 100000 in
set_option maxHeartbeats 3200000 in
theorem reckon_13t (hJ : WJ base B ra oa rc ss os m w) (wd : Bool) (r b i c n : Int) (hq : m.hd c = true) : Calls Try.prog 41 #[.pointer (some ⟨B, 0, none⟩), .agg #[.int .i64 13, .bool wd, .int .i64 r, .int .i64 b, .int .i64 i, .int .i64 c, .int .i64 n]] w (Does base B ra oa rc ss os (rck m ⟨13, wd, r, b, i, c, n⟩) w) := by
  have hB : B < w.heap.size := hJ.row.lt
  have HE : Hid (rck m ⟨13, wd, r, b, i, c, n⟩ = m.sr 0 (hi8 (m.rg 0) + 1)) := by first | rfl | (show _ = _; simp [rck, hq])
  have HJ := hide hJ
  generalize rck m ⟨13, wd, r, b, i, c, n⟩ = M at *
  clear hJ
  go_enter Try.func41, Try.ntmps41
  go_wp2_with fail
  generalize hW : w.alloc _ = W
  have kW : Below w.heap.size w W := by rw [← hW]; exact bel_one _ _
  have hX : Xc.Bx w.heap.size ⟨13, wd, r, b, i, c, n⟩ W := by rw [← hW]; exact Xc.Bx.made _ _
  have JW := hide (HJ.out.bel kW)
  have HKW := hide (But.of (B := B) kW)
  obtain ⟨x0, x1, x2, x3, x4, x5, x6⟩ := hX.cells
  have hqW : w.heap.size < W.heap.size := hX.lt
  have hBW : B < W.heap.size := JW.out.row.lt
  have nq : W.heap.size ≠ w.heap.size := by omega
  have nB : W.heap.size ≠ B := by omega
  have nqB : ¬ w.heap.size = B := by omega
  have HX := hide hX
  clear hX kW hW HJ
  simp only at x0 x1 x2 x3 x4 x5 x6
  generalize w.heap.size = q at *
  have c_0 := JW.out.rgc 0 (by decide)
  have f_0 := JW.out.fr 0
  rw [show ((0 : Nat) : Int) = 0 from rfl] at c_0
  have HB8 := andnot255 (m.rg 0) (i_rg JW.out.ok _)
  have I8 := hide (i_hi8 (i_rg JW.out.ok 0))
  have HQ := hide hq
  clear hq
  generalize m.rg 0 = v0 at *
  go_region
  all_goals
    refine gw (motive := fun x => Exit.then _ _ Exit.normal _ x) (fun V => Hid (WJ base B ra oa rc ss os (m.sr 0 (hi8 v0)) V) ∧ Hid (But B w V) ∧ Hid (Xc.Bx q ⟨13, wd, r, b, i, c, n⟩ V)) ⟨(JW.out.bel (bel_d (Below.refl _ _))).setr 0 (by decide) _ I8.out.1, HKW.out.d.set 0 _, bx_set (bx_d HX.out) nqB _ _⟩ ?_
    rintro V ⟨JV, BV, XV⟩
    obtain ⟨x0, x1, x2, x3, x4, x5, x6⟩ := XV.out.cells
    simp only at x0 x1 x2 x3 x4 x5 x6
    go_wp2_with fail
    refine (whold_any JV.out 13 wd r b i c n).mono ?_
    rintro e w1 ⟨rfl, hb1⟩
    rw [show (m.sr 0 (hi8 v0)).hd c = m.hd c from rfl, HQ.out]
    have J1 := hide (JV.out.bel hb1)
    have B1 := hide (BV.out.trans (But.of hb1))
    have c0 := J1.out.rgc 0 (by decide)
    have f0 := J1.out.fr 0
    rw [show (m.sr 0 (hi8 v0)).rg ((0 : Nat) : Int) = hi8 v0 from rg_sr0 JW.out.ok.1 _] at c0
    have hw := wrap_id I8.out.2
    clear x0 x1 x2 x3 x4 x5 x6 hb1
    generalize hi8 v0 = h0 at *
    go_wp2_with fail
    go_region
    go_wp2_with fail
    go_end0
    rw [HE.out]
    have J2 := (J1.out.bel (bel_d (Below.refl _ _))).setr 0 (by decide) (h0 + 1) I8.out.2
    rw [show ({ m.sr 0 h0 with r := (m.sr 0 h0).r.set 0 (h0 + 1) } : Mc) = m.sr 0 (h0 + 1) by simp [Mc.sr]] at J2
    exact ⟨rfl, J2, B1.out.d.set 0 _⟩
set_option maxRecDepth 100000 in
set_option maxHeartbeats 3200000 in
theorem reckon_13f (hJ : WJ base B ra oa rc ss os m w) (wd : Bool) (r b i c n : Int) (hq : m.hd c = false) : Calls Try.prog 41 #[.pointer (some ⟨B, 0, none⟩), .agg #[.int .i64 13, .bool wd, .int .i64 r, .int .i64 b, .int .i64 i, .int .i64 c, .int .i64 n]] w (Does base B ra oa rc ss os (rck m ⟨13, wd, r, b, i, c, n⟩) w) := by
  have hB : B < w.heap.size := hJ.row.lt
  have HE : Hid (rck m ⟨13, wd, r, b, i, c, n⟩ = m.sr 0 (hi8 (m.rg 0))) := by first | rfl | (show _ = _; simp [rck, hq])
  have HJ := hide hJ
  generalize rck m ⟨13, wd, r, b, i, c, n⟩ = M at *
  clear hJ
  go_enter Try.func41, Try.ntmps41
  go_wp2_with fail
  generalize hW : w.alloc _ = W
  have kW : Below w.heap.size w W := by rw [← hW]; exact bel_one _ _
  have hX : Xc.Bx w.heap.size ⟨13, wd, r, b, i, c, n⟩ W := by rw [← hW]; exact Xc.Bx.made _ _
  have JW := hide (HJ.out.bel kW)
  have HKW := hide (But.of (B := B) kW)
  obtain ⟨x0, x1, x2, x3, x4, x5, x6⟩ := hX.cells
  have hqW : w.heap.size < W.heap.size := hX.lt
  have hBW : B < W.heap.size := JW.out.row.lt
  have nq : W.heap.size ≠ w.heap.size := by omega
  have nB : W.heap.size ≠ B := by omega
  have nqB : ¬ w.heap.size = B := by omega
  have HX := hide hX
  clear hX kW hW HJ
  simp only at x0 x1 x2 x3 x4 x5 x6
  generalize w.heap.size = q at *
  have c_0 := JW.out.rgc 0 (by decide)
  have f_0 := JW.out.fr 0
  rw [show ((0 : Nat) : Int) = 0 from rfl] at c_0
  have HB8 := andnot255 (m.rg 0) (i_rg JW.out.ok _)
  have I8 := hide (i_hi8 (i_rg JW.out.ok 0))
  have HQ := hide hq
  clear hq
  generalize m.rg 0 = v0 at *
  go_region
  all_goals
    refine gw (motive := fun x => Exit.then _ _ Exit.normal _ x) (fun V => Hid (WJ base B ra oa rc ss os (m.sr 0 (hi8 v0)) V) ∧ Hid (But B w V) ∧ Hid (Xc.Bx q ⟨13, wd, r, b, i, c, n⟩ V)) ⟨(JW.out.bel (bel_d (Below.refl _ _))).setr 0 (by decide) _ I8.out.1, HKW.out.d.set 0 _, bx_set (bx_d HX.out) nqB _ _⟩ ?_
    rintro V ⟨JV, BV, XV⟩
    obtain ⟨x0, x1, x2, x3, x4, x5, x6⟩ := XV.out.cells
    simp only at x0 x1 x2 x3 x4 x5 x6
    go_wp2_with fail
    refine (whold_any JV.out 13 wd r b i c n).mono ?_
    rintro e w1 ⟨rfl, hb1⟩
    rw [show (m.sr 0 (hi8 v0)).hd c = m.hd c from rfl, HQ.out]
    have J1 := hide (JV.out.bel hb1)
    have B1 := hide (BV.out.trans (But.of hb1))
    clear x0 x1 x2 x3 x4 x5 x6 hb1
    go_wp2_with fail
    go_end0
    rw [HE.out]
    exact ⟨rfl, J1.out, B1.out⟩
set_option maxRecDepth 100000 in
set_option maxHeartbeats 3200000 in
theorem reckon_14 (hJ : WJ base B ra oa rc ss os m w) (wd : Bool) (r b i c n : Int)  : Calls Try.prog 41 #[.pointer (some ⟨B, 0, none⟩), .agg #[.int .i64 14, .bool wd, .int .i64 r, .int .i64 b, .int .i64 i, .int .i64 c, .int .i64 n]] w (Does base B ra oa rc ss os (rck m ⟨14, wd, r, b, i, c, n⟩) w) := by
  have hB : B < w.heap.size := hJ.row.lt
  have HE : Hid (rck m ⟨14, wd, r, b, i, c, n⟩ = m.sr 0 (m.rg 0 % 256)) := by first | rfl | (show _ = _; simp [rck])
  have HJ := hide hJ
  generalize rck m ⟨14, wd, r, b, i, c, n⟩ = M at *
  clear hJ
  go_enter Try.func41, Try.ntmps41
  go_wp2_with fail
  generalize hW : w.alloc _ = W
  have kW : Below w.heap.size w W := by rw [← hW]; exact bel_one _ _
  have hX : Xc.Bx w.heap.size ⟨14, wd, r, b, i, c, n⟩ W := by rw [← hW]; exact Xc.Bx.made _ _
  have JW := hide (HJ.out.bel kW)
  have HKW := hide (But.of (B := B) kW)
  obtain ⟨x0, x1, x2, x3, x4, x5, x6⟩ := hX.cells
  have hqW : w.heap.size < W.heap.size := hX.lt
  have hBW : B < W.heap.size := JW.out.row.lt
  have nq : W.heap.size ≠ w.heap.size := by omega
  have nB : W.heap.size ≠ B := by omega
  have nqB : ¬ w.heap.size = B := by omega
  have HX := hide hX
  clear hX kW hW HJ
  simp only at x0 x1 x2 x3 x4 x5 x6
  generalize w.heap.size = q at *
  have c_0 := JW.out.rgc 0 (by decide)
  have f_0 := JW.out.fr 0
  rw [show ((0 : Nat) : Int) = 0 from rfl] at c_0
  have HB8 := and255 (m.rg 0) (i_rg JW.out.ok _)
  generalize m.rg 0 = v0 at *
  go_region
  all_goals
    go_wp2_with fail
    go_end0
    rw [HE.out]
    exact ⟨rfl, (JW.out.bel (bel_d (Below.refl _ _))).setr 0 (by decide) _ (i_low8 _), HKW.out.d.set 0 _⟩
end
end Go.Proofs.Ytielpebokbolbaa
/-
  The worker's reckon: moves under a condition.
-/
namespace Go.Proofs.Ytielpebokbolbaa
open Go.RowKit
open Xc (hide bel_one bel_tr bel_al bel_set Xi)
set_option linter.unusedSimpArgs false
set_option linter.unusedVariables false
section
variable {base B : Nat} {ra oa : Option Addr} {rc : Nat} {ss : Nat → ByteArray} {os : Nat → Option (Nat × Nat)} {m : Mc} {w w' : World}
set_option maxRecDepth 100000 in
set_option maxHeartbeats 3200000 in
theorem reckon_15t (hJ : WJ base B ra oa rc ss os m w) (wd : Bool) (r b : Nat) (i c n : Int) (hr : r < 16) (hb : b < 16) (hq : m.hd c = true) : Calls Try.prog 41 #[.pointer (some ⟨B, 0, none⟩), .agg #[.int .i64 15, .bool wd, .int .i64 r, .int .i64 b, .int .i64 i, .int .i64 c, .int .i64 n]] w (Does base B ra oa rc ss os (rck m ⟨15, wd, r, b, i, c, n⟩) w) := by
  have hB : B < w.heap.size := hJ.row.lt
  have HE : Hid (rck m ⟨15, wd, r, b, i, c, n⟩ = m.sr (r : Int) (Fg.tr wd (m.rg (b : Int)))) := by first | rfl | (show _ = _; simp [rck, hq])
  have HJ := hide hJ
  generalize rck m ⟨15, wd, r, b, i, c, n⟩ = M at *
  clear hJ
  go_enter Try.func41, Try.ntmps41
  go_wp2_with fail
  generalize hW : w.alloc _ = W
  have kW : Below w.heap.size w W := by rw [← hW]; exact bel_one _ _
  have hX : Xc.Bx w.heap.size ⟨15, wd, r, b, i, c, n⟩ W := by rw [← hW]; exact Xc.Bx.made _ _
  have JW := hide (HJ.out.bel kW)
  have HKW := hide (But.of (B := B) kW)
  obtain ⟨x0, x1, x2, x3, x4, x5, x6⟩ := hX.cells
  have hqW : w.heap.size < W.heap.size := hX.lt
  have hBW : B < W.heap.size := JW.out.row.lt
  have nq : W.heap.size ≠ w.heap.size := by omega
  have nB : W.heap.size ≠ B := by omega
  have nqB : ¬ w.heap.size = B := by omega
  have HX := hide hX
  clear hX kW hW HJ
  simp only at x0 x1 x2 x3 x4 x5 x6
  generalize w.heap.size = q at *
  have HQ := hide hq
  clear hq
  refine (whold_any JW.out 15 wd r b i c n).mono ?_
  rintro e w1 ⟨rfl, hb1⟩
  rw [HQ.out]
  have JV := hide (JW.out.bel hb1)
  have BV := hide (HKW.out.trans (But.of hb1))
  have XV := hide (HX.out.kept hb1)
  clear x0 x1 x2 x3 x4 x5 x6 hb1 JW HKW HX
  obtain ⟨x0, x1, x2, x3, x4, x5, x6⟩ := XV.out.cells
  simp only at x0 x1 x2 x3 x4 x5 x6
  have c_r := JV.out.rgc r hr
  have f_r := JV.out.fr r
  have r0 : (0 : Int) ≤ (r : Int) := by omega
  have r16 : (r : Int) < 16 := by omega
  have c_b := JV.out.rgc b hb
  have f_b := JV.out.fr b
  have b0 : (0 : Int) ≤ (b : Int) := by omega
  have b16 : (b : Int) < 16 := by omega
  have IV := hide (i_tr (wide := wd) (i_rg JV.out.ok (b : Int)))
  generalize m.rg (r : Int) = v at *
  generalize m.rg (b : Int) = vb at *
  go_wp2_with fail
  go_region_with (go_at_call 38; refine (Fg.trim_any _ _ _).mono ?_; rintro e w1 ⟨rfl, rfl⟩)
  all_goals
    go_wp2_with fail
    go_end0
    rw [HE.out]
    exact ⟨rfl, (JV.out.bel (bel_d (Below.refl _ _))).setr r hr _ IV.out, BV.out.d.set r _⟩
end
end Go.Proofs.Ytielpebokbolbaa
