/-
  The document's own Fits, put together: the code that the program's tells; memory that was there stays as it was.
-/
import Derived.Test.YtcbfpikggphokaaGreatDoorRefB
namespace Go.Proofs.YtcbfpikggphokaaGreatDoor
open Go.RowKit

theorem fit_1 {M : Mo} (h : small M = false) : fitE M = 1 := by simp [fitE, h]
theorem small_l0 {M : Mo} (h : ¬ M.sigs.length ≤ 16) : small M = false := by simp [small, h]
theorem small_l1 {M : Mo} (h : ¬ M.imports.length ≤ 8) : small M = false := by simp [small, h]
theorem small_l2 {M : Mo} (h : ¬ M.funcs.length ≤ 8) : small M = false := by simp [small, h]
theorem small_l3 {M : Mo} (h : ¬ M.globals.length ≤ 8) : small M = false := by simp [small, h]
theorem small_l4 {M : Mo} (h : ¬ M.data.length ≤ 8) : small M = false := by simp [small, h]
theorem small_s {M : Mo} (h : M.sigs.all smSg = false) : small M = false := by simp only [small, h, Bool.false_and, Bool.and_false]
theorem small_f {M : Mo} (h : M.funcs.all smFn = false) : small M = false := by simp only [small, h, Bool.false_and, Bool.and_false]
theorem small_m {M : Mo} (h : smMem M.m0 = false ∨ smMem M.m1 = false) : small M = false := by
  rcases h with h | h <;> simp [small, h]
set_option maxRecDepth 100000 in
set_option maxHeartbeats 4000000 in
theorem r_fits (V : MoV) (M : Mo) (w : World) (h : IsMo w.heap.size w V M) :
    Calls Tryz.prog 14 #[moV V M] w fun e w' => e = .returned (.int .i64 (fitE M)) ∧ Below w.heap.size w w' := by
  have HM0 := hide h
  obtain ⟨a0, k0, a1, k1, a2, k2, a5, k5, a6, k6, rfl⟩ := h.forms
  have hb0 := bel_one w (.cells #[.slice a0 M.sigs.length k0, .slice a1 M.imports.length k1, .slice a2 M.funcs.length k2, .int .i64 M.m0, .int .i64 M.m1, .slice a5 M.globals.length k5, .slice a6 M.data.length k6] 29)
  have HM := hide (h.step hb0 hb0.size)
  have R0 := hide (Row.made w #[.slice a0 M.sigs.length k0, .slice a1 M.imports.length k1, .slice a2 M.funcs.length k2, .int .i64 M.m0, .int .i64 M.m1, .slice a5 M.globals.length k5, .slice a6 M.data.length k6] 29)
  have PA := hide (fun w2 (b2 : Below w.heap.size w w2) hs => r_parts _ M w2 hs (HM0.out.step b2 b2.size))
  clear h HM0
  unfold moV at *
  dsimp only at *
  by_cases h0 : M.sigs.length ≤ 16
  case neg =>
    have g0 : (16 : Int) < (M.sigs.length : Int) := by omega
    have W := hide (fit_1 (small_l0 h0))
    clear PA HM h0
    go_enter Tryz.func14, Tryz.ntmps14
    go_wp2_with fail
    go_ret
    exact ⟨ret_int W.out.symm, hb0⟩
  have g0 : ¬ (16 : Int) < (M.sigs.length : Int) := by omega
  by_cases h1 : M.imports.length ≤ 8
  case neg =>
    have g1 : (8 : Int) < (M.imports.length : Int) := by omega
    have W := hide (fit_1 (small_l1 h1))
    clear PA HM h0 h1
    go_enter Tryz.func14, Tryz.ntmps14
    go_wp2_with fail
    go_ret
    exact ⟨ret_int W.out.symm, hb0⟩
  have g1 : ¬ (8 : Int) < (M.imports.length : Int) := by omega
  by_cases h2 : M.funcs.length ≤ 8
  case neg =>
    have g2 : (8 : Int) < (M.funcs.length : Int) := by omega
    have W := hide (fit_1 (small_l2 h2))
    clear PA HM h0 h1 h2
    go_enter Tryz.func14, Tryz.ntmps14
    go_wp2_with fail
    go_ret
    exact ⟨ret_int W.out.symm, hb0⟩
  have g2 : ¬ (8 : Int) < (M.funcs.length : Int) := by omega
  by_cases h3 : M.globals.length ≤ 8
  case neg =>
    have g3 : (8 : Int) < (M.globals.length : Int) := by omega
    have W := hide (fit_1 (small_l3 h3))
    clear PA HM h0 h1 h2 h3
    go_enter Tryz.func14, Tryz.ntmps14
    go_wp2_with fail
    go_ret
    exact ⟨ret_int W.out.symm, hb0⟩
  have g3 : ¬ (8 : Int) < (M.globals.length : Int) := by omega
  by_cases h4 : M.data.length ≤ 8
  case neg =>
    have g4 : (8 : Int) < (M.data.length : Int) := by omega
    have W := hide (fit_1 (small_l4 h4))
    clear PA HM h0 h1 h2 h3 h4
    go_enter Tryz.func14, Tryz.ntmps14
    go_wp2_with fail
    go_ret
    exact ⟨ret_int W.out.symm, hb0⟩
  have g4 : ¬ (8 : Int) < (M.data.length : Int) := by omega
  go_enter Tryz.func14, Tryz.ntmps14
  go_wp2_with fail
  generalize hW0 : w.alloc (.cells #[.slice a0 M.sigs.length k0, .slice a1 M.imports.length k1, .slice a2 M.funcs.length k2, .int .i64 M.m0, .int .i64 M.m1, .slice a5 M.globals.length k5, .slice a6 M.data.length k6] 29) = w0 at *
  clear hW0
  go_loopw [3] (fun iv wr => ∃ k : Nat, k ≤ M.sigs.length ∧ iv = .int .i64 k ∧ Below w0.heap.size w0 wr ∧ Hid ((M.sigs.take k).all smSg = true)) (fun iv _ => M.sigs.length - (intOf iv).toNat)
  case atStart => exact ⟨0, by omega, rfl, Below.refl _ _, hide (by simp)⟩
  case round =>
    obtain ⟨k, hk, rfl, hb, hA⟩ := hrel
    have hbs := hb.size
    have r0 := ((R0.out.kept hb).c 0 (.slice a0 M.sigs.length k0) rfl)
    by_cases hlt : k < M.sigs.length
    · obtain ⟨ax, cx, ex, he⟩ := HM.out.sigs
      cases ex
      obtain ⟨b, off, rfl, hbb, ⟨vp, vr, c0, c1, hp, hr⟩⟩ := he k hlt
      have d0 := (hb.cell (p := ⟨b, off + k * 2, none⟩) hbb).trans c0
      have d1 := (hb.cell (p := ⟨b, off + k * 2 + 1, none⟩) hbb).trans c1
      clear he c0 c1
      obtain ⟨ap, kp, rfl, _⟩ := hp
      obtain ⟨ar, kr, rfl, _⟩ := hr
      by_cases q1 : M.sigs[k].params.length ≤ 4
      · have g : ¬ (4 : Int) < (M.sigs[k].params.length : Int) := by omega
        have hA2 := hide (all_take_next hA.out hlt (by simp [smSg, q1]))
        clear hA q1
        go_wp2_with fail
        go_roundw
        case rel => exact ⟨k + 1, by omega, by go_num, hb, hA2⟩
        case measure => simp [intOf]; omega
      · have g : (4 : Int) < (M.sigs[k].params.length : Int) := by omega
        have W := hide (fit_1 (small_s (all_no hlt (by simp [smSg, q1]))))
        clear hA q1
        go_wp2_with fail
        go_ret
        exact ⟨ret_int W.out.symm, hb0.trans ((hb).mono hb0.size)⟩
    · have e0 : k = M.sigs.length := by omega
      subst e0
      have Y0 := hide (all_whole hA.out)
      have hbd0 := hb
      clear hA
      go_wp2_with fail
      go_loopw [4] (fun iv wr => ∃ k : Nat, k ≤ M.funcs.length ∧ iv = .int .i64 k ∧ Below w0.heap.size w0 wr ∧ Hid ((M.funcs.take k).all smFn = true)) (fun iv _ => M.funcs.length - (intOf iv).toNat)
      case atStart => exact ⟨0, by omega, rfl, hbd0, hide (by simp)⟩
      case round =>
        obtain ⟨k, hk, rfl, hb, hA⟩ := hrel
        have hbs := hb.size
        have r2 := ((R0.out.kept hb).c 2 (.slice a2 M.funcs.length k2) rfl)
        by_cases hlt : k < M.funcs.length
        · obtain ⟨ax, cx, ex, he⟩ := HM.out.funcs
          cases ex
          obtain ⟨b, off, rfl, hbb, ⟨vl, vb, hi, c0, c1, c2, c3, hp, hr⟩⟩ := he k hlt
          have d0 := (hb.cell (p := ⟨b, off + k * 4, none⟩) hbb).trans c0
          have d1 := (hb.cell (p := ⟨b, off + k * 4 + 1, none⟩) hbb).trans c1
          have d2 := (hb.cell (p := ⟨b, off + k * 4 + 2, none⟩) hbb).trans c2
          have d3 := (hb.cell (p := ⟨b, off + k * 4 + 3, none⟩) hbb).trans c3
          clear he c0 c1 c2 c3
          obtain ⟨ap, kp, rfl, _⟩ := hp
          obtain ⟨ar, kr, rfl, _⟩ := hr
          clear hi
          by_cases q1 : M.funcs[k].locals.length ≤ 8
          · have g : ¬ (8 : Int) < (M.funcs[k].locals.length : Int) := by omega
            by_cases q2 : M.funcs[k].body.length ≤ 200
            · have g' : ¬ (200 : Int) < (M.funcs[k].body.length : Int) := by omega
              have hA2 := hide (all_take_next hA.out hlt (by simp [smFn, q1, q2]))
              clear hA q1 q2
              go_wp2_with fail
              go_roundw
              case rel => exact ⟨k + 1, by omega, by go_num, hb, hA2⟩
              case measure => simp [intOf]; omega
            · have g' : (200 : Int) < (M.funcs[k].body.length : Int) := by omega
              have W := hide (fit_1 (small_f (all_no hlt (by simp [smFn, q2]))))
              clear hA q1 q2
              go_wp2_with fail
              go_ret
              exact ⟨ret_int W.out.symm, hb0.trans ((hb).mono hb0.size)⟩
          · have g : (8 : Int) < (M.funcs[k].locals.length : Int) := by omega
            have W := hide (fit_1 (small_f (all_no hlt (by simp [smFn, q1]))))
            clear hA q1
            go_wp2_with fail
            go_ret
            exact ⟨ret_int W.out.symm, hb0.trans ((hb).mono hb0.size)⟩
        · have e0 : k = M.funcs.length := by omega
          subst e0
          have Y2 := hide (all_whole hA.out)
          have hbd2 := hb
          clear hA
          go_wp2_with fail
          go_loopw [5] (fun iv wr => ∃ k : Nat, k ≤ 2 ∧ iv = .int .i64 k ∧ Below w0.heap.size w0 wr ∧ Hid ((1 ≤ k → smMem M.m0 = true) ∧ (2 ≤ k → smMem M.m1 = true))) (fun iv _ => 2 - (intOf iv).toNat)
          case atStart => exact ⟨0, by omega, rfl, hbd2, hide ⟨fun h => absurd h (by omega), fun h => absurd h (by omega)⟩⟩
          case round =>
            obtain ⟨k, hk, rfl, hb, hA⟩ := hrel
            have RW := hide (R0.out.kept hb)
            have v3 := RW.out.c 3 (.int .i64 M.m0) rfl
            have v4 := RW.out.c 4 (.int .i64 M.m1) rfl
            rcases (show k = 0 ∨ k = 1 ∨ k = 2 by omega) with rfl | rfl | rfl
            · by_cases m0l : M.m0 = 0
              · have m0z : (M.m0 != 0) = false := by simp [m0l]
                have hA2 : Hid ((1 ≤ 1 → smMem M.m0 = true) ∧ (2 ≤ 1 → smMem M.m1 = true)) := hide ⟨fun _ => (by simp [smMem, m0l]), fun h => absurd h (by omega)⟩
                clear hA m0l PA
                go_wp2_with fail
                go_roundw
                case rel => exact ⟨1, by omega, by go_num, hb, hA2⟩
                case measure => simp [intOf]
              · have m0z : (M.m0 != 0) = true := by simpa using m0l
                by_cases m0a : M.m0 < 3
                · have hn : ¬ 3 ≤ M.m0 := by omega
                  have W := hide (fit_1 (small_m (M := M) (Or.inl (by simp [smMem, m0l, hn]))))
                  clear hA m0l PA hn
                  go_wp2_with fail
                  go_ret
                  exact ⟨ret_int W.out.symm, hb0.trans ((hb).mono hb0.size)⟩
                · by_cases m0b : 12 < M.m0
                  · have hn : ¬ M.m0 ≤ 12 := by omega
                    have W := hide (fit_1 (small_m (M := M) (Or.inl (by simp [smMem, m0l, hn]))))
                    clear hA m0l PA hn
                    go_wp2_with fail
                    go_ret
                    exact ⟨ret_int W.out.symm, hb0.trans ((hb).mono hb0.size)⟩
                  · have hg : 3 ≤ M.m0 ∧ M.m0 ≤ 12 := by omega
                    have hA2 : Hid ((1 ≤ 1 → smMem M.m0 = true) ∧ (2 ≤ 1 → smMem M.m1 = true)) := hide ⟨fun _ => (by simp [smMem, hg.1, hg.2]), fun h => absurd h (by omega)⟩
                    clear hA m0l PA hg
                    go_wp2_with fail
                    go_roundw
                    case rel => exact ⟨1, by omega, by go_num, hb, hA2⟩
                    case measure => simp [intOf]
            · by_cases m1l : M.m1 = 0
              · have m1z : (M.m1 != 0) = false := by simp [m1l]
                have hA2 : Hid ((1 ≤ 2 → smMem M.m0 = true) ∧ (2 ≤ 2 → smMem M.m1 = true)) := hide ⟨fun _ => hA.out.1 (by omega), fun _ => (by simp [smMem, m1l])⟩
                clear hA m1l PA
                go_wp2_with fail
                go_roundw
                case rel => exact ⟨2, by omega, by go_num, hb, hA2⟩
                case measure => simp [intOf]
              · have m1z : (M.m1 != 0) = true := by simpa using m1l
                by_cases m1a : M.m1 < 3
                · have hn : ¬ 3 ≤ M.m1 := by omega
                  have W := hide (fit_1 (small_m (M := M) (Or.inr (by simp [smMem, m1l, hn]))))
                  clear hA m1l PA hn
                  go_wp2_with fail
                  go_ret
                  exact ⟨ret_int W.out.symm, hb0.trans ((hb).mono hb0.size)⟩
                · by_cases m1b : 12 < M.m1
                  · have hn : ¬ M.m1 ≤ 12 := by omega
                    have W := hide (fit_1 (small_m (M := M) (Or.inr (by simp [smMem, m1l, hn]))))
                    clear hA m1l PA hn
                    go_wp2_with fail
                    go_ret
                    exact ⟨ret_int W.out.symm, hb0.trans ((hb).mono hb0.size)⟩
                  · have hg : 3 ≤ M.m1 ∧ M.m1 ≤ 12 := by omega
                    have hA2 : Hid ((1 ≤ 2 → smMem M.m0 = true) ∧ (2 ≤ 2 → smMem M.m1 = true)) := hide ⟨fun _ => hA.out.1 (by omega), fun _ => (by simp [smMem, hg.1, hg.2])⟩
                    clear hA m1l PA hg
                    go_wp2_with fail
                    go_roundw
                    case rel => exact ⟨2, by omega, by go_num, hb, hA2⟩
                    case measure => simp [intOf]
            · have HB := hide (hb0.trans (hb.mono hb0.size))
              have u0 := RW.out.c 0 (.slice a0 M.sigs.length k0) rfl
              have u1 := RW.out.c 1 (.slice a1 M.imports.length k1) rfl
              have u2 := RW.out.c 2 (.slice a2 M.funcs.length k2) rfl
              have u5 := RW.out.c 5 (.slice a5 M.globals.length k5) rfl
              have u6 := RW.out.c 6 (.slice a6 M.data.length k6) rfl
              have SM : small M = true := by simp only [small, h0, h1, h2, h3, h4, Y0.out, Y2.out, decide_true, Bool.true_and, List.all_cons, List.all_nil, Bool.and_true, Bool.and_eq_true]; exact ⟨hA.out.1 (by omega), hA.out.2 (by omega)⟩
              have P1 := hide (PA.out _ HB.out SM)
              cases hw : whole M with
              | true =>
                have W : Hid (fitE M = 0) := hide (by simp [fitE, SM, hw])
                rw [hw] at P1
                clear PA SM hw hA
                go_wp2_with fail
                refine P1.out.mono ?_
                rintro r w9 ⟨rfl, b9⟩
                go_wp2_with fail
                go_ret
                exact ⟨ret_int W.out.symm, below_next HB.out b9⟩
              | false =>
                have W : Hid (fitE M = 4) := hide (by simp [fitE, SM, hw])
                rw [hw] at P1
                clear PA SM hw hA
                go_wp2_with fail
                refine P1.out.mono ?_
                rintro r w9 ⟨rfl, b9⟩
                go_wp2_with fail
                go_ret
                exact ⟨ret_int W.out.symm, below_next HB.out b9⟩
end Go.Proofs.YtcbfpikggphokaaGreatDoor
