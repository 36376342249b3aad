/-
  The document's own Fits: the same as the program's; memory that was there stays as it was.
-/
import Derived.Test.YtcbfpikggphokaaGreatDoorRefA
namespace Go.Proofs.YtcbfpikggphokaaGreatDoor
open Go.RowKit

theorem r_body_w (v : Value) (l : List In) (w : World) (hl : l.length ≤ 1000) (h : SIns w.heap.size w v l) :
    Calls Tryz.prog 26 #[v] w fun e w' => e = .returned (.tuple #[.string (str (if l.all rtI = true then flat inB l else [])), .bool (l.all rtI)]) ∧ Below w.heap.size w w' := by
  obtain ⟨a, cap, rfl, he⟩ := h
  by_cases h0 : l.length = 0
  · have e : l = [] := List.eq_nil_of_length_eq_zero h0
    subst e
    exact r_body_nil a cap w
  · obtain ⟨b, off, rfl, hb, _⟩ := he 0 (by omega)
    have hL : Lists w.heap.size w b off l.length (fun j => (l[j]?.map In.op).getD 0) (fun j => (l[j]?.map In.n).getD 0) (fun j => (l[j]?.map In.m).getD 0) := by
      intro j hj
      obtain ⟨b2, off2, e2, hb2, _, c0, c1, c2⟩ := he j hj
      cases e2
      simp [List.getElem?_eq_getElem hj]
      exact ⟨hb2, c0, c1, c2⟩
    have hI : ∀ j : Nat, I64 ((l[j]?.map In.n).getD 0) ∧ I64 ((l[j]?.map In.m).getD 0) := by
      intro j
      by_cases hj : j < l.length
      · obtain ⟨_, _, _, _, hi, _⟩ := he j hj
        simp only [List.getElem?_eq_getElem hj, Option.map_some, Option.getD_some]
        exact hi.2
      · simp only [List.getElem?_eq_none (Nat.le_of_not_lt hj), Option.map_none, Option.getD_none]
        exact ⟨⟨by decide, by decide⟩, ⟨by decide, by decide⟩⟩
    have hA : allR (fun j => (l[j]?.map In.op).getD 0) (fun j => (l[j]?.map In.n).getD 0) (fun j => (l[j]?.map In.m).getD 0) l.length ↔ l.all rtI = true := by
      constructor
      · intro h
        rw [List.all_eq_true]
        intro x hx
        obtain ⟨j, hj, rfl⟩ := List.getElem_of_mem hx
        have := h j hj
        simpa [List.getElem?_eq_getElem hj, rtI] using this
      · intro hr j hj
        have := List.all_eq_true.1 hr l[j] (List.getElem_mem hj)
        simpa [List.getElem?_eq_getElem hj, rtI] using this
    have e := body_flat l l.length (Nat.le_refl _)
    rw [List.take_length] at e
    exact r_body_is b off l.length cap _ _ _ _ _ w (by omega) hL hI (fun h => by rw [hA.1 h, e]; rfl) (fun h => by
      have hf : l.all rtI = false := by cases hc : l.all rtI with
        | true => exact absurd (hA.2 hc) h
        | false => rfl
      rw [hf]; rfl)
theorem whole_no0 {M : Mo} {k : Nat} (hk : k < M.sigs.length) (h : whSg M.sigs[k] = false) : whole M = false := by simp only [whole, all_no hk h, Bool.false_and]
theorem whole_no1 {M : Mo} {k : Nat} (hk : k < M.imports.length) (h : idx M.imports[k] = false) : whole M = false := by simp only [whole, all_no hk h, Bool.false_and, Bool.and_false]
theorem whole_no2 {M : Mo} {k : Nat} (hk : k < M.funcs.length) (h : whFn M.funcs[k] = false) : whole M = false := by simp only [whole, all_no hk h, Bool.false_and, Bool.and_false]
theorem whole_no5 {M : Mo} {k : Nat} (hk : k < M.globals.length) (h : whGl M.globals[k] = false) : whole M = false := by simp only [whole, all_no hk h, Bool.false_and, Bool.and_false]
theorem whole_no6 {M : Mo} {k : Nat} (hk : k < M.data.length) (h : whDa M.data[k] = false) : whole M = false := by simp only [whole, all_no hk h, Bool.and_false]
set_option maxRecDepth 100000 in
set_option maxHeartbeats 16000000 in
theorem r_parts (V : MoV) (M : Mo) (w : World) (hs : small M = true) (h : IsMo w.heap.size w V M) :
    Calls Tryz.prog 32 #[moV V M] w fun e w' => e = .returned (.bool (whole M)) ∧ Below w.heap.size w w' := by
  obtain ⟨a0, k0, a1, k1, a2, k2, a5, k5, a6, k6, rfl⟩ := h.forms
  have hb0 := bel_one w (.cells #[.slice a0 M.sigs.length k0, .slice a1 M.imports.length k1, .slice a2 M.funcs.length k2, .int .i64 M.m0, .int .i64 M.m1, .slice a5 M.globals.length k5, .slice a6 M.data.length k6] 29)
  have HM := hide (h.step hb0 hb0.size)
  have R0 := hide (Row.made w #[.slice a0 M.sigs.length k0, .slice a1 M.imports.length k1, .slice a2 M.funcs.length k2, .int .i64 M.m0, .int .i64 M.m1, .slice a5 M.globals.length k5, .slice a6 M.data.length k6] 29)
  simp only [small, Bool.and_eq_true, decide_eq_true_eq, List.all_eq_true] at hs
  have HS := hide hs
  have l0 := hs.1
  have l1 := hs.2.1
  have l2 := hs.2.2.1
  have l5 := hs.2.2.2.1
  have l6 := hs.2.2.2.2.1
  clear h hs
  unfold moV
  dsimp only
  go_enter Tryz.func32, Tryz.ntmps32
  go_wp2_with fail
  generalize hW0 : w.alloc (.cells #[.slice a0 M.sigs.length k0, .slice a1 M.imports.length k1, .slice a2 M.funcs.length k2, .int .i64 M.m0, .int .i64 M.m1, .slice a5 M.globals.length k5, .slice a6 M.data.length k6] 29) = w0 at *
  clear hW0
  go_loopw [3] (fun iv wr => ∃ k : Nat, k ≤ M.sigs.length ∧ iv = .int .i64 k ∧ Below w0.heap.size w0 wr ∧ Hid ((M.sigs.take k).all whSg = true)) (fun iv _ => M.sigs.length - (intOf iv).toNat)
  case atStart => exact ⟨0, by omega, rfl, Below.refl _ _, hide (by simp)⟩
  case round =>
    obtain ⟨k, hk, rfl, hb, hA⟩ := hrel
    have hbs := hb.size
    have r0 := ((R0.out.kept hb).c 0 (.slice a0 M.sigs.length k0) rfl)
    by_cases hlt : k < M.sigs.length
    · obtain ⟨ax, cx, ex, he⟩ := HM.out.sigs
      cases ex
      obtain ⟨b, off, rfl, hbb, ⟨vp, vr, c0, c1, hp, hr⟩⟩ := he k hlt
      have d0 := (hb.cell (p := ⟨b, off + k * 2, none⟩) hbb).trans c0
      have d1 := (hb.cell (p := ⟨b, off + k * 2 + 1, none⟩) hbb).trans c1
      clear he c0 c1
      have hp0 := hp
      have hr0 := hr
      obtain ⟨ap, kp, rfl, _⟩ := hp0
      obtain ⟨ar, kr, rfl, _⟩ := hr0
      have hsm := HS.out.2.2.2.2.2.1 M.sigs[k] (List.getElem_mem hlt)
      simp only [smSg, decide_eq_true_eq] at hsm
      by_cases h1 : M.sigs[k].results.length ≤ 1
      · have g1 : ¬ (1 : Int) < (M.sigs[k].results.length : Int) := by omega
        cases h2 : M.sigs[k].params.all ri with
        | true =>
          have T1 := hide (r_types_is _ _ true wr (by omega) (hp.step keeps_int hb hb.size) h2)
          cases h3 : M.sigs[k].results.all ri with
          | true =>
            have T2 := hide (r_types_is _ _ true wr (by omega) (hr.step keeps_int hb hb.size) h3)
            have hA2 := hide (all_take_next hA.out hlt (by simp only [whSg, h1, h2, h3, decide_true, Bool.and_self]))
            clear h1 h2 h3 hp hr hA hsm
            go_wp2_with fail
            refine T1.out.mono ?_
            rintro r w1 ⟨rfl, rfl⟩
            go_wp2_with fail
            refine T2.out.mono ?_
            rintro r w1 ⟨rfl, rfl⟩
            go_wp2_with fail
            go_roundw
            case rel => exact ⟨k + 1, by omega, by go_num, hb, hA2⟩
            case measure => simp [intOf]; omega
          | false =>
            have T2 := hide (r_types_is _ _ false wr (by omega) (hr.step keeps_int hb hb.size) h3)
            have W := hide (whole_no0 hlt (by simp only [whSg, h3, Bool.and_false]))
            clear h1 h2 h3 hp hr hA hsm
            go_wp2_with fail
            refine T1.out.mono ?_
            rintro r w1 ⟨rfl, rfl⟩
            go_wp2_with fail
            refine T2.out.mono ?_
            rintro r w1 ⟨rfl, rfl⟩
            go_wp2_with fail
            go_ret
            exact ⟨ret_bool W.out.symm, hb0.trans ((hb).mono hb0.size)⟩
        | false =>
          have T1 := hide (r_types_is _ _ false wr (by omega) (hp.step keeps_int hb hb.size) h2)
          have W := hide (whole_no0 hlt (by simp only [whSg, h2, Bool.false_and, Bool.and_false]))
          clear h1 h2 hp hr hA hsm
          go_wp2_with fail
          refine T1.out.mono ?_
          rintro r w1 ⟨rfl, rfl⟩
          go_wp2_with fail
          go_ret
          exact ⟨ret_bool W.out.symm, hb0.trans ((hb).mono hb0.size)⟩
      · have g1 : (1 : Int) < (M.sigs[k].results.length : Int) := by omega
        have W := hide (whole_no0 hlt (by simp [whSg, h1]))
        clear h1 hp hr hA hsm
        go_wp2_with fail
        go_ret
        exact ⟨ret_bool W.out.symm, hb0.trans ((hb).mono hb0.size)⟩
    · have e0 : k = M.sigs.length := by omega
      subst e0
      have Y0 := hide (all_whole hA.out)
      have hbd0 := hb
      clear hA
      go_wp2_with fail
      go_loopw [4] (fun iv wr => ∃ k : Nat, k ≤ M.imports.length ∧ iv = .int .i64 k ∧ Below w0.heap.size w0 wr ∧ Hid ((M.imports.take k).all idx = true)) (fun iv _ => M.imports.length - (intOf iv).toNat)
      case atStart => exact ⟨0, by omega, rfl, hbd0, hide (by simp)⟩
      case round =>
        obtain ⟨k, hk, rfl, hb, hA⟩ := hrel
        have hbs := hb.size
        have r1 := ((R0.out.kept hb).c 1 (.slice a1 M.imports.length k1) rfl)
        by_cases hlt : k < M.imports.length
        · obtain ⟨ax, cx, ex, he⟩ := HM.out.imports
          cases ex
          obtain ⟨b, off, rfl, hbb, ⟨hi, c0⟩⟩ := he k hlt
          have d0 := (hb.cell (p := ⟨b, off + k * 1, none⟩) hbb).trans c0
          rw [Nat.mul_one] at d0
          clear he c0
          cases h1 : idx M.imports[k] with
          | true =>
            have T1 := hide (r_index5_is _ true wr h1)
            have hA2 := hide (all_take_next hA.out hlt h1)
            clear h1 hi hA
            go_wp2_with fail
            refine T1.out.mono ?_
            rintro r w1 ⟨rfl, rfl⟩
            go_wp2_with fail
            go_roundw
            case rel => exact ⟨k + 1, by omega, by go_num, hb, hA2⟩
            case measure => simp [intOf]; omega
          | false =>
            have T1 := hide (r_index5_is _ false wr h1)
            have W := hide (whole_no1 hlt h1)
            clear h1 hi hA
            go_wp2_with fail
            refine T1.out.mono ?_
            rintro r w1 ⟨rfl, rfl⟩
            go_wp2_with fail
            go_ret
            exact ⟨ret_bool W.out.symm, hb0.trans ((hb).mono hb0.size)⟩
        · have e0 : k = M.imports.length := by omega
          subst e0
          have Y1 := hide (all_whole hA.out)
          have hbd1 := hb
          clear hA
          go_wp2_with fail
          go_loopw [5] (fun iv wr => ∃ k : Nat, k ≤ M.funcs.length ∧ iv = .int .i64 k ∧ Below w0.heap.size w0 wr ∧ Hid ((M.funcs.take k).all whFn = true)) (fun iv _ => M.funcs.length - (intOf iv).toNat)
          case atStart => exact ⟨0, by omega, rfl, hbd1, hide (by simp)⟩
          case round =>
            obtain ⟨k, hk, rfl, hb, hA⟩ := hrel
            have hbs := hb.size
            have r2 := ((R0.out.kept hb).c 2 (.slice a2 M.funcs.length k2) rfl)
            by_cases hlt : k < M.funcs.length
            · obtain ⟨ax, cx, ex, he⟩ := HM.out.funcs
              cases ex
              obtain ⟨b, off, rfl, hbb, ⟨vl, vb, hi, c0, c1, c2, c3, hp, hr⟩⟩ := he k hlt
              have d0 := (hb.cell (p := ⟨b, off + k * 4, none⟩) hbb).trans c0
              have d1 := (hb.cell (p := ⟨b, off + k * 4 + 1, none⟩) hbb).trans c1
              have d2 := (hb.cell (p := ⟨b, off + k * 4 + 2, none⟩) hbb).trans c2
              have d3 := (hb.cell (p := ⟨b, off + k * 4 + 3, none⟩) hbb).trans c3
              clear he c0 c1 c2 c3
              have hp0 := hp
              have hr0 := hr
              obtain ⟨ap, kp, rfl, _⟩ := hp0
              obtain ⟨ar, kr, rfl, _⟩ := hr0
              have hsm := HS.out.2.2.2.2.2.2.1 M.funcs[k] (List.getElem_mem hlt)
              simp only [smFn, Bool.and_eq_true, decide_eq_true_eq] at hsm
              have hal := bel_one wr (.cells #[.int .i64 M.funcs[k].sig, .bool M.funcs[k].tr, .slice ap M.funcs[k].locals.length kp, .slice ar M.funcs[k].body.length kr] 50)
              have hb1 := hb.trans (hal.mono hbs)
              have F0 := hide (Row.made wr #[.int .i64 M.funcs[k].sig, .bool M.funcs[k].tr, .slice ap M.funcs[k].locals.length kp, .slice ar M.funcs[k].body.length kr] 50)
              have B1 := hide (r_body_w _ M.funcs[k].body _ (by omega) (hr.step keeps_in hb1 hb1.size))
              have C1 := hide (fun w2 (b2 : Below w0.heap.size w0 w2) => r_closed _ M.funcs[k].body w2 (by omega) (hr.step keeps_in b2 b2.size))
              have I1 := hide (fun w2 => r_index5 M.funcs[k].sig w2)
              have T1 := hide (fun w2 (b2 : Below w0.heap.size w0 w2) => r_types _ M.funcs[k].locals w2 (by omega) (hp.step keeps_int b2 b2.size))
              obtain ⟨x1, hx1⟩ : ∃ x, M.funcs[k].body.all rtI = x := ⟨_, rfl⟩
              obtain ⟨x2, hx2⟩ : ∃ x, cl 1 M.funcs[k].body = x := ⟨_, rfl⟩
              obtain ⟨x3, hx3⟩ : ∃ x, idx M.funcs[k].sig = x := ⟨_, rfl⟩
              obtain ⟨x4, hx4⟩ : ∃ x, M.funcs[k].locals.all ri = x := ⟨_, rfl⟩
              generalize hbs2 : str (if M.funcs[k].body.all rtI = true then flat inB M.funcs[k].body else []) = bs at B1
              rw [hx1] at B1
              rw [hx2] at C1
              rw [hx3] at I1
              rw [hx4] at T1
              have HX : Hid (whFn M.funcs[k] = (x3 && (x4 && (x1 && x2)))) := hide (by simp only [whFn, hx1, hx2, hx3, hx4])
              clear hp hr hi hsm hx1 hx2 hx3 hx4 hbs2
              cases x3 with
              | false =>
                have W := hide (whole_no2 hlt (by rw [HX.out]; rfl))
                clear hA HX
                go_wp2_with fail
                refine B1.out.mono ?_
                rintro r w1 ⟨rfl, b1⟩
                have hb2 := hb1.trans (b1.mono hb1.size)
                have F1 := hide (F0.out.kept b1)
                have f0 := F1.out.c 0 (.int .i64 M.funcs[k].sig) rfl
                have f2 := F1.out.c 2 (.slice ap M.funcs[k].locals.length kp) rfl
                have f3 := F1.out.c 3 (.slice ar M.funcs[k].body.length kr) rfl
                have C2 := hide (C1.out w1 hb2)
                have T2 := hide (T1.out w1 hb2)
                have I2 := hide (I1.out w1)
                clear b1 B1 C1 T1 I1 F0 hal hb1
                go_wp2_with fail
                refine C2.out.mono ?_
                rintro r w2 ⟨rfl, rfl⟩
                go_wp2_with fail
                refine I2.out.mono ?_
                rintro r w2 ⟨rfl, rfl⟩
                go_wp2_with fail
                go_ret
                exact ⟨ret_bool W.out.symm, hb0.trans ((hb2).mono hb0.size)⟩
              | true =>
                cases x4 with
                | false =>
                  have W := hide (whole_no2 hlt (by rw [HX.out]; rfl))
                  clear hA HX
                  go_wp2_with fail
                  refine B1.out.mono ?_
                  rintro r w1 ⟨rfl, b1⟩
                  have hb2 := hb1.trans (b1.mono hb1.size)
                  have F1 := hide (F0.out.kept b1)
                  have f0 := F1.out.c 0 (.int .i64 M.funcs[k].sig) rfl
                  have f2 := F1.out.c 2 (.slice ap M.funcs[k].locals.length kp) rfl
                  have f3 := F1.out.c 3 (.slice ar M.funcs[k].body.length kr) rfl
                  have C2 := hide (C1.out w1 hb2)
                  have T2 := hide (T1.out w1 hb2)
                  have I2 := hide (I1.out w1)
                  clear b1 B1 C1 T1 I1 F0 hal hb1
                  go_wp2_with fail
                  refine C2.out.mono ?_
                  rintro r w2 ⟨rfl, rfl⟩
                  go_wp2_with fail
                  refine I2.out.mono ?_
                  rintro r w2 ⟨rfl, rfl⟩
                  go_wp2_with fail
                  refine T2.out.mono ?_
                  rintro r w2 ⟨rfl, rfl⟩
                  go_wp2_with fail
                  go_ret
                  exact ⟨ret_bool W.out.symm, hb0.trans ((hb2).mono hb0.size)⟩
                | true =>
                  cases x1 with
                  | false =>
                    have W := hide (whole_no2 hlt (by rw [HX.out]; rfl))
                    clear hA HX
                    go_wp2_with fail
                    refine B1.out.mono ?_
                    rintro r w1 ⟨rfl, b1⟩
                    have hb2 := hb1.trans (b1.mono hb1.size)
                    have F1 := hide (F0.out.kept b1)
                    have f0 := F1.out.c 0 (.int .i64 M.funcs[k].sig) rfl
                    have f2 := F1.out.c 2 (.slice ap M.funcs[k].locals.length kp) rfl
                    have f3 := F1.out.c 3 (.slice ar M.funcs[k].body.length kr) rfl
                    have C2 := hide (C1.out w1 hb2)
                    have T2 := hide (T1.out w1 hb2)
                    have I2 := hide (I1.out w1)
                    clear b1 B1 C1 T1 I1 F0 hal hb1
                    go_wp2_with fail
                    refine C2.out.mono ?_
                    rintro r w2 ⟨rfl, rfl⟩
                    go_wp2_with fail
                    refine I2.out.mono ?_
                    rintro r w2 ⟨rfl, rfl⟩
                    go_wp2_with fail
                    refine T2.out.mono ?_
                    rintro r w2 ⟨rfl, rfl⟩
                    go_wp2_with fail
                    go_ret
                    exact ⟨ret_bool W.out.symm, hb0.trans ((hb2).mono hb0.size)⟩
                  | true =>
                    cases x2 with
                    | false =>
                      have W := hide (whole_no2 hlt (by rw [HX.out]; rfl))
                      clear hA HX
                      go_wp2_with fail
                      refine B1.out.mono ?_
                      rintro r w1 ⟨rfl, b1⟩
                      have hb2 := hb1.trans (b1.mono hb1.size)
                      have F1 := hide (F0.out.kept b1)
                      have f0 := F1.out.c 0 (.int .i64 M.funcs[k].sig) rfl
                      have f2 := F1.out.c 2 (.slice ap M.funcs[k].locals.length kp) rfl
                      have f3 := F1.out.c 3 (.slice ar M.funcs[k].body.length kr) rfl
                      have C2 := hide (C1.out w1 hb2)
                      have T2 := hide (T1.out w1 hb2)
                      have I2 := hide (I1.out w1)
                      clear b1 B1 C1 T1 I1 F0 hal hb1
                      go_wp2_with fail
                      refine C2.out.mono ?_
                      rintro r w2 ⟨rfl, rfl⟩
                      go_wp2_with fail
                      refine I2.out.mono ?_
                      rintro r w2 ⟨rfl, rfl⟩
                      go_wp2_with fail
                      refine T2.out.mono ?_
                      rintro r w2 ⟨rfl, rfl⟩
                      go_wp2_with fail
                      go_ret
                      exact ⟨ret_bool W.out.symm, hb0.trans ((hb2).mono hb0.size)⟩
                    | true =>
                      have hA2 := hide (all_take_next hA.out hlt (by rw [HX.out]; rfl))
                      clear hA HX
                      go_wp2_with fail
                      refine B1.out.mono ?_
                      rintro r w1 ⟨rfl, b1⟩
                      have hb2 := hb1.trans (b1.mono hb1.size)
                      have F1 := hide (F0.out.kept b1)
                      have f0 := F1.out.c 0 (.int .i64 M.funcs[k].sig) rfl
                      have f2 := F1.out.c 2 (.slice ap M.funcs[k].locals.length kp) rfl
                      have f3 := F1.out.c 3 (.slice ar M.funcs[k].body.length kr) rfl
                      have C2 := hide (C1.out w1 hb2)
                      have T2 := hide (T1.out w1 hb2)
                      have I2 := hide (I1.out w1)
                      clear b1 B1 C1 T1 I1 F0 hal hb1
                      go_wp2_with fail
                      refine C2.out.mono ?_
                      rintro r w2 ⟨rfl, rfl⟩
                      go_wp2_with fail
                      refine I2.out.mono ?_
                      rintro r w2 ⟨rfl, rfl⟩
                      go_wp2_with fail
                      refine T2.out.mono ?_
                      rintro r w2 ⟨rfl, rfl⟩
                      go_wp2_with fail
                      go_roundw
                      case rel => exact ⟨k + 1, by omega, by go_num, hb2, hA2⟩
                      case measure => simp [intOf]; omega
            · have e0 : k = M.funcs.length := by omega
              subst e0
              have Y2 := hide (all_whole hA.out)
              have hbd2 := hb
              clear hA
              go_wp2_with fail
              go_loopw [10] (fun iv wr => ∃ k : Nat, k ≤ M.globals.length ∧ iv = .int .i64 k ∧ Below w0.heap.size w0 wr ∧ Hid ((M.globals.take k).all whGl = true)) (fun iv _ => M.globals.length - (intOf iv).toNat)
              case atStart => exact ⟨0, by omega, rfl, hbd2, hide (by simp)⟩
              case round =>
                obtain ⟨k, hk, rfl, hb, hA⟩ := hrel
                have hbs := hb.size
                have r5 := ((R0.out.kept hb).c 5 (.slice a5 M.globals.length k5) rfl)
                by_cases hlt : k < M.globals.length
                · obtain ⟨ax, cx, ex, he⟩ := HM.out.globals
                  cases ex
                  obtain ⟨b, off, rfl, hbb, ⟨hi, c0, c1⟩⟩ := he k hlt
                  have d0 := (hb.cell (p := ⟨b, off + k * 2, none⟩) hbb).trans c0
                  have d1 := (hb.cell (p := ⟨b, off + k * 2 + 1, none⟩) hbb).trans c1
                  clear he c0 c1
                  have hb1 := hb.trans ((bel_one wr (.cells #[.int .i64 M.globals[k].t, .int .i64 M.globals[k].v] 70)).mono hbs)
                  obtain ⟨x1, hx1⟩ : ∃ x, ri M.globals[k].t = x := ⟨_, rfl⟩
                  obtain ⟨x2, hx2⟩ : ∃ x, wi M.globals[k].t = x := ⟨_, rfl⟩
                  obtain ⟨x3, hx3⟩ : ∃ x, idx M.globals[k].v = x := ⟨_, rfl⟩
                  have T1 := hide (fun w => r_right5_is M.globals[k].t x1 w hx1)
                  have T2 := hide (fun w => r_wide5_is M.globals[k].t x2 w hx2)
                  have T3 := hide (fun w => r_index5_is M.globals[k].v x3 w hx3)
                  have HX : Hid (whGl M.globals[k] = (x1 && (x2 || x3))) := hide (by simp only [whGl, hx1, hx2, hx3])
                  clear hi hx1 hx2 hx3
                  cases x1 with
                  | false =>
                    have W := hide (whole_no5 hlt (by rw [HX.out]; rfl))
                    clear hA HX
                    go_wp2_with fail
                    refine (T1.out _).mono ?_
                    rintro r w1 ⟨rfl, rfl⟩
                    go_wp2_with fail
                    go_ret
                    exact ⟨ret_bool W.out.symm, hb0.trans ((hb1).mono hb0.size)⟩
                  | true =>
                    cases x2 with
                    | true =>
                      have hA2 := hide (all_take_next hA.out hlt (by rw [HX.out]; rfl))
                      clear hA HX
                      go_wp2_with fail
                      refine (T1.out _).mono ?_
                      rintro r w1 ⟨rfl, rfl⟩
                      go_wp2_with fail
                      refine (T2.out _).mono ?_
                      rintro r w1 ⟨rfl, rfl⟩
                      go_wp2_with fail
                      go_roundw
                      case rel => exact ⟨k + 1, by omega, by go_num, hb1, hA2⟩
                      case measure => simp [intOf]; omega
                    | false =>
                      cases x3 with
                      | false =>
                        have W := hide (whole_no5 hlt (by rw [HX.out]; rfl))
                        clear hA HX
                        go_wp2_with fail
                        refine (T1.out _).mono ?_
                        rintro r w1 ⟨rfl, rfl⟩
                        go_wp2_with fail
                        refine (T2.out _).mono ?_
                        rintro r w1 ⟨rfl, rfl⟩
                        go_wp2_with fail
                        refine (T3.out _).mono ?_
                        rintro r w1 ⟨rfl, rfl⟩
                        go_wp2_with fail
                        go_ret
                        exact ⟨ret_bool W.out.symm, hb0.trans ((hb1).mono hb0.size)⟩
                      | true =>
                        have hA2 := hide (all_take_next hA.out hlt (by rw [HX.out]; rfl))
                        clear hA HX
                        go_wp2_with fail
                        refine (T1.out _).mono ?_
                        rintro r w1 ⟨rfl, rfl⟩
                        go_wp2_with fail
                        refine (T2.out _).mono ?_
                        rintro r w1 ⟨rfl, rfl⟩
                        go_wp2_with fail
                        refine (T3.out _).mono ?_
                        rintro r w1 ⟨rfl, rfl⟩
                        go_wp2_with fail
                        go_roundw
                        case rel => exact ⟨k + 1, by omega, by go_num, hb1, hA2⟩
                        case measure => simp [intOf]; omega
                · have e0 : k = M.globals.length := by omega
                  subst e0
                  have Y5 := hide (all_whole hA.out)
                  have hbd5 := hb
                  clear hA
                  go_wp2_with fail
                  go_loopw [12] (fun iv wr => ∃ k : Nat, k ≤ M.data.length ∧ iv = .int .i64 k ∧ Below w0.heap.size w0 wr ∧ Hid ((M.data.take k).all whDa = true)) (fun iv _ => M.data.length - (intOf iv).toNat)
                  case atStart => exact ⟨0, by omega, rfl, hbd5, hide (by simp)⟩
                  case round =>
                    obtain ⟨k, hk, rfl, hb, hA⟩ := hrel
                    have hbs := hb.size
                    have r6 := ((R0.out.kept hb).c 6 (.slice a6 M.data.length k6) rfl)
                    by_cases hlt : k < M.data.length
                    · obtain ⟨ax, cx, ex, he⟩ := HM.out.data
                      cases ex
                      obtain ⟨b, off, rfl, hbb, ⟨hi, c0, c1, c2⟩⟩ := he k hlt
                      have d0 := (hb.cell (p := ⟨b, off + k * 3, none⟩) hbb).trans c0
                      have d1 := (hb.cell (p := ⟨b, off + k * 3 + 1, none⟩) hbb).trans c1
                      have d2 := (hb.cell (p := ⟨b, off + k * 3 + 2, none⟩) hbb).trans c2
                      clear he c0 c1 c2
                      have hb1 := hb.trans ((bel_one wr (.cells #[.int .i64 M.data[k].mem, .int .i64 M.data[k].pos, .string (str M.data[k].bytes)] 73)).mono hbs)
                      obtain ⟨x3, hx3⟩ : ∃ x, idx M.data[k].pos = x := ⟨_, rfl⟩
                      have T3 := hide (fun w => r_index5_is M.data[k].pos x3 w hx3)
                      by_cases h0 : M.data[k].mem < 0
                      · have W := hide (whole_no6 hlt (by simp [whDa]; intro h; omega))
                        clear hA hi hx3
                        go_wp2_with fail
                        go_ret
                        exact ⟨ret_bool W.out.symm, hb0.trans ((hb1).mono hb0.size)⟩
                      · by_cases h1 : 1 < M.data[k].mem
                        · have W := hide (whole_no6 hlt (by simp [whDa]; intro h; omega))
                          clear hA hi hx3
                          go_wp2_with fail
                          go_ret
                          exact ⟨ret_bool W.out.symm, hb0.trans ((hb1).mono hb0.size)⟩
                        · have HX : Hid (whDa M.data[k] = x3) := hide (by simp only [whDa, hx3]; rcases (show M.data[k].mem = 0 ∨ M.data[k].mem = 1 by omega) with e | e <;> simp [e])
                          clear hi hx3
                          cases x3 with
                          | false =>
                            have W := hide (whole_no6 hlt HX.out)
                            clear hA HX
                            go_wp2_with fail
                            refine (T3.out _).mono ?_
                            rintro r w1 ⟨rfl, rfl⟩
                            go_wp2_with fail
                            go_ret
                            exact ⟨ret_bool W.out.symm, hb0.trans ((hb1).mono hb0.size)⟩
                          | true =>
                            have hA2 := hide (all_take_next hA.out hlt HX.out)
                            clear hA HX
                            go_wp2_with fail
                            refine (T3.out _).mono ?_
                            rintro r w1 ⟨rfl, rfl⟩
                            go_wp2_with fail
                            go_roundw
                            case rel => exact ⟨k + 1, by omega, by go_num, hb1, hA2⟩
                            case measure => simp [intOf]; omega
                    · have e0 : k = M.data.length := by omega
                      subst e0
                      have Y6 := hide (all_whole hA.out)
                      have hbd6 := hb
                      clear hA
                      go_wp2_with fail
                      go_ret
                      exact ⟨ret_bool (by simp only [whole, Y0.out, Y1.out, Y2.out, Y5.out, Y6.out, Bool.and_self]), hb0.trans (hbd6.mono hb0.size)⟩
end Go.Proofs.YtcbfpikggphokaaGreatDoor
