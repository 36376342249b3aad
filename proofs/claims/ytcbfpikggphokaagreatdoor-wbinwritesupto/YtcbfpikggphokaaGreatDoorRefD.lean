/-
  The document's own Encode: the bytes that the program writes, or its code; memory that was there stays as it was.
-/
import Derived.Test.YtcbfpikggphokaaGreatDoorRefC
namespace Go.Proofs.YtcbfpikggphokaaGreatDoor
open Go.RowKit

set_option maxRecDepth 100000 in
theorem r_encode_no (V : MoV) (M : Mo) (w : World) (h : IsMo w.heap.size w V M) (hf : fitE M ≠ 0) :
    Calls Tryz.prog 11 #[moV V M] w fun e w' => e = .returned (.tuple #[.string (str []), .int .i64 (fitE M)]) ∧ Below w.heap.size w w' := by
  have HM := hide h
  obtain ⟨a0, k0, a1, k1, a2, k2, a5, k5, a6, k6, rfl⟩ := h.forms
  have hb0 := bel_one w (.cells #[.slice a0 M.sigs.length k0, .slice a1 M.imports.length k1, .slice a2 M.funcs.length k2, .int .i64 M.m0, .int .i64 M.m1, .slice a5 M.globals.length k5, .slice a6 M.data.length k6] 29)
  have FI := hide (r_fits _ M _ (HM.out.step hb0 hb0.size))
  have z : (fitE M != 0) = true := by simpa using hf
  clear h hf HM
  unfold moV at *
  dsimp only at *
  go_enter Tryz.func11, Tryz.ntmps11
  go_wp2_with fail
  refine FI.out.mono ?_
  rintro r w1 ⟨rfl, b1⟩
  go_wp2_with fail
  go_ret2
  exact ⟨rfl, below_next hb0 b1⟩
theorem flat_bd {α : Type} {P : α → List UInt8} {l : List α} (h : ∀ x ∈ l, (P x).length ≤ 10000000) (hl : l.length ≤ 1000) (k : Nat) : (flat P (l.take k)).length ≤ 10000000000 := by
  have h1 := flat_take h k
  have h2 : l.length * 10000000 ≤ 1000 * 10000000 := Nat.mul_le_mul_right _ hl
  omega
theorem ret_si {a b : ByteArray} {c : Int} (h : a = b) : Ending.returned (.tuple #[.string a, .int .i64 c]) = .returned (.tuple #[.string b, .int .i64 c]) := by rw [h]
theorem flat_all {α : Type} (P : α → List UInt8) (l : List α) : flat P (l.take l.length) = flat P l := by simp
set_option maxRecDepth 100000 in
set_option maxHeartbeats 16000000 in
theorem r_encode_yes (V : MoV) (M : Mo) (w : World) (hd : ∀ d ∈ M.data, d.bytes.length ≤ 9000000) (h : IsMo w.heap.size w V M) (hf : fitE M = 0) (l : List UInt8) (e : Int)
    (hy : ¬ 4000 < (encM M).length → (l, e) = (encM M, 0)) (hn : 4000 < (encM M).length → (l, e) = ([], 1)) :
    Calls Tryz.prog 11 #[moV V M] w fun r w' => r = .returned (.tuple #[.string (str l), .int .i64 e]) ∧ Below w.heap.size w w' := by
  have HM0 := hide h
  obtain ⟨a0, k0, a1, k1, a2, k2, a5, k5, a6, k6, rfl⟩ := h.forms
  have hb0' := bel_one w (.cells #[.slice a0 M.sigs.length k0, .slice a1 M.imports.length k1, .slice a2 M.funcs.length k2, .int .i64 M.m0, .int .i64 M.m1, .slice a5 M.globals.length k5, .slice a6 M.data.length k6] 29)
  have R0' := hide (Row.made w #[.slice a0 M.sigs.length k0, .slice a1 M.imports.length k1, .slice a2 M.funcs.length k2, .int .i64 M.m0, .int .i64 M.m1, .slice a5 M.globals.length k5, .slice a6 M.data.length k6] 29)
  have FI := hide (r_fits _ M _ (HM0.out.step hb0' hb0'.size))
  have F := hide (fit_of hf)
  have HD := hide hd
  have HY := hide hy
  have HN := hide hn
  rw [hf] at FI
  clear h hf hd hy hn
  unfold moV at *
  dsimp only at *
  go_enter Tryz.func11, Tryz.ntmps11
  go_wp2_with fail
  refine FI.out.mono ?_
  rintro r w0 ⟨rfl, b1⟩
  have hb0 := below_next hb0' b1
  have R0 := hide (R0'.out.kept b1)
  have HM := hide (HM0.out.step hb0 hb0.size)
  clear b1 FI R0' hb0' HM0
  have hh : (⟨#[0, 99, 116, 119, 1, 0]⟩ : ByteArray) = str head6 := rfl
  have l0 := F.out.l0
  have l1 := F.out.l1
  have l2 := F.out.l2
  have l5 := F.out.l5
  have l6 := F.out.l6
  go_wp2_with fail
  go_loopw [6, 7] (fun s0 iv wr => ∃ k : Nat, k ≤ M.sigs.length ∧ iv = .int .i64 k ∧ s0 = .string (str (flat sgB (M.sigs.take k))) ∧ Below w0.heap.size w0 wr) (fun _ iv _ => M.sigs.length - (intOf iv).toNat)
  case atStart => exact ⟨0, by omega, rfl, rfl, Below.refl _ _⟩
  case round =>
    obtain ⟨k, hk, rfl, rfl, hb⟩ := hrel
    have hbs := hb.size
    have r0 := ((R0.out.kept hb).c 0 (.slice a0 M.sigs.length k0) rfl)
    by_cases hlt : k < M.sigs.length
    · obtain ⟨ax, cx, ex, he⟩ := HM.out.sigs
      cases ex
      obtain ⟨b, off, rfl, hbb, ⟨vp, vr, c0, c1, hp, hr⟩⟩ := he k hlt
      have d0 := (hb.cell (p := ⟨b, off + k * 2, none⟩) hbb).trans c0
      have d1 := (hb.cell (p := ⟨b, off + k * 2 + 1, none⟩) hbb).trans c1
      clear he c0 c1
      have hp0 := hp
      have hr0 := hr
      obtain ⟨ap, kp, rfl, _⟩ := hp0
      obtain ⟨ar, kr, rfl, _⟩ := hr0
      have hsm := F.out.s0 M.sigs[k] (List.getElem_mem hlt)
      have hwh := F.out.w0 M.sigs[k] (List.getElem_mem hlt)
      have hz0 := flat_bd (P := sgB) (fun x hx => sg_bd (F.out.s0 x hx) (F.out.w0 x hx)) (by omega : M.sigs.length ≤ 1000) k
      have hz4 := sg_bd hsm hwh
      simp only [smSg, decide_eq_true_eq] at hsm
      simp only [whSg, Bool.and_eq_true, decide_eq_true_eq] at hwh
      simp only [sgB, List.length_append] at hz4
      have D1 := hide (fun d os => Calls.regrown_of (w := wr) (d := d) (os := os) (r_kinds _ M.sigs[k].params _ (by omega) hwh.2.1 (hp.step keeps_int (hb.trans ((below_regrown wr d os).mono hbs)) (hb.trans ((below_regrown wr d os).mono hbs)).size)))
      have D2 := hide (fun d os => Calls.regrown_of (w := wr) (d := d) (os := os) (r_kinds _ M.sigs[k].results _ (by omega) hwh.2.2 (hr.step keeps_int (hb.trans ((below_regrown wr d os).mono hbs)) (hb.trans ((below_regrown wr d os).mono hbs)).size)))
      have e0 := cell_regrown r0
      have e1 := cell_regrown d0
      have e2 := cell_regrown d1
      have z1 : ¬ 9223372036854775807 < (str (flat sgB (M.sigs.take k))).size + (str (lst tyB M.sigs[k].params)).size := by simp only [str_size]; omega
      have z2 : ¬ 9223372036854775807 < (str (flat sgB (M.sigs.take k))).size + (str (lst tyB M.sigs[k].params)).size + (str (lst tyB M.sigs[k].results)).size := by simp only [str_size]; omega
      have hN := hide (flat_next (P := sgB) hlt)
      have Z := hide (And.intro z1 z2)
      clear hp hr hsm hwh hz0 hz4 z1 z2
      go_wp2_with fail
      have z1 := Z.out.1
      have z2 := Z.out.2
      refine wp_region_quiet_below (by kernel_rfl) (by kernel_rfl) ?_
      iterate 8 (go_big_quiet_step (exact D1.out _ _))
      repeat (go_big_quiet_step (exact D2.out _ _))
      refine wpQuiet_nil ?_
      intro _ hw'
      obtain ⟨⟨dq, osq⟩, hw''⟩ := hw'
      subst hw''
      clear z1 z2 e0 e1 e2 D1 D2
      go_wp2_with fail
      go_roundw
      case rel => exact ⟨k + 1, by omega, by go_num, by rw [hN.out, str_append, str_append, List.append_assoc]; rfl, hb.trans ((below_regrown wr dq osq).mono hbs)⟩
      case measure => simp [intOf]; omega
    · have e0 : k = M.sigs.length := by omega
      subst e0
      have hbd0 := hb
      have fasgB := flat_all sgB M.sigs
      rw [fasgB]
      clear fasgB
      have bs := sec_bd (k := 1) (P := sgB) (l := M.sigs) (fun x hx => sg_bd (F.out.s0 x hx) (F.out.w0 x hx)) (by omega)
      have bf := flat_len (P := sgB) (c := 10000000) (l := M.sigs) (fun x hx => sg_bd (F.out.s0 x hx) (F.out.w0 x hx))
      have SE := hide (fun w => r_section 1 M.sigs.length (flat sgB M.sigs) w (by decide) (by omega) (by omega))
      rw [secB_sec] at SE
      have z1 : ¬ 9223372036854775807 < (str head6).size + (str (sec 1 sgB M.sigs)).size := by have lo : head6.length ≤ 6 := (by decide); rw [str_size, str_size]; omega
      have Z := hide z1
      have BS := hide bs
      clear bs bf z1
      go_wp2_with fail
      refine (SE.out _).mono ?_
      rintro r ws0 ⟨rfl, bs0⟩
      have hbs0 := hbd0.trans (bs0.mono hbd0.size)
      have z1 := Z.out
      clear bs0 SE Z
      go_wp2_with fail
      rw [str_append]
      clear z1
      obtain ⟨o1, Eo1⟩ : ∃ o, o = head6 ++ sec 1 sgB M.sigs := ⟨_, rfl⟩
      have Lo1 : Hid (o1.length ≤ 11000000000) := hide (by rw [Eo1]; simp only [List.length_append]; have lo : head6.length ≤ 6 := (by decide); have bs := BS.out; omega)
      rw [← Eo1]
      have Ho1 := hide Eo1
      clear Eo1
      clear BS
      go_loopw [6, 8] (fun s0 iv wr => ∃ k : Nat, k ≤ M.imports.length ∧ iv = .int .i64 k ∧ s0 = .string (str (flat num (M.imports.take k))) ∧ Below w0.heap.size w0 wr) (fun _ iv _ => M.imports.length - (intOf iv).toNat)
      case atStart => exact ⟨0, by omega, rfl, rfl, hbs0⟩
      case round =>
        obtain ⟨k, hk, rfl, rfl, hb⟩ := hrel
        have hbs := hb.size
        have r1 := ((R0.out.kept hb).c 1 (.slice a1 M.imports.length k1) rfl)
        by_cases hlt : k < M.imports.length
        · obtain ⟨ax, cx, ex, he⟩ := HM.out.imports
          cases ex
          obtain ⟨b, off, rfl, hbb, ⟨hi, c0⟩⟩ := he k hlt
          have d0 := (hb.cell (p := ⟨b, off + k * 1, none⟩) hbb).trans c0
          rw [Nat.mul_one] at d0
          clear he c0
          have hx := F.out.w1 M.imports[k] (List.getElem_mem hlt)
          simp only [idx, Bool.and_eq_true, decide_eq_true_eq] at hx
          have hz0 := flat_bd (P := num) (fun x _ => Nat.le_trans (num_len x) (by decide)) (by omega : M.imports.length ≤ 1000) k
          have hz4 := num_len M.imports[k]
          have U := hide (r_u M.imports[k] wr hx.1 (by omega))
          have z1 : ¬ 9223372036854775807 < (str (flat num (M.imports.take k))).size + (str (num M.imports[k])).size := by rw [str_size, str_size]; omega
          have hN := hide (flat_next (P := num) hlt)
          have Z := hide z1
          clear hx hi hz0 hz4 z1
          go_wp2_with fail
          refine U.out.mono ?_
          rintro r w2 ⟨rfl, b2⟩
          have hb2 := hb.trans (b2.mono hbs)
          have z1 := Z.out
          clear b2 Z U
          go_wp2_with fail
          go_roundw
          case rel => exact ⟨k + 1, by omega, by go_num, by rw [hN.out, str_append], hb2⟩
          case measure => simp [intOf]; omega
        · have e0 : k = M.imports.length := by omega
          subst e0
          have hbd1 := hb
          have fanum := flat_all num M.imports
          rw [fanum]
          clear fanum
          have bs := sec_bd (k := 2) (P := num) (l := M.imports) (fun x _ => Nat.le_trans (num_len x) (by decide)) (by omega)
          have bf := flat_len (P := num) (c := 10000000) (l := M.imports) (fun x _ => Nat.le_trans (num_len x) (by decide))
          have SE := hide (fun w => r_section 2 M.imports.length (flat num M.imports) w (by decide) (by omega) (by omega))
          rw [secB_sec] at SE
          have z1 : ¬ 9223372036854775807 < (str o1).size + (str (sec 2 num M.imports)).size := by have lo := Lo1.out; rw [str_size, str_size]; omega
          have Z := hide z1
          have BS := hide bs
          clear bs bf z1
          go_wp2_with fail
          refine (SE.out _).mono ?_
          rintro r ws1 ⟨rfl, bs1⟩
          have hbs1 := hbd1.trans (bs1.mono hbd1.size)
          have z1 := Z.out
          clear bs1 SE Z
          go_wp2_with fail
          rw [str_append]
          clear z1
          obtain ⟨o2, Eo2⟩ : ∃ o, o = o1 ++ sec 2 num M.imports := ⟨_, rfl⟩
          have Lo2 : Hid (o2.length ≤ 22000000000) := hide (by rw [Eo2]; simp only [List.length_append]; have lo := Lo1.out; have bs := BS.out; omega)
          rw [← Eo2]
          have Ho2 := hide Eo2
          clear Eo2
          clear BS
          go_loopw [6, 9, 10] (fun s0 s1 iv wr => ∃ k : Nat, k ≤ M.funcs.length ∧ iv = .int .i64 k ∧ s0 = .string (str (flat fnB (M.funcs.take k))) ∧ s1 = .string (str (flat cdB (M.funcs.take k))) ∧ Below w0.heap.size w0 wr) (fun _ _ iv _ => M.funcs.length - (intOf iv).toNat)
          case atStart => exact ⟨0, by omega, rfl, rfl, rfl, hbs1⟩
          case round =>
            obtain ⟨k, hk, rfl, rfl, rfl, hb⟩ := hrel
            have hbs := hb.size
            have r2 := ((R0.out.kept hb).c 2 (.slice a2 M.funcs.length k2) rfl)
            by_cases hlt : k < M.funcs.length
            · obtain ⟨ax, cx, ex, he⟩ := HM.out.funcs
              cases ex
              obtain ⟨b, off, rfl, hbb, ⟨vl, vb, hi, c0, c1, c2, c3, hp, hr⟩⟩ := he k hlt
              have d0 := (hb.cell (p := ⟨b, off + k * 4, none⟩) hbb).trans c0
              have d1 := (hb.cell (p := ⟨b, off + k * 4 + 1, none⟩) hbb).trans c1
              have d2 := (hb.cell (p := ⟨b, off + k * 4 + 2, none⟩) hbb).trans c2
              have d3 := (hb.cell (p := ⟨b, off + k * 4 + 3, none⟩) hbb).trans c3
              clear he c0 c1 c2 c3
              have hp0 := hp
              have hr0 := hr
              obtain ⟨ap, kp, rfl, _⟩ := hp0
              obtain ⟨ar, kr, rfl, _⟩ := hr0
              have hsm := F.out.s2 M.funcs[k] (List.getElem_mem hlt)
              have hwh := F.out.w2 M.funcs[k] (List.getElem_mem hlt)
              have hz0 := flat_bd (P := fnB) (fun x _ => fn_bd x) (by omega : M.funcs.length ≤ 1000) k
              have hz1 := flat_bd (P := cdB) (fun x hx => cd_bd (F.out.s2 x hx)) (by omega : M.funcs.length ≤ 1000) k
              have hz3 := cd_bd hsm
              have hz4 := num_len M.funcs[k].sig
              simp only [smFn, Bool.and_eq_true, decide_eq_true_eq] at hsm
              simp only [whFn, idx, Bool.and_eq_true, decide_eq_true_eq] at hwh
              simp only [cdB, cnt, List.length_append] at hz3
              have hal := bel_one wr (.cells #[.int .i64 M.funcs[k].sig, .bool M.funcs[k].tr, .slice ap M.funcs[k].locals.length kp, .slice ar M.funcs[k].body.length kr] 50)
              have hb1 := hb.trans (hal.mono hbs)
              have F0 := hide (Row.made wr #[.int .i64 M.funcs[k].sig, .bool M.funcs[k].tr, .slice ap M.funcs[k].locals.length kp, .slice ar M.funcs[k].body.length kr] 50)
              have U1 := hide (fun w => r_u M.funcs[k].sig w hwh.1.1 (by omega))
              have O1 := hide (fun w => r_one (if M.funcs[k].tr then 1 else 0) w (by split <;> decide) (by split <;> decide))
              have B1 := hide (fun w2 (b2 : Below w0.heap.size w0 w2) => r_body_w _ M.funcs[k].body w2 (by omega) (hr.step keeps_in b2 b2.size))
              rw [hwh.2.2.1] at B1
              simp only [if_true] at B1
              have K1 := hide (fun w2 (b2 : Below w0.heap.size w0 w2) => r_kinds _ M.funcs[k].locals w2 (by omega) hwh.2.1 (hp.step keeps_int b2 b2.size))
              have U2 := hide (fun w => r_u (flat inB M.funcs[k].body).length w (by omega) (by omega))
              have sb : (str (flat inB M.funcs[k].body)).size = (flat inB M.funcs[k].body).length := str_size _
              have z1 : ¬ 9223372036854775807 < (str (flat fnB (M.funcs.take k))).size + (str (num M.funcs[k].sig)).size := by simp only [str_size]; omega
              have z2 : ¬ 9223372036854775807 < (str (flat fnB (M.funcs.take k))).size + (str (num M.funcs[k].sig)).size + (str (oneB (if M.funcs[k].tr then 1 else 0))).size := by simp only [str_size, oneB, List.length_cons, List.length_nil]; omega
              have z3 : ¬ 9223372036854775807 < (str (flat cdB (M.funcs.take k))).size + (str (lst tyB M.funcs[k].locals)).size := by simp only [str_size]; omega
              have z4 : ¬ 9223372036854775807 < (str (flat cdB (M.funcs.take k))).size + (str (lst tyB M.funcs[k].locals)).size + (str (num (flat inB M.funcs[k].body).length)).size := by simp only [str_size]; omega
              have z5 : ¬ 9223372036854775807 < (str (flat cdB (M.funcs.take k))).size + (str (lst tyB M.funcs[k].locals)).size + (str (num (flat inB M.funcs[k].body).length)).size + (str (flat inB M.funcs[k].body)).size := by simp only [str_size]; omega
              rw [← sb] at U2 z4 z5
              have hN := hide (flat_next (P := fnB) hlt)
              have hN2 := hide (flat_next (P := cdB) hlt)
              have Z := hide (And.intro z1 (And.intro z2 (And.intro z3 (And.intro z4 z5))))
              have SB := hide sb
              clear hp hr hi hsm hwh hz0 hz1 hz3 hz4 z1 z2 z3 z4 z5 hal sb
              cases ht : M.funcs[k].tr with
              | true =>
                rw [ht] at O1 hb1 F0 d1 Z
                simp only [if_true] at O1 Z
                go_wp2_with fail
                refine (U1.out _).mono ?_
                rintro r w1 ⟨rfl, b1⟩
                have hb2 := hb1.trans (b1.mono hb1.size)
                have F1 := hide (F0.out.kept b1)
                have z1 := Z.out.1
                clear b1 F0 U1
                go_wp2_with fail
                refine (O1.out _).mono ?_
                rintro r w2 ⟨rfl, b2⟩
                have hb3 := hb2.trans (b2.mono hb2.size)
                have F2 := hide (F1.out.kept b2)
                have f3 := F2.out.c 3 (.slice ar M.funcs[k].body.length kr) rfl
                have z2 := Z.out.2.1
                have B2 := hide (B1.out w2 hb3)
                clear b2 F1 O1 B1
                go_wp2_with fail
                refine B2.out.mono ?_
                rintro r w3 ⟨rfl, b3⟩
                have hb4 := hb3.trans (b3.mono hb3.size)
                have F3 := hide (F2.out.kept b3)
                have f2 := F3.out.c 2 (.slice ap M.funcs[k].locals.length kp) rfl
                have K2 := hide (K1.out w3 hb4)
                clear b3 F2 B2 K1 f3 z1 z2
                go_wp2_with fail
                refine K2.out.mono ?_
                rintro r w4 ⟨rfl, b4⟩
                have hb5 := hb4.trans (b4.mono hb4.size)
                have z3 := Z.out.2.2.1
                clear b4 K2 f2
                go_wp2_with fail
                refine (U2.out _).mono ?_
                rintro r w5 ⟨rfl, b5⟩
                have hb6 := hb5.trans (b5.mono hb5.size)
                have z4 := Z.out.2.2.2.1
                have z5 := Z.out.2.2.2.2
                clear b5 U2
                go_wp2_with fail
                go_roundw
                case rel => exact ⟨k + 1, by omega, by go_num, by rw [hN.out, str_append, str_append, List.append_assoc]; simp only [fnB, ht]; rfl, by rw [hN2.out, str_append, SB.out, str_append, str_append, List.append_assoc, List.append_assoc]; rfl, hb6⟩
                case measure => simp [intOf]; omega
              | false =>
                rw [ht] at O1 hb1 F0 d1 Z
                simp only [Bool.false_eq_true, if_false] at O1 Z
                go_wp2_with fail
                refine (U1.out _).mono ?_
                rintro r w1 ⟨rfl, b1⟩
                have hb2 := hb1.trans (b1.mono hb1.size)
                have F1 := hide (F0.out.kept b1)
                have z1 := Z.out.1
                clear b1 F0 U1
                go_wp2_with fail
                refine (O1.out _).mono ?_
                rintro r w2 ⟨rfl, b2⟩
                have hb3 := hb2.trans (b2.mono hb2.size)
                have F2 := hide (F1.out.kept b2)
                have f3 := F2.out.c 3 (.slice ar M.funcs[k].body.length kr) rfl
                have z2 := Z.out.2.1
                have B2 := hide (B1.out w2 hb3)
                clear b2 F1 O1 B1
                go_wp2_with fail
                refine B2.out.mono ?_
                rintro r w3 ⟨rfl, b3⟩
                have hb4 := hb3.trans (b3.mono hb3.size)
                have F3 := hide (F2.out.kept b3)
                have f2 := F3.out.c 2 (.slice ap M.funcs[k].locals.length kp) rfl
                have K2 := hide (K1.out w3 hb4)
                clear b3 F2 B2 K1 f3 z1 z2
                go_wp2_with fail
                refine K2.out.mono ?_
                rintro r w4 ⟨rfl, b4⟩
                have hb5 := hb4.trans (b4.mono hb4.size)
                have z3 := Z.out.2.2.1
                clear b4 K2 f2
                go_wp2_with fail
                refine (U2.out _).mono ?_
                rintro r w5 ⟨rfl, b5⟩
                have hb6 := hb5.trans (b5.mono hb5.size)
                have z4 := Z.out.2.2.2.1
                have z5 := Z.out.2.2.2.2
                clear b5 U2
                go_wp2_with fail
                go_roundw
                case rel => exact ⟨k + 1, by omega, by go_num, by rw [hN.out, str_append, str_append, List.append_assoc]; simp only [fnB, ht]; rfl, by rw [hN2.out, str_append, SB.out, str_append, str_append, List.append_assoc, List.append_assoc]; rfl, hb6⟩
                case measure => simp [intOf]; omega
            · have e0 : k = M.funcs.length := by omega
              subst e0
              have hbd2 := hb
              have fafnB := flat_all fnB M.funcs
              rw [fafnB]
              clear fafnB
              have facdB := flat_all cdB M.funcs
              rw [facdB]
              clear facdB
              have bs := sec_bd (k := 3) (P := fnB) (l := M.funcs) (fun x _ => fn_bd x) (by omega)
              have bf := flat_len (P := fnB) (c := 10000000) (l := M.funcs) (fun x _ => fn_bd x)
              have SE := hide (fun w => r_section 3 M.funcs.length (flat fnB M.funcs) w (by decide) (by omega) (by omega))
              rw [secB_sec] at SE
              have z1 : ¬ 9223372036854775807 < (str o2).size + (str (sec 3 fnB M.funcs)).size := by have lo := Lo2.out; rw [str_size, str_size]; omega
              have Z := hide z1
              have BS := hide bs
              clear bs bf z1
              go_wp2_with fail
              refine (SE.out _).mono ?_
              rintro r ws2 ⟨rfl, bs2⟩
              have hbs2 := hbd2.trans (bs2.mono hbd2.size)
              have z1 := Z.out
              clear bs2 SE Z
              have RM := hide (R0.out.kept hbs2)
              have v3 := RM.out.c 3 (.int .i64 M.m0) rfl
              have v4 := RM.out.c 4 (.int .i64 M.m1) rfl
              by_cases mz0 : M.m0 = 0 ∧ M.m1 = 0
              · have mz := hide mz0
                have y0 : (M.m0 != 0) = false := by simp [mz0.1]
                have y1 : (M.m1 != 0) = false := by simp [mz0.2]
                clear mz0
                go_wp2_with fail
                rw [str_append]
                clear z1
                obtain ⟨o3, Eo3⟩ : ∃ o, o = o2 ++ sec 3 fnB M.funcs := ⟨_, rfl⟩
                have Lo3 : Hid (o3.length ≤ 33000000000) := hide (by rw [Eo3]; simp only [List.length_append]; have lo := Lo2.out; have bs := BS.out; omega)
                rw [← Eo3]
                have Ho3 := hide Eo3
                clear Eo3
                clear BS
                go_loopw [6, 15] (fun s0 iv wr => ∃ k : Nat, k ≤ M.globals.length ∧ iv = .int .i64 k ∧ s0 = .string (str (flat glB (M.globals.take k))) ∧ Below w0.heap.size w0 wr) (fun _ iv _ => M.globals.length - (intOf iv).toNat)
                case atStart => exact ⟨0, by omega, rfl, rfl, hbs2⟩
                case round =>
                  obtain ⟨k, hk, rfl, rfl, hb⟩ := hrel
                  have hbs := hb.size
                  have r5 := ((R0.out.kept hb).c 5 (.slice a5 M.globals.length k5) rfl)
                  by_cases hlt : k < M.globals.length
                  · obtain ⟨ax, cx, ex, he⟩ := HM.out.globals
                    cases ex
                    obtain ⟨b, off, rfl, hbb, ⟨hi, c0, c1⟩⟩ := he k hlt
                    have d0 := (hb.cell (p := ⟨b, off + k * 2, none⟩) hbb).trans c0
                    have d1 := (hb.cell (p := ⟨b, off + k * 2 + 1, none⟩) hbb).trans c1
                    clear he c0 c1
                    have hwh := F.out.w5 M.globals[k] (List.getElem_mem hlt)
                    have hz0 := flat_bd (P := glB) (fun x _ => gl_bd x) (by omega : M.globals.length ≤ 1000) k
                    have hz4 := encS_len (glV M.globals[k])
                    simp only [whGl, Bool.and_eq_true, Bool.or_eq_true] at hwh
                    have ht := (ri_iff M.globals[k].t).1 hwh.1
                    have hb1 := hb.trans ((bel_one wr (.cells #[.int .i64 M.globals[k].t, .int .i64 M.globals[k].v] 70)).mono hbs)
                    have G0 := hide (Row.made wr #[.int .i64 M.globals[k].t, .int .i64 M.globals[k].v] 70)
                    have WI := hide (fun (r : Bool) (w : World) (hq : wi M.globals[k].t = r) => r_wide5_is M.globals[k].t r w hq)
                    have O1 := hide (fun w => r_one (127 - M.globals[k].t) w (by omega) (by omega))
                    have hgI : I64 (glV M.globals[k]) := by
                      unfold glV s32
                      have := hi.2
                      unfold I64 at *
                      split
                      · exact this
                      · rename_i hnw
                        have hx : idx M.globals[k].v = true := by rcases hwh.2 with h | h; exact absurd h hnw; exact h
                        simp only [idx, Bool.and_eq_true, decide_eq_true_eq] at hx
                        split <;> omega
                    have SV := hide (fun w => refS_any (glV M.globals[k]) w hgI)
                    have hw1 : wrap64 (127 - M.globals[k].t) = 127 - M.globals[k].t := by unfold wrap64; omega
                    have z1 : ¬ 9223372036854775807 < (str (flat glB (M.globals.take k))).size + (str (oneB (127 - M.globals[k].t))).size := by simp only [str_size, oneB, List.length_cons, List.length_nil]; omega
                    have z2 : ¬ 9223372036854775807 < (str (flat glB (M.globals.take k))).size + (str (oneB (127 - M.globals[k].t))).size + (str (enc (glV M.globals[k]) (szS (glV M.globals[k])))).size := by simp only [str_size, oneB, List.length_cons, List.length_nil]; omega
                    have hN := hide (flat_next (P := glB) hlt)
                    have HG : Hid (glB M.globals[k] = oneB (127 - M.globals[k].t) ++ enc (glV M.globals[k]) (szS (glV M.globals[k]))) := hide rfl
                    clear ht hgI hz0 hz4
                    cases h1 : wi M.globals[k].t with
                    | true =>
                      have hv : glV M.globals[k] = M.globals[k].v := by simp [glV, h1]
                      have W1 := hide (WI.out true (wr.alloc (.cells #[.int .i64 M.globals[k].t, .int .i64 M.globals[k].v] 70)) h1)
                      rw [hv] at SV HG z2
                      have Z := hide (And.intro z1 z2)
                      clear z1 z2 hwh hi WI h1 hv
                      go_wp2_with fail
                      refine W1.out.mono ?_
                      rintro r w1 ⟨rfl, rfl⟩
                      go_wp2_with fail
                      refine (O1.out _).mono ?_
                      rintro r w2 ⟨rfl, b2⟩
                      have hb2 := hb1.trans (b2.mono hb1.size)
                      have z1 := Z.out.1
                      clear b2 W1 O1
                      go_wp2_with fail
                      refine (SV.out _).mono ?_
                      rintro r w3 ⟨rfl, b3⟩
                      have hb3 := hb2.trans (b3.mono hb2.size)
                      have z2 := Z.out.2
                      clear b3 SV
                      go_wp2_with fail
                      go_roundw
                      case rel => exact ⟨k + 1, by omega, by go_num, by rw [hN.out, HG.out, str_append, str_append, List.append_assoc], hb3⟩
                      case measure => simp [intOf]; omega
                    | false =>
                      have W1 := hide (WI.out false (wr.alloc (.cells #[.int .i64 M.globals[k].t, .int .i64 M.globals[k].v] 70)) h1)
                      by_cases h2 : M.globals[k].v < 2147483648
                      · have hv : glV M.globals[k] = M.globals[k].v := by simp [glV, h1, s32, h2]
                        rw [hv] at SV HG z2
                        have g2 : ¬ (2147483648 : Int) ≤ M.globals[k].v := by omega
                        have Z := hide (And.intro z1 z2)
                        clear z1 z2 hwh hi WI h1 hv h2
                        go_wp2_with fail
                        refine W1.out.mono ?_
                        rintro r w1 ⟨rfl, rfl⟩
                        go_wp2_with fail
                        refine (O1.out _).mono ?_
                        rintro r w2 ⟨rfl, b2⟩
                        have hb2 := hb1.trans (b2.mono hb1.size)
                        have z1 := Z.out.1
                        clear b2 W1 O1
                        go_wp2_with fail
                        refine (SV.out _).mono ?_
                        rintro r w3 ⟨rfl, b3⟩
                        have hb3 := hb2.trans (b3.mono hb2.size)
                        have z2 := Z.out.2
                        clear b3 SV
                        go_wp2_with fail
                        go_roundw
                        case rel => exact ⟨k + 1, by omega, by go_num, by rw [hN.out, HG.out, str_append, str_append, List.append_assoc], hb3⟩
                        case measure => simp [intOf]; omega
                      · have hv : glV M.globals[k] = M.globals[k].v - 4294967296 := by simp [glV, h1, s32, h2]
                        have hx : idx M.globals[k].v = true := by rcases hwh.2 with h | h; rw [h1] at h; cases h; exact h
                        simp only [idx, Bool.and_eq_true, decide_eq_true_eq] at hx
                        have hw2 : wrap64 (M.globals[k].v - 4294967296) = M.globals[k].v - 4294967296 := by unfold wrap64; omega
                        rw [hv] at SV HG z2
                        have g2 : (2147483648 : Int) ≤ M.globals[k].v := by omega
                        have Z := hide (And.intro z1 z2)
                        clear z1 z2 hwh hi WI h1 hv h2 hx
                        go_wp2_with fail
                        refine W1.out.mono ?_
                        rintro r w1 ⟨rfl, rfl⟩
                        go_wp2_with fail
                        refine (O1.out _).mono ?_
                        rintro r w2 ⟨rfl, b2⟩
                        have hb2 := hb1.trans (b2.mono hb1.size)
                        have z1 := Z.out.1
                        clear b2 W1 O1
                        go_wp2_with fail
                        refine (SV.out _).mono ?_
                        rintro r w3 ⟨rfl, b3⟩
                        have hb3 := hb2.trans (b3.mono hb2.size)
                        have z2 := Z.out.2
                        clear b3 SV
                        go_wp2_with fail
                        go_roundw
                        case rel => exact ⟨k + 1, by omega, by go_num, by rw [hN.out, HG.out, str_append, str_append, List.append_assoc], hb3⟩
                        case measure => simp [intOf]; omega
                  · have e0 : k = M.globals.length := by omega
                    subst e0
                    have hbd5 := hb
                    have faglB := flat_all glB M.globals
                    rw [faglB]
                    clear faglB
                    have bs := sec_bd (k := 6) (P := glB) (l := M.globals) (fun x _ => gl_bd x) (by omega)
                    have bs2 := sec_bd (k := 10) (P := cdB) (l := M.funcs) (fun x hx => cd_bd (F.out.s2 x hx)) (by omega)
                    have bf := flat_len (P := glB) (c := 10000000) (l := M.globals) (fun x _ => gl_bd x)
                    have bf2 := flat_len (P := cdB) (c := 10000000) (l := M.funcs) (fun x hx => cd_bd (F.out.s2 x hx))
                    have D1 := hide (fun d os => Calls.regrown_of (w := wr) (d := d) (os := os) (r_section 6 M.globals.length (flat glB M.globals) _ (by decide) (by omega) (by omega)))
                    have D2 := hide (fun d os => Calls.regrown_of (w := wr) (d := d) (os := os) (r_section 10 M.funcs.length (flat cdB M.funcs) _ (by decide) (by omega) (by omega)))
                    rw [secB_sec] at D1 D2
                    have z1 : ¬ 9223372036854775807 < (str o3).size + (str (sec 6 glB M.globals)).size := by have lo := Lo3.out; rw [str_size, str_size]; omega
                    have z2 : ¬ 9223372036854775807 < (str o3).size + (str (sec 6 glB M.globals)).size + (str (sec 10 cdB M.funcs)).size := by have lo := Lo3.out; rw [str_size, str_size, str_size]; omega
                    have RW := hide (R0.out.kept hbd5)
                    have e5 := cell_regrown (RW.out.c 5 (.slice a5 M.globals.length k5) rfl)
                    have e2 := cell_regrown (RW.out.c 2 (.slice a2 M.funcs.length k2) rfl)
                    have Z := hide (And.intro z1 z2)
                    have BS := hide (And.intro bs bs2)
                    clear bs bs2 bf bf2 z1 z2
                    go_wp2_with fail
                    have z1 := Z.out.1
                    have z2 := Z.out.2
                    refine wp_region_quiet_below (by kernel_rfl) (by kernel_rfl) ?_
                    iterate 6 (go_big_quiet_step (exact D1.out _ _))
                    repeat (go_big_quiet_step (exact D2.out _ _))
                    refine wpQuiet_nil ?_
                    intro _ hw'
                    obtain ⟨⟨dq, osq⟩, hw''⟩ := hw'
                    subst hw''
                    have hbe := hbd5.trans ((below_regrown wr dq osq).mono hbd5.size)
                    generalize Sort.grow (redrawn wr dq) osq = wq at *
                    clear z1 z2 e2 e5 D1 D2 RW
                    go_wp2_with fail
                    rw [str_append, str_append]
                    obtain ⟨o6, Eo6⟩ : ∃ o, o = o3 ++ sec 6 glB M.globals ++ sec 10 cdB M.funcs := ⟨_, rfl⟩
                    have Lo6 : Hid (o6.length ≤ 66000000000) := hide (by rw [Eo6]; simp only [List.length_append]; have lo := Lo3.out; have b5 := BS.out.1; have b6 := BS.out.2; omega)
                    rw [← Eo6]
                    have Ho6 := hide Eo6
                    clear Eo6
                    clear BS
                    go_loopw [6, 18] (fun s0 iv wr => ∃ k : Nat, k ≤ M.data.length ∧ iv = .int .i64 k ∧ s0 = .string (str (flat daB (M.data.take k))) ∧ Below w0.heap.size w0 wr) (fun _ iv _ => M.data.length - (intOf iv).toNat)
                    case atStart => exact ⟨0, by omega, rfl, rfl, hbe⟩
                    case round =>
                      obtain ⟨k, hk, rfl, rfl, hb⟩ := hrel
                      have hbs := hb.size
                      have r6 := ((R0.out.kept hb).c 6 (.slice a6 M.data.length k6) rfl)
                      by_cases hlt : k < M.data.length
                      · obtain ⟨ax, cx, ex, he⟩ := HM.out.data
                        cases ex
                        obtain ⟨b, off, rfl, hbb, ⟨hi, c0, c1, c2⟩⟩ := he k hlt
                        have d0 := (hb.cell (p := ⟨b, off + k * 3, none⟩) hbb).trans c0
                        have d1 := (hb.cell (p := ⟨b, off + k * 3 + 1, none⟩) hbb).trans c1
                        have d2 := (hb.cell (p := ⟨b, off + k * 3 + 2, none⟩) hbb).trans c2
                        clear he c0 c1 c2
                        have hwh := F.out.w6 M.data[k] (List.getElem_mem hlt)
                        have hdl := HD.out M.data[k] (List.getElem_mem hlt)
                        simp only [whDa, idx, Bool.and_eq_true, Bool.or_eq_true, decide_eq_true_eq] at hwh
                        have hz0 := flat_bd (P := daB) (fun x hx => da_bd (HD.out x hx)) (by omega : M.data.length ≤ 1000) k
                        have hal := bel_one wr (.cells #[.int .i64 M.data[k].mem, .int .i64 M.data[k].pos, .string (str M.data[k].bytes)] 73)
                        have hb1 := hb.trans (hal.mono hbs)
                        have G0 := hide (Row.made wr #[.int .i64 M.data[k].mem, .int .i64 M.data[k].pos, .string (str M.data[k].bytes)] 73)
                        have n1 := num_len M.data[k].mem
                        have n2 := num_len M.data[k].pos
                        have n3 := num_len M.data[k].bytes.length
                        have sb : (str M.data[k].bytes).size = M.data[k].bytes.length := str_size _
                        have D1 := hide (fun d os => Calls.regrown_of (w := wr.alloc (.cells #[.int .i64 M.data[k].mem, .int .i64 M.data[k].pos, .string (str M.data[k].bytes)] 73)) (d := d) (os := os) (r_u M.data[k].mem _ (by omega) (by omega)))
                        have D2 := hide (fun d os => Calls.regrown_of (w := wr.alloc (.cells #[.int .i64 M.data[k].mem, .int .i64 M.data[k].pos, .string (str M.data[k].bytes)] 73)) (d := d) (os := os) (r_u M.data[k].pos _ (by omega) (by omega)))
                        have D3 := hide (fun d os => Calls.regrown_of (w := wr.alloc (.cells #[.int .i64 M.data[k].mem, .int .i64 M.data[k].pos, .string (str M.data[k].bytes)] 73)) (d := d) (os := os) (r_u M.data[k].bytes.length _ (by omega) (by omega)))
                        have e0 := cell_regrown (G0.out.c 0 (.int .i64 M.data[k].mem) rfl)
                        have e1 := cell_regrown (G0.out.c 1 (.int .i64 M.data[k].pos) rfl)
                        have e2 := cell_regrown (G0.out.c 2 (.string (str M.data[k].bytes)) rfl)
                        have z1 : ¬ 9223372036854775807 < (str (flat daB (M.data.take k))).size + (str (num M.data[k].mem)).size := by simp only [str_size]; omega
                        have z2 : ¬ 9223372036854775807 < (str (flat daB (M.data.take k))).size + (str (num M.data[k].mem)).size + (str (num M.data[k].pos)).size := by simp only [str_size]; omega
                        have z3 : ¬ 9223372036854775807 < (str (flat daB (M.data.take k))).size + (str (num M.data[k].mem)).size + (str (num M.data[k].pos)).size + (str (num M.data[k].bytes.length)).size := by simp only [str_size]; omega
                        have z4 : ¬ 9223372036854775807 < (str (flat daB (M.data.take k))).size + (str (num M.data[k].mem)).size + (str (num M.data[k].pos)).size + (str (num M.data[k].bytes.length)).size + (str M.data[k].bytes).size := by simp only [str_size]; omega
                        rw [← sb] at D3 z3 z4
                        have hN := hide (flat_next (P := daB) hlt)
                        have Z := hide (And.intro z1 (And.intro z2 (And.intro z3 z4)))
                        have SB := hide sb
                        clear hwh hdl hz0 hi n1 n2 n3 sb z1 z2 z3 z4 G0 hal
                        go_wp2_with fail
                        generalize wr.alloc (.cells #[.int .i64 M.data[k].mem, .int .i64 M.data[k].pos, .string (str M.data[k].bytes)] 73) = w5 at *
                        have z1 := Z.out.1
                        have z2 := Z.out.2.1
                        have z3 := Z.out.2.2.1
                        have z4 := Z.out.2.2.2
                        refine wp_region_quiet_below (by kernel_rfl) (by kernel_rfl) ?_
                        iterate 4 (go_big_quiet_step (exact D1.out _ _))
                        iterate 4 (go_big_quiet_step (exact D2.out _ _))
                        repeat (go_big_quiet_step (exact D3.out _ _))
                        refine wpQuiet_nil ?_
                        intro _ hw'
                        obtain ⟨⟨dq, osq⟩, hw''⟩ := hw'
                        subst hw''
                        clear z1 z2 z3 z4 e0 e1 e2 D1 D2 D3
                        go_wp2_with fail
                        go_roundw
                        case rel => exact ⟨k + 1, by omega, by go_num, by rw [hN.out, SB.out]; simp only [str_append, daB, cnt, List.append_assoc], hb1.trans ((below_regrown w5 dq osq).mono hb1.size)⟩
                        case measure => simp [intOf]; omega
                      · have e0 : k = M.data.length := by omega
                        subst e0
                        have hbd6 := hb
                        have fadaB := flat_all daB M.data
                        rw [fadaB]
                        clear fadaB
                        have bs := sec_bd (k := 11) (P := daB) (l := M.data) (fun x hx => da_bd (HD.out x hx)) (by omega)
                        have bf := flat_len (P := daB) (c := 10000000) (l := M.data) (fun x hx => da_bd (HD.out x hx))
                        have SE := hide (fun w => r_section 11 M.data.length (flat daB M.data) w (by decide) (by omega) (by omega))
                        rw [secB_sec] at SE
                        have z1 : ¬ 9223372036854775807 < (str o6).size + (str (sec 11 daB M.data)).size := by have lo := Lo6.out; rw [str_size, str_size]; omega
                        have Z := hide z1
                        have BS := hide bs
                        clear bs bf z1
                        go_wp2_with fail
                        refine (SE.out _).mono ?_
                        rintro r ws6 ⟨rfl, bs6⟩
                        have hbs6 := hbd6.trans (bs6.mono hbd6.size)
                        have z1 := Z.out
                        clear bs6 SE Z
                        have hm5 : sec 5 oneB (memL M) = [] := by rw [show memL M = [] from if_pos mz.out]; rfl
                        have HE : Hid (str o6 ++ str (sec 11 daB M.data) = str (encM M)) := hide (by rw [str_append, Ho6.out, Ho3.out, Ho2.out, Ho1.out]; simp only [encM, secs, hm5, List.append_nil, List.append_assoc])
                        have hsz : (str o6).size + (str (sec 11 daB M.data)).size = (encM M).length := by rw [← ByteArray.size_append, HE.out, str_size]
                        by_cases hlen : 4000 < (encM M).length
                        · have g : (4000 : Int) < (((str o6).size + (str (sec 11 daB M.data)).size : Nat) : Int) := by rw [hsz]; omega
                          cases HN.out hlen
                          clear HY HN hlen hsz
                          go_wp2_with fail
                          go_ret2
                          exact ⟨rfl, hb0.trans (hbs6.mono hb0.size)⟩
                        · have g : ¬ (4000 : Int) < (((str o6).size + (str (sec 11 daB M.data)).size : Nat) : Int) := by rw [hsz]; omega
                          cases HY.out hlen
                          clear HY HN hlen hsz
                          go_wp2_with fail
                          go_ret2
                          exact ⟨ret_si HE.out, hb0.trans (hbs6.mono hb0.size)⟩
              · by_cases y0' : M.m0 = 0
                · have y1' : ¬ M.m1 = 0 := fun e => mz0 ⟨y0', e⟩
                  have y0 : (M.m0 != 0) = false := by simp [y0']
                  have y1 : (M.m1 != 0) = true := by simpa using y1'
                  clear y0' y1'
                  go_wp2_with fail
                  rw [str_append]
                  clear z1
                  obtain ⟨o3, Eo3⟩ : ∃ o, o = o2 ++ sec 3 fnB M.funcs := ⟨_, rfl⟩
                  have Lo3 : Hid (o3.length ≤ 33000000000) := hide (by rw [Eo3]; simp only [List.length_append]; have lo := Lo2.out; have bs := BS.out; omega)
                  rw [← Eo3]
                  have Ho3 := hide Eo3
                  clear Eo3
                  clear BS
                  have e3 := cell_regrown v3
                  have e4 := cell_regrown v4
                  have bs := sec_bd (k := 5) (P := oneB) (l := memL M) (fun x _ => one_bd x) (memL_len M)
                  have mb0 := mem_byte F.out.s3.1
                  have mb1 := mem_byte F.out.s3.2
                  have hml : memL M = [M.m0, M.m1] := if_neg mz0
                  have hse : secB 5 2 (oneB M.m0 ++ oneB M.m1) = sec 5 oneB (memL M) := by rw [hml]; rfl
                  have D1 := hide (fun d os => Calls.regrown_of (w := ws2) (d := d) (os := os) (r_one M.m0 _ mb0.1 mb0.2))
                  have D2 := hide (fun d os => Calls.regrown_of (w := ws2) (d := d) (os := os) (r_one M.m1 _ mb1.1 mb1.2))
                  have D3r : ∀ w, Calls Tryz.prog 23 #[.int .i64 5, .int .i64 2, .string (str (oneB M.m0) ++ str (oneB M.m1))] w fun e w' => e = .returned (.string (str (sec 5 oneB (memL M)))) ∧ Below w.heap.size w w' := fun w => by rw [str_append, ← hse]; exact r_section 5 2 (oneB M.m0 ++ oneB M.m1) w (by decide) (by decide) (by simp [oneB])
                  have D3 := hide (fun d os => Calls.regrown_of (w := ws2) (d := d) (os := os) (D3r _))
                  have z0 : ¬ 9223372036854775807 < (str (oneB M.m0)).size + (str (oneB M.m1)).size := by simp only [str_size, oneB, List.length_cons, List.length_nil]; omega
                  have z1 : ¬ 9223372036854775807 < (str o3).size + (str (sec 5 oneB (memL M))).size := by have lo := Lo3.out; rw [str_size, str_size]; omega
                  have Z := hide (And.intro z0 z1)
                  have BS := hide bs
                  clear bs mb0 mb1 hml hse z0 z1 mz0 D3r
                  have z0 := Z.out.1
                  have z1 := Z.out.2
                  refine wp_region_quiet_below (by kernel_rfl) (by kernel_rfl) ?_
                  iterate 5 (go_big_quiet_step (exact D1.out _ _))
                  iterate 4 (go_big_quiet_step (exact D2.out _ _))
                  repeat (go_big_quiet_step (exact D3.out _ _))
                  refine wpQuiet_nil ?_
                  intro _ hw'
                  obtain ⟨⟨dq, osq⟩, hw''⟩ := hw'
                  subst hw''
                  have hbm := hbs2.trans ((below_regrown ws2 dq osq).mono hbs2.size)
                  generalize Sort.grow (redrawn ws2 dq) osq = wm at *
                  clear z0 z1 e3 e4 v3 v4 D1 D2 D3 RM
                  go_wp2_with fail
                  rw [str_append]
                  obtain ⟨o4, Eo4⟩ : ∃ o, o = o3 ++ sec 5 oneB (memL M) := ⟨_, rfl⟩
                  have Lo4 : Hid (o4.length ≤ 44000000000) := hide (by rw [Eo4]; simp only [List.length_append]; have lo := Lo3.out; have bs := BS.out; omega)
                  rw [← Eo4]
                  have Ho4 := hide Eo4
                  clear Eo4
                  clear BS
                  go_loopw [6, 15] (fun s0 iv wr => ∃ k : Nat, k ≤ M.globals.length ∧ iv = .int .i64 k ∧ s0 = .string (str (flat glB (M.globals.take k))) ∧ Below w0.heap.size w0 wr) (fun _ iv _ => M.globals.length - (intOf iv).toNat)
                  case atStart => exact ⟨0, by omega, rfl, rfl, hbm⟩
                  case round =>
                    obtain ⟨k, hk, rfl, rfl, hb⟩ := hrel
                    have hbs := hb.size
                    have r5 := ((R0.out.kept hb).c 5 (.slice a5 M.globals.length k5) rfl)
                    by_cases hlt : k < M.globals.length
                    · obtain ⟨ax, cx, ex, he⟩ := HM.out.globals
                      cases ex
                      obtain ⟨b, off, rfl, hbb, ⟨hi, c0, c1⟩⟩ := he k hlt
                      have d0 := (hb.cell (p := ⟨b, off + k * 2, none⟩) hbb).trans c0
                      have d1 := (hb.cell (p := ⟨b, off + k * 2 + 1, none⟩) hbb).trans c1
                      clear he c0 c1
                      have hwh := F.out.w5 M.globals[k] (List.getElem_mem hlt)
                      have hz0 := flat_bd (P := glB) (fun x _ => gl_bd x) (by omega : M.globals.length ≤ 1000) k
                      have hz4 := encS_len (glV M.globals[k])
                      simp only [whGl, Bool.and_eq_true, Bool.or_eq_true] at hwh
                      have ht := (ri_iff M.globals[k].t).1 hwh.1
                      have hb1 := hb.trans ((bel_one wr (.cells #[.int .i64 M.globals[k].t, .int .i64 M.globals[k].v] 70)).mono hbs)
                      have G0 := hide (Row.made wr #[.int .i64 M.globals[k].t, .int .i64 M.globals[k].v] 70)
                      have WI := hide (fun (r : Bool) (w : World) (hq : wi M.globals[k].t = r) => r_wide5_is M.globals[k].t r w hq)
                      have O1 := hide (fun w => r_one (127 - M.globals[k].t) w (by omega) (by omega))
                      have hgI : I64 (glV M.globals[k]) := by
                        unfold glV s32
                        have := hi.2
                        unfold I64 at *
                        split
                        · exact this
                        · rename_i hnw
                          have hx : idx M.globals[k].v = true := by rcases hwh.2 with h | h; exact absurd h hnw; exact h
                          simp only [idx, Bool.and_eq_true, decide_eq_true_eq] at hx
                          split <;> omega
                      have SV := hide (fun w => refS_any (glV M.globals[k]) w hgI)
                      have hw1 : wrap64 (127 - M.globals[k].t) = 127 - M.globals[k].t := by unfold wrap64; omega
                      have z1 : ¬ 9223372036854775807 < (str (flat glB (M.globals.take k))).size + (str (oneB (127 - M.globals[k].t))).size := by simp only [str_size, oneB, List.length_cons, List.length_nil]; omega
                      have z2 : ¬ 9223372036854775807 < (str (flat glB (M.globals.take k))).size + (str (oneB (127 - M.globals[k].t))).size + (str (enc (glV M.globals[k]) (szS (glV M.globals[k])))).size := by simp only [str_size, oneB, List.length_cons, List.length_nil]; omega
                      have hN := hide (flat_next (P := glB) hlt)
                      have HG : Hid (glB M.globals[k] = oneB (127 - M.globals[k].t) ++ enc (glV M.globals[k]) (szS (glV M.globals[k]))) := hide rfl
                      clear ht hgI hz0 hz4
                      cases h1 : wi M.globals[k].t with
                      | true =>
                        have hv : glV M.globals[k] = M.globals[k].v := by simp [glV, h1]
                        have W1 := hide (WI.out true (wr.alloc (.cells #[.int .i64 M.globals[k].t, .int .i64 M.globals[k].v] 70)) h1)
                        rw [hv] at SV HG z2
                        have Z := hide (And.intro z1 z2)
                        clear z1 z2 hwh hi WI h1 hv
                        go_wp2_with fail
                        refine W1.out.mono ?_
                        rintro r w1 ⟨rfl, rfl⟩
                        go_wp2_with fail
                        refine (O1.out _).mono ?_
                        rintro r w2 ⟨rfl, b2⟩
                        have hb2 := hb1.trans (b2.mono hb1.size)
                        have z1 := Z.out.1
                        clear b2 W1 O1
                        go_wp2_with fail
                        refine (SV.out _).mono ?_
                        rintro r w3 ⟨rfl, b3⟩
                        have hb3 := hb2.trans (b3.mono hb2.size)
                        have z2 := Z.out.2
                        clear b3 SV
                        go_wp2_with fail
                        go_roundw
                        case rel => exact ⟨k + 1, by omega, by go_num, by rw [hN.out, HG.out, str_append, str_append, List.append_assoc], hb3⟩
                        case measure => simp [intOf]; omega
                      | false =>
                        have W1 := hide (WI.out false (wr.alloc (.cells #[.int .i64 M.globals[k].t, .int .i64 M.globals[k].v] 70)) h1)
                        by_cases h2 : M.globals[k].v < 2147483648
                        · have hv : glV M.globals[k] = M.globals[k].v := by simp [glV, h1, s32, h2]
                          rw [hv] at SV HG z2
                          have g2 : ¬ (2147483648 : Int) ≤ M.globals[k].v := by omega
                          have Z := hide (And.intro z1 z2)
                          clear z1 z2 hwh hi WI h1 hv h2
                          go_wp2_with fail
                          refine W1.out.mono ?_
                          rintro r w1 ⟨rfl, rfl⟩
                          go_wp2_with fail
                          refine (O1.out _).mono ?_
                          rintro r w2 ⟨rfl, b2⟩
                          have hb2 := hb1.trans (b2.mono hb1.size)
                          have z1 := Z.out.1
                          clear b2 W1 O1
                          go_wp2_with fail
                          refine (SV.out _).mono ?_
                          rintro r w3 ⟨rfl, b3⟩
                          have hb3 := hb2.trans (b3.mono hb2.size)
                          have z2 := Z.out.2
                          clear b3 SV
                          go_wp2_with fail
                          go_roundw
                          case rel => exact ⟨k + 1, by omega, by go_num, by rw [hN.out, HG.out, str_append, str_append, List.append_assoc], hb3⟩
                          case measure => simp [intOf]; omega
                        · have hv : glV M.globals[k] = M.globals[k].v - 4294967296 := by simp [glV, h1, s32, h2]
                          have hx : idx M.globals[k].v = true := by rcases hwh.2 with h | h; rw [h1] at h; cases h; exact h
                          simp only [idx, Bool.and_eq_true, decide_eq_true_eq] at hx
                          have hw2 : wrap64 (M.globals[k].v - 4294967296) = M.globals[k].v - 4294967296 := by unfold wrap64; omega
                          rw [hv] at SV HG z2
                          have g2 : (2147483648 : Int) ≤ M.globals[k].v := by omega
                          have Z := hide (And.intro z1 z2)
                          clear z1 z2 hwh hi WI h1 hv h2 hx
                          go_wp2_with fail
                          refine W1.out.mono ?_
                          rintro r w1 ⟨rfl, rfl⟩
                          go_wp2_with fail
                          refine (O1.out _).mono ?_
                          rintro r w2 ⟨rfl, b2⟩
                          have hb2 := hb1.trans (b2.mono hb1.size)
                          have z1 := Z.out.1
                          clear b2 W1 O1
                          go_wp2_with fail
                          refine (SV.out _).mono ?_
                          rintro r w3 ⟨rfl, b3⟩
                          have hb3 := hb2.trans (b3.mono hb2.size)
                          have z2 := Z.out.2
                          clear b3 SV
                          go_wp2_with fail
                          go_roundw
                          case rel => exact ⟨k + 1, by omega, by go_num, by rw [hN.out, HG.out, str_append, str_append, List.append_assoc], hb3⟩
                          case measure => simp [intOf]; omega
                    · have e0 : k = M.globals.length := by omega
                      subst e0
                      have hbd5 := hb
                      have faglB := flat_all glB M.globals
                      rw [faglB]
                      clear faglB
                      have bs := sec_bd (k := 6) (P := glB) (l := M.globals) (fun x _ => gl_bd x) (by omega)
                      have bs2 := sec_bd (k := 10) (P := cdB) (l := M.funcs) (fun x hx => cd_bd (F.out.s2 x hx)) (by omega)
                      have bf := flat_len (P := glB) (c := 10000000) (l := M.globals) (fun x _ => gl_bd x)
                      have bf2 := flat_len (P := cdB) (c := 10000000) (l := M.funcs) (fun x hx => cd_bd (F.out.s2 x hx))
                      have D1 := hide (fun d os => Calls.regrown_of (w := wr) (d := d) (os := os) (r_section 6 M.globals.length (flat glB M.globals) _ (by decide) (by omega) (by omega)))
                      have D2 := hide (fun d os => Calls.regrown_of (w := wr) (d := d) (os := os) (r_section 10 M.funcs.length (flat cdB M.funcs) _ (by decide) (by omega) (by omega)))
                      rw [secB_sec] at D1 D2
                      have z1 : ¬ 9223372036854775807 < (str o4).size + (str (sec 6 glB M.globals)).size := by have lo := Lo4.out; rw [str_size, str_size]; omega
                      have z2 : ¬ 9223372036854775807 < (str o4).size + (str (sec 6 glB M.globals)).size + (str (sec 10 cdB M.funcs)).size := by have lo := Lo4.out; rw [str_size, str_size, str_size]; omega
                      have RW := hide (R0.out.kept hbd5)
                      have e5 := cell_regrown (RW.out.c 5 (.slice a5 M.globals.length k5) rfl)
                      have e2 := cell_regrown (RW.out.c 2 (.slice a2 M.funcs.length k2) rfl)
                      have Z := hide (And.intro z1 z2)
                      have BS := hide (And.intro bs bs2)
                      clear bs bs2 bf bf2 z1 z2
                      go_wp2_with fail
                      have z1 := Z.out.1
                      have z2 := Z.out.2
                      refine wp_region_quiet_below (by kernel_rfl) (by kernel_rfl) ?_
                      iterate 6 (go_big_quiet_step (exact D1.out _ _))
                      repeat (go_big_quiet_step (exact D2.out _ _))
                      refine wpQuiet_nil ?_
                      intro _ hw'
                      obtain ⟨⟨dq, osq⟩, hw''⟩ := hw'
                      subst hw''
                      have hbe := hbd5.trans ((below_regrown wr dq osq).mono hbd5.size)
                      generalize Sort.grow (redrawn wr dq) osq = wq at *
                      clear z1 z2 e2 e5 D1 D2 RW
                      go_wp2_with fail
                      rw [str_append, str_append]
                      obtain ⟨o6, Eo6⟩ : ∃ o, o = o4 ++ sec 6 glB M.globals ++ sec 10 cdB M.funcs := ⟨_, rfl⟩
                      have Lo6 : Hid (o6.length ≤ 66000000000) := hide (by rw [Eo6]; simp only [List.length_append]; have lo := Lo4.out; have b5 := BS.out.1; have b6 := BS.out.2; omega)
                      rw [← Eo6]
                      have Ho6 := hide Eo6
                      clear Eo6
                      clear BS
                      go_loopw [6, 18] (fun s0 iv wr => ∃ k : Nat, k ≤ M.data.length ∧ iv = .int .i64 k ∧ s0 = .string (str (flat daB (M.data.take k))) ∧ Below w0.heap.size w0 wr) (fun _ iv _ => M.data.length - (intOf iv).toNat)
                      case atStart => exact ⟨0, by omega, rfl, rfl, hbe⟩
                      case round =>
                        obtain ⟨k, hk, rfl, rfl, hb⟩ := hrel
                        have hbs := hb.size
                        have r6 := ((R0.out.kept hb).c 6 (.slice a6 M.data.length k6) rfl)
                        by_cases hlt : k < M.data.length
                        · obtain ⟨ax, cx, ex, he⟩ := HM.out.data
                          cases ex
                          obtain ⟨b, off, rfl, hbb, ⟨hi, c0, c1, c2⟩⟩ := he k hlt
                          have d0 := (hb.cell (p := ⟨b, off + k * 3, none⟩) hbb).trans c0
                          have d1 := (hb.cell (p := ⟨b, off + k * 3 + 1, none⟩) hbb).trans c1
                          have d2 := (hb.cell (p := ⟨b, off + k * 3 + 2, none⟩) hbb).trans c2
                          clear he c0 c1 c2
                          have hwh := F.out.w6 M.data[k] (List.getElem_mem hlt)
                          have hdl := HD.out M.data[k] (List.getElem_mem hlt)
                          simp only [whDa, idx, Bool.and_eq_true, Bool.or_eq_true, decide_eq_true_eq] at hwh
                          have hz0 := flat_bd (P := daB) (fun x hx => da_bd (HD.out x hx)) (by omega : M.data.length ≤ 1000) k
                          have hal := bel_one wr (.cells #[.int .i64 M.data[k].mem, .int .i64 M.data[k].pos, .string (str M.data[k].bytes)] 73)
                          have hb1 := hb.trans (hal.mono hbs)
                          have G0 := hide (Row.made wr #[.int .i64 M.data[k].mem, .int .i64 M.data[k].pos, .string (str M.data[k].bytes)] 73)
                          have n1 := num_len M.data[k].mem
                          have n2 := num_len M.data[k].pos
                          have n3 := num_len M.data[k].bytes.length
                          have sb : (str M.data[k].bytes).size = M.data[k].bytes.length := str_size _
                          have D1 := hide (fun d os => Calls.regrown_of (w := wr.alloc (.cells #[.int .i64 M.data[k].mem, .int .i64 M.data[k].pos, .string (str M.data[k].bytes)] 73)) (d := d) (os := os) (r_u M.data[k].mem _ (by omega) (by omega)))
                          have D2 := hide (fun d os => Calls.regrown_of (w := wr.alloc (.cells #[.int .i64 M.data[k].mem, .int .i64 M.data[k].pos, .string (str M.data[k].bytes)] 73)) (d := d) (os := os) (r_u M.data[k].pos _ (by omega) (by omega)))
                          have D3 := hide (fun d os => Calls.regrown_of (w := wr.alloc (.cells #[.int .i64 M.data[k].mem, .int .i64 M.data[k].pos, .string (str M.data[k].bytes)] 73)) (d := d) (os := os) (r_u M.data[k].bytes.length _ (by omega) (by omega)))
                          have e0 := cell_regrown (G0.out.c 0 (.int .i64 M.data[k].mem) rfl)
                          have e1 := cell_regrown (G0.out.c 1 (.int .i64 M.data[k].pos) rfl)
                          have e2 := cell_regrown (G0.out.c 2 (.string (str M.data[k].bytes)) rfl)
                          have z1 : ¬ 9223372036854775807 < (str (flat daB (M.data.take k))).size + (str (num M.data[k].mem)).size := by simp only [str_size]; omega
                          have z2 : ¬ 9223372036854775807 < (str (flat daB (M.data.take k))).size + (str (num M.data[k].mem)).size + (str (num M.data[k].pos)).size := by simp only [str_size]; omega
                          have z3 : ¬ 9223372036854775807 < (str (flat daB (M.data.take k))).size + (str (num M.data[k].mem)).size + (str (num M.data[k].pos)).size + (str (num M.data[k].bytes.length)).size := by simp only [str_size]; omega
                          have z4 : ¬ 9223372036854775807 < (str (flat daB (M.data.take k))).size + (str (num M.data[k].mem)).size + (str (num M.data[k].pos)).size + (str (num M.data[k].bytes.length)).size + (str M.data[k].bytes).size := by simp only [str_size]; omega
                          rw [← sb] at D3 z3 z4
                          have hN := hide (flat_next (P := daB) hlt)
                          have Z := hide (And.intro z1 (And.intro z2 (And.intro z3 z4)))
                          have SB := hide sb
                          clear hwh hdl hz0 hi n1 n2 n3 sb z1 z2 z3 z4 G0 hal
                          go_wp2_with fail
                          generalize wr.alloc (.cells #[.int .i64 M.data[k].mem, .int .i64 M.data[k].pos, .string (str M.data[k].bytes)] 73) = w5 at *
                          have z1 := Z.out.1
                          have z2 := Z.out.2.1
                          have z3 := Z.out.2.2.1
                          have z4 := Z.out.2.2.2
                          refine wp_region_quiet_below (by kernel_rfl) (by kernel_rfl) ?_
                          iterate 4 (go_big_quiet_step (exact D1.out _ _))
                          iterate 4 (go_big_quiet_step (exact D2.out _ _))
                          repeat (go_big_quiet_step (exact D3.out _ _))
                          refine wpQuiet_nil ?_
                          intro _ hw'
                          obtain ⟨⟨dq, osq⟩, hw''⟩ := hw'
                          subst hw''
                          clear z1 z2 z3 z4 e0 e1 e2 D1 D2 D3
                          go_wp2_with fail
                          go_roundw
                          case rel => exact ⟨k + 1, by omega, by go_num, by rw [hN.out, SB.out]; simp only [str_append, daB, cnt, List.append_assoc], hb1.trans ((below_regrown w5 dq osq).mono hb1.size)⟩
                          case measure => simp [intOf]; omega
                        · have e0 : k = M.data.length := by omega
                          subst e0
                          have hbd6 := hb
                          have fadaB := flat_all daB M.data
                          rw [fadaB]
                          clear fadaB
                          have bs := sec_bd (k := 11) (P := daB) (l := M.data) (fun x hx => da_bd (HD.out x hx)) (by omega)
                          have bf := flat_len (P := daB) (c := 10000000) (l := M.data) (fun x hx => da_bd (HD.out x hx))
                          have SE := hide (fun w => r_section 11 M.data.length (flat daB M.data) w (by decide) (by omega) (by omega))
                          rw [secB_sec] at SE
                          have z1 : ¬ 9223372036854775807 < (str o6).size + (str (sec 11 daB M.data)).size := by have lo := Lo6.out; rw [str_size, str_size]; omega
                          have Z := hide z1
                          have BS := hide bs
                          clear bs bf z1
                          go_wp2_with fail
                          refine (SE.out _).mono ?_
                          rintro r ws6 ⟨rfl, bs6⟩
                          have hbs6 := hbd6.trans (bs6.mono hbd6.size)
                          have z1 := Z.out
                          clear bs6 SE Z
                          have HE : Hid (str o6 ++ str (sec 11 daB M.data) = str (encM M)) := hide (by rw [str_append, Ho6.out, Ho4.out, Ho3.out, Ho2.out, Ho1.out]; simp only [encM, secs, List.append_assoc])
                          have hsz : (str o6).size + (str (sec 11 daB M.data)).size = (encM M).length := by rw [← ByteArray.size_append, HE.out, str_size]
                          by_cases hlen : 4000 < (encM M).length
                          · have g : (4000 : Int) < (((str o6).size + (str (sec 11 daB M.data)).size : Nat) : Int) := by rw [hsz]; omega
                            cases HN.out hlen
                            clear HY HN hlen hsz
                            go_wp2_with fail
                            go_ret2
                            exact ⟨rfl, hb0.trans (hbs6.mono hb0.size)⟩
                          · have g : ¬ (4000 : Int) < (((str o6).size + (str (sec 11 daB M.data)).size : Nat) : Int) := by rw [hsz]; omega
                            cases HY.out hlen
                            clear HY HN hlen hsz
                            go_wp2_with fail
                            go_ret2
                            exact ⟨ret_si HE.out, hb0.trans (hbs6.mono hb0.size)⟩
                · have y0 : (M.m0 != 0) = true := by simpa using y0'
                  clear y0'
                  go_wp2_with fail
                  rw [str_append]
                  clear z1
                  obtain ⟨o3, Eo3⟩ : ∃ o, o = o2 ++ sec 3 fnB M.funcs := ⟨_, rfl⟩
                  have Lo3 : Hid (o3.length ≤ 33000000000) := hide (by rw [Eo3]; simp only [List.length_append]; have lo := Lo2.out; have bs := BS.out; omega)
                  rw [← Eo3]
                  have Ho3 := hide Eo3
                  clear Eo3
                  clear BS
                  have e3 := cell_regrown v3
                  have e4 := cell_regrown v4
                  have bs := sec_bd (k := 5) (P := oneB) (l := memL M) (fun x _ => one_bd x) (memL_len M)
                  have mb0 := mem_byte F.out.s3.1
                  have mb1 := mem_byte F.out.s3.2
                  have hml : memL M = [M.m0, M.m1] := if_neg mz0
                  have hse : secB 5 2 (oneB M.m0 ++ oneB M.m1) = sec 5 oneB (memL M) := by rw [hml]; rfl
                  have D1 := hide (fun d os => Calls.regrown_of (w := ws2) (d := d) (os := os) (r_one M.m0 _ mb0.1 mb0.2))
                  have D2 := hide (fun d os => Calls.regrown_of (w := ws2) (d := d) (os := os) (r_one M.m1 _ mb1.1 mb1.2))
                  have D3r : ∀ w, Calls Tryz.prog 23 #[.int .i64 5, .int .i64 2, .string (str (oneB M.m0) ++ str (oneB M.m1))] w fun e w' => e = .returned (.string (str (sec 5 oneB (memL M)))) ∧ Below w.heap.size w w' := fun w => by rw [str_append, ← hse]; exact r_section 5 2 (oneB M.m0 ++ oneB M.m1) w (by decide) (by decide) (by simp [oneB])
                  have D3 := hide (fun d os => Calls.regrown_of (w := ws2) (d := d) (os := os) (D3r _))
                  have z0 : ¬ 9223372036854775807 < (str (oneB M.m0)).size + (str (oneB M.m1)).size := by simp only [str_size, oneB, List.length_cons, List.length_nil]; omega
                  have z1 : ¬ 9223372036854775807 < (str o3).size + (str (sec 5 oneB (memL M))).size := by have lo := Lo3.out; rw [str_size, str_size]; omega
                  have Z := hide (And.intro z0 z1)
                  have BS := hide bs
                  clear bs mb0 mb1 hml hse z0 z1 mz0 D3r
                  have z0 := Z.out.1
                  have z1 := Z.out.2
                  refine wp_region_quiet_below (by kernel_rfl) (by kernel_rfl) ?_
                  iterate 5 (go_big_quiet_step (exact D1.out _ _))
                  iterate 4 (go_big_quiet_step (exact D2.out _ _))
                  repeat (go_big_quiet_step (exact D3.out _ _))
                  refine wpQuiet_nil ?_
                  intro _ hw'
                  obtain ⟨⟨dq, osq⟩, hw''⟩ := hw'
                  subst hw''
                  have hbm := hbs2.trans ((below_regrown ws2 dq osq).mono hbs2.size)
                  generalize Sort.grow (redrawn ws2 dq) osq = wm at *
                  clear z0 z1 e3 e4 v3 v4 D1 D2 D3 RM
                  go_wp2_with fail
                  rw [str_append]
                  obtain ⟨o4, Eo4⟩ : ∃ o, o = o3 ++ sec 5 oneB (memL M) := ⟨_, rfl⟩
                  have Lo4 : Hid (o4.length ≤ 44000000000) := hide (by rw [Eo4]; simp only [List.length_append]; have lo := Lo3.out; have bs := BS.out; omega)
                  rw [← Eo4]
                  have Ho4 := hide Eo4
                  clear Eo4
                  clear BS
                  go_loopw [6, 15] (fun s0 iv wr => ∃ k : Nat, k ≤ M.globals.length ∧ iv = .int .i64 k ∧ s0 = .string (str (flat glB (M.globals.take k))) ∧ Below w0.heap.size w0 wr) (fun _ iv _ => M.globals.length - (intOf iv).toNat)
                  case atStart => exact ⟨0, by omega, rfl, rfl, hbm⟩
                  case round =>
                    obtain ⟨k, hk, rfl, rfl, hb⟩ := hrel
                    have hbs := hb.size
                    have r5 := ((R0.out.kept hb).c 5 (.slice a5 M.globals.length k5) rfl)
                    by_cases hlt : k < M.globals.length
                    · obtain ⟨ax, cx, ex, he⟩ := HM.out.globals
                      cases ex
                      obtain ⟨b, off, rfl, hbb, ⟨hi, c0, c1⟩⟩ := he k hlt
                      have d0 := (hb.cell (p := ⟨b, off + k * 2, none⟩) hbb).trans c0
                      have d1 := (hb.cell (p := ⟨b, off + k * 2 + 1, none⟩) hbb).trans c1
                      clear he c0 c1
                      have hwh := F.out.w5 M.globals[k] (List.getElem_mem hlt)
                      have hz0 := flat_bd (P := glB) (fun x _ => gl_bd x) (by omega : M.globals.length ≤ 1000) k
                      have hz4 := encS_len (glV M.globals[k])
                      simp only [whGl, Bool.and_eq_true, Bool.or_eq_true] at hwh
                      have ht := (ri_iff M.globals[k].t).1 hwh.1
                      have hb1 := hb.trans ((bel_one wr (.cells #[.int .i64 M.globals[k].t, .int .i64 M.globals[k].v] 70)).mono hbs)
                      have G0 := hide (Row.made wr #[.int .i64 M.globals[k].t, .int .i64 M.globals[k].v] 70)
                      have WI := hide (fun (r : Bool) (w : World) (hq : wi M.globals[k].t = r) => r_wide5_is M.globals[k].t r w hq)
                      have O1 := hide (fun w => r_one (127 - M.globals[k].t) w (by omega) (by omega))
                      have hgI : I64 (glV M.globals[k]) := by
                        unfold glV s32
                        have := hi.2
                        unfold I64 at *
                        split
                        · exact this
                        · rename_i hnw
                          have hx : idx M.globals[k].v = true := by rcases hwh.2 with h | h; exact absurd h hnw; exact h
                          simp only [idx, Bool.and_eq_true, decide_eq_true_eq] at hx
                          split <;> omega
                      have SV := hide (fun w => refS_any (glV M.globals[k]) w hgI)
                      have hw1 : wrap64 (127 - M.globals[k].t) = 127 - M.globals[k].t := by unfold wrap64; omega
                      have z1 : ¬ 9223372036854775807 < (str (flat glB (M.globals.take k))).size + (str (oneB (127 - M.globals[k].t))).size := by simp only [str_size, oneB, List.length_cons, List.length_nil]; omega
                      have z2 : ¬ 9223372036854775807 < (str (flat glB (M.globals.take k))).size + (str (oneB (127 - M.globals[k].t))).size + (str (enc (glV M.globals[k]) (szS (glV M.globals[k])))).size := by simp only [str_size, oneB, List.length_cons, List.length_nil]; omega
                      have hN := hide (flat_next (P := glB) hlt)
                      have HG : Hid (glB M.globals[k] = oneB (127 - M.globals[k].t) ++ enc (glV M.globals[k]) (szS (glV M.globals[k]))) := hide rfl
                      clear ht hgI hz0 hz4
                      cases h1 : wi M.globals[k].t with
                      | true =>
                        have hv : glV M.globals[k] = M.globals[k].v := by simp [glV, h1]
                        have W1 := hide (WI.out true (wr.alloc (.cells #[.int .i64 M.globals[k].t, .int .i64 M.globals[k].v] 70)) h1)
                        rw [hv] at SV HG z2
                        have Z := hide (And.intro z1 z2)
                        clear z1 z2 hwh hi WI h1 hv
                        go_wp2_with fail
                        refine W1.out.mono ?_
                        rintro r w1 ⟨rfl, rfl⟩
                        go_wp2_with fail
                        refine (O1.out _).mono ?_
                        rintro r w2 ⟨rfl, b2⟩
                        have hb2 := hb1.trans (b2.mono hb1.size)
                        have z1 := Z.out.1
                        clear b2 W1 O1
                        go_wp2_with fail
                        refine (SV.out _).mono ?_
                        rintro r w3 ⟨rfl, b3⟩
                        have hb3 := hb2.trans (b3.mono hb2.size)
                        have z2 := Z.out.2
                        clear b3 SV
                        go_wp2_with fail
                        go_roundw
                        case rel => exact ⟨k + 1, by omega, by go_num, by rw [hN.out, HG.out, str_append, str_append, List.append_assoc], hb3⟩
                        case measure => simp [intOf]; omega
                      | false =>
                        have W1 := hide (WI.out false (wr.alloc (.cells #[.int .i64 M.globals[k].t, .int .i64 M.globals[k].v] 70)) h1)
                        by_cases h2 : M.globals[k].v < 2147483648
                        · have hv : glV M.globals[k] = M.globals[k].v := by simp [glV, h1, s32, h2]
                          rw [hv] at SV HG z2
                          have g2 : ¬ (2147483648 : Int) ≤ M.globals[k].v := by omega
                          have Z := hide (And.intro z1 z2)
                          clear z1 z2 hwh hi WI h1 hv h2
                          go_wp2_with fail
                          refine W1.out.mono ?_
                          rintro r w1 ⟨rfl, rfl⟩
                          go_wp2_with fail
                          refine (O1.out _).mono ?_
                          rintro r w2 ⟨rfl, b2⟩
                          have hb2 := hb1.trans (b2.mono hb1.size)
                          have z1 := Z.out.1
                          clear b2 W1 O1
                          go_wp2_with fail
                          refine (SV.out _).mono ?_
                          rintro r w3 ⟨rfl, b3⟩
                          have hb3 := hb2.trans (b3.mono hb2.size)
                          have z2 := Z.out.2
                          clear b3 SV
                          go_wp2_with fail
                          go_roundw
                          case rel => exact ⟨k + 1, by omega, by go_num, by rw [hN.out, HG.out, str_append, str_append, List.append_assoc], hb3⟩
                          case measure => simp [intOf]; omega
                        · have hv : glV M.globals[k] = M.globals[k].v - 4294967296 := by simp [glV, h1, s32, h2]
                          have hx : idx M.globals[k].v = true := by rcases hwh.2 with h | h; rw [h1] at h; cases h; exact h
                          simp only [idx, Bool.and_eq_true, decide_eq_true_eq] at hx
                          have hw2 : wrap64 (M.globals[k].v - 4294967296) = M.globals[k].v - 4294967296 := by unfold wrap64; omega
                          rw [hv] at SV HG z2
                          have g2 : (2147483648 : Int) ≤ M.globals[k].v := by omega
                          have Z := hide (And.intro z1 z2)
                          clear z1 z2 hwh hi WI h1 hv h2 hx
                          go_wp2_with fail
                          refine W1.out.mono ?_
                          rintro r w1 ⟨rfl, rfl⟩
                          go_wp2_with fail
                          refine (O1.out _).mono ?_
                          rintro r w2 ⟨rfl, b2⟩
                          have hb2 := hb1.trans (b2.mono hb1.size)
                          have z1 := Z.out.1
                          clear b2 W1 O1
                          go_wp2_with fail
                          refine (SV.out _).mono ?_
                          rintro r w3 ⟨rfl, b3⟩
                          have hb3 := hb2.trans (b3.mono hb2.size)
                          have z2 := Z.out.2
                          clear b3 SV
                          go_wp2_with fail
                          go_roundw
                          case rel => exact ⟨k + 1, by omega, by go_num, by rw [hN.out, HG.out, str_append, str_append, List.append_assoc], hb3⟩
                          case measure => simp [intOf]; omega
                    · have e0 : k = M.globals.length := by omega
                      subst e0
                      have hbd5 := hb
                      have faglB := flat_all glB M.globals
                      rw [faglB]
                      clear faglB
                      have bs := sec_bd (k := 6) (P := glB) (l := M.globals) (fun x _ => gl_bd x) (by omega)
                      have bs2 := sec_bd (k := 10) (P := cdB) (l := M.funcs) (fun x hx => cd_bd (F.out.s2 x hx)) (by omega)
                      have bf := flat_len (P := glB) (c := 10000000) (l := M.globals) (fun x _ => gl_bd x)
                      have bf2 := flat_len (P := cdB) (c := 10000000) (l := M.funcs) (fun x hx => cd_bd (F.out.s2 x hx))
                      have D1 := hide (fun d os => Calls.regrown_of (w := wr) (d := d) (os := os) (r_section 6 M.globals.length (flat glB M.globals) _ (by decide) (by omega) (by omega)))
                      have D2 := hide (fun d os => Calls.regrown_of (w := wr) (d := d) (os := os) (r_section 10 M.funcs.length (flat cdB M.funcs) _ (by decide) (by omega) (by omega)))
                      rw [secB_sec] at D1 D2
                      have z1 : ¬ 9223372036854775807 < (str o4).size + (str (sec 6 glB M.globals)).size := by have lo := Lo4.out; rw [str_size, str_size]; omega
                      have z2 : ¬ 9223372036854775807 < (str o4).size + (str (sec 6 glB M.globals)).size + (str (sec 10 cdB M.funcs)).size := by have lo := Lo4.out; rw [str_size, str_size, str_size]; omega
                      have RW := hide (R0.out.kept hbd5)
                      have e5 := cell_regrown (RW.out.c 5 (.slice a5 M.globals.length k5) rfl)
                      have e2 := cell_regrown (RW.out.c 2 (.slice a2 M.funcs.length k2) rfl)
                      have Z := hide (And.intro z1 z2)
                      have BS := hide (And.intro bs bs2)
                      clear bs bs2 bf bf2 z1 z2
                      go_wp2_with fail
                      have z1 := Z.out.1
                      have z2 := Z.out.2
                      refine wp_region_quiet_below (by kernel_rfl) (by kernel_rfl) ?_
                      iterate 6 (go_big_quiet_step (exact D1.out _ _))
                      repeat (go_big_quiet_step (exact D2.out _ _))
                      refine wpQuiet_nil ?_
                      intro _ hw'
                      obtain ⟨⟨dq, osq⟩, hw''⟩ := hw'
                      subst hw''
                      have hbe := hbd5.trans ((below_regrown wr dq osq).mono hbd5.size)
                      generalize Sort.grow (redrawn wr dq) osq = wq at *
                      clear z1 z2 e2 e5 D1 D2 RW
                      go_wp2_with fail
                      rw [str_append, str_append]
                      obtain ⟨o6, Eo6⟩ : ∃ o, o = o4 ++ sec 6 glB M.globals ++ sec 10 cdB M.funcs := ⟨_, rfl⟩
                      have Lo6 : Hid (o6.length ≤ 66000000000) := hide (by rw [Eo6]; simp only [List.length_append]; have lo := Lo4.out; have b5 := BS.out.1; have b6 := BS.out.2; omega)
                      rw [← Eo6]
                      have Ho6 := hide Eo6
                      clear Eo6
                      clear BS
                      go_loopw [6, 18] (fun s0 iv wr => ∃ k : Nat, k ≤ M.data.length ∧ iv = .int .i64 k ∧ s0 = .string (str (flat daB (M.data.take k))) ∧ Below w0.heap.size w0 wr) (fun _ iv _ => M.data.length - (intOf iv).toNat)
                      case atStart => exact ⟨0, by omega, rfl, rfl, hbe⟩
                      case round =>
                        obtain ⟨k, hk, rfl, rfl, hb⟩ := hrel
                        have hbs := hb.size
                        have r6 := ((R0.out.kept hb).c 6 (.slice a6 M.data.length k6) rfl)
                        by_cases hlt : k < M.data.length
                        · obtain ⟨ax, cx, ex, he⟩ := HM.out.data
                          cases ex
                          obtain ⟨b, off, rfl, hbb, ⟨hi, c0, c1, c2⟩⟩ := he k hlt
                          have d0 := (hb.cell (p := ⟨b, off + k * 3, none⟩) hbb).trans c0
                          have d1 := (hb.cell (p := ⟨b, off + k * 3 + 1, none⟩) hbb).trans c1
                          have d2 := (hb.cell (p := ⟨b, off + k * 3 + 2, none⟩) hbb).trans c2
                          clear he c0 c1 c2
                          have hwh := F.out.w6 M.data[k] (List.getElem_mem hlt)
                          have hdl := HD.out M.data[k] (List.getElem_mem hlt)
                          simp only [whDa, idx, Bool.and_eq_true, Bool.or_eq_true, decide_eq_true_eq] at hwh
                          have hz0 := flat_bd (P := daB) (fun x hx => da_bd (HD.out x hx)) (by omega : M.data.length ≤ 1000) k
                          have hal := bel_one wr (.cells #[.int .i64 M.data[k].mem, .int .i64 M.data[k].pos, .string (str M.data[k].bytes)] 73)
                          have hb1 := hb.trans (hal.mono hbs)
                          have G0 := hide (Row.made wr #[.int .i64 M.data[k].mem, .int .i64 M.data[k].pos, .string (str M.data[k].bytes)] 73)
                          have n1 := num_len M.data[k].mem
                          have n2 := num_len M.data[k].pos
                          have n3 := num_len M.data[k].bytes.length
                          have sb : (str M.data[k].bytes).size = M.data[k].bytes.length := str_size _
                          have D1 := hide (fun d os => Calls.regrown_of (w := wr.alloc (.cells #[.int .i64 M.data[k].mem, .int .i64 M.data[k].pos, .string (str M.data[k].bytes)] 73)) (d := d) (os := os) (r_u M.data[k].mem _ (by omega) (by omega)))
                          have D2 := hide (fun d os => Calls.regrown_of (w := wr.alloc (.cells #[.int .i64 M.data[k].mem, .int .i64 M.data[k].pos, .string (str M.data[k].bytes)] 73)) (d := d) (os := os) (r_u M.data[k].pos _ (by omega) (by omega)))
                          have D3 := hide (fun d os => Calls.regrown_of (w := wr.alloc (.cells #[.int .i64 M.data[k].mem, .int .i64 M.data[k].pos, .string (str M.data[k].bytes)] 73)) (d := d) (os := os) (r_u M.data[k].bytes.length _ (by omega) (by omega)))
                          have e0 := cell_regrown (G0.out.c 0 (.int .i64 M.data[k].mem) rfl)
                          have e1 := cell_regrown (G0.out.c 1 (.int .i64 M.data[k].pos) rfl)
                          have e2 := cell_regrown (G0.out.c 2 (.string (str M.data[k].bytes)) rfl)
                          have z1 : ¬ 9223372036854775807 < (str (flat daB (M.data.take k))).size + (str (num M.data[k].mem)).size := by simp only [str_size]; omega
                          have z2 : ¬ 9223372036854775807 < (str (flat daB (M.data.take k))).size + (str (num M.data[k].mem)).size + (str (num M.data[k].pos)).size := by simp only [str_size]; omega
                          have z3 : ¬ 9223372036854775807 < (str (flat daB (M.data.take k))).size + (str (num M.data[k].mem)).size + (str (num M.data[k].pos)).size + (str (num M.data[k].bytes.length)).size := by simp only [str_size]; omega
                          have z4 : ¬ 9223372036854775807 < (str (flat daB (M.data.take k))).size + (str (num M.data[k].mem)).size + (str (num M.data[k].pos)).size + (str (num M.data[k].bytes.length)).size + (str M.data[k].bytes).size := by simp only [str_size]; omega
                          rw [← sb] at D3 z3 z4
                          have hN := hide (flat_next (P := daB) hlt)
                          have Z := hide (And.intro z1 (And.intro z2 (And.intro z3 z4)))
                          have SB := hide sb
                          clear hwh hdl hz0 hi n1 n2 n3 sb z1 z2 z3 z4 G0 hal
                          go_wp2_with fail
                          generalize wr.alloc (.cells #[.int .i64 M.data[k].mem, .int .i64 M.data[k].pos, .string (str M.data[k].bytes)] 73) = w5 at *
                          have z1 := Z.out.1
                          have z2 := Z.out.2.1
                          have z3 := Z.out.2.2.1
                          have z4 := Z.out.2.2.2
                          refine wp_region_quiet_below (by kernel_rfl) (by kernel_rfl) ?_
                          iterate 4 (go_big_quiet_step (exact D1.out _ _))
                          iterate 4 (go_big_quiet_step (exact D2.out _ _))
                          repeat (go_big_quiet_step (exact D3.out _ _))
                          refine wpQuiet_nil ?_
                          intro _ hw'
                          obtain ⟨⟨dq, osq⟩, hw''⟩ := hw'
                          subst hw''
                          clear z1 z2 z3 z4 e0 e1 e2 D1 D2 D3
                          go_wp2_with fail
                          go_roundw
                          case rel => exact ⟨k + 1, by omega, by go_num, by rw [hN.out, SB.out]; simp only [str_append, daB, cnt, List.append_assoc], hb1.trans ((below_regrown w5 dq osq).mono hb1.size)⟩
                          case measure => simp [intOf]; omega
                        · have e0 : k = M.data.length := by omega
                          subst e0
                          have hbd6 := hb
                          have fadaB := flat_all daB M.data
                          rw [fadaB]
                          clear fadaB
                          have bs := sec_bd (k := 11) (P := daB) (l := M.data) (fun x hx => da_bd (HD.out x hx)) (by omega)
                          have bf := flat_len (P := daB) (c := 10000000) (l := M.data) (fun x hx => da_bd (HD.out x hx))
                          have SE := hide (fun w => r_section 11 M.data.length (flat daB M.data) w (by decide) (by omega) (by omega))
                          rw [secB_sec] at SE
                          have z1 : ¬ 9223372036854775807 < (str o6).size + (str (sec 11 daB M.data)).size := by have lo := Lo6.out; rw [str_size, str_size]; omega
                          have Z := hide z1
                          have BS := hide bs
                          clear bs bf z1
                          go_wp2_with fail
                          refine (SE.out _).mono ?_
                          rintro r ws6 ⟨rfl, bs6⟩
                          have hbs6 := hbd6.trans (bs6.mono hbd6.size)
                          have z1 := Z.out
                          clear bs6 SE Z
                          have HE : Hid (str o6 ++ str (sec 11 daB M.data) = str (encM M)) := hide (by rw [str_append, Ho6.out, Ho4.out, Ho3.out, Ho2.out, Ho1.out]; simp only [encM, secs, List.append_assoc])
                          have hsz : (str o6).size + (str (sec 11 daB M.data)).size = (encM M).length := by rw [← ByteArray.size_append, HE.out, str_size]
                          by_cases hlen : 4000 < (encM M).length
                          · have g : (4000 : Int) < (((str o6).size + (str (sec 11 daB M.data)).size : Nat) : Int) := by rw [hsz]; omega
                            cases HN.out hlen
                            clear HY HN hlen hsz
                            go_wp2_with fail
                            go_ret2
                            exact ⟨rfl, hb0.trans (hbs6.mono hb0.size)⟩
                          · have g : ¬ (4000 : Int) < (((str o6).size + (str (sec 11 daB M.data)).size : Nat) : Int) := by rw [hsz]; omega
                            cases HY.out hlen
                            clear HY HN hlen hsz
                            go_wp2_with fail
                            go_ret2
                            exact ⟨ret_si HE.out, hb0.trans (hbs6.mono hb0.size)⟩
end Go.Proofs.YtcbfpikggphokaaGreatDoor
