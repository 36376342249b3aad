/-
  ValidDead: behind an Unreachable that is laid in anywhere a module is as valid as before.
-/
import Derived.Test.YtamofhkmhjckaaaGreatDoorInsW
import Derived.Test.YtamofhkmhjckaaaGreatDoorFrames
import Derived.Test.YtamofhkmhjckaaaGreatDoorDeadP
import Derived.BigQuiet
namespace Go.Proofs.YtamofhkmhjckaaaGreatDoor
open Go.RowKit

set_option maxRecDepth 100000 in
set_option maxHeartbeats 8000000 in
theorem dead_walk (V : MoV) (M : Mo) (f q : Int) (w : World) (hL : Laid w) (h : IsMo w.heap.size w V M) (hS : MoSm M) (hC : Sl 4 EFnC (Lt w.heap.size) w V.v2 M.funcs) (hf : I64 f) (hq : I64 q) :
    Calls Tryz.prog 7 #[moV V M, .int .i64 f, .int .i64 q] w fun e w' => e = .returned (.bool true) ∧ Below w.heap.size w w' := by
  obtain ⟨i53, hi53, hz530, hz531, hz532⟩ := info_parts Tryz.info53
  obtain ⟨i3, hi3, hz30, hz31, hz32⟩ := info_parts Nest.Tryz.info3
  have HB0 := hide (bel_one w (.cells #[V.v0, V.v1, V.v2, .int .i64 M.m0, .int .i64 M.m1, V.v5, V.v6] 29))
  have R0 := hide (Row.made w #[V.v0, V.v1, V.v2, .int .i64 M.m0, .int .i64 M.m1, V.v5, V.v6] 29)
  have EX := hide (examples_any (w.alloc (.cells #[V.v0, V.v1, V.v2, .int .i64 M.m0, .int .i64 M.m1, V.v5, V.v6] 29)) (hL.kept HB0.out))
  have VA := hide (fun (W : World) (b : Below w.heap.size w W) => valid_any V M W (hL.kept b) (h.step b b.size) hS.da)
  have HE := hide (fun (W : World) (k : Int) (b : Below w.heap.size w W) => heights_any V M k W (hL.kept b) (h.step b b.size) hS.da)
  have WI := hide (fun (W : World) (b : Below w.heap.size w W) (k : Nat) (hk : k < M.funcs.length) (hl : M.funcs.length ≤ 10000) (ab : Option Addr) (cb n : Nat) (body : List In) (hn : body.length = n) (hb : SIns W.heap.size W (.slice ab n cb) body) => (show Calls Tryz.prog 19 #[moV V M, .int .i64 k, .slice ab n cb] W (fun e w' => ∃ V', e = .returned (moV V' (bdM M k body)) ∧ IsMo w'.heap.size w' V' (bdM M k body) ∧ Below W.heap.size W w') by subst hn; exact with_any V M k hk hl ab cb body W (h.step b b.size) hb))
  have HFN := hide hC
  have HL := hide hL
  have HDA := hide hS.da
  obtain ⟨a0, c0, a1, c1, a2, c2, a5, c5, a6, c6, rfl⟩ := h.forms
  unfold moV at *
  dsimp only at *
  clear h hL hS hC
  cases hc : chkM M with
  | error c =>
    rw [hc] at VA
    clear hc
    go_enter Tryz.func7, Tryz.ntmps7
    go_wp2_with fail
    refine EX.out.mono ?_
    rintro e w1 ⟨rfl, b1⟩
    have R1 := R0.out.kept b1
    have HB1 := hide (below_next HB0.out b1)
    have m0 := R1.c 0 _ rfl
    have m1 := R1.c 1 _ rfl
    have m2 := R1.c 2 _ rfl
    have m3 := R1.c 3 _ rfl
    have m4 := R1.c 4 _ rfl
    have m5 := R1.c 5 _ rfl
    have m6 := R1.c 6 _ rfl
    clear R1 b1 EX
    go_wp2_with fail
    refine (VA.out w1 HB1.out).mono ?_
    rintro e w2 ⟨p, rfl, _, b2⟩
    have HB2 := hide (below_next HB1.out b2)
    clear b2
    unfold flt
    go_wp2_with fail
    go_ret
    exact ⟨rfl, HB2.out⟩
  | ok hts =>
    have FF := hide (fit_facts (chk_ok hc).1)
    have HC := hide hc
    rw [hc] at VA
    clear hc
    by_cases hn0 : M.funcs.length = 0
    · have hn0' : ((M.funcs.length : Int) == 0) = true := by simp [hn0]
      clear hn0
      go_enter Tryz.func7, Tryz.ntmps7
      go_wp2_with fail
      refine EX.out.mono ?_
      rintro e w1 ⟨rfl, b1⟩
      have R1 := R0.out.kept b1
      have HB1 := hide (below_next HB0.out b1)
      have m0 := R1.c 0 _ rfl
      have m1 := R1.c 1 _ rfl
      have m2 := R1.c 2 _ rfl
      have m3 := R1.c 3 _ rfl
      have m4 := R1.c 4 _ rfl
      have m5 := R1.c 5 _ rfl
      have m6 := R1.c 6 _ rfl
      have HR1 := hide R1
      clear R1 b1 EX
      go_wp2_with fail
      refine (VA.out w1 HB1.out).mono ?_
      rintro e w2 ⟨rfl, b2⟩
      have HB2 := hide (below_next HB1.out b2)
      have R2 := HR1.out.kept b2
      have x2 := R2.c 2 _ rfl
      clear b2 R2 m0 m1 m2 m3 m4 m5 m6
      go_wp2_with fail
      go_ret
      exact ⟨rfl, HB2.out⟩
    have hn0' : ((M.funcs.length : Int) == 0) = false := by simpa using hn0
    have hn8 := FF.out.fns
    have hpos : 0 < M.funcs.length := by omega
    go_enter Tryz.func7, Tryz.ntmps7
    go_wp2_with fail
    refine EX.out.mono ?_
    rintro e w1 ⟨rfl, b1⟩
    have R1 := R0.out.kept b1
    have HB1 := hide (below_next HB0.out b1)
    have m0 := R1.c 0 _ rfl
    have m1 := R1.c 1 _ rfl
    have m2 := R1.c 2 _ rfl
    have m3 := R1.c 3 _ rfl
    have m4 := R1.c 4 _ rfl
    have m5 := R1.c 5 _ rfl
    have m6 := R1.c 6 _ rfl
    have HR1 := hide R1
    clear R1 b1 EX
    go_wp2_with fail
    refine (VA.out w1 HB1.out).mono ?_
    rintro e w2 ⟨rfl, b2⟩
    have HB2 := hide (below_next HB1.out b2)
    have R2 := HR1.out.kept b2
    have HR2 := hide R2
    have x2 := R2.c 2 _ rfl
    clear b2 R2 m0 m1 m2 m3 m4 m5 m6 VA HR1
    go_wp2_with fail
    refine (pick_any f hf M.funcs.length hpos (by omega) w2).mono ?_
    rintro e w2' ⟨kf, hkf, rfl, hw2⟩
    obtain rfl := hw2
    obtain ⟨af2, cf2, ef, hel⟩ := HFN.out
    simp only [Value.slice.injEq, true_and] at ef
    obtain ⟨rfl, rfl⟩ := ef
    obtain ⟨bf, off, rfl, hbf, ⟨vl, vb, _, _, _, _, q3, _, hbd⟩, ab', cb', q3c, hcap⟩ := hel kf hkf
    obtain ⟨ab, cb, rfl, hbe⟩ := id hbd
    obtain ⟨rfl, rfl⟩ : ab = ab' ∧ cb = cb' := by
      have := q3.symm.trans q3c
      simp only [Option.some.injEq, Value.slice.injEq, true_and] at this
      exact this
    have HKF := hide (List.getElem?_eq_getElem hkf)
    have HFM := hide (FF.out.fn _ (List.getElem_mem hkf))
    have q3' := (HB2.out.cell (p := ⟨bf, off + kf * 4 + 3, none⟩) hbf).trans q3
    have HBD := hide hbd
    generalize M.funcs[kf] = F at *
    have hb200 := HFM.out.2.1
    have hbne : F.body ≠ [] := fun e => by have := HFM.out.2.2.2.1; rw [e] at this; cases this
    have hbpos : 0 < F.body.length := List.length_pos_iff.2 hbne
    have hk0 : ¬ (kf : Int) < 0 := by omega
    have hkn : (kf : Int) < M.funcs.length := by omega
    clear hel q3 q3c hbd
    by_cases h200 : F.body.length = 200
    · have g200 : decide ((200 : Int) ≤ (F.body.length : Int)) = true := by simp; omega
      have h200' := hide h200
      clear h200
      go_wp2_with fail
      go_ret
      exact ⟨rfl, HB2.out⟩
    have g200 : decide ((200 : Int) ≤ (F.body.length : Int)) = false := by simp; omega
    have hb0 : ((F.body.length : Int) == 0) = false := by simp; exact hbne
    obtain ⟨bb, offb, rfl, hbb, _⟩ := hbe 0 hbpos
    clear hbe hbne
    go_wp2_with fail
    refine (pick_any q hq F.body.length hbpos (by omega) _).mono ?_
    rintro e w2' ⟨p, hp, rfl, hw2⟩
    obtain rfl := hw2
    have hp0 : ¬ (p : Int) < 0 := by omega
    have hpn : (p : Int) ≤ F.body.length := by omega
    have hpc : (p : Int) ≤ cb := by omega
    have hbc : (F.body.length : Int) ≤ cb := by omega
    have S2 := hide (HBD.out.step keeps_in HB2.out HB2.out.size)
    have hpb : F.body.length ≤ 200 := hb200
    have hcp : ¬ cb = p := by omega
    have hw2s := HB2.out.size
    have HI := hide (sl_i64s HBD.out)
    go_wp2_with (at_builtin; refine append_ins _ rfl _ _ 49 rfl w2'.heap.size i53 Tryz.underlying49 hi53 hz530 hz531 hz532 (.slice none 0 0) [] rfl (World.ownsRow_nil _ _ _ _) ⟨bb, offb, none⟩ p cb (F.body.take p) rfl (by simp <;> omega) ⟨_, S2.out.first p cb (by omega)⟩ (by simp <;> omega) (Nat.le_refl _) p (by simp <;> omega) ?_)
    intro sb1 sc1 w3 own1 grow1
    have b3 : Below w2'.heap.size w2' w3 := (Below.refl _ _).grown grow1 (Nat.le_refl _) (fun k hk => by cases hk)
    have HB3 := hide (below_next HB2.out b3)
    have HO1 := hide own1
    have HR3 := hide (HR2.out.kept b3)
    have b3s := b3.size
    clear own1 grow1 b3 S2
    have HB4 := hide (below_next HB3.out (bel_one w3 (.cells #[.int .i64 0, .int .i64 0, .int .i64 0] 53)))
    go_wp2_with (at_builtin; refine append_ins _ rfl _ _ 49 rfl w2'.heap.size i53 Tryz.underlying49 hi53 hz530 hz531 hz532 _ (F.body.take p) rfl (by rw [List.length_take, Nat.min_eq_left (by omega)]; exact HO1.out.alloc _) ⟨w3.heap.size, 0, none⟩ 1 1 [unrI] rfl rfl ⟨_, sl_ins (S := Lt (w3.heap.size + 1)) (l := [unrI]) (fun x hx => by rw [List.mem_singleton.1 hx]; exact i64s (by decide)) (Row.made w3 #[.int .i64 0, .int .i64 0, .int .i64 0] 53) rfl (Nat.lt_succ_self _)⟩ (by simp <;> omega) (by simp <;> omega) (p + 1) (by simp <;> omega) ?_)
    intro sb2 sc2 w4 own2 grow2
    have b4 : Below w2'.heap.size (w3.alloc (.cells #[.int .i64 0, .int .i64 0, .int .i64 0] 53)) w4 := (Below.refl _ _).grown grow2 (by simp <;> omega) (fun k hk => (HO1.out.lt k hk).1)
    have HB5 := hide (HB4.out.trans (b4.mono hw2s))
    have HO2 := hide own2
    have HR4 := hide ((HR3.out.alloc (.cells #[.int .i64 0, .int .i64 0, .int .i64 0] 53)).below b4 HR2.out.lt)
    have b4s : w2'.heap.size ≤ w4.heap.size := by have := b4.size; simp at this; omega
    have S4 := hide (HBD.out.step keeps_in HB5.out HB5.out.size)
    clear own2 grow2 b4 HO1 HR3
    go_wp2_with (at_builtin; refine append_ins _ rfl _ _ 49 rfl w2'.heap.size i53 Tryz.underlying49 hi53 hz530 hz531 hz532 _ (F.body.take p ++ [unrI]) rfl (by rw [show (F.body.take p ++ [unrI]).length = p + 1 by simp; omega]; exact HO2.out) ⟨bb, offb + p * 3, none⟩ (F.body.length - p) (cb - p) (F.body.drop p) rfl (by simp) ⟨_, S4.out.rest p (cb - p)⟩ (by simp <;> omega) b4s (F.body.length + 1) (by simp <;> omega) ?_)
    intro sb3 sc3 w5 own3 grow3
    have b5 : Below w2'.heap.size w4 w5 := (Below.refl _ _).grown grow3 b4s (fun k hk => (HO2.out.lt k hk).1)
    have HB6 := hide (HB5.out.trans (b5.mono hw2s))
    have HR5 := hide (HR4.out.below b5 HR2.out.lt)
    have hil : (insI F.body p unrI).length = F.body.length + 1 := by unfold insI; simp; omega
    obtain ⟨gl, cl, hv, _, SL⟩ := own_ins (l := insI F.body p unrI) own3 hil.symm (fun x hx => by
      unfold insI at hx
      rcases List.mem_append.1 hx with hx | hx
      · exact HI.out x (List.mem_of_mem_take hx)
      · rcases List.mem_cons.1 hx with rfl | hx
        · exact i64s (by decide)
        · exact HI.out x (List.mem_of_mem_drop hx)) (fun e => by rw [e] at hil; simp at hil)
    simp only [Value.slice.injEq] at hv
    obtain ⟨rfl, hvl, rfl⟩ := hv
    clear hvl
    have HSL := hide SL
    have HIL := hide hil
    clear own3 grow3 b5 SL hil HO2 HR4 HR2
    have R5 := HR5.out
    have m0 := R5.c 0 _ rfl
    have m1 := R5.c 1 _ rfl
    have m2 := R5.c 2 _ rfl
    have m3 := R5.c 3 _ rfl
    have m4 := R5.c 4 _ rfl
    have m5 := R5.c 5 _ rfl
    have m6 := R5.c 6 _ rfl
    obtain ⟨g1, hgl, hg1, hkl, hchk⟩ := dead_chk HC.out HKF.out hp (by omega)
    have HCK := hide hchk
    have HKL := hide hkl
    have HGL := hide hgl
    have HG1 := hide hg1
    clear hchk hkl hgl hg1
    go_wp2_with fail
    refine (WI.out w5 HB6.out kf (by omega) (by omega) _ _ _ (insI F.body p unrI) HIL.out HSL.out).mono ?_
    rintro e w6 ⟨V6, rfl, I6, b6⟩
    have HB7 := hide (below_next HB6.out b6)
    have R6 := hide (R5.kept b6)
    have HSL6 := hide (HSL.out.step keeps_in b6 b6.size)
    clear m0 m1 m2 m3 m4 m5 m6 R5 b6 HR5
    go_wp2_with fail
    refine (valid_any V6 (bdM M kf (insI F.body p unrI)) w6 (HL.out.kept HB7.out) I6 HDA.out).mono ?_
    rw [HCK.out]
    rintro e w7 ⟨rfl, b7⟩
    have HB8 := hide (below_next HB7.out b7)
    have R7 := R6.out.kept b7
    have HSL7 := hide (HSL6.out.step keeps_in b7 b7.size)
    clear b7 I6
    go_wp2_with fail
    refine (told_nil w7).mono ?_
    rintro e w7' ⟨rfl, rfl⟩
    have m0 := R7.c 0 _ rfl
    have m1 := R7.c 1 _ rfl
    have m2 := R7.c 2 _ rfl
    have m3 := R7.c 3 _ rfl
    have m4 := R7.c 4 _ rfl
    have m5 := R7.c 5 _ rfl
    have m6 := R7.c 6 _ rfl
    go_wp2_with fail
    refine (WI.out w7' HB8.out kf (by omega) (by omega) _ _ _ (insI F.body p unrI) HIL.out HSL7.out).mono ?_
    rintro e w8 ⟨V8, rfl, I8, b8⟩
    have HB9 := hide (below_next HB8.out b8)
    clear m0 m1 m2 m3 m4 m5 m6 R7 b8
    go_wp2_with fail
    refine (heights_any V8 (bdM M kf (insI F.body p unrI)) kf w8 (HL.out.kept HB9.out) I8 HDA.out).mono ?_
    intro e w9 he
    rw [HCK.out] at he
    rcases he with ⟨hn, _⟩ | ⟨k', g, ag, cg, hk', hg, hcg, rfl, SX, b9⟩
    · exact absurd ⟨by omega, by rw [List.length_set]; have := HKL.out; omega⟩ hn
    obtain rfl : kf = k' := by omega
    rw [List.getElem?_set_self HKL.out] at hg
    obtain rfl := Option.some.inj hg
    have HB10 := hide (below_next HB9.out b9)
    have hgl := HGL.out
    have hp1 : p + 1 < g1.length := by omega
    have hv1 : g1[p + 1] = -1 := by
      have := HG1.out
      rw [List.getElem?_eq_getElem hp1] at this; exact Option.some.inj this
    obtain ⟨ag1, cg1, ew, hew⟩ := id SX
    simp only [Value.slice.injEq, true_and] at ew
    obtain ⟨rfl, rfl⟩ := ew
    obtain ⟨bx, ox, rfl, hbx, _, y1⟩ := hew (p + 1) hp1
    rw [Nat.mul_one, hv1] at y1
    have gl1 : ((g1.length : Int) == (F.body.length : Int) + 1) = true := by simp; omega
    have i1 : (p : Int) + 1 < g1.length := by omega
    have hgL : g1.length ≤ 201 := by omega
    clear hew hg hk' SX b9 hgl HGL hv1 I8
    go_wp2_with fail
    go_ret
    exact ⟨rfl, HB10.out⟩
end Go.Proofs.YtamofhkmhjckaaaGreatDoor
