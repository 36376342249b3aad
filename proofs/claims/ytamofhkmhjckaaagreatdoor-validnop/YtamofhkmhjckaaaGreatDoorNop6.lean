/-
  ValidNop: with a Nop laid in anywhere a module is as valid as before, and the heights of all other instructions stay.
-/
import Derived.Test.YtamofhkmhjckaaaGreatDoorInsW
import Derived.Test.YtamofhkmhjckaaaGreatDoorFrames
import Derived.Test.YtamofhkmhjckaaaGreatDoorDeadP
import Derived.BigQuiet
namespace Go.Proofs.YtamofhkmhjckaaaGreatDoor
open Go.RowKit

set_option maxRecDepth 100000 in
set_option maxHeartbeats 8000000 in
theorem nop_walk (V : MoV) (M : Mo) (f q : Int) (w : World) (hL : Laid w) (h : IsMo w.heap.size w V M) (hS : MoSm M) (hC : Sl 4 EFnC (Lt w.heap.size) w V.v2 M.funcs) (hf : I64 f) (hq : I64 q) :
    Calls Tryz.prog 6 #[moV V M, .int .i64 f, .int .i64 q] w fun e w' => e = .returned (.bool true) ∧ Below w.heap.size w w' := by
  obtain ⟨i53, hi53, hz530, hz531, hz532⟩ := info_parts Tryz.info53
  obtain ⟨i3, hi3, hz30, hz31, hz32⟩ := info_parts Nest.Tryz.info3
  have HB0 := hide (bel_one w (.cells #[V.v0, V.v1, V.v2, .int .i64 M.m0, .int .i64 M.m1, V.v5, V.v6] 29))
  have R0 := hide (Row.made w #[V.v0, V.v1, V.v2, .int .i64 M.m0, .int .i64 M.m1, V.v5, V.v6] 29)
  have EX := hide (examples_any (w.alloc (.cells #[V.v0, V.v1, V.v2, .int .i64 M.m0, .int .i64 M.m1, V.v5, V.v6] 29)) (hL.kept HB0.out))
  have VA := hide (fun (W : World) (b : Below w.heap.size w W) => valid_any V M W (hL.kept b) (h.step b b.size) hS.da)
  have HE := hide (fun (W : World) (k : Int) (b : Below w.heap.size w W) => heights_any V M k W (hL.kept b) (h.step b b.size) hS.da)
  have WI := hide (fun (W : World) (b : Below w.heap.size w W) (k : Nat) (hk : k < M.funcs.length) (hl : M.funcs.length ≤ 10000) (ab : Option Addr) (cb n : Nat) (body : List In) (hn : body.length = n) (hb : SIns W.heap.size W (.slice ab n cb) body) => (show Calls Tryz.prog 19 #[moV V M, .int .i64 k, .slice ab n cb] W (fun e w' => ∃ V', e = .returned (moV V' (bdM M k body)) ∧ IsMo w'.heap.size w' V' (bdM M k body) ∧ Below W.heap.size W w') by subst hn; exact with_any V M k hk hl ab cb body W (h.step b b.size) hb))
  have HFN := hide hC
  have HL := hide hL
  have HDA := hide hS.da
  obtain ⟨a0, c0, a1, c1, a2, c2, a5, c5, a6, c6, rfl⟩ := h.forms
  unfold moV at *
  dsimp only at *
  clear h hL hS hC
  cases hc : chkM M with
  | error c =>
    rw [hc] at VA
    clear hc
    go_enter Tryz.func6, Tryz.ntmps6
    go_wp2_with fail
    refine EX.out.mono ?_
    rintro e w1 ⟨rfl, b1⟩
    have R1 := R0.out.kept b1
    have HB1 := hide (below_next HB0.out b1)
    have m0 := R1.c 0 _ rfl
    have m1 := R1.c 1 _ rfl
    have m2 := R1.c 2 _ rfl
    have m3 := R1.c 3 _ rfl
    have m4 := R1.c 4 _ rfl
    have m5 := R1.c 5 _ rfl
    have m6 := R1.c 6 _ rfl
    clear R1 b1 EX
    go_wp2_with fail
    refine (VA.out w1 HB1.out).mono ?_
    rintro e w2 ⟨p, rfl, _, b2⟩
    have HB2 := hide (below_next HB1.out b2)
    clear b2
    unfold flt
    go_wp2_with fail
    go_ret
    exact ⟨rfl, HB2.out⟩
  | ok hts =>
    have FF := hide (fit_facts (chk_ok hc).1)
    have HC := hide hc
    rw [hc] at VA
    clear hc
    by_cases hn0 : M.funcs.length = 0
    · have hn0' : ((M.funcs.length : Int) == 0) = true := by simp [hn0]
      clear hn0
      go_enter Tryz.func6, Tryz.ntmps6
      go_wp2_with fail
      refine EX.out.mono ?_
      rintro e w1 ⟨rfl, b1⟩
      have R1 := R0.out.kept b1
      have HB1 := hide (below_next HB0.out b1)
      have m0 := R1.c 0 _ rfl
      have m1 := R1.c 1 _ rfl
      have m2 := R1.c 2 _ rfl
      have m3 := R1.c 3 _ rfl
      have m4 := R1.c 4 _ rfl
      have m5 := R1.c 5 _ rfl
      have m6 := R1.c 6 _ rfl
      have HR1 := hide R1
      clear R1 b1 EX
      go_wp2_with fail
      refine (VA.out w1 HB1.out).mono ?_
      rintro e w2 ⟨rfl, b2⟩
      have HB2 := hide (below_next HB1.out b2)
      have R2 := HR1.out.kept b2
      have x2 := R2.c 2 _ rfl
      clear b2 R2 m0 m1 m2 m3 m4 m5 m6
      go_wp2_with fail
      go_ret
      exact ⟨rfl, HB2.out⟩
    have hn0' : ((M.funcs.length : Int) == 0) = false := by simpa using hn0
    have hn8 := FF.out.fns
    have hpos : 0 < M.funcs.length := by omega
    go_enter Tryz.func6, Tryz.ntmps6
    go_wp2_with fail
    refine EX.out.mono ?_
    rintro e w1 ⟨rfl, b1⟩
    have R1 := R0.out.kept b1
    have HB1 := hide (below_next HB0.out b1)
    have m0 := R1.c 0 _ rfl
    have m1 := R1.c 1 _ rfl
    have m2 := R1.c 2 _ rfl
    have m3 := R1.c 3 _ rfl
    have m4 := R1.c 4 _ rfl
    have m5 := R1.c 5 _ rfl
    have m6 := R1.c 6 _ rfl
    have HR1 := hide R1
    clear R1 b1 EX
    go_wp2_with fail
    refine (VA.out w1 HB1.out).mono ?_
    rintro e w2 ⟨rfl, b2⟩
    have HB2 := hide (below_next HB1.out b2)
    have R2 := HR1.out.kept b2
    have HR2 := hide R2
    have x2 := R2.c 2 _ rfl
    clear b2 R2 m0 m1 m2 m3 m4 m5 m6 VA HR1
    go_wp2_with fail
    refine (pick_any f hf M.funcs.length hpos (by omega) w2).mono ?_
    rintro e w2' ⟨kf, hkf, rfl, hw2⟩
    obtain rfl := hw2
    obtain ⟨af2, cf2, ef, hel⟩ := HFN.out
    simp only [Value.slice.injEq, true_and] at ef
    obtain ⟨rfl, rfl⟩ := ef
    obtain ⟨bf, off, rfl, hbf, ⟨vl, vb, _, _, _, _, q3, _, hbd⟩, ab', cb', q3c, hcap⟩ := hel kf hkf
    obtain ⟨ab, cb, rfl, hbe⟩ := id hbd
    obtain ⟨rfl, rfl⟩ : ab = ab' ∧ cb = cb' := by
      have := q3.symm.trans q3c
      simp only [Option.some.injEq, Value.slice.injEq, true_and] at this
      exact this
    have HKF := hide (List.getElem?_eq_getElem hkf)
    have HFM := hide (FF.out.fn _ (List.getElem_mem hkf))
    have q3' := (HB2.out.cell (p := ⟨bf, off + kf * 4 + 3, none⟩) hbf).trans q3
    have HBD := hide hbd
    generalize M.funcs[kf] = F at *
    have hb200 := HFM.out.2.1
    have hbne : F.body ≠ [] := fun e => by have := HFM.out.2.2.2.1; rw [e] at this; cases this
    have hbpos : 0 < F.body.length := List.length_pos_iff.2 hbne
    have hk0 : ¬ (kf : Int) < 0 := by omega
    have hkn : (kf : Int) < M.funcs.length := by omega
    clear hel q3 q3c hbd
    by_cases h200 : F.body.length = 200
    · have g200 : decide ((200 : Int) ≤ (F.body.length : Int)) = true := by simp; omega
      have h200' := hide h200
      clear h200
      go_wp2_with fail
      go_ret
      exact ⟨rfl, HB2.out⟩
    have g200 : decide ((200 : Int) ≤ (F.body.length : Int)) = false := by simp; omega
    have hb0 : ((F.body.length : Int) == 0) = false := by simp; exact hbne
    obtain ⟨bb, offb, rfl, hbb, _⟩ := hbe 0 hbpos
    clear hbe hbne
    go_wp2_with fail
    refine (pick_any q hq F.body.length hbpos (by omega) _).mono ?_
    rintro e w2' ⟨p, hp, rfl, hw2⟩
    obtain rfl := hw2
    have hp0 : ¬ (p : Int) < 0 := by omega
    have hpn : (p : Int) ≤ F.body.length := by omega
    have hpc : (p : Int) ≤ cb := by omega
    have hbc : (F.body.length : Int) ≤ cb := by omega
    have S2 := hide (HBD.out.step keeps_in HB2.out HB2.out.size)
    have hpb : F.body.length ≤ 200 := hb200
    have hcp : ¬ cb = p := by omega
    have hw2s := HB2.out.size
    have HI := hide (sl_i64s HBD.out)
    go_wp2_with (at_builtin; refine append_ins _ rfl _ _ 49 rfl w2'.heap.size i53 Tryz.underlying49 hi53 hz530 hz531 hz532 (.slice none 0 0) [] rfl (World.ownsRow_nil _ _ _ _) ⟨bb, offb, none⟩ p cb (F.body.take p) rfl (by simp <;> omega) ⟨_, S2.out.first p cb (by omega)⟩ (by simp <;> omega) (Nat.le_refl _) p (by simp <;> omega) ?_)
    intro sb1 sc1 w3 own1 grow1
    have b3 : Below w2'.heap.size w2' w3 := (Below.refl _ _).grown grow1 (Nat.le_refl _) (fun k hk => by cases hk)
    have HB3 := hide (below_next HB2.out b3)
    have HO1 := hide own1
    have HR3 := hide (HR2.out.kept b3)
    have b3s := b3.size
    clear own1 grow1 b3 S2
    have HB4 := hide (below_next HB3.out (bel_one w3 (.cells #[.int .i64 1, .int .i64 0, .int .i64 0] 53)))
    go_wp2_with (at_builtin; refine append_ins _ rfl _ _ 49 rfl w2'.heap.size i53 Tryz.underlying49 hi53 hz530 hz531 hz532 _ (F.body.take p) rfl (by rw [List.length_take, Nat.min_eq_left (by omega)]; exact HO1.out.alloc _) ⟨w3.heap.size, 0, none⟩ 1 1 [nopI] rfl rfl ⟨_, sl_ins (S := Lt (w3.heap.size + 1)) (l := [nopI]) (fun x hx => by rw [List.mem_singleton.1 hx]; exact i64s (by decide)) (Row.made w3 #[.int .i64 1, .int .i64 0, .int .i64 0] 53) rfl (Nat.lt_succ_self _)⟩ (by simp <;> omega) (by simp <;> omega) (p + 1) (by simp <;> omega) ?_)
    intro sb2 sc2 w4 own2 grow2
    have b4 : Below w2'.heap.size (w3.alloc (.cells #[.int .i64 1, .int .i64 0, .int .i64 0] 53)) w4 := (Below.refl _ _).grown grow2 (by simp <;> omega) (fun k hk => (HO1.out.lt k hk).1)
    have HB5 := hide (HB4.out.trans (b4.mono hw2s))
    have HO2 := hide own2
    have HR4 := hide ((HR3.out.alloc (.cells #[.int .i64 1, .int .i64 0, .int .i64 0] 53)).below b4 HR2.out.lt)
    have b4s : w2'.heap.size ≤ w4.heap.size := by have := b4.size; simp at this; omega
    have S4 := hide (HBD.out.step keeps_in HB5.out HB5.out.size)
    clear own2 grow2 b4 HO1 HR3
    go_wp2_with (at_builtin; refine append_ins _ rfl _ _ 49 rfl w2'.heap.size i53 Tryz.underlying49 hi53 hz530 hz531 hz532 _ (F.body.take p ++ [nopI]) rfl (by rw [show (F.body.take p ++ [nopI]).length = p + 1 by simp; omega]; exact HO2.out) ⟨bb, offb + p * 3, none⟩ (F.body.length - p) (cb - p) (F.body.drop p) rfl (by simp) ⟨_, S4.out.rest p (cb - p)⟩ (by simp <;> omega) b4s (F.body.length + 1) (by simp <;> omega) ?_)
    intro sb3 sc3 w5 own3 grow3
    have b5 : Below w2'.heap.size w4 w5 := (Below.refl _ _).grown grow3 b4s (fun k hk => (HO2.out.lt k hk).1)
    have HB6 := hide (HB5.out.trans (b5.mono hw2s))
    have HR5 := hide (HR4.out.below b5 HR2.out.lt)
    have hil : (insI F.body p nopI).length = F.body.length + 1 := by unfold insI; simp; omega
    obtain ⟨gl, cl, hv, _, SL⟩ := own_ins (l := insI F.body p nopI) own3 hil.symm (fun x hx => by
      unfold insI at hx
      rcases List.mem_append.1 hx with hx | hx
      · exact HI.out x (List.mem_of_mem_take hx)
      · rcases List.mem_cons.1 hx with rfl | hx
        · exact i64s (by decide)
        · exact HI.out x (List.mem_of_mem_drop hx)) (fun e => by rw [e] at hil; simp at hil)
    simp only [Value.slice.injEq] at hv
    obtain ⟨rfl, hvl, rfl⟩ := hv
    clear hvl
    have HSL := hide SL
    have HIL := hide hil
    clear own3 grow3 b5 SL hil HO2 HR4 HR2
    have R5 := HR5.out
    have m0 := R5.c 0 _ rfl
    have m1 := R5.c 1 _ rfl
    have m2 := R5.c 2 _ rfl
    have m3 := R5.c 3 _ rfl
    have m4 := R5.c 4 _ rfl
    have m5 := R5.c 5 _ rfl
    have m6 := R5.c 6 _ rfl
    obtain ⟨g0, hg0, hgl, hchk⟩ := nop_chk HC.out HKF.out hp (by omega)
    have hkl : kf < hts.length := (List.getElem?_eq_some_iff.1 hg0).1
    have HCK := hide hchk
    have HG0 := hide hg0
    have HKL := hide hkl
    have HGL := hide hgl
    clear hchk hg0 hkl hgl
    go_wp2_with fail
    refine (HE.out w5 kf HB6.out).mono ?_
    intro e w6 he
    rw [HC.out] at he
    rcases he with ⟨hn, _⟩ | ⟨k', g, av, cv, hk', hg, hcv, rfl, SG, b6⟩
    · exact absurd ⟨by omega, by have := HKL.out; omega⟩ hn
    obtain rfl : kf = k' := by omega
    obtain rfl : g0 = g := Option.some.inj (HG0.out.symm.trans hg)
    have HB7 := hide (below_next HB6.out b6)
    have R6 := R5.kept b6
    have HSL6 := hide (HSL.out.step keeps_in b6 b6.size)
    have HSG := hide (SG.to keeps_int (T := Lt w6.heap.size) (fun _ _ => rfl) (fun i hi => hi.2))
    clear m0 m1 m2 m3 m4 m5 m6 hk' hg SG R5 b6 HR5
    have m0 := R6.c 0 _ rfl
    have m1 := R6.c 1 _ rfl
    have m2 := R6.c 2 _ rfl
    have m3 := R6.c 3 _ rfl
    have m4 := R6.c 4 _ rfl
    have m5 := R6.c 5 _ rfl
    have m6 := R6.c 6 _ rfl
    go_wp2_with fail
    refine (WI.out w6 HB7.out kf (by omega) (by omega) _ _ _ (insI F.body p nopI) HIL.out HSL6.out).mono ?_
    rintro e w7 ⟨V7, rfl, I7, b7⟩
    have HB8 := hide (below_next HB7.out b7)
    have HSG7 := hide (HSG.out.step keeps_int b7 b7.size)
    clear m0 m1 m2 m3 m4 m5 m6 R6 b7 HSG HSL6
    go_wp2_with fail
    refine (heights_any V7 (bdM M kf (insI F.body p nopI)) kf w7 (HL.out.kept HB8.out) I7 HDA.out).mono ?_
    intro e w8 he
    rw [HCK.out] at he
    rcases he with ⟨hn, _⟩ | ⟨k', g, ag, cg, hk', hg, hcg, rfl, SX, b8⟩
    · exact absurd ⟨by omega, by rw [List.length_set]; have := HKL.out; omega⟩ hn
    obtain rfl : kf = k' := by omega
    rw [List.getElem?_set_self HKL.out] at hg
    have hX := (Option.some.inj hg).symm
    have HB9 := hide (below_next HB8.out b8)
    have S8 := HSG7.out.step keeps_int b8 b8.size
    have SX8 := SX.to keeps_int (T := Lt w8.heap.size) (fun _ _ => rfl) (fun i hi => hi.2)
    have hgl := HGL.out
    have hpg : p < g0.length := by omega
    have hXl : g.length = g0.length + 1 := by rw [hX]; simp; omega
    have hpX : p < g.length := by omega
    have hXp : g[p] = g0[p] := by
      have : g[p]? = some g0[p] := by rw [hX, List.getElem?_append_right (by simp <;> omega), show p - (g0.take p).length = 0 by simp; omega]; simp [hpg]
      rw [List.getElem?_eq_getElem hpX] at this; exact Option.some.inj this
    have hXr : g.take p ++ g.drop (p + 1) = g0 := by
      have h1 : g.take p = g0.take p := by rw [hX, List.take_append_of_le_length (by simp <;> omega), List.take_take, Nat.min_self]
      have h2 : g.drop (p + 1) = g0.drop p := by
        rw [hX, List.drop_append, List.drop_eq_nil_of_le (by simp <;> omega), List.nil_append]
        have : p + 1 - (g0.take p).length = 0 + 1 := by simp; omega
        rw [this, List.drop_succ_cons, List.drop_zero]
      rw [h1, h2, List.take_append_drop]
    obtain ⟨av1, cv1, ev, hev⟩ := id S8
    simp only [Value.slice.injEq, true_and] at ev
    obtain ⟨rfl, rfl⟩ := ev
    obtain ⟨bg, og, rfl, hbg, _, y0⟩ := hev p hpg
    obtain ⟨ag1, cg1, ew, hew⟩ := id SX8
    simp only [Value.slice.injEq, true_and] at ew
    obtain ⟨rfl, rfl⟩ := ew
    obtain ⟨bx, ox, rfl, hbx, _, y1⟩ := hew p hpX
    rw [Nat.mul_one] at y0 y1
    rw [hXp] at y1
    have HS8 := hide S8
    have HSX8 := hide SX8
    have HXR := hide hXr
    have HXL := hide hXl
    have gl1 : ((g.length : Int) != (g0.length : Int) + 1) = false := by simp; omega
    have i1 : (p : Int) < g.length := by omega
    have i2 : (p : Int) < g0.length := by omega
    have hgL : g.length ≤ 201 := by omega
    have hgl0 : g0.length ≤ 200 := by omega
    generalize g0[p] = xp at *
    clear hev hew hX hXp hXr hg hk' SX S8 SX8 b8 HSG7 I7 hXl hgl
    have hp64 := hide (sl_i64 HSX8.out)
    have jc1 : (p : Int) ≤ cg := by omega
    have jc2 : (p : Int) + 1 ≤ g.length := by omega
    have jc3 : (g.length : Int) ≤ cg := by omega
    have jc4 : (p : Int) + 1 ≤ cg := by omega
    go_wp2_with fail
    go_quiet (fail)
    have b9 := below_drewN (Below.refl w8.heap.size w8) nq
    have HB10 := hide (below_next HB9.out b9)
    have HSX9 := hide (HSX8.out.step keeps_int b9 b9.size)
    have HS9 := hide (HS8.out.step keeps_int b9 b9.size)
    clear b9 y0 y1 HB9 HS8 HSX8
    generalize w8.drewN nq = w9 at *
    go_wp2_with (at_builtin; refine append_nums _ rfl _ _ 23 rfl w9.heap.size i3 Tryz.underlying23 hi3 hz30 hz31 hz32 (.slice none 0 0) [] rfl (World.ownsRow_nil _ _ _ _) ⟨bx, ox, none⟩ p cg (g.take p) rfl (by simp <;> omega) ⟨_, HSX9.out.first p cg (by omega)⟩ (by simp <;> omega) (Nat.le_refl _) p (by simp <;> omega) ?_)
    intro sb4 sc4 w10 own4 grow4
    have b10 : Below w9.heap.size w9 w10 := (Below.refl _ _).grown grow4 (Nat.le_refl _) (fun k hk => by cases hk)
    have HB11 := hide (below_next HB10.out b10)
    have HO4 : Hid (w10.ownsRow w9.heap.size 3 1 (.slice sb4 p sc4) p ((g.take p).map (Value.int .i64))) := hide (by simpa using own4)
    have hs9 := b10.size
    have HSX10 := hide (HSX9.out.step keeps_int b10 b10.size)
    have HS10 := hide (HS9.out.step keeps_int b10 (Nat.le_refl _))
    clear own4 grow4 b10 HS9 HSX9
    by_cases hc1 : cg = p + 1
    · have hgp : g.length = p + 1 := by omega
      have hd0 : g.drop (p + 1) = [] := List.drop_eq_nil_of_le (by omega)
      have HD0 := hide hd0
      have HGP := hide hgp
      clear hd0 hgp
      subst hc1
      go_wp2_with (at_builtin; refine append_nums _ rfl _ _ 23 rfl w9.heap.size i3 Tryz.underlying23 hi3 hz30 hz31 hz32 _ (g.take p) rfl (by rw [List.length_take, Nat.min_eq_left (by omega)]; exact HO4.out) _ _ _ (g.drop (p + 1)) rfl (by have := HGP.out; simp <;> omega) ⟨fun _ => True, by rw [HD0.out]; exact Sl.isNil _ _ _ _⟩ (by simp <;> omega) hs9 g0.length (by have := HXL.out; simp <;> omega) ?_)
      intro sb5 sc5 w11 own5 grow5
      have b11 : Below w9.heap.size w10 w11 := (Below.refl _ _).grown grow5 hs9 (fun k hk => (HO4.out.lt k hk).1)
      have HB12 := hide (HB11.out.trans (b11.mono HB10.out.size))
      have HSB := hide (HS10.out.step keeps_int b11 (Nat.le_trans hs9 b11.size))
      have own6 : w11.ownsRow w9.heap.size 3 1 (.slice sb5 g0.length sc5) g0.length ((g.take p ++ g.drop (p + 1)).map (Value.int .i64)) := by simpa using own5
      rw [HXR.out] at own6
      have SO := hide (own_nums own6 rfl (sl_i64 HS10.out))
      clear own6
      clear own5 grow5 b11
      go_wp2_with fail
      refine (numbers_is _ _ g0 g0 true _ (by omega) SO.out HSB.out (by simp)).mono ?_
      rintro e w12 ⟨rfl, b12⟩
      have HB13 := hide (below_next HB12.out b12)
      clear b12
      go_wp2_with fail
      go_ret
      exact ⟨rfl, HB13.out⟩
    · have hc2 : ¬ cg = p + 1 := hc1
      go_wp2_with (at_builtin; refine append_nums _ rfl _ _ 23 rfl w9.heap.size i3 Tryz.underlying23 hi3 hz30 hz31 hz32 _ (g.take p) rfl (by rw [List.length_take, Nat.min_eq_left (by omega)]; exact HO4.out) ⟨bx, ox + (p + 1), none⟩ (g.length - (p + 1)) (cg - (p + 1)) (g.drop (p + 1)) rfl (by simp <;> omega) ⟨_, by have := HSX10.out.rest (p + 1) (cg - (p + 1)); rw [Nat.mul_one] at this; exact this⟩ (by simp <;> omega) hs9 g0.length (by have := HXL.out; simp <;> omega) ?_)
      intro sb5 sc5 w11 own5 grow5
      have b11 : Below w9.heap.size w10 w11 := (Below.refl _ _).grown grow5 hs9 (fun k hk => (HO4.out.lt k hk).1)
      have HB12 := hide (HB11.out.trans (b11.mono HB10.out.size))
      have HSB := hide (HS10.out.step keeps_int b11 (Nat.le_trans hs9 b11.size))
      have own6 : w11.ownsRow w9.heap.size 3 1 (.slice sb5 g0.length sc5) g0.length ((g.take p ++ g.drop (p + 1)).map (Value.int .i64)) := by simpa using own5
      rw [HXR.out] at own6
      have SO := hide (own_nums own6 rfl (sl_i64 HS10.out))
      clear own6
      clear own5 grow5 b11
      go_wp2_with fail
      refine (numbers_is _ _ g0 g0 true _ (by omega) SO.out HSB.out (by simp)).mono ?_
      rintro e w12 ⟨rfl, b12⟩
      have HB13 := hide (below_next HB12.out b12)
      clear b12
      go_wp2_with fail
      go_ret
      exact ⟨rfl, HB13.out⟩
end Go.Proofs.YtamofhkmhjckaaaGreatDoor
