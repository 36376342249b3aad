/-
  The program's check where a module gets as far as its functions: their heights, one behind the other, or the fault of the first one that may not be.
-/
import Derived.Test.YtamofhkmhjckaabGreatDoorChkH
import Derived.Deep.RegionLaw
namespace Go.Proofs.YtamofhkmhjckaabGreatDoor
open Go.RowKit

theorem Tryz.info23 : (Tryz.prog.info? 23).map (fun i => (i.zero, i.size, i.bytes)) = some (some (.slice none 0 0), 1, 24) := by kernel_rfl
/-- a call that returns, as one step of a region that draws -/
theorem step_enter {P : Program} {ops : Array Oper} {o : Oper} {a : Act} {w : World} {K : Act → World → Prop} {Q : Exit → Act → World → Prop} {E : Prop} (hgd : o.guard = none) {f : FuncId} {vals : Array Value} (hrun : (execOp a.eval o).run P w = .ok (.enter f vals) w)
    {R : Ending → World → Prop} (hc : Calls P f vals w R) (hR : ∀ e w', R e w' → ∃ v, e = .returned v) (h : ∀ v w', R (.returned v) w' → K (a.put o.dst v) w') : if Region.wanted o (yielded ops a.tmps) = true then Oper.wp P o a w K Q else E := by
  have hw : Region.wanted o (yielded ops a.tmps) = true := by simp [Region.wanted, hgd]
  rw [if_pos hw]
  unfold Oper.wp
  rw [hrun, Oper.upon_enter]
  refine hc.mono fun e w' he => ?_
  obtain ⟨v, rfl⟩ := hR e w' he
  exact h v w' he
theorem leaveC (w : World) {p : Prop} (h : p) (_ : wpAny Tryz.prog Region.Mode.text #[] (fun _ _ _ => True) 0 #[] { tmps := #[], defers := [] } w) : p := h
set_option maxRecDepth 100000 in
set_option maxHeartbeats 1600000 in
/-- where a check was left by a panic -/
theorem check_leaves {w W : World} {cs : Array Value} {hv ev : Value} {p : Nat} {c : Int × Int} {r : Except (Int × Int) (List (List Int))} (hr : r = .error c) (A : ChkAt w cs hv ev W) (L : Laid W) (F : FaultAt W p c.1 c.2) (tmps : Array Value)
    (t2 : tmps[2]? = some (.pointer (some ⟨w.heap.size + 1, 0, none⟩))) (t3 : tmps[3]? = some (.pointer (some ⟨w.heap.size + 1 + 1, 0, none⟩))) :
    Leaves Tryz.prog Tryz.f16 tmps (ChEnds w r) [{ target := .fn (.func 22) #[.pointer (some ⟨w.heap.size + 1, 0, none⟩), .pointer (some ⟨w.heap.size + 1 + 1, 0, none⟩)], args := #[] }] (.panicking [{ v := flt p, recovered := false }]) W := by
  subst hr
  refine leaves_cons (f := 22) (args := #[.pointer (some ⟨w.heap.size + 1, 0, none⟩), .pointer (some ⟨w.heap.size + 1 + 1, 0, none⟩)]) (by simp) (by simp [go_sem]) ?_
  refine (catch_fault (w.heap.size + 1) (w.heap.size + 1 + 1) _ _ p _ _ W L F A.h A.e (by omega)).mono ?_
  rintro e u' w4 ⟨rfl, rfl, w3, B3, F3, rfl⟩
  obtain ⟨l0, l1, F4, B4⟩ := (A.next B3).caught F3
  generalize (w3.setCell _ _).setCell _ _ = w5 at l0 l1 B4 F4 ⊢
  unfold flt at *
  simp [Leaves, settle, results, Tryz.results16, go_sem, l0, l1, t2, t3]
  exact ⟨p, rfl, F4, B4⟩
/-- where a check went through -/
theorem check_returns {w W : World} {cs : Array Value} {av : Option Addr} {nv cv : Nat} {l : List (List Int)} {r : Except (Int × Int) (List (List Int))} (hr : r = .ok l) (A : ChkAt w cs (.slice av nv cv) .nilIface W) (S : Sl 1 EHs (NewB w.heap.size W) W (.slice av nv cv) l) (tmps : Array Value)
    (t2 : tmps[2]? = some (.pointer (some ⟨w.heap.size + 1, 0, none⟩))) (t3 : tmps[3]? = some (.pointer (some ⟨w.heap.size + 1 + 1, 0, none⟩))) :
    Leaves Tryz.prog Tryz.f16 tmps (ChEnds w r) [{ target := .fn (.func 22) #[.pointer (some ⟨w.heap.size + 1, 0, none⟩), .pointer (some ⟨w.heap.size + 1 + 1, 0, none⟩)], args := #[] }] .returning W := by
  subst hr
  refine leaves_cons (f := 22) (args := #[.pointer (some ⟨w.heap.size + 1, 0, none⟩), .pointer (some ⟨w.heap.size + 1 + 1, 0, none⟩)]) (by simp) (by simp [go_sem]) ?_
  refine (catch_idle ⟨w.heap.size + 1, 0, none⟩ ⟨w.heap.size + 1 + 1, 0, none⟩ W).mono ?_
  rintro e u' w4 ⟨rfl, rfl, rfl⟩
  have l0 := cell_of A.h
  have l1 := cell_of A.e
  simp [Leaves, settle, results, Tryz.results16, go_sem, l0, l1, t2, t3]
  exact ⟨_, rfl, S, A.below⟩
set_option maxRecDepth 100000 in
set_option maxHeartbeats 8000000 in
theorem check_funs (V : MoV) (M : Mo) (w : World) (hL : Laid w) (h : IsMo w.heap.size w V M) (hf : fitE M = 0) (hs : sigsOk M = true) (hd : dataOk M = true) (hy : ∀ d ∈ M.data, d.bytes.length ≤ 4611686018427387904) :
    Calls Tryz.prog 16 #[moV V M] w (ChEnds w (funsW M 0 M.funcs)) := by
  have HM := hide h
  have HL := hide hL
  have FF := hide (fit_facts hf)
  have HS := hide hs
  have cal := (sigsOk_iff M (fit_both hf).2).1 hs
  have dat := (dataOk_iff M).1 hd
  have CAL := hide cal
  have DAT := hide dat
  have HY := hide hy
  obtain ⟨i23, hi23, hz230, hz231, hz232⟩ := info_parts Tryz.info23
  obtain ⟨a0, c0, a1, c1, a2, c2, a5, c5, a6, c6, rfl⟩ := h.forms
  have hmf : ∀ (fn : Go.Fn) (first cap : Array Value) (w : World), (Instr.makeFunc fn first cap).run Tryz.prog w = .ok (.func fn first cap) w := fun _ _ _ _ => rfl
  unfold moV
  dsimp only
  have HF := hide hf
  clear h hf hs hd hy cal dat
  have HA := hide (start_at w #[.slice a0 M.sigs.length c0, .slice a1 M.imports.length c1, .slice a2 M.funcs.length c2, .int .i64 M.m0, .int .i64 M.m1, .slice a5 M.globals.length c5, .slice a6 M.data.length c6])
  go_enter_defers Tryz.func16, Tryz.ntmps16
  go_wp2_with (fail)
  generalize ((w.alloc _).alloc _).alloc _ = w0 at HA ⊢
  have B0 := HA.out.below
  refine (fits_any ⟨.slice a0 M.sigs.length c0, .slice a1 M.imports.length c1, .slice a2 M.funcs.length c2, .slice a5 M.globals.length c5, .slice a6 M.data.length c6⟩ M w0 (hL.kept B0) (HM.out.step B0 B0.size)).mono ?_
  rintro e w1 ⟨rfl, b1⟩
  have A1 := hide (HA.out.next b1)
  clear HA b1 B0
  rw [HF.out]
  go_wp2_with (fail)
  refine (hold_yes 0 _).mono ?_
  rintro e w1' ⟨rfl, hw1⟩
  have hw1' := hw1.symm
  subst hw1'
  clear hw1
  have M1 := hide (HM.out.step A1.out.below A1.out.below.size)
  have r0 := A1.out.m.c 0 _ rfl
  have r1 := A1.out.m.c 1 _ rfl
  have r2 := A1.out.m.c 2 _ rfl
  have r3 := A1.out.m.c 3 _ rfl
  have r4 := A1.out.m.c 4 _ rfl
  have r5 := A1.out.m.c 5 _ rfl
  have r6 := A1.out.m.c 6 _ rfl
  simp only [List.getElem_toArray, List.getElem_cons_zero, List.getElem_cons_succ] at r0 r1 r2 r3 r4 r5 r6
  go_wp2_with (fail)
  refine (checkSigs_any ⟨.slice a0 M.sigs.length c0, .slice a1 M.imports.length c1, .slice a2 M.funcs.length c2, .slice a5 M.globals.length c5, .slice a6 M.data.length c6⟩ M w1 M1.out FF.out.sm FF.out.n).mono ?_
  intro e w1b he
  rcases he with ⟨_, rfl, b1b⟩ | ⟨hp, _⟩
  rotate_left
  · exact absurd CAL.out hp
  have A1b := hide (A1.out.next b1b)
  clear r0 r1 r2 r3 r4 r5 r6 M1 A1 b1b
  have M1 := hide (HM.out.step A1b.out.below A1b.out.below.size)
  have r0 := A1b.out.m.c 0 _ rfl
  have r1 := A1b.out.m.c 1 _ rfl
  have r2 := A1b.out.m.c 2 _ rfl
  have r3 := A1b.out.m.c 3 _ rfl
  have r4 := A1b.out.m.c 4 _ rfl
  have r5 := A1b.out.m.c 5 _ rfl
  have r6 := A1b.out.m.c 6 _ rfl
  simp only [List.getElem_toArray, List.getElem_cons_zero, List.getElem_cons_succ] at r0 r1 r2 r3 r4 r5 r6
  go_wp2_with (fail)
  refine (checkData_any ⟨.slice a0 M.sigs.length c0, .slice a1 M.imports.length c1, .slice a2 M.funcs.length c2, .slice a5 M.globals.length c5, .slice a6 M.data.length c6⟩ M w1b M1.out FF.out.m0 FF.out.m1 FF.out.da HY.out FF.out.nd).mono ?_
  intro e w2 he
  rcases he with ⟨_, rfl, b2⟩ | ⟨hp, _⟩
  rotate_left
  · exact absurd DAT.out hp
  have A2 := hide (A1b.out.next b2)
  clear r0 r1 r2 r3 r4 r5 r6 M1 A1b b2
  have r2 := A2.out.m.c 2 _ rfl
  simp only [List.getElem_toArray, List.getElem_cons_zero, List.getElem_cons_succ] at r2
  go_wp2_with (fail)
  go_loopw [16] (fun i wr => ∃ (k : Nat) (vh : Value) (d : List (List Int)) (vs : List Value), k ≤ M.funcs.length ∧ i = .int .i64 k ∧ Hid (ChkAt w #[.slice a0 M.sigs.length c0, .slice a1 M.imports.length c1, .slice a2 M.funcs.length c2, .int .i64 M.m0, .int .i64 M.m1, .slice a5 M.globals.length c5, .slice a6 M.data.length c6] vh .nilIface wr) ∧ Hid (HsAt (w.heap.size + 1 + 1 + 1) vh d vs wr) ∧ Hid (FAt M k d)) (fun i _ => M.funcs.length - (intOf i).toNat)
  case atStart => exact ⟨0, _, [], [], Nat.zero_le _, rfl, A2, hide (HsAt.nil _ _), hide (FAt.zero M)⟩
  case round =>
    obtain ⟨k, vh, d, vs, hk, rfl, HA, HH, HT⟩ := hrel
    clear r2 A2
    obtain ⟨av, cv, hvh⟩ := Nest.own_slice HH.out.own
    subst hvh
    by_cases hlt : k < M.funcs.length
    · obtain ⟨z, hz, hsig⟩ := sig_of HS.out FF.out (List.getElem_mem hlt)
      have fn := FF.out.fn _ (List.getElem_mem hlt)
      have BW := HA.out.below
      have CF := hide (fun (W : World) (bW : Below w.heap.size w W) => checkFunc_any ⟨.slice a0 M.sigs.length c0, .slice a1 M.imports.length c1, .slice a2 M.funcs.length c2, .slice a5 M.globals.length c5, .slice a6 M.data.length c6⟩ M W (HM.out.step bW bW.size) FF.out.sm k hlt z hz hsig (FF.out.sg _ (List.getElem_mem hz)) fn.1 (by have := fn.2.1; omega) fn.2.2.1 fn.2.2.2.1 (by have := FF.out.fns; omega) (FF.out.cx _ (List.getElem_mem hlt)))
      unfold moV at CF
      simp only at CF
      have HBW := hide BW
      clear fn BW hsig hz
      have r0 := HA.out.m.c 0 _ rfl
      have r1 := HA.out.m.c 1 _ rfl
      have r2 := HA.out.m.c 2 _ rfl
      have r3 := HA.out.m.c 3 _ rfl
      have r4 := HA.out.m.c 4 _ rfl
      have r5 := HA.out.m.c 5 _ rfl
      have r6 := HA.out.m.c 6 _ rfl
      simp only [List.getElem_toArray, List.getElem_cons_zero, List.getElem_cons_succ] at r0 r1 r2 r3 r4 r5 r6
      have x1 := cell_of HA.out.h
      have f1 : wr.frozen? ⟨w.heap.size + 1, 0, none⟩ = false := by simp [World.frozen?, HA.out.h]
      have hlt' : (k : Int) < M.funcs.length := by omega
      cases hfun : funW M k M.funcs[k] with
      | error c =>
        have HE := hide (HT.out.stop hlt hfun)
        rw [hfun] at CF
        clear hfun
        go_wp2_with (fail)
        first | go_region_with (go_at_call 28; refine (CF.out _ (below_drewN HBW.out 1)).mono ?_; rintro e w' ⟨p, rfl, F, b⟩; refine leaveC w' (check_leaves HE.out (HA.out.next (below_next (below_drewN (Below.refl _ _) 1) b)) (HL.out.kept (HA.out.next (below_next (below_drewN (Below.refl _ _) 1) b)).below) F _ rfl rfl) ?_) | fail
        all_goals trivial
      | ok l =>
        have HN := hide (HT.out.next hlt hfun)
        have hkk : k ≤ 8 := by have := FF.out.fns; omega
        have hdl : d.length ≤ 8 := by have := HT.out.len; have := FF.out.fns; omega
        rw [hfun] at CF
        clear hfun
        have hA0 := HA.out.below.size
        have hA2 := lt_of_block HA.out.e
        go_wp2_with (fail)
        first
          | go_region_law
              (first
                | (refine step_enter (by rfl) (f := 28) (by simp [Act.eval, go_sem]) (CF.out _ (below_drewN HBW.out 1)) (fun e w1 he => by obtain ⟨g, hv, _⟩ := he; exact ⟨_, hv⟩) ?_; intro v w1 hr; obtain ⟨g, hv, sl, b⟩ := hr; cases hv; have HA1 := hide (HA.out.next (below_next (below_drewN (Below.refl _ _) 1) b)); have HH1 := hide (HH.out.next (below_next (below_drewN (Below.refl _ _) 1) b)); have HSL := hide sl; have x1a := cell_of HA1.out.h; have x1b := cell_of (HA1.out.next (bel_one w1 (.cells #[.slice (some ⟨g, 0, none⟩) l.length l.length] 23))).h; have HB1 := hide (below_next (below_drewN (Below.refl wr.heap.size wr) 1) b); clear sl b)
                | (refine step_append_lies _ (by rfl) _ _ _ (by rfl) (w.heap.size + 1 + 1 + 1) 23 i23 _ 1 24 Tryz.underlying58 hi23 hz230 hz231 hz232 rfl (by omega) (.slice av d.length cv) d.length vs (by rfl) (HH1.out.own.alloc _) ⟨w1.heap.size, 0, none⟩ 1 1 [.slice (some ⟨g, 0, none⟩) l.length l.length] (by rfl) (by rfl) (World.news_of_block (cs := #[.slice (some ⟨g, 0, none⟩) l.length l.length]) (t := 23) (fr := (0, 0)) (heap_alloc_new _ _)) (by simp [Value.oneCell']) (by omega) (by unfold maxLen; omega) (by omega) (by have := HB1.out.size; simp; omega) (w1.heap.size + 1) (by simp) ?_; intro g3 cap3 w3 hown hgrow hat hlt3; have HA3 := hide ((HA1.out.next (bel_one _ _)).grow hgrow (fun q hq => by have := (HH1.out.own.lt q hq).1; omega)); have x3 := cell_of HA3.out.h; have f3 : w3.frozen? ⟨w.heap.size + 1, 0, none⟩ = false := by simp [World.frozen?, HA3.out.h]))
          | fail
        all_goals
          have HM3 := (HH.out.more (by omega) HB1.out (HSL.out.to keeps_int (fun _ _ => rfl) (fun _ hi => hi)) (Nat.le_refl _) (bel_one _ _) hown hgrow (by simpa using hat))
          have HA4 := hide (HA3.out.store (.slice (some ⟨g3, 0, none⟩) (d.length + 1) cap3))
          have HM4 := hide (HM3.store (b := w.heap.size + 1) (by omega) 0 (.slice (some ⟨g3, 0, none⟩) (d.length + 1) cap3))
          go_wp2_with (fail)
          go_roundw
          case rel => exact ⟨k + 1, _, _, _, by omega, by go_num, HA4, HM4, HN⟩
          case measure => simp [intOf]; omega
    · obtain rfl : k = M.funcs.length := by omega
      have x1 := cell_of HA.out.h
      have f1 : wr.frozen? ⟨w.heap.size + 1, 0, none⟩ = false := by simp [World.frozen?, HA.out.h]
      have x2 := cell_of HA.out.e
      have f2 : wr.frozen? ⟨w.heap.size + 1 + 1, 0, none⟩ = false := by simp [World.frozen?, HA.out.e]
      go_wp2_with (fail)
      have A3 := (HA.out.store (.slice av d.length cv)).storeE .nilIface
      have H3 := (HH.out.store (b := w.heap.size + 1) (by omega) 0 (.slice av d.length cv)).store (b := w.heap.size + 1 + 1) (by omega) 0 .nilIface
      exact check_returns HT.out.done A3 (H3.all (by omega)) _ rfl rfl
end Go.Proofs.YtamofhkmhjckaabGreatDoor
