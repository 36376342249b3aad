/-
  ValidShape: what is valid has indices that there are, memories where they are used, data within them, heights of -1 to 16.
-/
import Derived.Test.YtamofhkmhjckaabGreatDoorShapeP
import Derived.Test.YtamofhkmhjckaabGreatDoorEx
import Derived.Test.YtamofhkmhjckaabGreatDoorFrames
import Derived.Deep.RegionWith
import Derived.BigQuiet
import Derived.Deep.QuietTactic
namespace Go.Proofs.YtamofhkmhjckaabGreatDoor
open Go.RowKit

theorem mem_rt {x : In} (hx : rtI x = true) (h : x.op = 40 ∨ x.op = 41 ∨ x.op = 54 ∨ x.op = 55) : x.m = 0 ∨ x.m = 1 := by
  obtain ⟨op, n, m⟩ := x
  simp only at h ⊢
  rcases h with rfl | rfl | rfl | rfl <;> simp [rtI, rt, kd] at hx <;> exact hx.2
theorem pw_is (sz : Int) (h : 3 ≤ sz ∧ sz ≤ 12) : wrap64 (2 ^ sz.toNat) = 2 ^ sz.toNat := by
  have : sz = 3 ∨ sz = 4 ∨ sz = 5 ∨ sz = 6 ∨ sz = 7 ∨ sz = 8 ∨ sz = 9 ∨ sz = 10 ∨ sz = 11 ∨ sz = 12 := by omega
  rcases this with rfl | rfl | rfl | rfl | rfl | rfl | rfl | rfl | rfl | rfl <;> simp [wrap64]
theorem mz0 {M : Mo} {f : Fn} (h : memOf (cxOf M f).M 0 ≠ 0) : (M.m0 == 0) = false := by simpa [memOf, cxOf] using h
theorem mz1 {M : Mo} {f : Fn} (h : memOf (cxOf M f).M 1 ≠ 0) : (M.m1 == 0) = false := by simpa [memOf, cxOf] using h
/-- what the walk takes of a valid module -/
structure ShF (M : Mo) (hts : List (List Int)) : Prop where
  fit : FitF M
  dat : ∀ d ∈ M.data, datOk M d
  len : hts.length = M.funcs.length
  fns : ∀ (j : Nat) (f : Fn), M.funcs[j]? = some f → ∃ g, hts[j]? = some g ∧ FnOk M f g
theorem sh_facts {M : Mo} {hts : List (List Int)} (e : chkM M = .ok hts) : ShF M hts := by
  obtain ⟨a, s, d, f⟩ := chk_ok e
  have h := shape_chk e
  refine ⟨fit_facts a, fun x hx => ?_, h.1, h.2⟩
  obtain ⟨j, hj, rfl⟩ := List.getElem_of_mem hx
  exact (dataOk_iff M).1 d j hj hj
/-- how Callee ends, whomever it finds -/
theorem cal_ends {w : World} {r : Option (Sg × Bool × Bool)} {e : Ending} {w' : World} (h : CalEnds w r e w') : ∃ (q1 : Option Addr) (n1 q2 : Nat) (q3 : Option Addr) (n3 q4 : Nat) (u1 u2 : Bool), e = .returned (.tuple #[.agg #[.slice q1 n1 q2, .slice q3 n3 q4], .bool u1, .bool u2, .bool r.isSome]) ∧ Below w.heap.size w w' := by
  cases r with
  | none => exact ⟨_, _, _, _, _, _, _, _, h.1, h.2⟩
  | some p =>
    obtain ⟨g, host, tr⟩ := p
    obtain ⟨ap, cp, ar, cr, e1, _, _, b⟩ := h
    exact ⟨_, _, _, _, _, _, _, _, e1, b⟩
set_option maxRecDepth 100000 in
set_option maxHeartbeats 16000000 in
theorem shape_walk (V : MoV) (M : Mo) (w : World) (hL : Laid w) (h : IsMo w.heap.size w V M) (hS : MoSm M) :
    Calls Tryz.prog 3 #[moV V M] w fun e w' => e = .returned (.bool true) ∧ Below w.heap.size w w' := by
  have HB0 := hide (bel_one w (.cells #[V.v0, V.v1, V.v2, .int .i64 M.m0, .int .i64 M.m1, V.v5, V.v6] 29))
  have R0 := hide (Row.made w #[V.v0, V.v1, V.v2, .int .i64 M.m0, .int .i64 M.m1, V.v5, V.v6] 29)
  have EX := hide (examples_any (w.alloc (.cells #[V.v0, V.v1, V.v2, .int .i64 M.m0, .int .i64 M.m1, V.v5, V.v6] 29)) (hL.kept HB0.out))
  have VA := hide (fun (W : World) (b : Below w.heap.size w W) => valid_any V M W (hL.kept b) (h.step b b.size) hS.da)
  have HA := hide (fun (W : World) (f : Int) (b : Below w.heap.size w W) => heights_any V M f W (hL.kept b) (h.step b b.size) hS.da)
  have CA := hide (fun (W : World) (n : Int) (hn : I64 n) (b : Below w.heap.size w W) => callee_any V M n W (h.step b b.size) hS.sm hn)
  have HM := hide h
  obtain ⟨a0, c0, a1, c1, a2, c2, a5, c5, a6, c6, rfl⟩ := h.forms
  unfold moV at *
  dsimp only at *
  have HY := hide hS.da
  clear h hL hS
  cases hc : chkM M with
  | error c =>
    rw [hc] at VA
    clear hc
    go_enter Tryz.func3, Tryz.ntmps3
    go_wp2_with fail
    refine EX.out.mono ?_
    rintro e w1 ⟨rfl, b1⟩
    have R1 := R0.out.kept b1
    have HB1 := hide (below_next HB0.out b1)
    have m0 := R1.c 0 _ rfl
    have m1 := R1.c 1 _ rfl
    have m2 := R1.c 2 _ rfl
    have m3 := R1.c 3 _ rfl
    have m4 := R1.c 4 _ rfl
    have m5 := R1.c 5 _ rfl
    have m6 := R1.c 6 _ rfl
    clear R1 b1 EX
    go_wp2_with fail
    refine (VA.out w1 HB1.out).mono ?_
    rintro e w2 ⟨p, rfl, _, b2⟩
    have HB2 := hide (below_next HB1.out b2)
    clear b2
    unfold flt
    go_wp2_with fail
    go_ret
    exact ⟨rfl, HB2.out⟩
  | ok hts =>
    have SF := hide (sh_facts hc)
    rw [hc] at VA HA
    clear hc
    obtain ⟨aa, cc, ed, hde⟩ := HM.out.data
    simp only [Value.slice.injEq, true_and] at ed
    obtain ⟨rfl, rfl⟩ := ed
    have HD := hide (show ∀ j (hj : j < M.data.length), ∃ b off, a6 = some ⟨b, off, none⟩ ∧ b < w.heap.size ∧ EDa (Lt w.heap.size) w b (off + j * 3) M.data[j] from hde)
    clear hde
    go_enter Tryz.func3, Tryz.ntmps3
    go_wp2_with fail
    refine EX.out.mono ?_
    rintro e w1 ⟨rfl, b1⟩
    have R1 := R0.out.kept b1
    have HB1 := hide (below_next HB0.out b1)
    have m0 := R1.c 0 _ rfl
    have m1 := R1.c 1 _ rfl
    have m2 := R1.c 2 _ rfl
    have m3 := R1.c 3 _ rfl
    have m4 := R1.c 4 _ rfl
    have m5 := R1.c 5 _ rfl
    have m6 := R1.c 6 _ rfl
    have HR1 := hide R1
    clear R1 b1 EX
    go_wp2_with fail
    refine (VA.out w1 HB1.out).mono ?_
    rintro e w2 ⟨rfl, b2⟩
    have R2 := HR1.out.kept b2
    have HB2 := hide (below_next HB1.out b2)
    clear b2 m0 m1 m2 m3 m4 m5 m6 HR1 VA
    have HR2 := hide R2
    clear R2
    go_wp2_with fail
    go_loopw [4] (fun i wr => ∃ k : Nat, k ≤ M.data.length ∧ i = .int .i64 k ∧ Hid (Below w.heap.size w wr) ∧ Hid (Row wr w.heap.size #[.slice a0 M.sigs.length c0, .slice a1 M.imports.length c1, .slice a2 M.funcs.length c2, .int .i64 M.m0, .int .i64 M.m1, .slice a5 M.globals.length c5, .slice a6 M.data.length c6] 29)) (fun i _ => M.data.length - (intOf i).toNat)
    case atStart => exact ⟨0, Nat.zero_le _, rfl, HB2, HR2⟩
    case round =>
      clear HB2 HR2
      obtain ⟨k, hk, rfl, HB, HR⟩ := hrel
      have hnd := SF.out.fit.nd
      by_cases hlt : k < M.data.length
      · obtain ⟨b, off, hax, hb, hi, g0, g1, g2⟩ := HD.out k hlt
        have x0 := (HB.out.cell (p := ⟨b, off + k * 3, none⟩) hb).trans g0
        have x1 := (HB.out.cell (p := ⟨b, off + k * 3 + 1, none⟩) hb).trans g1
        have x2 := (HB.out.cell (p := ⟨b, off + k * 3 + 2, none⟩) hb).trans g2
        have hw := SF.out.fit.da _ (List.getElem_mem hlt)
        have hyk := HY.out _ (List.getElem_mem hlt)
        have hok := SF.out.dat _ (List.getElem_mem hlt)
        subst hax
        clear g0 g1 g2
        generalize M.data[k] = d at *
        obtain ⟨mem, pos, bs⟩ := d
        simp only at x0 x1 x2 hyk
        simp only [whDa, idx, Bool.and_eq_true, Bool.or_eq_true, decide_eq_true_eq] at hw
        obtain ⟨hmem, hp0, hp1⟩ := hw
        obtain ⟨hs0, hs1⟩ := hok
        simp only at hs0 hs1
        have hsz : smMem (memOf M mem) = true := by
          unfold memOf; split
          · exact SF.out.fit.m0
          · exact SF.out.fit.m1
        have hcm : wr.cell? ⟨w.heap.size, 3 + mem.toNat, none⟩ = some (.int .i64 (memOf M mem)) := by
          rcases hmem with rfl | rfl
          · exact HR.out.c 3 _ rfl
          · exact HR.out.c 4 _ rfl
        have hB29 := HR.out.lt
        have m6 := HR.out.c 6 _ rfl
        have hb1 := bel_one wr (.cells #[.int .i64 mem, .int .i64 pos, .string (str bs)] 35)
        have HB3 := hide (below_next HB.out hb1)
        have HR3 := hide (HR.out.kept hb1)
        have HRd := hide (Row.made wr #[.int .i64 mem, .int .i64 pos, .string (str bs)] 35)
        have hlen : (str bs).size = bs.length := by show bs.toArray.size = bs.length; simp
        generalize memOf M mem = sz at *
        have hs3 : 3 ≤ sz ∧ sz ≤ 12 := by simp [smMem, hs0] at hsz; exact hsz
        have SH := shl_is sz hs3
        have e0 : (sz == 0) = false := by simpa using hs0
        have hpw : wrap64 (2 ^ sz.toNat) = 2 ^ sz.toNat := pw_is sz hs3
        generalize (2 : Int) ^ sz.toNat = pw at *
        have r0 := HRd.out.c 0 _ rfl
        have r1 := HRd.out.c 1 _ rfl
        have r2 := HRd.out.c 2 _ rfl
        have hwr : wrap64 (pos + (bs.length : Int)) = pos + (bs.length : Int) := by simp only [wrap64]; omega
        have hle : ¬ (pw < pos + (bs.length : Int)) := by omega
        clear hsz hs3 hs0 hs1 hi HB HR
        rcases hmem with rfl | rfl
        · have hcm0 : wr.cell? ⟨w.heap.size, 3, none⟩ = some (.int .i64 sz) := hcm
          have hcm1 : (wr.alloc (.cells #[.int .i64 0, .int .i64 pos, .string (str bs)] 35)).cell? ⟨w.heap.size, 3, none⟩ = some (.int .i64 sz) := (bel_one wr _).cell (p := ⟨w.heap.size, 3, none⟩) hB29 |>.trans hcm0
          clear hcm
          go_wp2_with fail
          go_quiet (fail)
          go_wp2_with fail
          go_roundw
          case rel => exact ⟨k + 1, by omega, by go_num, hide (bel_drewN HB3.out nq), hide (HR3.out.drewN nq)⟩
          case measure => simp [intOf]; omega
        · have hcm0 : wr.cell? ⟨w.heap.size, 4, none⟩ = some (.int .i64 sz) := hcm
          have hcm1 : (wr.alloc (.cells #[.int .i64 1, .int .i64 pos, .string (str bs)] 35)).cell? ⟨w.heap.size, 4, none⟩ = some (.int .i64 sz) := (bel_one wr _).cell (p := ⟨w.heap.size, 4, none⟩) hB29 |>.trans hcm0
          clear hcm
          go_wp2_with fail
          go_quiet (fail)
          go_wp2_with fail
          go_roundw
          case rel => exact ⟨k + 1, by omega, by go_num, hide (bel_drewN HB3.out nq), hide (HR3.out.drewN nq)⟩
          case measure => simp [intOf]; omega
      · obtain rfl : k = M.data.length := by omega
        have m6 := HR.out.c 6 _ rfl
        go_wp2_with fail
        obtain ⟨af, cf, ef, hfe⟩ := HM.out.funcs
        simp only [Value.slice.injEq, true_and] at ef
        obtain ⟨rfl, rfl⟩ := ef
        have HF := hide (show ∀ j (hj : j < M.funcs.length), ∃ b off, a2 = some ⟨b, off, none⟩ ∧ b < w.heap.size ∧ EFn (Lt w.heap.size) w b (off + j * 4) M.funcs[j] from hfe)
        obtain ⟨as', cs', es, hse⟩ := HM.out.sigs
        simp only [Value.slice.injEq, true_and] at es
        obtain ⟨rfl, rfl⟩ := es
        have HG := hide (show ∀ j (hj : j < M.sigs.length), ∃ b off, a0 = some ⟨b, off, none⟩ ∧ b < w.heap.size ∧ ESg (Lt w.heap.size) w b (off + j * 2) M.sigs[j] from hse)
        clear hfe hse m6 hnd hlt
        go_loopw [6] (fun i wr => ∃ k : Nat, k ≤ M.funcs.length ∧ i = .int .i64 k ∧ Hid (Below w.heap.size w wr) ∧ Hid (Row wr w.heap.size #[.slice a0 M.sigs.length c0, .slice a1 M.imports.length c1, .slice a2 M.funcs.length c2, .int .i64 M.m0, .int .i64 M.m1, .slice a5 M.globals.length c5, .slice a6 M.data.length c6] 29)) (fun i _ => M.funcs.length - (intOf i).toNat)
        case atStart => exact ⟨0, Nat.zero_le _, rfl, HB, HR⟩
        case round =>
          clear HB HR
          obtain ⟨i, hi, rfl, HB, HR⟩ := hrel
          have hfl := SF.out.fit.fns
          by_cases hlt : i < M.funcs.length
          · obtain ⟨b, off, hax, hb, vl, vb, hs64, g0, g1, g2, g3, sl, sb⟩ := HF.out i hlt
            obtain ⟨gg, hgg, FO⟩ := SF.out.fns i M.funcs[i] (by simp [hlt])
            have HMF := hide (List.getElem_mem hlt)
            have FN := SF.out.fit.fn _ HMF.out
            obtain ⟨al, cl', evl, hle⟩ := sl
            obtain ⟨ab, cb, evb, hbe⟩ := sb
            subst evl evb
            have x0 := (HB.out.cell (p := ⟨b, off + i * 4, none⟩) hb).trans g0
            have x1 := (HB.out.cell (p := ⟨b, off + i * 4 + 1, none⟩) hb).trans g1
            have x2 := (HB.out.cell (p := ⟨b, off + i * 4 + 2, none⟩) hb).trans g2
            have x3 := (HB.out.cell (p := ⟨b, off + i * 4 + 3, none⟩) hb).trans g3
            subst hax
            clear g0 g1 g2 g3 hle
            generalize M.funcs[i] = F at *
            obtain ⟨sg, tr, ls, bd⟩ := F
            simp only at x0 x1 x2 x3 FN hs64
            obtain ⟨⟨z, hz1, hz2⟩, hlen, hins, hhts⟩ := FO
            simp only at hz1 hlen hins
            subst hz1
            obtain ⟨b2, off2, hax2, hb2, vp, vr, s0, s1, sp, sr⟩ := HG.out z hz2
            obtain ⟨ap, cp, evp, _⟩ := sp
            subst evp
            have hpl := SF.out.fit.sg _ (List.getElem_mem hz2)
            have ecx : (cxOf M ⟨z, tr, ls, bd⟩).L = M.sigs[z].params ++ ls := by
              show (M.sigs.getD ((z : Int)).toNat sg0).params ++ ls = _
              simp [hz2]
            generalize hG : M.sigs[z] = G at *
            obtain ⟨ps, rs⟩ := G
            subst hax2
            simp only at hpl s0
            obtain ⟨hll, hbl, hrt, _, _⟩ := FN
            have hi8 : i ≤ 8 := by omega
            have hA := bel_one wr (.cells #[.int .i64 z, .bool tr, .slice al ls.length cl', .slice ab bd.length cb] 38)
            have HB3 := hide (below_next HB.out hA)
            have HR3 := hide (HR.out.kept hA)
            have RF := hide (Row.made wr #[.int .i64 z, .bool tr, .slice al ls.length cl', .slice ab bd.length cb] 38)
            have hwr1 : wr.heap.size < (wr.alloc (.cells #[.int .i64 z, .bool tr, .slice al ls.length cl', .slice ab bd.length cb] 38)).heap.size := RF.out.lt
            have HINS := hide hins
            have HRT := hide hrt
            have HHT := hide hhts
            have HGG := hide hgg
            have HBE := hide hbe
            have hi0 : ¬ (i : Int) < 0 := by omega
            have hin : (i : Int) < M.funcs.length := by omega
            have n2 := HR.out.c 2 _ rfl
            have m0 := HR3.out.c 0 _ rfl
            have m1 := HR3.out.c 1 _ rfl
            have m2 := HR3.out.c 2 _ rfl
            have m3 := HR3.out.c 3 _ rfl
            have m4 := HR3.out.c 4 _ rfl
            have m5 := HR3.out.c 5 _ rfl
            have m6 := HR3.out.c 6 _ rfl
            clear hA hins hrt hhts hgg hbe sr s1
            go_wp2_with fail
            refine (HA.out _ i HB3.out).mono ?_
            intro e w5 he
            rcases he with ⟨hn, _⟩ | ⟨k', g', a', c', hk', hg', hle', rfl, sgl, b5⟩
            · exact absurd ⟨by omega, by rw [SF.out.len]; omega⟩ hn
            · obtain rfl : i = k' := by omega
              rw [HGG.out] at hg'
              obtain rfl : gg = g' := Option.some.inj hg'
              have HB5 := hide (below_next HB3.out b5)
              have HR5 := hide (HR3.out.kept b5)
              have RF5 := hide (RF.out.kept b5)
              obtain ⟨ah, ch, eh, hhe⟩ := sgl
              simp only [Value.slice.injEq, true_and] at eh
              obtain ⟨rfl, rfl⟩ := eh
              have HH := hide (show ∀ j (hj : j < gg.length), ∃ b off, a' = some ⟨b, off, none⟩ ∧ b < w5.heap.size ∧ w5.cell? ⟨b, off + j, none⟩ = some (.int .i64 gg[j]) from fun j hj => by
                obtain ⟨b, off, e1, e2, e3, e4⟩ := hhe j hj
                rw [Nat.mul_one] at e4
                exact ⟨b, off, e1, e2.2, e4⟩)
              clear b5 hhe hk' hg' m0 m1 m2 m3 m4 m5 m6 x0 x1 x2 x3 n2
              have f0 := RF5.out.c 0 _ rfl
              have f2 := RF5.out.c 2 _ rfl
              have f3 := RF5.out.c 3 _ rfl
              have m0 := HR5.out.c 0 _ rfl
              have y0 := (HB5.out.cell (p := ⟨b2, off2 + z * 2, none⟩) hb2).trans s0
              have hz0 : ¬ (z : Int) < 0 := by omega
              have hzl : ¬ ((M.sigs.length : Int) ≤ z) := by omega
              have hzl2 : (z : Int) < M.sigs.length := by omega
              have hzl3 : decide (M.sigs.length ≤ z) = false := by simp; omega
              have hlen2 : ((gg.length : Int) != (bd.length : Int)) = false := by simp [hlen]
              go_wp2_with fail
              go_quiet (fail)
              go_wp2_with fail
              have hS5 : Hid (w.heap.size < w5.heap.size) := hide HR5.out.lt
              have hF5 : Hid (wr.heap.size < w5.heap.size) := hide RF5.out.lt
              clear f0 f2 f3 m0 y0 hz0 hzl hzl2 hzl3 hlen2
              go_loopw [11] (fun kv wx => ∃ k : Nat, k ≤ bd.length ∧ kv = .int .i64 k ∧ Hid (Below w5.heap.size w5 wx)) (fun kv _ => bd.length - (intOf kv).toNat)
              case atStart => exact ⟨0, Nat.zero_le _, rfl, hide (bel_drewN (Below.refl _ _) nq)⟩
              case round =>
                obtain ⟨k, hk, rfl, HX⟩ := hrel
                have HBx := hide (below_next HB5.out HX.out)
                have HRx := hide (HR5.out.kept HX.out)
                have RFx := hide (RF5.out.kept HX.out)
                have f3 := RFx.out.c 3 _ rfl
                by_cases hlk : k < bd.length
                · obtain ⟨b', off', hab, hb', h64, g0, g1, g2⟩ := HBE.out k hlk
                  have HXI := hide (HINS.out _ (List.getElem_mem hlk))
                  have HXR := hide (HRT.out _ (List.getElem_mem hlk))
                  have hkg : k < gg.length := by omega
                  have HXH := hide (HHT.out _ (List.getElem_mem hkg))
                  obtain ⟨b3, off3, hah, hb3, hh3⟩ := HH.out k hkg
                  have x0 := (HBx.out.cell (p := ⟨b', off' + k * 3, none⟩) hb').trans g0
                  have x1 := (HBx.out.cell (p := ⟨b', off' + k * 3 + 1, none⟩) hb').trans g1
                  have x2 := (HBx.out.cell (p := ⟨b', off' + k * 3 + 2, none⟩) hb').trans g2
                  have hx64 := h64.2.1
                  generalize bd[k] = x at *
                  obtain ⟨op, nn, mm⟩ := x
                  simp only at x0 x1 x2 hx64
                  generalize gg[k] = t at *
                  subst hab hah
                  have hk0 : ¬ (k : Int) < 0 := by omega
                  have hkn : (k : Int) < bd.length := by omega
                  have hkg2 : (k : Int) < gg.length := by omega
                  have A1 := bel_one wr (.cells #[.int .i64 op, .int .i64 nn, .int .i64 mm] 44)
                  have HX1 := hide (below_next HX.out A1)
                  have HB1x := hide (below_next HBx.out A1)
                  have HR1x := hide (HRx.out.kept A1)
                  have X1 := hide (Row.made wr #[.int .i64 op, .int .i64 nn, .int .i64 mm] 44)
                  have m0 := HR1x.out.c 0 _ rfl
                  have m1 := HR1x.out.c 1 _ rfl
                  have m2 := HR1x.out.c 2 _ rfl
                  have m3 := HR1x.out.c 3 _ rfl
                  have m4 := HR1x.out.c 4 _ rfl
                  have m5 := HR1x.out.c 5 _ rfl
                  have m6 := HR1x.out.c 6 _ rfl
                  clear h64 g0 g1 g2 A1
                  go_wp2_with fail
                  refine (CA.out _ nn hx64 HB1x.out).mono ?_
                  intro e w7 he
                  obtain ⟨q1, n1, q2, q3, n3, q4, u1, u2, rfl, b7⟩ := cal_ends he
                  have b8 := b7.alloc b7.size (.cells #[.slice q1 n1 q2, .slice q3 n3 q4] 42)
                  have D1 := hide (below_next HX1.out b8)
                  have D3 := hide (HR1x.out.kept b8)
                  have D4 := hide (X1.out.kept b8)
                  clear b7 b8 m0 m1 m2 m3 m4 m5 m6 x0 x1 x2 he f3
                  have v0 := D4.out.c 0 _ rfl
                  have v1 := D4.out.c 1 _ rfl
                  have v2 := D4.out.c 2 _ rfl
                  have hhc := (D1.out.cell (p := ⟨b3, off3 + k, none⟩) hb3).trans hh3
                  have ht1 : ¬ (t < -1) := by have := HXH.out; omega
                  have ht2 : ¬ (16 < t) := by have := HXH.out; omega
                  clear hh3
                  by_cases h16 : op = 16
                  · subst h16
                    have hq : (callee M nn).isSome = true := Option.isSome_iff_ne_none.2 (HXI.out.cal rfl)
                    rw [hq]
                    go_wp2_with fail
                    go_roundw
                    case rel => exact ⟨k + 1, by omega, by go_num, D1⟩
                    case measure => simp [intOf]; omega
                  · by_cases h32 : op = 32
                    · subst h32
                      have hn1 : ¬ (((ps.length : Int) + (ls.length : Int)) ≤ nn) := by have := HXI.out.loc (.inl rfl); rw [ecx, List.length_append] at this; simp only at this; omega
                      go_wp2_with fail
                      go_roundw
                      case rel => exact ⟨k + 1, by omega, by go_num, D1⟩
                      case measure => simp [intOf]; omega
                    · by_cases h33 : op = 33
                      · subst h33
                        have hn1 : ¬ (((ps.length : Int) + (ls.length : Int)) ≤ nn) := by have := HXI.out.loc (.inr (.inl rfl)); rw [ecx, List.length_append] at this; simp only at this; omega
                        go_wp2_with fail
                        go_roundw
                        case rel => exact ⟨k + 1, by omega, by go_num, D1⟩
                        case measure => simp [intOf]; omega
                      · by_cases h34 : op = 34
                        · subst h34
                          have hn1 : ¬ (((ps.length : Int) + (ls.length : Int)) ≤ nn) := by have := HXI.out.loc (.inr (.inr rfl)); rw [ecx, List.length_append] at this; simp only at this; omega
                          go_wp2_with fail
                          go_roundw
                          case rel => exact ⟨k + 1, by omega, by go_num, D1⟩
                          case measure => simp [intOf]; omega
                        · by_cases h35 : op = 35
                          · subst h35
                            have w5c := D3.out.c 5 _ rfl
                            have hn1 : ¬ ((M.globals.length : Int) ≤ nn) := by have := HXI.out.glo (.inl rfl); simp only [cxOf] at this; omega
                            go_wp2_with fail
                            go_roundw
                            case rel => exact ⟨k + 1, by omega, by go_num, D1⟩
                            case measure => simp [intOf]; omega
                          · by_cases h36 : op = 36
                            · subst h36
                              have w5c := D3.out.c 5 _ rfl
                              have hn1 : ¬ ((M.globals.length : Int) ≤ nn) := by have := HXI.out.glo (.inr rfl); simp only [cxOf] at this; omega
                              go_wp2_with fail
                              go_roundw
                              case rel => exact ⟨k + 1, by omega, by go_num, D1⟩
                              case measure => simp [intOf]; omega
                            · by_cases h40 : op = 40
                              · subst h40
                                have hmm := mem_rt HXR.out (.inl rfl)
                                have hmz := HXI.out.mem (.inl rfl)
                                simp only at hmm hmz
                                rcases hmm with rfl | rfl
                                · have w3 := D3.out.c 3 _ rfl
                                  have hz3 : (M.m0 == 0) = false := mz0 hmz
                                  go_wp2_with fail
                                  go_roundw
                                  case rel => exact ⟨k + 1, by omega, by go_num, D1⟩
                                  case measure => simp [intOf]; omega
                                · have w3 := D3.out.c 4 _ rfl
                                  have hz3 : (M.m1 == 0) = false := mz1 hmz
                                  go_wp2_with fail
                                  go_roundw
                                  case rel => exact ⟨k + 1, by omega, by go_num, D1⟩
                                  case measure => simp [intOf]; omega
                              · by_cases h41 : op = 41
                                · subst h41
                                  have hmm := mem_rt HXR.out (.inr (.inl rfl))
                                  have hmz := HXI.out.mem (.inr (.inl rfl))
                                  simp only at hmm hmz
                                  rcases hmm with rfl | rfl
                                  · have w3 := D3.out.c 3 _ rfl
                                    have hz3 : (M.m0 == 0) = false := mz0 hmz
                                    go_wp2_with fail
                                    go_roundw
                                    case rel => exact ⟨k + 1, by omega, by go_num, D1⟩
                                    case measure => simp [intOf]; omega
                                  · have w3 := D3.out.c 4 _ rfl
                                    have hz3 : (M.m1 == 0) = false := mz1 hmz
                                    go_wp2_with fail
                                    go_roundw
                                    case rel => exact ⟨k + 1, by omega, by go_num, D1⟩
                                    case measure => simp [intOf]; omega
                                · by_cases h54 : op = 54
                                  · subst h54
                                    have hmm := mem_rt HXR.out (.inr (.inr (.inl rfl)))
                                    have hmz := HXI.out.mem (.inr (.inr (.inl rfl)))
                                    simp only at hmm hmz
                                    rcases hmm with rfl | rfl
                                    · have w3 := D3.out.c 3 _ rfl
                                      have hz3 : (M.m0 == 0) = false := mz0 hmz
                                      go_wp2_with fail
                                      go_roundw
                                      case rel => exact ⟨k + 1, by omega, by go_num, D1⟩
                                      case measure => simp [intOf]; omega
                                    · have w3 := D3.out.c 4 _ rfl
                                      have hz3 : (M.m1 == 0) = false := mz1 hmz
                                      go_wp2_with fail
                                      go_roundw
                                      case rel => exact ⟨k + 1, by omega, by go_num, D1⟩
                                      case measure => simp [intOf]; omega
                                  · by_cases h55 : op = 55
                                    · subst h55
                                      have hmm := mem_rt HXR.out (.inr (.inr (.inr rfl)))
                                      have hmz := HXI.out.mem (.inr (.inr (.inr rfl)))
                                      simp only at hmm hmz
                                      rcases hmm with rfl | rfl
                                      · have w3 := D3.out.c 3 _ rfl
                                        have hz3 : (M.m0 == 0) = false := mz0 hmz
                                        go_wp2_with fail
                                        go_roundw
                                        case rel => exact ⟨k + 1, by omega, by go_num, D1⟩
                                        case measure => simp [intOf]; omega
                                      · have w3 := D3.out.c 4 _ rfl
                                        have hz3 : (M.m1 == 0) = false := mz1 hmz
                                        go_wp2_with fail
                                        go_roundw
                                        case rel => exact ⟨k + 1, by omega, by go_num, D1⟩
                                        case measure => simp [intOf]; omega
                                    · have e32 : (op == 32) = false := by simpa using h32
                                      have e33 : (op == 33) = false := by simpa using h33
                                      have e34 : (op == 34) = false := by simpa using h34
                                      have e35 : (op == 35) = false := by simpa using h35
                                      have e36 : (op == 36) = false := by simpa using h36
                                      have e40 : (op == 40) = false := by simpa using h40
                                      have e41 : (op == 41) = false := by simpa using h41
                                      have e54 : (op == 54) = false := by simpa using h54
                                      have e55 : (op == 55) = false := by simpa using h55
                                      have e16 : (op == 16) = false := by simpa using h16
                                      clear h32 h33 h34 h35 h36 h40 h41 h54 h55 h16
                                      go_wp2_with fail
                                      go_roundw
                                      case rel => exact ⟨k + 1, by omega, by go_num, D1⟩
                                      case measure => simp [intOf]; omega
                · obtain rfl : k = bd.length := by omega
                  go_wp2_with fail
                  go_roundw
                  case rel => exact ⟨i + 1, by omega, by go_num, HBx, HRx⟩
                  case measure => simp [intOf]; omega
          · obtain rfl : i = M.funcs.length := by omega
            have n2 := HR.out.c 2 _ rfl
            go_wp2_with fail
            go_ret
            exact ⟨rfl, HB.out⟩
end Go.Proofs.YtamofhkmhjckaabGreatDoor
