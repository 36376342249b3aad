/-
  Two modules that may be written have the same bytes just if they are the same: the walk of the statement WbinApart, for every two modules whose data have at most 9000000 bytes each.
-/
import Derived.Test.YtcbfpikggphokaaGreatDoorSame
import Derived.Test.YtcbfpikggphokaaGreatDoorPure
namespace Go.Proofs.YtcbfpikggphokaaGreatDoor
open Go.RowKit

theorem encE_0 {M : Mo} (h : encE M = 0) : fitE M = 0 ∧ ¬ 4000 < (encM M).length := by
  unfold encE at h
  split at h
  · split at h
    · cases h
    · exact ⟨by assumption, by assumption⟩
  · exact absurd h (by assumption)
theorem encode_yes (V : MoV) (M : Mo) (w : World) (hd : ∀ d ∈ M.data, d.bytes.length ≤ 9000000) (h : IsMo w.heap.size w V M) (he : encE M = 0) :
    Calls Tryz.prog 10 #[moV V M] w fun e w' => e = .returned (.tuple #[.string (str (encM M)), .nilIface]) ∧ Below w.heap.size w w' := by
  obtain ⟨h1, h2⟩ := encE_0 he
  exact encode_ok V M w hd h h1 h2
theorem encode_no (V : MoV) (M : Mo) (w : World) (hd : ∀ d ∈ M.data, d.bytes.length ≤ 9000000) (h : IsMo w.heap.size w V M) (he : encE M ≠ 0) :
    Calls Tryz.prog 10 #[moV V M] w fun e w' => ∃ p, e = .returned (.tuple #[.string (str []), flt p]) ∧ FaultAt w' p (encE M) 0 ∧ Below w.heap.size w w' := by
  by_cases hf : fitE M = 0
  · by_cases hl : 4000 < (encM M).length
    · have e1 : encE M = 1 := by simp [encE, hf, hl]
      rw [e1]
      exact (encode_long V M w hd h hf hl).mono fun e w' ⟨p, h1, h2, _, h3⟩ => ⟨p, h1, h2, h3⟩
    · exact absurd (by simp [encE, hf, hl]) he
  · have e1 : encE M = fitE M := by simp [encE, hf]
    rw [e1]
    exact (encode_misfit V M w h hf).mono fun e w' ⟨p, h1, h2, _, h3⟩ => ⟨p, h1, h2, h3⟩
theorem fine_of {B : Nat} {W : World} {V : MoV} {M : Mo} (h : IsMo B W V M) (hd : ∀ d ∈ M.data, d.bytes.length ≤ 9000000) (he : encE M = 0) : Fine M := by
  refine ⟨fit_of (encE_0 he).1, ?_, ?_, hd⟩
  · intro g hg
    obtain ⟨j, hj, rfl⟩ := List.getElem_of_mem hg
    obtain ⟨_, _, _, e⟩ := h.globals
    obtain ⟨_, _, _, _, hi, _⟩ := e j hj
    exact hi.2
  · intro f hf x hx
    obtain ⟨j, hj, rfl⟩ := List.getElem_of_mem hf
    obtain ⟨_, _, _, e⟩ := h.funcs
    obtain ⟨_, _, _, _, _, _, _, _, _, _, _, _, hb⟩ := e j hj
    obtain ⟨t, ht, rfl⟩ := List.getElem_of_mem hx
    obtain ⟨_, _, _, e2⟩ := hb
    obtain ⟨_, _, _, _, hi, _⟩ := e2 t ht
    exact hi.2.1
theorem str_inj {a b : List UInt8} : str a = str b ↔ a = b := by
  constructor
  · intro h
    have := congrArg (fun s => s.data.toList) h
    simpa [str] using this
  · intro h; rw [h]
set_option maxRecDepth 100000 in
set_option maxHeartbeats 3200000 in
theorem apart_nn (V U : MoV) (M K : Mo) (w : World) (hL : Laid w) (h : IsMo w.heap.size w V M) (hd : ∀ d ∈ M.data, d.bytes.length ≤ 9000000) (g : IsMo w.heap.size w U K) (hd2 : ∀ d ∈ K.data, d.bytes.length ≤ 9000000) (he : encE M ≠ 0) (hk : encE K ≠ 0) :
    Calls Tryz.prog 6 #[moV V M, moV U K] w fun e w' => e = .returned (.bool true) ∧ Below w.heap.size w w' := by
  have HM := hide h
  have HK := hide g
  obtain ⟨a0, k0, a1, k1, a2, k2, a5, k5, a6, k6, rfl⟩ := h.forms
  obtain ⟨qq0, j0, qq1, j1, qq2, j2, qq5, j5, qq6, j6, rfl⟩ := g.forms
  have hb0 := (bel_one w (.cells #[.slice a0 M.sigs.length k0, .slice a1 M.imports.length k1, .slice a2 M.funcs.length k2, .int .i64 M.m0, .int .i64 M.m1, .slice a5 M.globals.length k5, .slice a6 M.data.length k6] 29)).alloc (by simp) (.cells #[.slice qq0 K.sigs.length j0, .slice qq1 K.imports.length j1, .slice qq2 K.funcs.length j2, .int .i64 K.m0, .int .i64 K.m1, .slice qq5 K.globals.length j5, .slice qq6 K.data.length j6] 29)
  have RA := hide ((Row.made w #[.slice a0 M.sigs.length k0, .slice a1 M.imports.length k1, .slice a2 M.funcs.length k2, .int .i64 M.m0, .int .i64 M.m1, .slice a5 M.globals.length k5, .slice a6 M.data.length k6] 29).alloc (.cells #[.slice qq0 K.sigs.length j0, .slice qq1 K.imports.length j1, .slice qq2 K.funcs.length j2, .int .i64 K.m0, .int .i64 K.m1, .slice qq5 K.globals.length j5, .slice qq6 K.data.length j6] 29))
  have RB : Hid (Row ((w.alloc (.cells #[.slice a0 M.sigs.length k0, .slice a1 M.imports.length k1, .slice a2 M.funcs.length k2, .int .i64 M.m0, .int .i64 M.m1, .slice a5 M.globals.length k5, .slice a6 M.data.length k6] 29)).alloc (.cells #[.slice qq0 K.sigs.length j0, .slice qq1 K.imports.length j1, .slice qq2 K.funcs.length j2, .int .i64 K.m0, .int .i64 K.m1, .slice qq5 K.globals.length j5, .slice qq6 K.data.length j6] 29)) (w.heap.size + 1) #[.slice qq0 K.sigs.length j0, .slice qq1 K.imports.length j1, .slice qq2 K.funcs.length j2, .int .i64 K.m0, .int .i64 K.m1, .slice qq5 K.globals.length j5, .slice qq6 K.data.length j6] 29) := hide (by
    have := Row.made (w.alloc (.cells #[.slice a0 M.sigs.length k0, .slice a1 M.imports.length k1, .slice a2 M.funcs.length k2, .int .i64 M.m0, .int .i64 M.m1, .slice a5 M.globals.length k5, .slice a6 M.data.length k6] 29)) #[.slice qq0 K.sigs.length j0, .slice qq1 K.imports.length j1, .slice qq2 K.funcs.length j2, .int .i64 K.m0, .int .i64 K.m1, .slice qq5 K.globals.length j5, .slice qq6 K.data.length j6] 29
    simpa using this)
  have EX := hide (examples_any _ (hL.kept hb0))
  have E1 := hide (fun w1 (b1 : Below w.heap.size w w1) => encode_no _ M w1 hd (HM.out.step b1 b1.size) he)
  have E2 := hide (fun w1 (b1 : Below w.heap.size w w1) => encode_no _ K w1 hd2 (HK.out.step b1 b1.size) hk)
  clear h g HM HK hd hd2 he hk hL
  unfold moV at *
  dsimp only at *
  go_enter Tryz.func6, Tryz.ntmps6
  go_wp2_with fail
  refine EX.out.mono ?_
  rintro r w1 ⟨rfl, b1⟩
  have hb1 := hb0.trans (b1.mono hb0.size)
  have RA1 := hide (RA.out.kept b1)
  have RB1 := hide (RB.out.kept b1)
  have c0 := RA1.out.c 0 (.slice a0 M.sigs.length k0) rfl
  have c1 := RA1.out.c 1 (.slice a1 M.imports.length k1) rfl
  have c2 := RA1.out.c 2 (.slice a2 M.funcs.length k2) rfl
  have c3 := RA1.out.c 3 (.int .i64 M.m0) rfl
  have c4 := RA1.out.c 4 (.int .i64 M.m1) rfl
  have c5 := RA1.out.c 5 (.slice a5 M.globals.length k5) rfl
  have c6 := RA1.out.c 6 (.slice a6 M.data.length k6) rfl
  have D1 := hide (E1.out w1 hb1)
  clear b1 EX RA RB E1 hb0
  go_wp2_with fail
  refine D1.out.mono ?_
  rintro r w2 ⟨p, rfl, _, b2⟩
  have hb2 := below_next hb1 b2
  have RA2 := hide (RA1.out.kept b2)
  have RB2 := hide (RB1.out.kept b2)
  have d0 := RB2.out.c 0 (.slice qq0 K.sigs.length j0) rfl
  have d1 := RB2.out.c 1 (.slice qq1 K.imports.length j1) rfl
  have d2 := RB2.out.c 2 (.slice qq2 K.funcs.length j2) rfl
  have d3 := RB2.out.c 3 (.int .i64 K.m0) rfl
  have d4 := RB2.out.c 4 (.int .i64 K.m1) rfl
  have d5 := RB2.out.c 5 (.slice qq5 K.globals.length j5) rfl
  have d6 := RB2.out.c 6 (.slice qq6 K.data.length j6) rfl
  have D2 := hide (E2.out w2 hb2)
  clear b2 D1 RA1 RB1 E2 hb1 c0 c1 c2 c3 c4 c5 c6
  unfold flt
  go_wp2_with fail
  refine D2.out.mono ?_
  rintro r w3 ⟨q, rfl, _, b3⟩
  have hb3 := below_next hb2 b3
  clear b3 D2 d0 d1 d2 d3 d4 d5 d6
  unfold flt
  go_wp2_with fail
  go_ret
  exact ⟨rfl, hb3⟩
set_option maxRecDepth 100000 in
set_option maxHeartbeats 3200000 in
theorem apart_ny (V U : MoV) (M K : Mo) (w : World) (hL : Laid w) (h : IsMo w.heap.size w V M) (hd : ∀ d ∈ M.data, d.bytes.length ≤ 9000000) (g : IsMo w.heap.size w U K) (hd2 : ∀ d ∈ K.data, d.bytes.length ≤ 9000000) (he : encE M ≠ 0) (hk : encE K = 0) :
    Calls Tryz.prog 6 #[moV V M, moV U K] w fun e w' => e = .returned (.bool true) ∧ Below w.heap.size w w' := by
  have HM := hide h
  have HK := hide g
  obtain ⟨a0, k0, a1, k1, a2, k2, a5, k5, a6, k6, rfl⟩ := h.forms
  obtain ⟨qq0, j0, qq1, j1, qq2, j2, qq5, j5, qq6, j6, rfl⟩ := g.forms
  have hb0 := (bel_one w (.cells #[.slice a0 M.sigs.length k0, .slice a1 M.imports.length k1, .slice a2 M.funcs.length k2, .int .i64 M.m0, .int .i64 M.m1, .slice a5 M.globals.length k5, .slice a6 M.data.length k6] 29)).alloc (by simp) (.cells #[.slice qq0 K.sigs.length j0, .slice qq1 K.imports.length j1, .slice qq2 K.funcs.length j2, .int .i64 K.m0, .int .i64 K.m1, .slice qq5 K.globals.length j5, .slice qq6 K.data.length j6] 29)
  have RA := hide ((Row.made w #[.slice a0 M.sigs.length k0, .slice a1 M.imports.length k1, .slice a2 M.funcs.length k2, .int .i64 M.m0, .int .i64 M.m1, .slice a5 M.globals.length k5, .slice a6 M.data.length k6] 29).alloc (.cells #[.slice qq0 K.sigs.length j0, .slice qq1 K.imports.length j1, .slice qq2 K.funcs.length j2, .int .i64 K.m0, .int .i64 K.m1, .slice qq5 K.globals.length j5, .slice qq6 K.data.length j6] 29))
  have RB : Hid (Row ((w.alloc (.cells #[.slice a0 M.sigs.length k0, .slice a1 M.imports.length k1, .slice a2 M.funcs.length k2, .int .i64 M.m0, .int .i64 M.m1, .slice a5 M.globals.length k5, .slice a6 M.data.length k6] 29)).alloc (.cells #[.slice qq0 K.sigs.length j0, .slice qq1 K.imports.length j1, .slice qq2 K.funcs.length j2, .int .i64 K.m0, .int .i64 K.m1, .slice qq5 K.globals.length j5, .slice qq6 K.data.length j6] 29)) (w.heap.size + 1) #[.slice qq0 K.sigs.length j0, .slice qq1 K.imports.length j1, .slice qq2 K.funcs.length j2, .int .i64 K.m0, .int .i64 K.m1, .slice qq5 K.globals.length j5, .slice qq6 K.data.length j6] 29) := hide (by
    have := Row.made (w.alloc (.cells #[.slice a0 M.sigs.length k0, .slice a1 M.imports.length k1, .slice a2 M.funcs.length k2, .int .i64 M.m0, .int .i64 M.m1, .slice a5 M.globals.length k5, .slice a6 M.data.length k6] 29)) #[.slice qq0 K.sigs.length j0, .slice qq1 K.imports.length j1, .slice qq2 K.funcs.length j2, .int .i64 K.m0, .int .i64 K.m1, .slice qq5 K.globals.length j5, .slice qq6 K.data.length j6] 29
    simpa using this)
  have EX := hide (examples_any _ (hL.kept hb0))
  have E1 := hide (fun w1 (b1 : Below w.heap.size w w1) => encode_no _ M w1 hd (HM.out.step b1 b1.size) he)
  have E2 := hide (fun w1 (b1 : Below w.heap.size w w1) => encode_yes _ K w1 hd2 (HK.out.step b1 b1.size) hk)
  clear h g HM HK hd hd2 he hk hL
  unfold moV at *
  dsimp only at *
  go_enter Tryz.func6, Tryz.ntmps6
  go_wp2_with fail
  refine EX.out.mono ?_
  rintro r w1 ⟨rfl, b1⟩
  have hb1 := hb0.trans (b1.mono hb0.size)
  have RA1 := hide (RA.out.kept b1)
  have RB1 := hide (RB.out.kept b1)
  have c0 := RA1.out.c 0 (.slice a0 M.sigs.length k0) rfl
  have c1 := RA1.out.c 1 (.slice a1 M.imports.length k1) rfl
  have c2 := RA1.out.c 2 (.slice a2 M.funcs.length k2) rfl
  have c3 := RA1.out.c 3 (.int .i64 M.m0) rfl
  have c4 := RA1.out.c 4 (.int .i64 M.m1) rfl
  have c5 := RA1.out.c 5 (.slice a5 M.globals.length k5) rfl
  have c6 := RA1.out.c 6 (.slice a6 M.data.length k6) rfl
  have D1 := hide (E1.out w1 hb1)
  clear b1 EX RA RB E1 hb0
  go_wp2_with fail
  refine D1.out.mono ?_
  rintro r w2 ⟨p, rfl, _, b2⟩
  have hb2 := below_next hb1 b2
  have RA2 := hide (RA1.out.kept b2)
  have RB2 := hide (RB1.out.kept b2)
  have d0 := RB2.out.c 0 (.slice qq0 K.sigs.length j0) rfl
  have d1 := RB2.out.c 1 (.slice qq1 K.imports.length j1) rfl
  have d2 := RB2.out.c 2 (.slice qq2 K.funcs.length j2) rfl
  have d3 := RB2.out.c 3 (.int .i64 K.m0) rfl
  have d4 := RB2.out.c 4 (.int .i64 K.m1) rfl
  have d5 := RB2.out.c 5 (.slice qq5 K.globals.length j5) rfl
  have d6 := RB2.out.c 6 (.slice qq6 K.data.length j6) rfl
  have D2 := hide (E2.out w2 hb2)
  clear b2 D1 RA1 RB1 E2 hb1 c0 c1 c2 c3 c4 c5 c6
  unfold flt
  go_wp2_with fail
  refine D2.out.mono ?_
  rintro r w3 ⟨rfl, b3⟩
  have hb3 := below_next hb2 b3
  clear b3 D2 d0 d1 d2 d3 d4 d5 d6
  go_wp2_with fail
  go_ret
  exact ⟨rfl, hb3⟩
set_option maxRecDepth 100000 in
set_option maxHeartbeats 3200000 in
theorem apart_yn (V U : MoV) (M K : Mo) (w : World) (hL : Laid w) (h : IsMo w.heap.size w V M) (hd : ∀ d ∈ M.data, d.bytes.length ≤ 9000000) (g : IsMo w.heap.size w U K) (hd2 : ∀ d ∈ K.data, d.bytes.length ≤ 9000000) (he : encE M = 0) (hk : encE K ≠ 0) :
    Calls Tryz.prog 6 #[moV V M, moV U K] w fun e w' => e = .returned (.bool true) ∧ Below w.heap.size w w' := by
  have HM := hide h
  have HK := hide g
  obtain ⟨a0, k0, a1, k1, a2, k2, a5, k5, a6, k6, rfl⟩ := h.forms
  obtain ⟨qq0, j0, qq1, j1, qq2, j2, qq5, j5, qq6, j6, rfl⟩ := g.forms
  have hb0 := (bel_one w (.cells #[.slice a0 M.sigs.length k0, .slice a1 M.imports.length k1, .slice a2 M.funcs.length k2, .int .i64 M.m0, .int .i64 M.m1, .slice a5 M.globals.length k5, .slice a6 M.data.length k6] 29)).alloc (by simp) (.cells #[.slice qq0 K.sigs.length j0, .slice qq1 K.imports.length j1, .slice qq2 K.funcs.length j2, .int .i64 K.m0, .int .i64 K.m1, .slice qq5 K.globals.length j5, .slice qq6 K.data.length j6] 29)
  have RA := hide ((Row.made w #[.slice a0 M.sigs.length k0, .slice a1 M.imports.length k1, .slice a2 M.funcs.length k2, .int .i64 M.m0, .int .i64 M.m1, .slice a5 M.globals.length k5, .slice a6 M.data.length k6] 29).alloc (.cells #[.slice qq0 K.sigs.length j0, .slice qq1 K.imports.length j1, .slice qq2 K.funcs.length j2, .int .i64 K.m0, .int .i64 K.m1, .slice qq5 K.globals.length j5, .slice qq6 K.data.length j6] 29))
  have RB : Hid (Row ((w.alloc (.cells #[.slice a0 M.sigs.length k0, .slice a1 M.imports.length k1, .slice a2 M.funcs.length k2, .int .i64 M.m0, .int .i64 M.m1, .slice a5 M.globals.length k5, .slice a6 M.data.length k6] 29)).alloc (.cells #[.slice qq0 K.sigs.length j0, .slice qq1 K.imports.length j1, .slice qq2 K.funcs.length j2, .int .i64 K.m0, .int .i64 K.m1, .slice qq5 K.globals.length j5, .slice qq6 K.data.length j6] 29)) (w.heap.size + 1) #[.slice qq0 K.sigs.length j0, .slice qq1 K.imports.length j1, .slice qq2 K.funcs.length j2, .int .i64 K.m0, .int .i64 K.m1, .slice qq5 K.globals.length j5, .slice qq6 K.data.length j6] 29) := hide (by
    have := Row.made (w.alloc (.cells #[.slice a0 M.sigs.length k0, .slice a1 M.imports.length k1, .slice a2 M.funcs.length k2, .int .i64 M.m0, .int .i64 M.m1, .slice a5 M.globals.length k5, .slice a6 M.data.length k6] 29)) #[.slice qq0 K.sigs.length j0, .slice qq1 K.imports.length j1, .slice qq2 K.funcs.length j2, .int .i64 K.m0, .int .i64 K.m1, .slice qq5 K.globals.length j5, .slice qq6 K.data.length j6] 29
    simpa using this)
  have EX := hide (examples_any _ (hL.kept hb0))
  have E1 := hide (fun w1 (b1 : Below w.heap.size w w1) => encode_yes _ M w1 hd (HM.out.step b1 b1.size) he)
  have E2 := hide (fun w1 (b1 : Below w.heap.size w w1) => encode_no _ K w1 hd2 (HK.out.step b1 b1.size) hk)
  clear h g HM HK hd hd2 he hk hL
  unfold moV at *
  dsimp only at *
  go_enter Tryz.func6, Tryz.ntmps6
  go_wp2_with fail
  refine EX.out.mono ?_
  rintro r w1 ⟨rfl, b1⟩
  have hb1 := hb0.trans (b1.mono hb0.size)
  have RA1 := hide (RA.out.kept b1)
  have RB1 := hide (RB.out.kept b1)
  have c0 := RA1.out.c 0 (.slice a0 M.sigs.length k0) rfl
  have c1 := RA1.out.c 1 (.slice a1 M.imports.length k1) rfl
  have c2 := RA1.out.c 2 (.slice a2 M.funcs.length k2) rfl
  have c3 := RA1.out.c 3 (.int .i64 M.m0) rfl
  have c4 := RA1.out.c 4 (.int .i64 M.m1) rfl
  have c5 := RA1.out.c 5 (.slice a5 M.globals.length k5) rfl
  have c6 := RA1.out.c 6 (.slice a6 M.data.length k6) rfl
  have D1 := hide (E1.out w1 hb1)
  clear b1 EX RA RB E1 hb0
  go_wp2_with fail
  refine D1.out.mono ?_
  rintro r w2 ⟨rfl, b2⟩
  have hb2 := below_next hb1 b2
  have RA2 := hide (RA1.out.kept b2)
  have RB2 := hide (RB1.out.kept b2)
  have d0 := RB2.out.c 0 (.slice qq0 K.sigs.length j0) rfl
  have d1 := RB2.out.c 1 (.slice qq1 K.imports.length j1) rfl
  have d2 := RB2.out.c 2 (.slice qq2 K.funcs.length j2) rfl
  have d3 := RB2.out.c 3 (.int .i64 K.m0) rfl
  have d4 := RB2.out.c 4 (.int .i64 K.m1) rfl
  have d5 := RB2.out.c 5 (.slice qq5 K.globals.length j5) rfl
  have d6 := RB2.out.c 6 (.slice qq6 K.data.length j6) rfl
  have D2 := hide (E2.out w2 hb2)
  clear b2 D1 RA1 RB1 E2 hb1 c0 c1 c2 c3 c4 c5 c6
  go_wp2_with fail
  refine D2.out.mono ?_
  rintro r w3 ⟨q, rfl, _, b3⟩
  have hb3 := below_next hb2 b3
  clear b3 D2 d0 d1 d2 d3 d4 d5 d6
  unfold flt
  go_wp2_with fail
  go_ret
  exact ⟨rfl, hb3⟩
set_option maxRecDepth 100000 in
set_option maxHeartbeats 3200000 in
theorem apart_eq (V U : MoV) (M K : Mo) (w : World) (hL : Laid w) (h : IsMo w.heap.size w V M) (hd : ∀ d ∈ M.data, d.bytes.length ≤ 9000000) (g : IsMo w.heap.size w U K) (hd2 : ∀ d ∈ K.data, d.bytes.length ≤ 9000000) (he : encE M = 0) (hk : encE K = 0) (hq : M = K) :
    Calls Tryz.prog 6 #[moV V M, moV U K] w fun e w' => e = .returned (.bool true) ∧ Below w.heap.size w w' := by
  have HM := hide h
  have HK := hide g
  obtain ⟨a0, k0, a1, k1, a2, k2, a5, k5, a6, k6, rfl⟩ := h.forms
  obtain ⟨qq0, j0, qq1, j1, qq2, j2, qq5, j5, qq6, j6, rfl⟩ := g.forms
  have hb0 := (bel_one w (.cells #[.slice a0 M.sigs.length k0, .slice a1 M.imports.length k1, .slice a2 M.funcs.length k2, .int .i64 M.m0, .int .i64 M.m1, .slice a5 M.globals.length k5, .slice a6 M.data.length k6] 29)).alloc (by simp) (.cells #[.slice qq0 K.sigs.length j0, .slice qq1 K.imports.length j1, .slice qq2 K.funcs.length j2, .int .i64 K.m0, .int .i64 K.m1, .slice qq5 K.globals.length j5, .slice qq6 K.data.length j6] 29)
  have RA := hide ((Row.made w #[.slice a0 M.sigs.length k0, .slice a1 M.imports.length k1, .slice a2 M.funcs.length k2, .int .i64 M.m0, .int .i64 M.m1, .slice a5 M.globals.length k5, .slice a6 M.data.length k6] 29).alloc (.cells #[.slice qq0 K.sigs.length j0, .slice qq1 K.imports.length j1, .slice qq2 K.funcs.length j2, .int .i64 K.m0, .int .i64 K.m1, .slice qq5 K.globals.length j5, .slice qq6 K.data.length j6] 29))
  have RB : Hid (Row ((w.alloc (.cells #[.slice a0 M.sigs.length k0, .slice a1 M.imports.length k1, .slice a2 M.funcs.length k2, .int .i64 M.m0, .int .i64 M.m1, .slice a5 M.globals.length k5, .slice a6 M.data.length k6] 29)).alloc (.cells #[.slice qq0 K.sigs.length j0, .slice qq1 K.imports.length j1, .slice qq2 K.funcs.length j2, .int .i64 K.m0, .int .i64 K.m1, .slice qq5 K.globals.length j5, .slice qq6 K.data.length j6] 29)) (w.heap.size + 1) #[.slice qq0 K.sigs.length j0, .slice qq1 K.imports.length j1, .slice qq2 K.funcs.length j2, .int .i64 K.m0, .int .i64 K.m1, .slice qq5 K.globals.length j5, .slice qq6 K.data.length j6] 29) := hide (by
    have := Row.made (w.alloc (.cells #[.slice a0 M.sigs.length k0, .slice a1 M.imports.length k1, .slice a2 M.funcs.length k2, .int .i64 M.m0, .int .i64 M.m1, .slice a5 M.globals.length k5, .slice a6 M.data.length k6] 29)) #[.slice qq0 K.sigs.length j0, .slice qq1 K.imports.length j1, .slice qq2 K.funcs.length j2, .int .i64 K.m0, .int .i64 K.m1, .slice qq5 K.globals.length j5, .slice qq6 K.data.length j6] 29
    simpa using this)
  have EX := hide (examples_any _ (hL.kept hb0))
  have E1 := hide (fun w1 (b1 : Below w.heap.size w w1) => encode_yes _ M w1 hd (HM.out.step b1 b1.size) he)
  have E2 := hide (fun w1 (b1 : Below w.heap.size w w1) => encode_yes _ K w1 hd2 (HK.out.step b1 b1.size) hk)
  have F := (fine_of h hd he).toFit
  have SA := hide (fun w1 (b1 : Below w.heap.size w w1) => same_is _ _ M K true w1 F (HM.out.step b1 b1.size) (HK.out.step b1 b1.size) ⟨fun _ => hq, fun _ => rfl⟩)
  have TT : Hid (((str (encM M)).toList == (str (encM K)).toList) = true) := hide (by rw [hq]; simp)
  clear h g HM HK hd hd2 he hk hL F hq
  unfold moV at *
  dsimp only at *
  go_enter Tryz.func6, Tryz.ntmps6
  go_wp2_with fail
  refine EX.out.mono ?_
  rintro r w1 ⟨rfl, b1⟩
  have hb1 := hb0.trans (b1.mono hb0.size)
  have RA1 := hide (RA.out.kept b1)
  have RB1 := hide (RB.out.kept b1)
  have c0 := RA1.out.c 0 (.slice a0 M.sigs.length k0) rfl
  have c1 := RA1.out.c 1 (.slice a1 M.imports.length k1) rfl
  have c2 := RA1.out.c 2 (.slice a2 M.funcs.length k2) rfl
  have c3 := RA1.out.c 3 (.int .i64 M.m0) rfl
  have c4 := RA1.out.c 4 (.int .i64 M.m1) rfl
  have c5 := RA1.out.c 5 (.slice a5 M.globals.length k5) rfl
  have c6 := RA1.out.c 6 (.slice a6 M.data.length k6) rfl
  have D1 := hide (E1.out w1 hb1)
  clear b1 EX RA RB E1 hb0
  go_wp2_with fail
  refine D1.out.mono ?_
  rintro r w2 ⟨rfl, b2⟩
  have hb2 := below_next hb1 b2
  have RA2 := hide (RA1.out.kept b2)
  have RB2 := hide (RB1.out.kept b2)
  have d0 := RB2.out.c 0 (.slice qq0 K.sigs.length j0) rfl
  have d1 := RB2.out.c 1 (.slice qq1 K.imports.length j1) rfl
  have d2 := RB2.out.c 2 (.slice qq2 K.funcs.length j2) rfl
  have d3 := RB2.out.c 3 (.int .i64 K.m0) rfl
  have d4 := RB2.out.c 4 (.int .i64 K.m1) rfl
  have d5 := RB2.out.c 5 (.slice qq5 K.globals.length j5) rfl
  have d6 := RB2.out.c 6 (.slice qq6 K.data.length j6) rfl
  have D2 := hide (E2.out w2 hb2)
  clear b2 D1 RA1 RB1 E2 hb1 c0 c1 c2 c3 c4 c5 c6
  go_wp2_with fail
  refine D2.out.mono ?_
  rintro r w3 ⟨rfl, b3⟩
  have hb3 := below_next hb2 b3
  have RA3 := hide (RA2.out.kept b3)
  have RB3 := hide (RB2.out.kept b3)
  have x0 := RA3.out.c 0 (.slice a0 M.sigs.length k0) rfl
  have y0 := RB3.out.c 0 (.slice qq0 K.sigs.length j0) rfl
  have x1 := RA3.out.c 1 (.slice a1 M.imports.length k1) rfl
  have y1 := RB3.out.c 1 (.slice qq1 K.imports.length j1) rfl
  have x2 := RA3.out.c 2 (.slice a2 M.funcs.length k2) rfl
  have y2 := RB3.out.c 2 (.slice qq2 K.funcs.length j2) rfl
  have x3 := RA3.out.c 3 (.int .i64 M.m0) rfl
  have y3 := RB3.out.c 3 (.int .i64 K.m0) rfl
  have x4 := RA3.out.c 4 (.int .i64 M.m1) rfl
  have y4 := RB3.out.c 4 (.int .i64 K.m1) rfl
  have x5 := RA3.out.c 5 (.slice a5 M.globals.length k5) rfl
  have y5 := RB3.out.c 5 (.slice qq5 K.globals.length j5) rfl
  have x6 := RA3.out.c 6 (.slice a6 M.data.length k6) rfl
  have y6 := RB3.out.c 6 (.slice qq6 K.data.length j6) rfl
  have S3 := hide (SA.out w3 hb3)
  clear b3 D2 SA RA2 RB2 hb2 d0 d1 d2 d3 d4 d5 d6
  go_wp2_with fail
  refine S3.out.mono ?_
  rintro r w4 ⟨rfl, b4⟩
  have hb4 := below_next hb3 b4
  have tt := TT.out
  go_wp2_with fail
  go_ret
  exact ⟨rfl, hb4⟩
set_option maxRecDepth 100000 in
set_option maxHeartbeats 3200000 in
theorem apart_ne (V U : MoV) (M K : Mo) (w : World) (hL : Laid w) (h : IsMo w.heap.size w V M) (hd : ∀ d ∈ M.data, d.bytes.length ≤ 9000000) (g : IsMo w.heap.size w U K) (hd2 : ∀ d ∈ K.data, d.bytes.length ≤ 9000000) (he : encE M = 0) (hk : encE K = 0) (hq : M ≠ K) :
    Calls Tryz.prog 6 #[moV V M, moV U K] w fun e w' => e = .returned (.bool true) ∧ Below w.heap.size w w' := by
  have HM := hide h
  have HK := hide g
  obtain ⟨a0, k0, a1, k1, a2, k2, a5, k5, a6, k6, rfl⟩ := h.forms
  obtain ⟨qq0, j0, qq1, j1, qq2, j2, qq5, j5, qq6, j6, rfl⟩ := g.forms
  have hb0 := (bel_one w (.cells #[.slice a0 M.sigs.length k0, .slice a1 M.imports.length k1, .slice a2 M.funcs.length k2, .int .i64 M.m0, .int .i64 M.m1, .slice a5 M.globals.length k5, .slice a6 M.data.length k6] 29)).alloc (by simp) (.cells #[.slice qq0 K.sigs.length j0, .slice qq1 K.imports.length j1, .slice qq2 K.funcs.length j2, .int .i64 K.m0, .int .i64 K.m1, .slice qq5 K.globals.length j5, .slice qq6 K.data.length j6] 29)
  have RA := hide ((Row.made w #[.slice a0 M.sigs.length k0, .slice a1 M.imports.length k1, .slice a2 M.funcs.length k2, .int .i64 M.m0, .int .i64 M.m1, .slice a5 M.globals.length k5, .slice a6 M.data.length k6] 29).alloc (.cells #[.slice qq0 K.sigs.length j0, .slice qq1 K.imports.length j1, .slice qq2 K.funcs.length j2, .int .i64 K.m0, .int .i64 K.m1, .slice qq5 K.globals.length j5, .slice qq6 K.data.length j6] 29))
  have RB : Hid (Row ((w.alloc (.cells #[.slice a0 M.sigs.length k0, .slice a1 M.imports.length k1, .slice a2 M.funcs.length k2, .int .i64 M.m0, .int .i64 M.m1, .slice a5 M.globals.length k5, .slice a6 M.data.length k6] 29)).alloc (.cells #[.slice qq0 K.sigs.length j0, .slice qq1 K.imports.length j1, .slice qq2 K.funcs.length j2, .int .i64 K.m0, .int .i64 K.m1, .slice qq5 K.globals.length j5, .slice qq6 K.data.length j6] 29)) (w.heap.size + 1) #[.slice qq0 K.sigs.length j0, .slice qq1 K.imports.length j1, .slice qq2 K.funcs.length j2, .int .i64 K.m0, .int .i64 K.m1, .slice qq5 K.globals.length j5, .slice qq6 K.data.length j6] 29) := hide (by
    have := Row.made (w.alloc (.cells #[.slice a0 M.sigs.length k0, .slice a1 M.imports.length k1, .slice a2 M.funcs.length k2, .int .i64 M.m0, .int .i64 M.m1, .slice a5 M.globals.length k5, .slice a6 M.data.length k6] 29)) #[.slice qq0 K.sigs.length j0, .slice qq1 K.imports.length j1, .slice qq2 K.funcs.length j2, .int .i64 K.m0, .int .i64 K.m1, .slice qq5 K.globals.length j5, .slice qq6 K.data.length j6] 29
    simpa using this)
  have EX := hide (examples_any _ (hL.kept hb0))
  have E1 := hide (fun w1 (b1 : Below w.heap.size w w1) => encode_yes _ M w1 hd (HM.out.step b1 b1.size) he)
  have E2 := hide (fun w1 (b1 : Below w.heap.size w w1) => encode_yes _ K w1 hd2 (HK.out.step b1 b1.size) hk)
  have F := (fine_of h hd he).toFit
  have hi := encM_inj (fine_of h hd he) (fine_of g hd2 hk)
  have SA := hide (fun w1 (b1 : Below w.heap.size w w1) => same_is _ _ M K false w1 F (HM.out.step b1 b1.size) (HK.out.step b1 b1.size) ⟨(fun h => by cases h), fun h => absurd h hq⟩)
  have TT : Hid (((str (encM M)).toList == (str (encM K)).toList) = false) := hide (by rw [str_tl, str_tl]; simpa using fun h => hq (hi h))
  clear h g HM HK hd hd2 he hk hL F hq hi
  unfold moV at *
  dsimp only at *
  go_enter Tryz.func6, Tryz.ntmps6
  go_wp2_with fail
  refine EX.out.mono ?_
  rintro r w1 ⟨rfl, b1⟩
  have hb1 := hb0.trans (b1.mono hb0.size)
  have RA1 := hide (RA.out.kept b1)
  have RB1 := hide (RB.out.kept b1)
  have c0 := RA1.out.c 0 (.slice a0 M.sigs.length k0) rfl
  have c1 := RA1.out.c 1 (.slice a1 M.imports.length k1) rfl
  have c2 := RA1.out.c 2 (.slice a2 M.funcs.length k2) rfl
  have c3 := RA1.out.c 3 (.int .i64 M.m0) rfl
  have c4 := RA1.out.c 4 (.int .i64 M.m1) rfl
  have c5 := RA1.out.c 5 (.slice a5 M.globals.length k5) rfl
  have c6 := RA1.out.c 6 (.slice a6 M.data.length k6) rfl
  have D1 := hide (E1.out w1 hb1)
  clear b1 EX RA RB E1 hb0
  go_wp2_with fail
  refine D1.out.mono ?_
  rintro r w2 ⟨rfl, b2⟩
  have hb2 := below_next hb1 b2
  have RA2 := hide (RA1.out.kept b2)
  have RB2 := hide (RB1.out.kept b2)
  have d0 := RB2.out.c 0 (.slice qq0 K.sigs.length j0) rfl
  have d1 := RB2.out.c 1 (.slice qq1 K.imports.length j1) rfl
  have d2 := RB2.out.c 2 (.slice qq2 K.funcs.length j2) rfl
  have d3 := RB2.out.c 3 (.int .i64 K.m0) rfl
  have d4 := RB2.out.c 4 (.int .i64 K.m1) rfl
  have d5 := RB2.out.c 5 (.slice qq5 K.globals.length j5) rfl
  have d6 := RB2.out.c 6 (.slice qq6 K.data.length j6) rfl
  have D2 := hide (E2.out w2 hb2)
  clear b2 D1 RA1 RB1 E2 hb1 c0 c1 c2 c3 c4 c5 c6
  go_wp2_with fail
  refine D2.out.mono ?_
  rintro r w3 ⟨rfl, b3⟩
  have hb3 := below_next hb2 b3
  have RA3 := hide (RA2.out.kept b3)
  have RB3 := hide (RB2.out.kept b3)
  have x0 := RA3.out.c 0 (.slice a0 M.sigs.length k0) rfl
  have y0 := RB3.out.c 0 (.slice qq0 K.sigs.length j0) rfl
  have x1 := RA3.out.c 1 (.slice a1 M.imports.length k1) rfl
  have y1 := RB3.out.c 1 (.slice qq1 K.imports.length j1) rfl
  have x2 := RA3.out.c 2 (.slice a2 M.funcs.length k2) rfl
  have y2 := RB3.out.c 2 (.slice qq2 K.funcs.length j2) rfl
  have x3 := RA3.out.c 3 (.int .i64 M.m0) rfl
  have y3 := RB3.out.c 3 (.int .i64 K.m0) rfl
  have x4 := RA3.out.c 4 (.int .i64 M.m1) rfl
  have y4 := RB3.out.c 4 (.int .i64 K.m1) rfl
  have x5 := RA3.out.c 5 (.slice a5 M.globals.length k5) rfl
  have y5 := RB3.out.c 5 (.slice qq5 K.globals.length j5) rfl
  have x6 := RA3.out.c 6 (.slice a6 M.data.length k6) rfl
  have y6 := RB3.out.c 6 (.slice qq6 K.data.length j6) rfl
  have S3 := hide (SA.out w3 hb3)
  clear b3 D2 SA RA2 RB2 hb2 d0 d1 d2 d3 d4 d5 d6
  go_wp2_with fail
  refine S3.out.mono ?_
  rintro r w4 ⟨rfl, b4⟩
  have hb4 := below_next hb3 b4
  have tt := TT.out
  go_wp2_with fail
  go_ret
  exact ⟨rfl, hb4⟩
theorem apart_walk (V : MoV) (M : Mo) (U : MoV) (K : Mo) (w : World) (hL : Laid w) (h : IsMo w.heap.size w V M) (hd : ∀ d ∈ M.data, d.bytes.length ≤ 9000000) (g : IsMo w.heap.size w U K) (hd2 : ∀ d ∈ K.data, d.bytes.length ≤ 9000000) :
    Calls Tryz.prog 6 #[moV V M, moV U K] w fun e w' => e = .returned (.bool true) ∧ Below w.heap.size w w' := by
  by_cases he : encE M = 0
  · by_cases hk : encE K = 0
    · by_cases hq : M = K
      · exact apart_eq V U M K w hL h hd g hd2 he hk hq
      · exact apart_ne V U M K w hL h hd g hd2 he hk hq
    · exact apart_yn V U M K w hL h hd g hd2 he hk
  · by_cases hk : encE K = 0
    · exact apart_ny V U M K w hL h hd g hd2 he hk
    · exact apart_nn V U M K w hL h hd g hd2 he hk
end Go.Proofs.YtcbfpikggphokaaGreatDoor
