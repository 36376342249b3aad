/-
  The statements' function same: whether two modules are the same; memory that was there stays as it was.
  Two modules that may be written have the same bytes just if they are the same: the walk of the statement WbinApart, for every two modules whose data have at most 9000000 bytes each.
-/
import Derived.Test.YtcbfpikggphokaaGreatDoorEx
import Derived.Laws.StructEq
import Derived.Test.YtcbfpikggphokaaGreatDoorPure
namespace Go.Proofs.YtcbfpikggphokaaGreatDoor
open Go.RowKit

/-- Two lists are the same so far. -/
theorem take_eq_next {α : Type} {l r : List α} {k : Nat} (h : l.take k = r.take k) (hl : k < l.length) (hr : k < r.length) (e : l[k] = r[k]) : l.take (k + 1) = r.take (k + 1) := by
  rw [List.take_succ_eq_append_getElem hl, List.take_succ_eq_append_getElem hr, h, e]
theorem take_eq_all {α : Type} {l r : List α} (h : l.take l.length = r.take l.length) (hn : l.length = r.length) : l = r := by
  rw [List.take_length, hn, List.take_length] at h; exact h
theorem get_ne {α : Type} {l r : List α} {k : Nat} (hl : k < l.length) (hr : k < r.length) (e : l[k] ≠ r[k]) : l ≠ r := by
  intro h; subst h; exact e rfl
theorem str_tl (l : List UInt8) : (str l).toList = l := by rw [ByteArray.toList_eq]; simp [str]
theorem len_ne {α : Type} {l r : List α} (h : l.length ≠ r.length) : l ≠ r := by intro e; rw [e] at h; exact h rfl
set_option maxRecDepth 100000 in
set_option maxHeartbeats 1600000 in
theorem numbers_any (v u : Value) (l r : List Int) (w : World) (hl : l.length ≤ 1000000000) (hL : SInts w.heap.size w v l) (hR : SInts w.heap.size w u r) :
    Calls Tryz.prog 36 #[v, u] w fun e w' => e = .returned (.bool (decide (l = r))) ∧ Below w.heap.size w w' := by
  obtain ⟨a, c, rfl, he⟩ := hL
  obtain ⟨a', c', rfl, he'⟩ := hR
  have HE := hide he
  have HE' := hide he'
  clear he he'
  by_cases hn : l.length = r.length
  · have g : ((l.length : Int) != (r.length : Int)) = false := by simp; omega
    go_enter Tryz.func36, Tryz.ntmps36
    go_wp2_with fail
    go_loopw [5] (fun iv wr => ∃ k : Nat, k ≤ l.length ∧ iv = .int .i64 k ∧ Below w.heap.size w wr ∧ Hid (l.take k = r.take k)) (fun iv _ => l.length - (intOf iv).toNat)
    case atStart => exact ⟨0, by omega, rfl, Below.refl _ _, hide (by simp)⟩
    case round =>
      obtain ⟨k, hk, rfl, hb, hA⟩ := hrel
      by_cases hlt : k < l.length
      · have hlr : k < r.length := by omega
        obtain ⟨b, off, rfl, hbb, hi, c0⟩ := HE.out k hlt
        obtain ⟨b', off', rfl, hbb', hi', c0'⟩ := HE'.out k hlr
        have d0 := (hb.cell (p := ⟨b, off + k * 1, none⟩) hbb).trans c0
        have d1 := (hb.cell (p := ⟨b', off' + k * 1, none⟩) hbb').trans c0'
        rw [Nat.mul_one] at d0 d1
        have gi : 0 ≤ (k : Int) ∧ (k : Int) < (l.length : Int) := by omega
        have gj : 0 ≤ (k : Int) ∧ (k : Int) < (r.length : Int) := by omega
        clear c0 c0' hi hi'
        by_cases hx : l[k] = r[k]
        · have y : (l[k] != r[k]) = false := by simp [hx]
          have hA2 := hide (take_eq_next hA.out hlt hlr hx)
          clear hA hx
          go_wp2_with fail
          go_region
          go_wp2_with fail
          go_roundw
          case rel => exact ⟨k + 1, by omega, by go_num, hb.drew, hA2⟩
          case measure => simp [intOf]; omega
        · have y : (l[k] != r[k]) = true := by simpa using hx
          have hN : Hid (decide (l = r) = false) := hide (by simpa using get_ne hlt hlr hx)
          clear hA hx
          go_wp2_with fail
          go_region
          go_wp2_with fail
          go_ret
          exact ⟨ret_bool hN.out.symm, hb.drew⟩
      · have e0 : k = l.length := by omega
        subst e0
        have hY : Hid (decide (l = r) = true) := hide (by simpa using take_eq_all hA.out hn)
        clear hA
        go_wp2_with fail
        go_ret
        exact ⟨ret_bool hY.out.symm, hb⟩
  · have g : ((l.length : Int) != (r.length : Int)) = true := by simp; omega
    have hN : Hid (decide (l = r) = false) := hide (by simpa using len_ne hn)
    clear hn
    go_enter Tryz.func36, Tryz.ntmps36
    go_wp2_with fail
    go_ret
    exact ⟨ret_bool hN.out.symm, Below.refl _ _⟩
theorem numbers_is (v u : Value) (l r : List Int) (x : Bool) (w : World) (hl : l.length ≤ 1000000000) (hL : SInts w.heap.size w v l) (hR : SInts w.heap.size w u r) (hx : decide (l = r) = x) :
    Calls Tryz.prog 36 #[v, u] w fun e w' => e = .returned (.bool x) ∧ Below w.heap.size w w' := by rw [← hx]; exact numbers_any v u l r w hl hL hR
theorem Tryz.part30 (x y z : Value) (w : World) : (part 3 #[x, y, z] 0).run Tryz.prog w = .ok x w := by kernel_rfl
theorem Tryz.part31 (x y z : Value) (w : World) : (part 3 #[x, y, z] 1).run Tryz.prog w = .ok y w := by kernel_rfl
theorem Tryz.part32 (x y z : Value) (w : World) : (part 3 #[x, y, z] 2).run Tryz.prog w = .ok z w := by kernel_rfl
theorem Tryz.part92 (x y z : Value) (w : World) : (part 9 #[x, y, z] 2).run Tryz.prog w = .ok z w := by kernel_rfl
theorem eql_int (x y : Int) (w : World) : (Op.equalIn 9999 3 (.int .i64 x) (.int .i64 y)).run Tryz.prog w = .ok (x == y) w := run_equalIn_int w 9998 3 .i64 .i64 x y Tryz.underlying3
theorem eql_str (x y : ByteArray) (w : World) : (Op.equalIn 9999 9 (.string x) (.string y)).run Tryz.prog w = .ok (x.toList == y.toList) w := run_equalIn_string w 9998 9 x y Tryz.underlying9
theorem eql_in (a b c a' b' c' : Int) (w : World) : (Op.equalIn 10000 52 (.agg #[.int .i64 a, .int .i64 b, .int .i64 c]) (.agg #[.int .i64 a', .int .i64 b', .int .i64 c'])).run Tryz.prog w = .ok (a == a' && (b == b' && c == c')) w := by
  rw [show (10000 : Nat) = 9999 + 1 from rfl, run_equalIn_struct w 9999 52 _ _ (by rw [Tryz.underlying52]; kernel_rfl) (by kernel_rfl)]
  simp [Program.fieldsOf, Tryz.underlying52, Op.eqFields, Sem.run_bind, Tryz.part30, Tryz.part31, Tryz.part32, eql_int]
  cases h1 : (a == a') <;> cases h2 : (b == b') <;> cases h3 : (c == c') <;> simp_all
theorem eql_gl (a b a' b' : Int) (w : World) : (Op.equalIn 10000 70 (.agg #[.int .i64 a, .int .i64 b]) (.agg #[.int .i64 a', .int .i64 b'])).run Tryz.prog w = .ok (a == a' && b == b') w := by
  rw [show (10000 : Nat) = 9999 + 1 from rfl, run_equalIn_struct w 9999 70 _ _ (by rw [Tryz.underlying70]; kernel_rfl) (by kernel_rfl)]
  simp [Program.fieldsOf, Tryz.underlying70, Op.eqFields, Sem.run_bind, Tryz.part0, Tryz.part1, eql_int]
  cases h1 : (a == a') <;> cases h2 : (b == b') <;> simp_all
theorem eql_da (a b a' b' : Int) (c c' : ByteArray) (w : World) : (Op.equalIn 10000 73 (.agg #[.int .i64 a, .int .i64 b, .string c]) (.agg #[.int .i64 a', .int .i64 b', .string c'])).run Tryz.prog w = .ok (a == a' && (b == b' && c.toList == c'.toList)) w := by
  rw [show (10000 : Nat) = 9999 + 1 from rfl, run_equalIn_struct w 9999 73 _ _ (by rw [Tryz.underlying73]; kernel_rfl) (by kernel_rfl)]
  simp [Program.fieldsOf, Tryz.underlying73, Op.eqFields, Sem.run_bind, Tryz.part30, Tryz.part31, Tryz.part92, eql_int, eql_str]
  cases h1 : (a == a') <;> cases h2 : (b == b') <;> cases h3 : (c.toList == c'.toList) <;> simp_all
set_option maxRecDepth 100000 in
set_option maxHeartbeats 16000000 in
theorem same_is (V U : MoV) (M K : Mo) (x : Bool) (w : World) (F : Fit M) (h : IsMo w.heap.size w V M) (g : IsMo w.heap.size w U K) (hx : x = true ↔ M = K) :
    Calls Tryz.prog 17 #[moV V M, moV U K] w fun e w' => e = .returned (.bool x) ∧ Below w.heap.size w w' := by
  obtain ⟨a0, k0, a1, k1, a2, k2, a5, k5, a6, k6, rfl⟩ := h.forms
  obtain ⟨b0, j0, b1, j1, b2, j2, b5, j5, b6, j6, rfl⟩ := g.forms
  have hb0 := (bel_one w (.cells #[.slice a0 M.sigs.length k0, .slice a1 M.imports.length k1, .slice a2 M.funcs.length k2, .int .i64 M.m0, .int .i64 M.m1, .slice a5 M.globals.length k5, .slice a6 M.data.length k6] 29)).alloc (by simp) (.cells #[.slice b0 K.sigs.length j0, .slice b1 K.imports.length j1, .slice b2 K.funcs.length j2, .int .i64 K.m0, .int .i64 K.m1, .slice b5 K.globals.length j5, .slice b6 K.data.length j6] 29)
  have HM := hide (h.step hb0 hb0.size)
  have HK := hide (g.step hb0 hb0.size)
  have RA := hide ((Row.made w #[.slice a0 M.sigs.length k0, .slice a1 M.imports.length k1, .slice a2 M.funcs.length k2, .int .i64 M.m0, .int .i64 M.m1, .slice a5 M.globals.length k5, .slice a6 M.data.length k6] 29).alloc (.cells #[.slice b0 K.sigs.length j0, .slice b1 K.imports.length j1, .slice b2 K.funcs.length j2, .int .i64 K.m0, .int .i64 K.m1, .slice b5 K.globals.length j5, .slice b6 K.data.length j6] 29))
  have RB : Hid (Row ((w.alloc (.cells #[.slice a0 M.sigs.length k0, .slice a1 M.imports.length k1, .slice a2 M.funcs.length k2, .int .i64 M.m0, .int .i64 M.m1, .slice a5 M.globals.length k5, .slice a6 M.data.length k6] 29)).alloc (.cells #[.slice b0 K.sigs.length j0, .slice b1 K.imports.length j1, .slice b2 K.funcs.length j2, .int .i64 K.m0, .int .i64 K.m1, .slice b5 K.globals.length j5, .slice b6 K.data.length j6] 29)) (w.heap.size + 1) #[.slice b0 K.sigs.length j0, .slice b1 K.imports.length j1, .slice b2 K.funcs.length j2, .int .i64 K.m0, .int .i64 K.m1, .slice b5 K.globals.length j5, .slice b6 K.data.length j6] 29) := hide (by
    have := Row.made (w.alloc (.cells #[.slice a0 M.sigs.length k0, .slice a1 M.imports.length k1, .slice a2 M.funcs.length k2, .int .i64 M.m0, .int .i64 M.m1, .slice a5 M.globals.length k5, .slice a6 M.data.length k6] 29)) #[.slice b0 K.sigs.length j0, .slice b1 K.imports.length j1, .slice b2 K.funcs.length j2, .int .i64 K.m0, .int .i64 K.m1, .slice b5 K.globals.length j5, .slice b6 K.data.length j6] 29
    simpa using this)
  have HF := hide F
  have NO : Hid (∀ (_ : M ≠ K), x = false) := hide (fun hn => by cases x with
    | false => rfl
    | true => exact absurd (hx.1 rfl) hn)
  have YES : Hid (∀ (_ : M = K), x = true) := hide hx.2
  have l0 := F.l0
  have l1 := F.l1
  have l2 := F.l2
  have l5 := F.l5
  have l6 := F.l6
  clear h g hx F
  unfold moV
  dsimp only
  by_cases n0 : M.sigs.length = K.sigs.length
  case neg =>
    have y0 : ((M.sigs.length : Int) != (K.sigs.length : Int)) = true := by simp; omega
    have W := hide (NO.out (fun e => n0 (by rw [e])))
    clear NO YES n0 HM HK HF
    go_enter Tryz.func17, Tryz.ntmps17
    go_wp2_with fail
    go_ret
    exact ⟨ret_bool W.out.symm, hb0⟩
  have y0 : ((M.sigs.length : Int) != (K.sigs.length : Int)) = false := by simp; omega
  have N0 := hide n0
  clear n0
  by_cases n2 : M.funcs.length = K.funcs.length
  case neg =>
    have y2 : ((M.funcs.length : Int) != (K.funcs.length : Int)) = true := by simp; omega
    have W := hide (NO.out (fun e => n2 (by rw [e])))
    clear NO YES n2 HM HK HF
    go_enter Tryz.func17, Tryz.ntmps17
    go_wp2_with fail
    go_ret
    exact ⟨ret_bool W.out.symm, hb0⟩
  have y2 : ((M.funcs.length : Int) != (K.funcs.length : Int)) = false := by simp; omega
  have N2 := hide n2
  clear n2
  by_cases n5 : M.globals.length = K.globals.length
  case neg =>
    have y5 : ((M.globals.length : Int) != (K.globals.length : Int)) = true := by simp; omega
    have W := hide (NO.out (fun e => n5 (by rw [e])))
    clear NO YES n5 HM HK HF
    go_enter Tryz.func17, Tryz.ntmps17
    go_wp2_with fail
    go_ret
    exact ⟨ret_bool W.out.symm, hb0⟩
  have y5 : ((M.globals.length : Int) != (K.globals.length : Int)) = false := by simp; omega
  have N5 := hide n5
  clear n5
  by_cases n6 : M.data.length = K.data.length
  case neg =>
    have y6 : ((M.data.length : Int) != (K.data.length : Int)) = true := by simp; omega
    have W := hide (NO.out (fun e => n6 (by rw [e])))
    clear NO YES n6 HM HK HF
    go_enter Tryz.func17, Tryz.ntmps17
    go_wp2_with fail
    go_ret
    exact ⟨ret_bool W.out.symm, hb0⟩
  have y6 : ((M.data.length : Int) != (K.data.length : Int)) = false := by simp; omega
  have N6 := hide n6
  clear n6
  by_cases nm : M.m0 = K.m0 ∧ M.m1 = K.m1
  case neg =>
    have he : ∀ w, (Op.equalIn 10000 25 (.agg #[.int .i64 M.m0, .int .i64 M.m1]) (.agg #[.int .i64 K.m0, .int .i64 K.m1])).run Tryz.prog w = .ok false w := fun w => by rw [run_equalIn_two]; simpa using nm
    have W := hide (NO.out (fun e => nm (by rw [e]; exact ⟨rfl, rfl⟩)))
    clear NO YES nm HM HK HF
    go_enter Tryz.func17, Tryz.ntmps17
    go_wp2_with fail
    go_ret
    exact ⟨ret_bool W.out.symm, hb0⟩
  have he : ∀ w, (Op.equalIn 10000 25 (.agg #[.int .i64 M.m0, .int .i64 M.m1]) (.agg #[.int .i64 K.m0, .int .i64 K.m1])).run Tryz.prog w = .ok true w := fun w => by rw [run_equalIn_two]; simp [nm.1, nm.2]
  have I1 := hide (fun (r : Bool) (hr : decide (M.imports = K.imports) = r) => numbers_is _ _ M.imports K.imports r _ (by omega) HM.out.imports HK.out.imports hr)
  by_cases ni : M.imports = K.imports
  case neg =>
    have I2 := hide (I1.out false (by simpa using ni))
    have W := hide (NO.out (fun e => ni (by rw [e])))
    clear NO YES ni nm HM HK HF I1
    go_enter Tryz.func17, Tryz.ntmps17
    go_wp2_with fail
    refine I2.out.mono ?_
    rintro r w1 ⟨rfl, b1⟩
    go_wp2_with fail
    go_ret
    exact ⟨ret_bool W.out.symm, hb0.trans (b1.mono hb0.size)⟩
  have I2 := hide (I1.out true (by simpa using ni))
  have NI := hide ni
  have NM := hide nm
  clear ni nm I1
  go_enter Tryz.func17, Tryz.ntmps17
  go_wp2_with fail
  refine I2.out.mono ?_
  rintro r w0 ⟨rfl, b1⟩
  have hbw := hb0.trans (b1.mono hb0.size)
  have HM0 := hide (HM.out.step b1 b1.size)
  have HK0 := hide (HK.out.step b1 b1.size)
  have RA0 := hide (RA.out.kept b1)
  have RB0 := hide (RB.out.kept b1)
  clear hb0 b1 I2 HM HK RA RB he
  go_wp2_with fail
  go_loopw [5] (fun iv wr => ∃ k : Nat, k ≤ M.sigs.length ∧ iv = .int .i64 k ∧ Below w0.heap.size w0 wr ∧ Hid (M.sigs.take k = K.sigs.take k)) (fun iv _ => M.sigs.length - (intOf iv).toNat)
  case atStart => exact ⟨0, by omega, rfl, Below.refl _ _, hide (by simp)⟩
  case round =>
    obtain ⟨k, hk, rfl, hb, hA⟩ := hrel
    have hbs := hb.size
    have ra := ((RA0.out.kept hb).c 0 (.slice a0 M.sigs.length k0) rfl)
    have rb := ((RB0.out.kept hb).c 0 (.slice b0 K.sigs.length j0) rfl)
    by_cases hlt : k < M.sigs.length
    · have hlr : k < K.sigs.length := by have := N0.out; omega
      obtain ⟨ax, cx, ex, hea⟩ := HM0.out.sigs
      cases ex
      obtain ⟨ay, cy, ey, heb⟩ := HK0.out.sigs
      cases ey
      obtain ⟨b, off, rfl, hbb, ⟨vp, vr, c0, c1, hp, hr⟩⟩ := hea k hlt
      obtain ⟨b', off', rfl, hbb', ⟨up, ur, g0, g1, hp2, hr2⟩⟩ := heb k hlr
      have d0 := (hb.cell (p := ⟨b, off + k * 2, none⟩) hbb).trans c0
      have f0 := (hb.cell (p := ⟨b', off' + k * 2, none⟩) hbb').trans g0
      have d1 := (hb.cell (p := ⟨b, off + k * 2 + 1, none⟩) hbb).trans c1
      have f1 := (hb.cell (p := ⟨b', off' + k * 2 + 1, none⟩) hbb').trans g1
      clear hea heb c0 g0 c1 g1
      have gi : 0 ≤ (k : Int) ∧ (k : Int) < (M.sigs.length : Int) := by omega
      have gj : 0 ≤ (k : Int) ∧ (k : Int) < (K.sigs.length : Int) := by omega
      have hp0 := hp
      obtain ⟨ap, kp, rfl, _⟩ := hp0
      have hr0 := hr
      obtain ⟨ar, kr, rfl, _⟩ := hr0
      have hq0 := hp2
      obtain ⟨aq, kq, rfl, _⟩ := hq0
      have hz0 := hr2
      obtain ⟨az, kz, rfl, _⟩ := hz0
      have hsm := HF.out.s0 M.sigs[k] (List.getElem_mem hlt)
      have hwh := HF.out.w0 M.sigs[k] (List.getElem_mem hlt)
      simp only [smSg, decide_eq_true_eq] at hsm
      simp only [whSg, Bool.and_eq_true, decide_eq_true_eq] at hwh
      have D1 := hide (fun (r : Bool) (hr' : decide (M.sigs[k].params = K.sigs[k].params) = r) d os => Calls.regrown_of (w := wr) (d := d) (os := os) (numbers_is _ _ M.sigs[k].params K.sigs[k].params r _ (by omega) (hp.step keeps_int (hb.trans ((below_regrown wr d os).mono hbs)) (hb.trans ((below_regrown wr d os).mono hbs)).size) (hp2.step keeps_int (hb.trans ((below_regrown wr d os).mono hbs)) (hb.trans ((below_regrown wr d os).mono hbs)).size) hr'))
      have D2 := hide (fun (r : Bool) (hr' : decide (M.sigs[k].results = K.sigs[k].results) = r) d os => Calls.regrown_of (w := wr) (d := d) (os := os) (numbers_is _ _ M.sigs[k].results K.sigs[k].results r _ (by omega) (hr.step keeps_int (hb.trans ((below_regrown wr d os).mono hbs)) (hb.trans ((below_regrown wr d os).mono hbs)).size) (hr2.step keeps_int (hb.trans ((below_regrown wr d os).mono hbs)) (hb.trans ((below_regrown wr d os).mono hbs)).size) hr'))
      have ea := cell_regrown ra
      have eb := cell_regrown rb
      have e0 := cell_regrown d0
      have e1 := cell_regrown d1
      have e2 := cell_regrown f0
      have e3 := cell_regrown f1
      clear hp hr hp2 hr2 hsm hwh
      by_cases p1 : M.sigs[k].params = K.sigs[k].params
      · have E1 := hide (D1.out true (by simpa using p1))
        by_cases p2 : M.sigs[k].results = K.sigs[k].results
        · have E2 := hide (D2.out true (by simpa using p2))
          have hA2 := hide (take_eq_next hA.out hlt hlr (by cases hq : M.sigs[k]; cases hq2 : K.sigs[k]; rw [hq, hq2] at p1 p2; simp_all))
          clear D1 D2 p1 p2 hA
          go_wp2_with fail
          refine wp_region_quiet_below (by kernel_rfl) (by kernel_rfl) ?_
          iterate 13 (go_big_quiet_step (exact E1.out _ _))
          repeat (go_big_quiet_step (exact E2.out _ _))
          refine wpQuiet_nil ?_
          intro _ hw'
          obtain ⟨⟨dq, osq⟩, hw''⟩ := hw'
          subst hw''
          clear ea eb e0 e1 e2 e3
          go_wp2_with fail
          go_roundw
          case rel => exact ⟨k + 1, by omega, by go_num, hb.trans ((below_regrown wr dq osq).mono hbs), hA2⟩
          case measure => simp [intOf]; omega
        · have E2 := hide (D2.out false (by simpa using p2))
          have W := hide (NO.out (fun e => get_ne hlt hlr (fun q => p2 (by rw [q])) (by rw [e])))
          clear D1 D2 p1 p2 hA NO YES
          go_wp2_with fail
          refine wp_region_quiet_below (by kernel_rfl) (by kernel_rfl) ?_
          iterate 13 (go_big_quiet_step (exact E1.out _ _))
          repeat (go_big_quiet_step (exact E2.out _ _))
          refine wpQuiet_nil ?_
          intro _ hw'
          obtain ⟨⟨dq, osq⟩, hw''⟩ := hw'
          subst hw''
          clear ea eb e0 e1 e2 e3
          go_wp2_with fail
          go_ret
          exact ⟨ret_bool W.out.symm, hbw.trans ((hb.trans ((below_regrown wr dq osq).mono hbs)).mono hbw.size)⟩
      · have E1 := hide (D1.out false (by simpa using p1))
        have W := hide (NO.out (fun e => get_ne hlt hlr (fun q => p1 (by rw [q])) (by rw [e])))
        clear D1 D2 p1 hA NO YES
        go_wp2_with fail
        refine wp_region_quiet_below (by kernel_rfl) (by kernel_rfl) ?_
        iterate 13 (go_big_quiet_step (exact E1.out _ _))
        repeat (go_big_quiet_step (fail))
        refine wpQuiet_nil ?_
        intro _ hw'
        obtain ⟨⟨dq, osq⟩, hw''⟩ := hw'
        subst hw''
        clear ea eb e0 e1 e2 e3
        go_wp2_with fail
        go_ret
        exact ⟨ret_bool W.out.symm, hbw.trans ((hb.trans ((below_regrown wr dq osq).mono hbs)).mono hbw.size)⟩
    · have e0 : k = M.sigs.length := by omega
      subst e0
      have Y0 := hide (take_eq_all hA.out N0.out)
      have hbd0 := hb
      clear hA
      go_wp2_with fail
      go_loopw [6] (fun iv wr => ∃ k : Nat, k ≤ M.funcs.length ∧ iv = .int .i64 k ∧ Below w0.heap.size w0 wr ∧ Hid (M.funcs.take k = K.funcs.take k)) (fun iv _ => M.funcs.length - (intOf iv).toNat)
      case atStart => exact ⟨0, by omega, rfl, hbd0, hide (by simp)⟩
      case round =>
        obtain ⟨k, hk, rfl, hb, hA⟩ := hrel
        have hbs := hb.size
        have ra := ((RA0.out.kept hb).c 2 (.slice a2 M.funcs.length k2) rfl)
        have rb := ((RB0.out.kept hb).c 2 (.slice b2 K.funcs.length j2) rfl)
        by_cases hlt : k < M.funcs.length
        · have hlr : k < K.funcs.length := by have := N2.out; omega
          obtain ⟨ax, cx, ex, hea⟩ := HM0.out.funcs
          cases ex
          obtain ⟨ay, cy, ey, heb⟩ := HK0.out.funcs
          cases ey
          obtain ⟨b, off, rfl, hbb, ⟨vp, vr, hi, c0, c1, c2, c3, hp, hr⟩⟩ := hea k hlt
          obtain ⟨b', off', rfl, hbb', ⟨up, ur, hi2, g0, g1, g2, g3, hp2, hr2⟩⟩ := heb k hlr
          have d0 := (hb.cell (p := ⟨b, off + k * 4, none⟩) hbb).trans c0
          have f0 := (hb.cell (p := ⟨b', off' + k * 4, none⟩) hbb').trans g0
          have d1 := (hb.cell (p := ⟨b, off + k * 4 + 1, none⟩) hbb).trans c1
          have f1 := (hb.cell (p := ⟨b', off' + k * 4 + 1, none⟩) hbb').trans g1
          have d2 := (hb.cell (p := ⟨b, off + k * 4 + 2, none⟩) hbb).trans c2
          have f2 := (hb.cell (p := ⟨b', off' + k * 4 + 2, none⟩) hbb').trans g2
          have d3 := (hb.cell (p := ⟨b, off + k * 4 + 3, none⟩) hbb).trans c3
          have f3 := (hb.cell (p := ⟨b', off' + k * 4 + 3, none⟩) hbb').trans g3
          clear hea heb c0 g0 c1 g1 c2 g2 c3 g3
          have gi : 0 ≤ (k : Int) ∧ (k : Int) < (M.funcs.length : Int) := by omega
          have gj : 0 ≤ (k : Int) ∧ (k : Int) < (K.funcs.length : Int) := by omega
          have hp0 := hp
          obtain ⟨ap, kp, rfl, _⟩ := hp0
          have hr0 := hr
          obtain ⟨ar, kr, rfl, _⟩ := hr0
          have hq0 := hp2
          obtain ⟨aq, kq, rfl, _⟩ := hq0
          have hz0 := hr2
          obtain ⟨az, kz, rfl, _⟩ := hz0
          have hsm := HF.out.s2 M.funcs[k] (List.getElem_mem hlt)
          simp only [smFn, Bool.and_eq_true, decide_eq_true_eq] at hsm
          have hal := (bel_one wr (.cells #[.int .i64 M.funcs[k].sig, .bool M.funcs[k].tr, .slice ap M.funcs[k].locals.length kp, .slice ar M.funcs[k].body.length kr] 50)).alloc (by simp) (.cells #[.int .i64 K.funcs[k].sig, .bool K.funcs[k].tr, .slice aq K.funcs[k].locals.length kq, .slice az K.funcs[k].body.length kz] 50)
          have hb1 := hb.trans (hal.mono hbs)
          have F0 := hide ((Row.made wr #[.int .i64 M.funcs[k].sig, .bool M.funcs[k].tr, .slice ap M.funcs[k].locals.length kp, .slice ar M.funcs[k].body.length kr] 50).alloc (.cells #[.int .i64 K.funcs[k].sig, .bool K.funcs[k].tr, .slice aq K.funcs[k].locals.length kq, .slice az K.funcs[k].body.length kz] 50))
          have G0 : Hid (Row ((wr.alloc (.cells #[.int .i64 M.funcs[k].sig, .bool M.funcs[k].tr, .slice ap M.funcs[k].locals.length kp, .slice ar M.funcs[k].body.length kr] 50)).alloc (.cells #[.int .i64 K.funcs[k].sig, .bool K.funcs[k].tr, .slice aq K.funcs[k].locals.length kq, .slice az K.funcs[k].body.length kz] 50)) (wr.heap.size + 1) #[.int .i64 K.funcs[k].sig, .bool K.funcs[k].tr, .slice aq K.funcs[k].locals.length kq, .slice az K.funcs[k].body.length kz] 50) := hide (by
            have := Row.made (wr.alloc (.cells #[.int .i64 M.funcs[k].sig, .bool M.funcs[k].tr, .slice ap M.funcs[k].locals.length kp, .slice ar M.funcs[k].body.length kr] 50)) #[.int .i64 K.funcs[k].sig, .bool K.funcs[k].tr, .slice aq K.funcs[k].locals.length kq, .slice az K.funcs[k].body.length kz] 50
            simpa using this)
          have hbf := hb.trans ((bel_one wr (.cells #[.int .i64 M.funcs[k].sig, .bool M.funcs[k].tr, .slice ap M.funcs[k].locals.length kp, .slice ar M.funcs[k].body.length kr] 50)).mono hbs)
          have rb' := (RB0.out.kept hbf).c 2 (.slice (some ⟨b', off', none⟩) K.funcs.length j2) rfl
          have f0' := ((bel_one wr (.cells #[.int .i64 M.funcs[k].sig, .bool M.funcs[k].tr, .slice ap M.funcs[k].locals.length kp, .slice ar M.funcs[k].body.length kr] 50)).cell (p := ⟨b', off' + k * 4, none⟩) (Nat.lt_of_lt_of_le hbb' hbs)).trans f0
          have f1' := ((bel_one wr (.cells #[.int .i64 M.funcs[k].sig, .bool M.funcs[k].tr, .slice ap M.funcs[k].locals.length kp, .slice ar M.funcs[k].body.length kr] 50)).cell (p := ⟨b', off' + k * 4 + 1, none⟩) (Nat.lt_of_lt_of_le hbb' hbs)).trans f1
          have f2' := ((bel_one wr (.cells #[.int .i64 M.funcs[k].sig, .bool M.funcs[k].tr, .slice ap M.funcs[k].locals.length kp, .slice ar M.funcs[k].body.length kr] 50)).cell (p := ⟨b', off' + k * 4 + 2, none⟩) (Nat.lt_of_lt_of_le hbb' hbs)).trans f2
          have f3' := ((bel_one wr (.cells #[.int .i64 M.funcs[k].sig, .bool M.funcs[k].tr, .slice ap M.funcs[k].locals.length kp, .slice ar M.funcs[k].body.length kr] 50)).cell (p := ⟨b', off' + k * 4 + 3, none⟩) (Nat.lt_of_lt_of_le hbb' hbs)).trans f3
          have NU := hide (fun (r : Bool) (hr' : decide (M.funcs[k].locals = K.funcs[k].locals) = r) => numbers_is _ _ M.funcs[k].locals K.funcs[k].locals r _ (by omega) (hp.step keeps_int hb1 hb1.size) (hp2.step keeps_int hb1 hb1.size) hr')
          have HR := hide hr
          have HR2 := hide hr2
          have lb : M.funcs[k].body.length ≤ 200 := hsm.2
          clear hp hp2 hr hr2 hi hi2 hsm
          by_cases s1 : M.funcs[k].sig = K.funcs[k].sig
          case neg =>
            have q1 : (M.funcs[k].sig != K.funcs[k].sig) = true := by simpa using s1
            have W := hide (NO.out (fun e => get_ne hlt hlr (fun q => s1 (by rw [q])) (by rw [e])))
            clear hA NO YES s1
            go_wp2_with fail
            go_ret
            exact ⟨ret_bool W.out.symm, hbw.trans ((hb1).mono hbw.size)⟩
          have S1 : Hid (∀ z, z = M.funcs[k] → z.sig = K.funcs[k].sig) := hide (fun z hz => by rw [hz]; exact s1)
          simp only [s1] at *
          by_cases s2 : M.funcs[k].tr = K.funcs[k].tr
          case neg =>
            have W := hide (NO.out (fun e => get_ne hlt hlr (fun q => s2 (by rw [q])) (by rw [e])))
            clear hA NO YES NU
            cases hm : M.funcs[k].tr <;> cases hk' : K.funcs[k].tr
            · exact absurd (hm.trans hk'.symm) s2
            · clear s2
              simp only [hm, hk'] at *
              go_wp2_with fail
              go_ret
              exact ⟨ret_bool W.out.symm, hbw.trans ((hb1).mono hbw.size)⟩
            · clear s2
              simp only [hm, hk'] at *
              go_wp2_with fail
              go_ret
              exact ⟨ret_bool W.out.symm, hbw.trans ((hb1).mono hbw.size)⟩
            · exact absurd (hm.trans hk'.symm) s2
          have S2 : Hid (∀ z, z = M.funcs[k] → z.tr = K.funcs[k].tr) := hide (fun z hz => by rw [hz]; exact s2)
          simp only [s2] at *
          by_cases s3 : M.funcs[k].locals = K.funcs[k].locals
          case neg =>
            have N1 := hide (NU.out false (by simpa using s3))
            have W := hide (NO.out (fun e => get_ne hlt hlr (fun q => s3 (by rw [q])) (by rw [e])))
            clear hA NO YES s3 NU
            go_wp2_with fail
            refine N1.out.mono ?_
            rintro r w1 ⟨rfl, b1⟩
            go_wp2_with fail
            go_ret
            exact ⟨ret_bool W.out.symm, hbw.trans ((hb1.trans (b1.mono hb1.size)).mono hbw.size)⟩
          have N1 := hide (NU.out true (by simpa using s3))
          have S3 := hide s3
          clear s3
          by_cases s4 : M.funcs[k].body.length = K.funcs[k].body.length
          case neg =>
            have q4 : ((M.funcs[k].body.length : Int) != (K.funcs[k].body.length : Int)) = true := by simp; omega
            have W := hide (NO.out (fun e => get_ne hlt hlr (fun q => s4 (by rw [q])) (by rw [e])))
            clear hA NO YES s4 NU
            go_wp2_with fail
            refine N1.out.mono ?_
            rintro r w1 ⟨rfl, b1⟩
            have F1 := hide (F0.out.kept b1)
            have G1 := hide (G0.out.kept b1)
            have x3 := F1.out.c 3 (.slice ar M.funcs[k].body.length kr) rfl
            have z3 := G1.out.c 3 (.slice az K.funcs[k].body.length kz) rfl
            go_wp2_with fail
            go_ret
            exact ⟨ret_bool W.out.symm, hbw.trans ((hb1.trans (b1.mono hb1.size)).mono hbw.size)⟩
          have q4 : ((M.funcs[k].body.length : Int) != (K.funcs[k].body.length : Int)) = false := by simp; omega
          have S4 := hide s4
          clear s4 NU
          go_wp2_with fail
          refine N1.out.mono ?_
          rintro r w1 ⟨rfl, b1⟩
          have hb2 := hb1.trans (b1.mono hb1.size)
          have F1 := hide (F0.out.kept b1)
          have G1 := hide (G0.out.kept b1)
          have x3 := F1.out.c 3 (.slice ar M.funcs[k].body.length kr) rfl
          have z3 := G1.out.c 3 (.slice az K.funcs[k].body.length kz) rfl
          clear b1 N1 F0 G0 hal hb1 d0 d1 d2 d3 f0 f1 f2 f3 ra rb gi gj hbf rb' f0' f1' f2' f3'
          go_wp2_with fail
          clear x3 z3 q4
          go_loopw [9] (fun iv wq => ∃ t : Nat, t ≤ M.funcs[k].body.length ∧ iv = .int .i64 t ∧ Below w1.heap.size w1 wq ∧ Hid (M.funcs[k].body.take t = K.funcs[k].body.take t)) (fun iv _ => M.funcs[k].body.length - (intOf iv).toNat)
          case atStart => exact ⟨0, by omega, rfl, Below.refl _ _, hide (by simp)⟩
          case round =>
            obtain ⟨t, ht, rfl, hbq, hAq⟩ := hrel
            have x3 := (F1.out.kept hbq).c 3 (.slice ar M.funcs[k].body.length kr) rfl
            have z3 := (G1.out.kept hbq).c 3 (.slice az K.funcs[k].body.length kz) rfl
            have hb3 := hb2.trans (hbq.mono hb2.size)
            by_cases hlt2 : t < M.funcs[k].body.length
            · have hlr2 : t < K.funcs[k].body.length := by have := S4.out; omega
              obtain ⟨ax, cx, ex, hea⟩ := HR.out
              cases ex
              obtain ⟨ay, cy, ey, heb⟩ := HR2.out
              cases ey
              obtain ⟨b3, off3, rfl, hbb3, hi3, c0, c1, c2⟩ := hea t hlt2
              obtain ⟨b4, off4, rfl, hbb4, hi4, g0, g1, g2⟩ := heb t hlr2
              have d0 := (hb3.cell (p := ⟨b3, off3 + t * 3, none⟩) hbb3).trans c0
              have f0 := (hb3.cell (p := ⟨b4, off4 + t * 3, none⟩) hbb4).trans g0
              have d1 := (hb3.cell (p := ⟨b3, off3 + t * 3 + 1, none⟩) hbb3).trans c1
              have f1 := (hb3.cell (p := ⟨b4, off4 + t * 3 + 1, none⟩) hbb4).trans g1
              have d2 := (hb3.cell (p := ⟨b3, off3 + t * 3 + 2, none⟩) hbb3).trans c2
              have f2 := (hb3.cell (p := ⟨b4, off4 + t * 3 + 2, none⟩) hbb4).trans g2
              have gi : 0 ≤ (t : Int) ∧ (t : Int) < (M.funcs[k].body.length : Int) := by omega
              have gj : 0 ≤ (t : Int) ∧ (t : Int) < (K.funcs[k].body.length : Int) := by omega
              have hq := eql_in M.funcs[k].body[t].op M.funcs[k].body[t].n M.funcs[k].body[t].m K.funcs[k].body[t].op K.funcs[k].body[t].n K.funcs[k].body[t].m
              clear hea heb c0 c1 c2 g0 g1 g2 hi3 hi4
              by_cases p1 : M.funcs[k].body[t] = K.funcs[k].body[t]
              · have hA2q := hide (take_eq_next hAq.out hlt2 hlr2 p1)
                have hq2 : ∀ w, (Op.equalIn 10000 52 (.agg #[.int .i64 M.funcs[k].body[t].op, .int .i64 M.funcs[k].body[t].n, .int .i64 M.funcs[k].body[t].m]) (.agg #[.int .i64 K.funcs[k].body[t].op, .int .i64 K.funcs[k].body[t].n, .int .i64 K.funcs[k].body[t].m])).run Tryz.prog w = .ok true w := fun w => by rw [hq w, p1]; simp
                clear p1 hAq hA hq
                go_wp2_with fail
                go_region
                go_wp2_with fail
                go_roundw
                case rel => exact ⟨t + 1, by omega, by go_num, hbq.drew, hA2q⟩
                case measure => simp [intOf]; omega
              · have hne : ¬ (M.funcs[k].body[t].op = K.funcs[k].body[t].op ∧ M.funcs[k].body[t].n = K.funcs[k].body[t].n ∧ M.funcs[k].body[t].m = K.funcs[k].body[t].m) := by
                  intro hh
                  apply p1
                  cases hA1 : M.funcs[k].body[t]; cases hA3 : K.funcs[k].body[t]; rw [hA1, hA3] at hh; simp_all
                have hq2 : ∀ w, (Op.equalIn 10000 52 (.agg #[.int .i64 M.funcs[k].body[t].op, .int .i64 M.funcs[k].body[t].n, .int .i64 M.funcs[k].body[t].m]) (.agg #[.int .i64 K.funcs[k].body[t].op, .int .i64 K.funcs[k].body[t].n, .int .i64 K.funcs[k].body[t].m])).run Tryz.prog w = .ok false w := fun w => by rw [hq w]; simpa using hne
                have W := hide (NO.out (fun e => get_ne hlt hlr (fun q => get_ne hlt2 hlr2 p1 (by rw [q])) (by rw [e])))
                clear p1 hAq hA hq hne NO YES
                go_wp2_with fail
                go_region
                go_wp2_with fail
                go_ret
                exact ⟨ret_bool W.out.symm, hbw.trans ((hb3.drew).mono hbw.size)⟩
            · have e0 : t = M.funcs[k].body.length := by omega
              subst e0
              have S5 := take_eq_all hAq.out S4.out
              have hA2 := hide (take_eq_next hA.out hlt hlr (by
                have t1 := S1.out _ rfl
                have t2 := S2.out _ rfl
                have t3 := S3.out
                cases hA1 : M.funcs[k]; cases hA3 : K.funcs[k]; rw [hA1, hA3] at t1 t2 t3 S5; simp_all))
              clear S5 hA hAq S1 S2 S3 S4
              go_wp2_with fail
              go_roundw
              case rel => exact ⟨k + 1, by omega, by go_num, hb3, hA2⟩
              case measure => simp [intOf]; omega
        · have e0 : k = M.funcs.length := by omega
          subst e0
          have Y2 := hide (take_eq_all hA.out N2.out)
          have hbd2 := hb
          clear hA
          go_wp2_with fail
          go_loopw [10] (fun iv wr => ∃ k : Nat, k ≤ M.globals.length ∧ iv = .int .i64 k ∧ Below w0.heap.size w0 wr ∧ Hid (M.globals.take k = K.globals.take k)) (fun iv _ => M.globals.length - (intOf iv).toNat)
          case atStart => exact ⟨0, by omega, rfl, hbd2, hide (by simp)⟩
          case round =>
            obtain ⟨k, hk, rfl, hb, hA⟩ := hrel
            have hbs := hb.size
            have ra := ((RA0.out.kept hb).c 5 (.slice a5 M.globals.length k5) rfl)
            have rb := ((RB0.out.kept hb).c 5 (.slice b5 K.globals.length j5) rfl)
            by_cases hlt : k < M.globals.length
            · have hlr : k < K.globals.length := by have := N5.out; omega
              obtain ⟨ax, cx, ex, hea⟩ := HM0.out.globals
              cases ex
              obtain ⟨ay, cy, ey, heb⟩ := HK0.out.globals
              cases ey
              obtain ⟨b, off, rfl, hbb, ⟨hi, c0, c1⟩⟩ := hea k hlt
              obtain ⟨b', off', rfl, hbb', ⟨hi2, g0, g1⟩⟩ := heb k hlr
              have d0 := (hb.cell (p := ⟨b, off + k * 2, none⟩) hbb).trans c0
              have f0 := (hb.cell (p := ⟨b', off' + k * 2, none⟩) hbb').trans g0
              have d1 := (hb.cell (p := ⟨b, off + k * 2 + 1, none⟩) hbb).trans c1
              have f1 := (hb.cell (p := ⟨b', off' + k * 2 + 1, none⟩) hbb').trans g1
              clear hea heb c0 g0 c1 g1
              have gi : 0 ≤ (k : Int) ∧ (k : Int) < (M.globals.length : Int) := by omega
              have gj : 0 ≤ (k : Int) ∧ (k : Int) < (K.globals.length : Int) := by omega
              have hq := eql_gl M.globals[k].t M.globals[k].v K.globals[k].t K.globals[k].v
              by_cases p1 : M.globals[k] = K.globals[k]
              · have hA2 := hide (take_eq_next hA.out hlt hlr p1)
                have hq2 : ∀ w, (Op.equalIn 10000 70 (.agg #[.int .i64 M.globals[k].t, .int .i64 M.globals[k].v]) (.agg #[.int .i64 K.globals[k].t, .int .i64 K.globals[k].v])).run Tryz.prog w = .ok true w := fun w => by rw [hq w, p1]; simp
                clear p1 hA hq hi hi2
                go_wp2_with fail
                go_region
                go_wp2_with fail
                go_roundw
                case rel => exact ⟨k + 1, by omega, by go_num, hb.drew, hA2⟩
                case measure => simp [intOf]; omega
              · have hne : ¬ (M.globals[k].t = K.globals[k].t ∧ M.globals[k].v = K.globals[k].v) := by
                  intro hh
                  apply p1
                  cases hA1 : M.globals[k]; cases hA3 : K.globals[k]; rw [hA1, hA3] at hh; simp_all
                have hq2 : ∀ w, (Op.equalIn 10000 70 (.agg #[.int .i64 M.globals[k].t, .int .i64 M.globals[k].v]) (.agg #[.int .i64 K.globals[k].t, .int .i64 K.globals[k].v])).run Tryz.prog w = .ok false w := fun w => by rw [hq w]; simpa using hne
                have W := hide (NO.out (fun e => get_ne hlt hlr p1 (by rw [e])))
                clear p1 hA hq hne hi hi2 NO YES
                go_wp2_with fail
                go_region
                go_wp2_with fail
                go_ret
                exact ⟨ret_bool W.out.symm, hbw.trans ((hb.drew).mono hbw.size)⟩
            · have e0 : k = M.globals.length := by omega
              subst e0
              have Y5 := hide (take_eq_all hA.out N5.out)
              have hbd5 := hb
              clear hA
              go_wp2_with fail
              go_loopw [11] (fun iv wr => ∃ k : Nat, k ≤ M.data.length ∧ iv = .int .i64 k ∧ Below w0.heap.size w0 wr ∧ Hid (M.data.take k = K.data.take k)) (fun iv _ => M.data.length - (intOf iv).toNat)
              case atStart => exact ⟨0, by omega, rfl, hbd5, hide (by simp)⟩
              case round =>
                obtain ⟨k, hk, rfl, hb, hA⟩ := hrel
                have hbs := hb.size
                have ra := ((RA0.out.kept hb).c 6 (.slice a6 M.data.length k6) rfl)
                have rb := ((RB0.out.kept hb).c 6 (.slice b6 K.data.length j6) rfl)
                by_cases hlt : k < M.data.length
                · have hlr : k < K.data.length := by have := N6.out; omega
                  obtain ⟨ax, cx, ex, hea⟩ := HM0.out.data
                  cases ex
                  obtain ⟨ay, cy, ey, heb⟩ := HK0.out.data
                  cases ey
                  obtain ⟨b, off, rfl, hbb, ⟨hi, c0, c1, c2⟩⟩ := hea k hlt
                  obtain ⟨b', off', rfl, hbb', ⟨hi2, g0, g1, g2⟩⟩ := heb k hlr
                  have d0 := (hb.cell (p := ⟨b, off + k * 3, none⟩) hbb).trans c0
                  have f0 := (hb.cell (p := ⟨b', off' + k * 3, none⟩) hbb').trans g0
                  have d1 := (hb.cell (p := ⟨b, off + k * 3 + 1, none⟩) hbb).trans c1
                  have f1 := (hb.cell (p := ⟨b', off' + k * 3 + 1, none⟩) hbb').trans g1
                  have d2 := (hb.cell (p := ⟨b, off + k * 3 + 2, none⟩) hbb).trans c2
                  have f2 := (hb.cell (p := ⟨b', off' + k * 3 + 2, none⟩) hbb').trans g2
                  clear hea heb c0 g0 c1 g1 c2 g2
                  have gi : 0 ≤ (k : Int) ∧ (k : Int) < (M.data.length : Int) := by omega
                  have gj : 0 ≤ (k : Int) ∧ (k : Int) < (K.data.length : Int) := by omega
                  have hq := eql_da M.data[k].mem M.data[k].pos K.data[k].mem K.data[k].pos (str M.data[k].bytes) (str K.data[k].bytes)
                  by_cases p1 : M.data[k] = K.data[k]
                  · have hA2 := hide (take_eq_next hA.out hlt hlr p1)
                    have hq2 : ∀ w, (Op.equalIn 10000 73 (.agg #[.int .i64 M.data[k].mem, .int .i64 M.data[k].pos, .string (str M.data[k].bytes)]) (.agg #[.int .i64 K.data[k].mem, .int .i64 K.data[k].pos, .string (str K.data[k].bytes)])).run Tryz.prog w = .ok true w := fun w => by rw [hq w, p1]; simp
                    clear p1 hA hq hi hi2
                    go_wp2_with fail
                    go_region
                    go_wp2_with fail
                    go_roundw
                    case rel => exact ⟨k + 1, by omega, by go_num, hb.drew, hA2⟩
                    case measure => simp [intOf]; omega
                  · have hne : ¬ (M.data[k].mem = K.data[k].mem ∧ M.data[k].pos = K.data[k].pos ∧ M.data[k].bytes = K.data[k].bytes) := by
                      intro hh
                      apply p1
                      cases hA1 : M.data[k]; cases hA3 : K.data[k]; rw [hA1, hA3] at hh; simp_all
                    have hq2 : ∀ w, (Op.equalIn 10000 73 (.agg #[.int .i64 M.data[k].mem, .int .i64 M.data[k].pos, .string (str M.data[k].bytes)]) (.agg #[.int .i64 K.data[k].mem, .int .i64 K.data[k].pos, .string (str K.data[k].bytes)])).run Tryz.prog w = .ok false w := fun w => by rw [hq w]; simpa [str_tl] using hne
                    have W := hide (NO.out (fun e => get_ne hlt hlr p1 (by rw [e])))
                    clear p1 hA hq hne hi hi2 NO YES
                    go_wp2_with fail
                    go_region
                    go_wp2_with fail
                    go_ret
                    exact ⟨ret_bool W.out.symm, hbw.trans ((hb.drew).mono hbw.size)⟩
                · have e0 : k = M.data.length := by omega
                  subst e0
                  have Y6 := hide (take_eq_all hA.out N6.out)
                  have hbd6 := hb
                  clear hA
                  have W := hide (YES.out (by
                    have t0 := Y0.out
                    have t1 := NI.out
                    have t2 := Y2.out
                    have t3 := NM.out
                    have t5 := Y5.out
                    have t6 := Y6.out
                    cases M; cases K; simp_all))
                  clear NO YES Y0 Y2 Y5 Y6
                  go_wp2_with fail
                  go_ret
                  exact ⟨ret_bool W.out.symm, hbw.trans (hbd6.mono hbw.size)⟩
end Go.Proofs.YtcbfpikggphokaaGreatDoor
namespace Go.Proofs.YtcbfpikggphokaaGreatDoor
open Go.RowKit

theorem encE_0 {M : Mo} (h : encE M = 0) : fitE M = 0 ∧ ¬ 4000 < (encM M).length := by
  unfold encE at h
  split at h
  · split at h
    · cases h
    · exact ⟨by assumption, by assumption⟩
  · exact absurd h (by assumption)
theorem encode_yes (V : MoV) (M : Mo) (w : World) (hd : ∀ d ∈ M.data, d.bytes.length ≤ 9000000) (h : IsMo w.heap.size w V M) (he : encE M = 0) :
    Calls Tryz.prog 10 #[moV V M] w fun e w' => e = .returned (.tuple #[.string (str (encM M)), .nilIface]) ∧ Below w.heap.size w w' := by
  obtain ⟨h1, h2⟩ := encE_0 he
  exact encode_ok V M w hd h h1 h2
theorem encode_no (V : MoV) (M : Mo) (w : World) (hd : ∀ d ∈ M.data, d.bytes.length ≤ 9000000) (h : IsMo w.heap.size w V M) (he : encE M ≠ 0) :
    Calls Tryz.prog 10 #[moV V M] w fun e w' => ∃ p, e = .returned (.tuple #[.string (str []), flt p]) ∧ FaultAt w' p (encE M) 0 ∧ Below w.heap.size w w' := by
  by_cases hf : fitE M = 0
  · by_cases hl : 4000 < (encM M).length
    · have e1 : encE M = 1 := by simp [encE, hf, hl]
      rw [e1]
      exact (encode_long V M w hd h hf hl).mono fun e w' ⟨p, h1, h2, _, h3⟩ => ⟨p, h1, h2, h3⟩
    · exact absurd (by simp [encE, hf, hl]) he
  · have e1 : encE M = fitE M := by simp [encE, hf]
    rw [e1]
    exact (encode_misfit V M w h hf).mono fun e w' ⟨p, h1, h2, _, h3⟩ => ⟨p, h1, h2, h3⟩
theorem fine_of {B : Nat} {W : World} {V : MoV} {M : Mo} (h : IsMo B W V M) (hd : ∀ d ∈ M.data, d.bytes.length ≤ 9000000) (he : encE M = 0) : Fine M := by
  refine ⟨fit_of (encE_0 he).1, ?_, ?_, hd⟩
  · intro g hg
    obtain ⟨j, hj, rfl⟩ := List.getElem_of_mem hg
    obtain ⟨_, _, _, e⟩ := h.globals
    obtain ⟨_, _, _, _, hi, _⟩ := e j hj
    exact hi.2
  · intro f hf x hx
    obtain ⟨j, hj, rfl⟩ := List.getElem_of_mem hf
    obtain ⟨_, _, _, e⟩ := h.funcs
    obtain ⟨_, _, _, _, _, _, _, _, _, _, _, _, hb⟩ := e j hj
    obtain ⟨t, ht, rfl⟩ := List.getElem_of_mem hx
    obtain ⟨_, _, _, e2⟩ := hb
    obtain ⟨_, _, _, _, hi, _⟩ := e2 t ht
    exact hi.2.1
theorem str_inj {a b : List UInt8} : str a = str b ↔ a = b := by
  constructor
  · intro h
    have := congrArg (fun s => s.data.toList) h
    simpa [str] using this
  · intro h; rw [h]
set_option maxRecDepth 100000 in
set_option maxHeartbeats 3200000 in
theorem apart_nn (V U : MoV) (M K : Mo) (w : World) (hL : Laid w) (h : IsMo w.heap.size w V M) (hd : ∀ d ∈ M.data, d.bytes.length ≤ 9000000) (g : IsMo w.heap.size w U K) (hd2 : ∀ d ∈ K.data, d.bytes.length ≤ 9000000) (he : encE M ≠ 0) (hk : encE K ≠ 0) :
    Calls Tryz.prog 6 #[moV V M, moV U K] w fun e w' => e = .returned (.bool true) ∧ Below w.heap.size w w' := by
  have HM := hide h
  have HK := hide g
  obtain ⟨a0, k0, a1, k1, a2, k2, a5, k5, a6, k6, rfl⟩ := h.forms
  obtain ⟨qq0, j0, qq1, j1, qq2, j2, qq5, j5, qq6, j6, rfl⟩ := g.forms
  have hb0 := (bel_one w (.cells #[.slice a0 M.sigs.length k0, .slice a1 M.imports.length k1, .slice a2 M.funcs.length k2, .int .i64 M.m0, .int .i64 M.m1, .slice a5 M.globals.length k5, .slice a6 M.data.length k6] 29)).alloc (by simp) (.cells #[.slice qq0 K.sigs.length j0, .slice qq1 K.imports.length j1, .slice qq2 K.funcs.length j2, .int .i64 K.m0, .int .i64 K.m1, .slice qq5 K.globals.length j5, .slice qq6 K.data.length j6] 29)
  have RA := hide ((Row.made w #[.slice a0 M.sigs.length k0, .slice a1 M.imports.length k1, .slice a2 M.funcs.length k2, .int .i64 M.m0, .int .i64 M.m1, .slice a5 M.globals.length k5, .slice a6 M.data.length k6] 29).alloc (.cells #[.slice qq0 K.sigs.length j0, .slice qq1 K.imports.length j1, .slice qq2 K.funcs.length j2, .int .i64 K.m0, .int .i64 K.m1, .slice qq5 K.globals.length j5, .slice qq6 K.data.length j6] 29))
  have RB : Hid (Row ((w.alloc (.cells #[.slice a0 M.sigs.length k0, .slice a1 M.imports.length k1, .slice a2 M.funcs.length k2, .int .i64 M.m0, .int .i64 M.m1, .slice a5 M.globals.length k5, .slice a6 M.data.length k6] 29)).alloc (.cells #[.slice qq0 K.sigs.length j0, .slice qq1 K.imports.length j1, .slice qq2 K.funcs.length j2, .int .i64 K.m0, .int .i64 K.m1, .slice qq5 K.globals.length j5, .slice qq6 K.data.length j6] 29)) (w.heap.size + 1) #[.slice qq0 K.sigs.length j0, .slice qq1 K.imports.length j1, .slice qq2 K.funcs.length j2, .int .i64 K.m0, .int .i64 K.m1, .slice qq5 K.globals.length j5, .slice qq6 K.data.length j6] 29) := hide (by
    have := Row.made (w.alloc (.cells #[.slice a0 M.sigs.length k0, .slice a1 M.imports.length k1, .slice a2 M.funcs.length k2, .int .i64 M.m0, .int .i64 M.m1, .slice a5 M.globals.length k5, .slice a6 M.data.length k6] 29)) #[.slice qq0 K.sigs.length j0, .slice qq1 K.imports.length j1, .slice qq2 K.funcs.length j2, .int .i64 K.m0, .int .i64 K.m1, .slice qq5 K.globals.length j5, .slice qq6 K.data.length j6] 29
    simpa using this)
  have EX := hide (examples_any _ (hL.kept hb0))
  have E1 := hide (fun w1 (b1 : Below w.heap.size w w1) => encode_no _ M w1 hd (HM.out.step b1 b1.size) he)
  have E2 := hide (fun w1 (b1 : Below w.heap.size w w1) => encode_no _ K w1 hd2 (HK.out.step b1 b1.size) hk)
  clear h g HM HK hd hd2 he hk hL
  unfold moV at *
  dsimp only at *
  go_enter Tryz.func6, Tryz.ntmps6
  go_wp2_with fail
  refine EX.out.mono ?_
  rintro r w1 ⟨rfl, b1⟩
  have hb1 := hb0.trans (b1.mono hb0.size)
  have RA1 := hide (RA.out.kept b1)
  have RB1 := hide (RB.out.kept b1)
  have c0 := RA1.out.c 0 (.slice a0 M.sigs.length k0) rfl
  have c1 := RA1.out.c 1 (.slice a1 M.imports.length k1) rfl
  have c2 := RA1.out.c 2 (.slice a2 M.funcs.length k2) rfl
  have c3 := RA1.out.c 3 (.int .i64 M.m0) rfl
  have c4 := RA1.out.c 4 (.int .i64 M.m1) rfl
  have c5 := RA1.out.c 5 (.slice a5 M.globals.length k5) rfl
  have c6 := RA1.out.c 6 (.slice a6 M.data.length k6) rfl
  have D1 := hide (E1.out w1 hb1)
  clear b1 EX RA RB E1 hb0
  go_wp2_with fail
  refine D1.out.mono ?_
  rintro r w2 ⟨p, rfl, _, b2⟩
  have hb2 := below_next hb1 b2
  have RA2 := hide (RA1.out.kept b2)
  have RB2 := hide (RB1.out.kept b2)
  have d0 := RB2.out.c 0 (.slice qq0 K.sigs.length j0) rfl
  have d1 := RB2.out.c 1 (.slice qq1 K.imports.length j1) rfl
  have d2 := RB2.out.c 2 (.slice qq2 K.funcs.length j2) rfl
  have d3 := RB2.out.c 3 (.int .i64 K.m0) rfl
  have d4 := RB2.out.c 4 (.int .i64 K.m1) rfl
  have d5 := RB2.out.c 5 (.slice qq5 K.globals.length j5) rfl
  have d6 := RB2.out.c 6 (.slice qq6 K.data.length j6) rfl
  have D2 := hide (E2.out w2 hb2)
  clear b2 D1 RA1 RB1 E2 hb1 c0 c1 c2 c3 c4 c5 c6
  unfold flt
  go_wp2_with fail
  refine D2.out.mono ?_
  rintro r w3 ⟨q, rfl, _, b3⟩
  have hb3 := below_next hb2 b3
  clear b3 D2 d0 d1 d2 d3 d4 d5 d6
  unfold flt
  go_wp2_with fail
  go_ret
  exact ⟨rfl, hb3⟩
set_option maxRecDepth 100000 in
set_option maxHeartbeats 3200000 in
theorem apart_ny (V U : MoV) (M K : Mo) (w : World) (hL : Laid w) (h : IsMo w.heap.size w V M) (hd : ∀ d ∈ M.data, d.bytes.length ≤ 9000000) (g : IsMo w.heap.size w U K) (hd2 : ∀ d ∈ K.data, d.bytes.length ≤ 9000000) (he : encE M ≠ 0) (hk : encE K = 0) :
    Calls Tryz.prog 6 #[moV V M, moV U K] w fun e w' => e = .returned (.bool true) ∧ Below w.heap.size w w' := by
  have HM := hide h
  have HK := hide g
  obtain ⟨a0, k0, a1, k1, a2, k2, a5, k5, a6, k6, rfl⟩ := h.forms
  obtain ⟨qq0, j0, qq1, j1, qq2, j2, qq5, j5, qq6, j6, rfl⟩ := g.forms
  have hb0 := (bel_one w (.cells #[.slice a0 M.sigs.length k0, .slice a1 M.imports.length k1, .slice a2 M.funcs.length k2, .int .i64 M.m0, .int .i64 M.m1, .slice a5 M.globals.length k5, .slice a6 M.data.length k6] 29)).alloc (by simp) (.cells #[.slice qq0 K.sigs.length j0, .slice qq1 K.imports.length j1, .slice qq2 K.funcs.length j2, .int .i64 K.m0, .int .i64 K.m1, .slice qq5 K.globals.length j5, .slice qq6 K.data.length j6] 29)
  have RA := hide ((Row.made w #[.slice a0 M.sigs.length k0, .slice a1 M.imports.length k1, .slice a2 M.funcs.length k2, .int .i64 M.m0, .int .i64 M.m1, .slice a5 M.globals.length k5, .slice a6 M.data.length k6] 29).alloc (.cells #[.slice qq0 K.sigs.length j0, .slice qq1 K.imports.length j1, .slice qq2 K.funcs.length j2, .int .i64 K.m0, .int .i64 K.m1, .slice qq5 K.globals.length j5, .slice qq6 K.data.length j6] 29))
  have RB : Hid (Row ((w.alloc (.cells #[.slice a0 M.sigs.length k0, .slice a1 M.imports.length k1, .slice a2 M.funcs.length k2, .int .i64 M.m0, .int .i64 M.m1, .slice a5 M.globals.length k5, .slice a6 M.data.length k6] 29)).alloc (.cells #[.slice qq0 K.sigs.length j0, .slice qq1 K.imports.length j1, .slice qq2 K.funcs.length j2, .int .i64 K.m0, .int .i64 K.m1, .slice qq5 K.globals.length j5, .slice qq6 K.data.length j6] 29)) (w.heap.size + 1) #[.slice qq0 K.sigs.length j0, .slice qq1 K.imports.length j1, .slice qq2 K.funcs.length j2, .int .i64 K.m0, .int .i64 K.m1, .slice qq5 K.globals.length j5, .slice qq6 K.data.length j6] 29) := hide (by
    have := Row.made (w.alloc (.cells #[.slice a0 M.sigs.length k0, .slice a1 M.imports.length k1, .slice a2 M.funcs.length k2, .int .i64 M.m0, .int .i64 M.m1, .slice a5 M.globals.length k5, .slice a6 M.data.length k6] 29)) #[.slice qq0 K.sigs.length j0, .slice qq1 K.imports.length j1, .slice qq2 K.funcs.length j2, .int .i64 K.m0, .int .i64 K.m1, .slice qq5 K.globals.length j5, .slice qq6 K.data.length j6] 29
    simpa using this)
  have EX := hide (examples_any _ (hL.kept hb0))
  have E1 := hide (fun w1 (b1 : Below w.heap.size w w1) => encode_no _ M w1 hd (HM.out.step b1 b1.size) he)
  have E2 := hide (fun w1 (b1 : Below w.heap.size w w1) => encode_yes _ K w1 hd2 (HK.out.step b1 b1.size) hk)
  clear h g HM HK hd hd2 he hk hL
  unfold moV at *
  dsimp only at *
  go_enter Tryz.func6, Tryz.ntmps6
  go_wp2_with fail
  refine EX.out.mono ?_
  rintro r w1 ⟨rfl, b1⟩
  have hb1 := hb0.trans (b1.mono hb0.size)
  have RA1 := hide (RA.out.kept b1)
  have RB1 := hide (RB.out.kept b1)
  have c0 := RA1.out.c 0 (.slice a0 M.sigs.length k0) rfl
  have c1 := RA1.out.c 1 (.slice a1 M.imports.length k1) rfl
  have c2 := RA1.out.c 2 (.slice a2 M.funcs.length k2) rfl
  have c3 := RA1.out.c 3 (.int .i64 M.m0) rfl
  have c4 := RA1.out.c 4 (.int .i64 M.m1) rfl
  have c5 := RA1.out.c 5 (.slice a5 M.globals.length k5) rfl
  have c6 := RA1.out.c 6 (.slice a6 M.data.length k6) rfl
  have D1 := hide (E1.out w1 hb1)
  clear b1 EX RA RB E1 hb0
  go_wp2_with fail
  refine D1.out.mono ?_
  rintro r w2 ⟨p, rfl, _, b2⟩
  have hb2 := below_next hb1 b2
  have RA2 := hide (RA1.out.kept b2)
  have RB2 := hide (RB1.out.kept b2)
  have d0 := RB2.out.c 0 (.slice qq0 K.sigs.length j0) rfl
  have d1 := RB2.out.c 1 (.slice qq1 K.imports.length j1) rfl
  have d2 := RB2.out.c 2 (.slice qq2 K.funcs.length j2) rfl
  have d3 := RB2.out.c 3 (.int .i64 K.m0) rfl
  have d4 := RB2.out.c 4 (.int .i64 K.m1) rfl
  have d5 := RB2.out.c 5 (.slice qq5 K.globals.length j5) rfl
  have d6 := RB2.out.c 6 (.slice qq6 K.data.length j6) rfl
  have D2 := hide (E2.out w2 hb2)
  clear b2 D1 RA1 RB1 E2 hb1 c0 c1 c2 c3 c4 c5 c6
  unfold flt
  go_wp2_with fail
  refine D2.out.mono ?_
  rintro r w3 ⟨rfl, b3⟩
  have hb3 := below_next hb2 b3
  clear b3 D2 d0 d1 d2 d3 d4 d5 d6
  go_wp2_with fail
  go_ret
  exact ⟨rfl, hb3⟩
set_option maxRecDepth 100000 in
set_option maxHeartbeats 3200000 in
theorem apart_yn (V U : MoV) (M K : Mo) (w : World) (hL : Laid w) (h : IsMo w.heap.size w V M) (hd : ∀ d ∈ M.data, d.bytes.length ≤ 9000000) (g : IsMo w.heap.size w U K) (hd2 : ∀ d ∈ K.data, d.bytes.length ≤ 9000000) (he : encE M = 0) (hk : encE K ≠ 0) :
    Calls Tryz.prog 6 #[moV V M, moV U K] w fun e w' => e = .returned (.bool true) ∧ Below w.heap.size w w' := by
  have HM := hide h
  have HK := hide g
  obtain ⟨a0, k0, a1, k1, a2, k2, a5, k5, a6, k6, rfl⟩ := h.forms
  obtain ⟨qq0, j0, qq1, j1, qq2, j2, qq5, j5, qq6, j6, rfl⟩ := g.forms
  have hb0 := (bel_one w (.cells #[.slice a0 M.sigs.length k0, .slice a1 M.imports.length k1, .slice a2 M.funcs.length k2, .int .i64 M.m0, .int .i64 M.m1, .slice a5 M.globals.length k5, .slice a6 M.data.length k6] 29)).alloc (by simp) (.cells #[.slice qq0 K.sigs.length j0, .slice qq1 K.imports.length j1, .slice qq2 K.funcs.length j2, .int .i64 K.m0, .int .i64 K.m1, .slice qq5 K.globals.length j5, .slice qq6 K.data.length j6] 29)
  have RA := hide ((Row.made w #[.slice a0 M.sigs.length k0, .slice a1 M.imports.length k1, .slice a2 M.funcs.length k2, .int .i64 M.m0, .int .i64 M.m1, .slice a5 M.globals.length k5, .slice a6 M.data.length k6] 29).alloc (.cells #[.slice qq0 K.sigs.length j0, .slice qq1 K.imports.length j1, .slice qq2 K.funcs.length j2, .int .i64 K.m0, .int .i64 K.m1, .slice qq5 K.globals.length j5, .slice qq6 K.data.length j6] 29))
  have RB : Hid (Row ((w.alloc (.cells #[.slice a0 M.sigs.length k0, .slice a1 M.imports.length k1, .slice a2 M.funcs.length k2, .int .i64 M.m0, .int .i64 M.m1, .slice a5 M.globals.length k5, .slice a6 M.data.length k6] 29)).alloc (.cells #[.slice qq0 K.sigs.length j0, .slice qq1 K.imports.length j1, .slice qq2 K.funcs.length j2, .int .i64 K.m0, .int .i64 K.m1, .slice qq5 K.globals.length j5, .slice qq6 K.data.length j6] 29)) (w.heap.size + 1) #[.slice qq0 K.sigs.length j0, .slice qq1 K.imports.length j1, .slice qq2 K.funcs.length j2, .int .i64 K.m0, .int .i64 K.m1, .slice qq5 K.globals.length j5, .slice qq6 K.data.length j6] 29) := hide (by
    have := Row.made (w.alloc (.cells #[.slice a0 M.sigs.length k0, .slice a1 M.imports.length k1, .slice a2 M.funcs.length k2, .int .i64 M.m0, .int .i64 M.m1, .slice a5 M.globals.length k5, .slice a6 M.data.length k6] 29)) #[.slice qq0 K.sigs.length j0, .slice qq1 K.imports.length j1, .slice qq2 K.funcs.length j2, .int .i64 K.m0, .int .i64 K.m1, .slice qq5 K.globals.length j5, .slice qq6 K.data.length j6] 29
    simpa using this)
  have EX := hide (examples_any _ (hL.kept hb0))
  have E1 := hide (fun w1 (b1 : Below w.heap.size w w1) => encode_yes _ M w1 hd (HM.out.step b1 b1.size) he)
  have E2 := hide (fun w1 (b1 : Below w.heap.size w w1) => encode_no _ K w1 hd2 (HK.out.step b1 b1.size) hk)
  clear h g HM HK hd hd2 he hk hL
  unfold moV at *
  dsimp only at *
  go_enter Tryz.func6, Tryz.ntmps6
  go_wp2_with fail
  refine EX.out.mono ?_
  rintro r w1 ⟨rfl, b1⟩
  have hb1 := hb0.trans (b1.mono hb0.size)
  have RA1 := hide (RA.out.kept b1)
  have RB1 := hide (RB.out.kept b1)
  have c0 := RA1.out.c 0 (.slice a0 M.sigs.length k0) rfl
  have c1 := RA1.out.c 1 (.slice a1 M.imports.length k1) rfl
  have c2 := RA1.out.c 2 (.slice a2 M.funcs.length k2) rfl
  have c3 := RA1.out.c 3 (.int .i64 M.m0) rfl
  have c4 := RA1.out.c 4 (.int .i64 M.m1) rfl
  have c5 := RA1.out.c 5 (.slice a5 M.globals.length k5) rfl
  have c6 := RA1.out.c 6 (.slice a6 M.data.length k6) rfl
  have D1 := hide (E1.out w1 hb1)
  clear b1 EX RA RB E1 hb0
  go_wp2_with fail
  refine D1.out.mono ?_
  rintro r w2 ⟨rfl, b2⟩
  have hb2 := below_next hb1 b2
  have RA2 := hide (RA1.out.kept b2)
  have RB2 := hide (RB1.out.kept b2)
  have d0 := RB2.out.c 0 (.slice qq0 K.sigs.length j0) rfl
  have d1 := RB2.out.c 1 (.slice qq1 K.imports.length j1) rfl
  have d2 := RB2.out.c 2 (.slice qq2 K.funcs.length j2) rfl
  have d3 := RB2.out.c 3 (.int .i64 K.m0) rfl
  have d4 := RB2.out.c 4 (.int .i64 K.m1) rfl
  have d5 := RB2.out.c 5 (.slice qq5 K.globals.length j5) rfl
  have d6 := RB2.out.c 6 (.slice qq6 K.data.length j6) rfl
  have D2 := hide (E2.out w2 hb2)
  clear b2 D1 RA1 RB1 E2 hb1 c0 c1 c2 c3 c4 c5 c6
  go_wp2_with fail
  refine D2.out.mono ?_
  rintro r w3 ⟨q, rfl, _, b3⟩
  have hb3 := below_next hb2 b3
  clear b3 D2 d0 d1 d2 d3 d4 d5 d6
  unfold flt
  go_wp2_with fail
  go_ret
  exact ⟨rfl, hb3⟩
set_option maxRecDepth 100000 in
set_option maxHeartbeats 3200000 in
theorem apart_eq (V U : MoV) (M K : Mo) (w : World) (hL : Laid w) (h : IsMo w.heap.size w V M) (hd : ∀ d ∈ M.data, d.bytes.length ≤ 9000000) (g : IsMo w.heap.size w U K) (hd2 : ∀ d ∈ K.data, d.bytes.length ≤ 9000000) (he : encE M = 0) (hk : encE K = 0) (hq : M = K) :
    Calls Tryz.prog 6 #[moV V M, moV U K] w fun e w' => e = .returned (.bool true) ∧ Below w.heap.size w w' := by
  have HM := hide h
  have HK := hide g
  obtain ⟨a0, k0, a1, k1, a2, k2, a5, k5, a6, k6, rfl⟩ := h.forms
  obtain ⟨qq0, j0, qq1, j1, qq2, j2, qq5, j5, qq6, j6, rfl⟩ := g.forms
  have hb0 := (bel_one w (.cells #[.slice a0 M.sigs.length k0, .slice a1 M.imports.length k1, .slice a2 M.funcs.length k2, .int .i64 M.m0, .int .i64 M.m1, .slice a5 M.globals.length k5, .slice a6 M.data.length k6] 29)).alloc (by simp) (.cells #[.slice qq0 K.sigs.length j0, .slice qq1 K.imports.length j1, .slice qq2 K.funcs.length j2, .int .i64 K.m0, .int .i64 K.m1, .slice qq5 K.globals.length j5, .slice qq6 K.data.length j6] 29)
  have RA := hide ((Row.made w #[.slice a0 M.sigs.length k0, .slice a1 M.imports.length k1, .slice a2 M.funcs.length k2, .int .i64 M.m0, .int .i64 M.m1, .slice a5 M.globals.length k5, .slice a6 M.data.length k6] 29).alloc (.cells #[.slice qq0 K.sigs.length j0, .slice qq1 K.imports.length j1, .slice qq2 K.funcs.length j2, .int .i64 K.m0, .int .i64 K.m1, .slice qq5 K.globals.length j5, .slice qq6 K.data.length j6] 29))
  have RB : Hid (Row ((w.alloc (.cells #[.slice a0 M.sigs.length k0, .slice a1 M.imports.length k1, .slice a2 M.funcs.length k2, .int .i64 M.m0, .int .i64 M.m1, .slice a5 M.globals.length k5, .slice a6 M.data.length k6] 29)).alloc (.cells #[.slice qq0 K.sigs.length j0, .slice qq1 K.imports.length j1, .slice qq2 K.funcs.length j2, .int .i64 K.m0, .int .i64 K.m1, .slice qq5 K.globals.length j5, .slice qq6 K.data.length j6] 29)) (w.heap.size + 1) #[.slice qq0 K.sigs.length j0, .slice qq1 K.imports.length j1, .slice qq2 K.funcs.length j2, .int .i64 K.m0, .int .i64 K.m1, .slice qq5 K.globals.length j5, .slice qq6 K.data.length j6] 29) := hide (by
    have := Row.made (w.alloc (.cells #[.slice a0 M.sigs.length k0, .slice a1 M.imports.length k1, .slice a2 M.funcs.length k2, .int .i64 M.m0, .int .i64 M.m1, .slice a5 M.globals.length k5, .slice a6 M.data.length k6] 29)) #[.slice qq0 K.sigs.length j0, .slice qq1 K.imports.length j1, .slice qq2 K.funcs.length j2, .int .i64 K.m0, .int .i64 K.m1, .slice qq5 K.globals.length j5, .slice qq6 K.data.length j6] 29
    simpa using this)
  have EX := hide (examples_any _ (hL.kept hb0))
  have E1 := hide (fun w1 (b1 : Below w.heap.size w w1) => encode_yes _ M w1 hd (HM.out.step b1 b1.size) he)
  have E2 := hide (fun w1 (b1 : Below w.heap.size w w1) => encode_yes _ K w1 hd2 (HK.out.step b1 b1.size) hk)
  have F := (fine_of h hd he).toFit
  have SA := hide (fun w1 (b1 : Below w.heap.size w w1) => same_is _ _ M K true w1 F (HM.out.step b1 b1.size) (HK.out.step b1 b1.size) ⟨fun _ => hq, fun _ => rfl⟩)
  have TT : Hid (((str (encM M)).toList == (str (encM K)).toList) = true) := hide (by rw [hq]; simp)
  clear h g HM HK hd hd2 he hk hL F hq
  unfold moV at *
  dsimp only at *
  go_enter Tryz.func6, Tryz.ntmps6
  go_wp2_with fail
  refine EX.out.mono ?_
  rintro r w1 ⟨rfl, b1⟩
  have hb1 := hb0.trans (b1.mono hb0.size)
  have RA1 := hide (RA.out.kept b1)
  have RB1 := hide (RB.out.kept b1)
  have c0 := RA1.out.c 0 (.slice a0 M.sigs.length k0) rfl
  have c1 := RA1.out.c 1 (.slice a1 M.imports.length k1) rfl
  have c2 := RA1.out.c 2 (.slice a2 M.funcs.length k2) rfl
  have c3 := RA1.out.c 3 (.int .i64 M.m0) rfl
  have c4 := RA1.out.c 4 (.int .i64 M.m1) rfl
  have c5 := RA1.out.c 5 (.slice a5 M.globals.length k5) rfl
  have c6 := RA1.out.c 6 (.slice a6 M.data.length k6) rfl
  have D1 := hide (E1.out w1 hb1)
  clear b1 EX RA RB E1 hb0
  go_wp2_with fail
  refine D1.out.mono ?_
  rintro r w2 ⟨rfl, b2⟩
  have hb2 := below_next hb1 b2
  have RA2 := hide (RA1.out.kept b2)
  have RB2 := hide (RB1.out.kept b2)
  have d0 := RB2.out.c 0 (.slice qq0 K.sigs.length j0) rfl
  have d1 := RB2.out.c 1 (.slice qq1 K.imports.length j1) rfl
  have d2 := RB2.out.c 2 (.slice qq2 K.funcs.length j2) rfl
  have d3 := RB2.out.c 3 (.int .i64 K.m0) rfl
  have d4 := RB2.out.c 4 (.int .i64 K.m1) rfl
  have d5 := RB2.out.c 5 (.slice qq5 K.globals.length j5) rfl
  have d6 := RB2.out.c 6 (.slice qq6 K.data.length j6) rfl
  have D2 := hide (E2.out w2 hb2)
  clear b2 D1 RA1 RB1 E2 hb1 c0 c1 c2 c3 c4 c5 c6
  go_wp2_with fail
  refine D2.out.mono ?_
  rintro r w3 ⟨rfl, b3⟩
  have hb3 := below_next hb2 b3
  have RA3 := hide (RA2.out.kept b3)
  have RB3 := hide (RB2.out.kept b3)
  have x0 := RA3.out.c 0 (.slice a0 M.sigs.length k0) rfl
  have y0 := RB3.out.c 0 (.slice qq0 K.sigs.length j0) rfl
  have x1 := RA3.out.c 1 (.slice a1 M.imports.length k1) rfl
  have y1 := RB3.out.c 1 (.slice qq1 K.imports.length j1) rfl
  have x2 := RA3.out.c 2 (.slice a2 M.funcs.length k2) rfl
  have y2 := RB3.out.c 2 (.slice qq2 K.funcs.length j2) rfl
  have x3 := RA3.out.c 3 (.int .i64 M.m0) rfl
  have y3 := RB3.out.c 3 (.int .i64 K.m0) rfl
  have x4 := RA3.out.c 4 (.int .i64 M.m1) rfl
  have y4 := RB3.out.c 4 (.int .i64 K.m1) rfl
  have x5 := RA3.out.c 5 (.slice a5 M.globals.length k5) rfl
  have y5 := RB3.out.c 5 (.slice qq5 K.globals.length j5) rfl
  have x6 := RA3.out.c 6 (.slice a6 M.data.length k6) rfl
  have y6 := RB3.out.c 6 (.slice qq6 K.data.length j6) rfl
  have S3 := hide (SA.out w3 hb3)
  clear b3 D2 SA RA2 RB2 hb2 d0 d1 d2 d3 d4 d5 d6
  go_wp2_with fail
  refine S3.out.mono ?_
  rintro r w4 ⟨rfl, b4⟩
  have hb4 := below_next hb3 b4
  have tt := TT.out
  go_wp2_with fail
  go_ret
  exact ⟨rfl, hb4⟩
set_option maxRecDepth 100000 in
set_option maxHeartbeats 3200000 in
theorem apart_ne (V U : MoV) (M K : Mo) (w : World) (hL : Laid w) (h : IsMo w.heap.size w V M) (hd : ∀ d ∈ M.data, d.bytes.length ≤ 9000000) (g : IsMo w.heap.size w U K) (hd2 : ∀ d ∈ K.data, d.bytes.length ≤ 9000000) (he : encE M = 0) (hk : encE K = 0) (hq : M ≠ K) :
    Calls Tryz.prog 6 #[moV V M, moV U K] w fun e w' => e = .returned (.bool true) ∧ Below w.heap.size w w' := by
  have HM := hide h
  have HK := hide g
  obtain ⟨a0, k0, a1, k1, a2, k2, a5, k5, a6, k6, rfl⟩ := h.forms
  obtain ⟨qq0, j0, qq1, j1, qq2, j2, qq5, j5, qq6, j6, rfl⟩ := g.forms
  have hb0 := (bel_one w (.cells #[.slice a0 M.sigs.length k0, .slice a1 M.imports.length k1, .slice a2 M.funcs.length k2, .int .i64 M.m0, .int .i64 M.m1, .slice a5 M.globals.length k5, .slice a6 M.data.length k6] 29)).alloc (by simp) (.cells #[.slice qq0 K.sigs.length j0, .slice qq1 K.imports.length j1, .slice qq2 K.funcs.length j2, .int .i64 K.m0, .int .i64 K.m1, .slice qq5 K.globals.length j5, .slice qq6 K.data.length j6] 29)
  have RA := hide ((Row.made w #[.slice a0 M.sigs.length k0, .slice a1 M.imports.length k1, .slice a2 M.funcs.length k2, .int .i64 M.m0, .int .i64 M.m1, .slice a5 M.globals.length k5, .slice a6 M.data.length k6] 29).alloc (.cells #[.slice qq0 K.sigs.length j0, .slice qq1 K.imports.length j1, .slice qq2 K.funcs.length j2, .int .i64 K.m0, .int .i64 K.m1, .slice qq5 K.globals.length j5, .slice qq6 K.data.length j6] 29))
  have RB : Hid (Row ((w.alloc (.cells #[.slice a0 M.sigs.length k0, .slice a1 M.imports.length k1, .slice a2 M.funcs.length k2, .int .i64 M.m0, .int .i64 M.m1, .slice a5 M.globals.length k5, .slice a6 M.data.length k6] 29)).alloc (.cells #[.slice qq0 K.sigs.length j0, .slice qq1 K.imports.length j1, .slice qq2 K.funcs.length j2, .int .i64 K.m0, .int .i64 K.m1, .slice qq5 K.globals.length j5, .slice qq6 K.data.length j6] 29)) (w.heap.size + 1) #[.slice qq0 K.sigs.length j0, .slice qq1 K.imports.length j1, .slice qq2 K.funcs.length j2, .int .i64 K.m0, .int .i64 K.m1, .slice qq5 K.globals.length j5, .slice qq6 K.data.length j6] 29) := hide (by
    have := Row.made (w.alloc (.cells #[.slice a0 M.sigs.length k0, .slice a1 M.imports.length k1, .slice a2 M.funcs.length k2, .int .i64 M.m0, .int .i64 M.m1, .slice a5 M.globals.length k5, .slice a6 M.data.length k6] 29)) #[.slice qq0 K.sigs.length j0, .slice qq1 K.imports.length j1, .slice qq2 K.funcs.length j2, .int .i64 K.m0, .int .i64 K.m1, .slice qq5 K.globals.length j5, .slice qq6 K.data.length j6] 29
    simpa using this)
  have EX := hide (examples_any _ (hL.kept hb0))
  have E1 := hide (fun w1 (b1 : Below w.heap.size w w1) => encode_yes _ M w1 hd (HM.out.step b1 b1.size) he)
  have E2 := hide (fun w1 (b1 : Below w.heap.size w w1) => encode_yes _ K w1 hd2 (HK.out.step b1 b1.size) hk)
  have F := (fine_of h hd he).toFit
  have hi := encM_inj (fine_of h hd he) (fine_of g hd2 hk)
  have SA := hide (fun w1 (b1 : Below w.heap.size w w1) => same_is _ _ M K false w1 F (HM.out.step b1 b1.size) (HK.out.step b1 b1.size) ⟨(fun h => by cases h), fun h => absurd h hq⟩)
  have TT : Hid (((str (encM M)).toList == (str (encM K)).toList) = false) := hide (by rw [str_tl, str_tl]; simpa using fun h => hq (hi h))
  clear h g HM HK hd hd2 he hk hL F hq hi
  unfold moV at *
  dsimp only at *
  go_enter Tryz.func6, Tryz.ntmps6
  go_wp2_with fail
  refine EX.out.mono ?_
  rintro r w1 ⟨rfl, b1⟩
  have hb1 := hb0.trans (b1.mono hb0.size)
  have RA1 := hide (RA.out.kept b1)
  have RB1 := hide (RB.out.kept b1)
  have c0 := RA1.out.c 0 (.slice a0 M.sigs.length k0) rfl
  have c1 := RA1.out.c 1 (.slice a1 M.imports.length k1) rfl
  have c2 := RA1.out.c 2 (.slice a2 M.funcs.length k2) rfl
  have c3 := RA1.out.c 3 (.int .i64 M.m0) rfl
  have c4 := RA1.out.c 4 (.int .i64 M.m1) rfl
  have c5 := RA1.out.c 5 (.slice a5 M.globals.length k5) rfl
  have c6 := RA1.out.c 6 (.slice a6 M.data.length k6) rfl
  have D1 := hide (E1.out w1 hb1)
  clear b1 EX RA RB E1 hb0
  go_wp2_with fail
  refine D1.out.mono ?_
  rintro r w2 ⟨rfl, b2⟩
  have hb2 := below_next hb1 b2
  have RA2 := hide (RA1.out.kept b2)
  have RB2 := hide (RB1.out.kept b2)
  have d0 := RB2.out.c 0 (.slice qq0 K.sigs.length j0) rfl
  have d1 := RB2.out.c 1 (.slice qq1 K.imports.length j1) rfl
  have d2 := RB2.out.c 2 (.slice qq2 K.funcs.length j2) rfl
  have d3 := RB2.out.c 3 (.int .i64 K.m0) rfl
  have d4 := RB2.out.c 4 (.int .i64 K.m1) rfl
  have d5 := RB2.out.c 5 (.slice qq5 K.globals.length j5) rfl
  have d6 := RB2.out.c 6 (.slice qq6 K.data.length j6) rfl
  have D2 := hide (E2.out w2 hb2)
  clear b2 D1 RA1 RB1 E2 hb1 c0 c1 c2 c3 c4 c5 c6
  go_wp2_with fail
  refine D2.out.mono ?_
  rintro r w3 ⟨rfl, b3⟩
  have hb3 := below_next hb2 b3
  have RA3 := hide (RA2.out.kept b3)
  have RB3 := hide (RB2.out.kept b3)
  have x0 := RA3.out.c 0 (.slice a0 M.sigs.length k0) rfl
  have y0 := RB3.out.c 0 (.slice qq0 K.sigs.length j0) rfl
  have x1 := RA3.out.c 1 (.slice a1 M.imports.length k1) rfl
  have y1 := RB3.out.c 1 (.slice qq1 K.imports.length j1) rfl
  have x2 := RA3.out.c 2 (.slice a2 M.funcs.length k2) rfl
  have y2 := RB3.out.c 2 (.slice qq2 K.funcs.length j2) rfl
  have x3 := RA3.out.c 3 (.int .i64 M.m0) rfl
  have y3 := RB3.out.c 3 (.int .i64 K.m0) rfl
  have x4 := RA3.out.c 4 (.int .i64 M.m1) rfl
  have y4 := RB3.out.c 4 (.int .i64 K.m1) rfl
  have x5 := RA3.out.c 5 (.slice a5 M.globals.length k5) rfl
  have y5 := RB3.out.c 5 (.slice qq5 K.globals.length j5) rfl
  have x6 := RA3.out.c 6 (.slice a6 M.data.length k6) rfl
  have y6 := RB3.out.c 6 (.slice qq6 K.data.length j6) rfl
  have S3 := hide (SA.out w3 hb3)
  clear b3 D2 SA RA2 RB2 hb2 d0 d1 d2 d3 d4 d5 d6
  go_wp2_with fail
  refine S3.out.mono ?_
  rintro r w4 ⟨rfl, b4⟩
  have hb4 := below_next hb3 b4
  have tt := TT.out
  go_wp2_with fail
  go_ret
  exact ⟨rfl, hb4⟩
theorem apart_walk (V : MoV) (M : Mo) (U : MoV) (K : Mo) (w : World) (hL : Laid w) (h : IsMo w.heap.size w V M) (hd : ∀ d ∈ M.data, d.bytes.length ≤ 9000000) (g : IsMo w.heap.size w U K) (hd2 : ∀ d ∈ K.data, d.bytes.length ≤ 9000000) :
    Calls Tryz.prog 6 #[moV V M, moV U K] w fun e w' => e = .returned (.bool true) ∧ Below w.heap.size w w' := by
  by_cases he : encE M = 0
  · by_cases hk : encE K = 0
    · by_cases hq : M = K
      · exact apart_eq V U M K w hL h hd g hd2 he hk hq
      · exact apart_ne V U M K w hL h hd g hd2 he hk hq
    · exact apart_yn V U M K w hL h hd g hd2 he hk
  · by_cases hk : encE K = 0
    · exact apart_ny V U M K w hL h hd g hd2 he hk
    · exact apart_nn V U M K w hL h hd g hd2 he hk
end Go.Proofs.YtcbfpikggphokaaGreatDoor
