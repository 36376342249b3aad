/-
  The program's Encode: a module that fits is written as the plain function encM says, or refused; memory that was there stays as it was.
-/
import Derived.Test.YtcbfpikggphokaaGreatDoorEncB
import Derived.Laws.StructEq
namespace Go.Proofs.YtcbfpikggphokaaGreatDoor
open Go.RowKit

def head6 : List UInt8 := [0, 99, 116, 119, 1, 0]
def memL (M : Mo) : List Int := if M.m0 = 0 ∧ M.m1 = 0 then [] else [M.m0, M.m1]
def secs (M : Mo) : List UInt8 := sec 1 sgB M.sigs ++ sec 2 num M.imports ++ sec 3 fnB M.funcs ++ sec 5 oneB (memL M) ++ sec 6 glB M.globals ++ sec 10 cdB M.funcs ++ sec 11 daB M.data
def encM (M : Mo) : List UInt8 := head6 ++ secs M
/-- The error's code of Encode. -/
def encE (M : Mo) : Int := if fitE M = 0 then (if 4000 < (encM M).length then 1 else 0) else fitE M

theorem sec_bd {α : Type} {k : Int} {P : α → List UInt8} {l : List α} (h : ∀ x ∈ l, (P x).length ≤ 10000000) (hl : l.length ≤ 1000) : (sec k P l).length ≤ 10000000100 := by
  have h1 := lst_bd h hl
  have h2 := cnt_len (lst P l)
  unfold sec
  split
  · simp
  · simp only [oneB, List.length_append, List.length_cons, List.length_nil]; omega
structure Fit (M : Mo) : Prop where
  l0 : M.sigs.length ≤ 16
  l1 : M.imports.length ≤ 8
  l2 : M.funcs.length ≤ 8
  l5 : M.globals.length ≤ 8
  l6 : M.data.length ≤ 8
  s0 : ∀ x ∈ M.sigs, smSg x = true
  s2 : ∀ x ∈ M.funcs, smFn x = true
  s3 : smMem M.m0 = true ∧ smMem M.m1 = true
  w0 : ∀ x ∈ M.sigs, whSg x = true
  w1 : ∀ x ∈ M.imports, idx x = true
  w2 : ∀ x ∈ M.funcs, whFn x = true
  w5 : ∀ x ∈ M.globals, whGl x = true
  w6 : ∀ x ∈ M.data, whDa x = true
theorem fit_of {M : Mo} (h : fitE M = 0) : Fit M := by
  unfold fitE at h
  split at h
  · split at h
    · rename_i hs hw
      simp only [small, Bool.and_eq_true, decide_eq_true_eq, List.all_eq_true, List.all_cons, List.all_nil] at hs
      simp only [whole, Bool.and_eq_true, List.all_eq_true] at hw
      exact ⟨hs.1, hs.2.1, hs.2.2.1, hs.2.2.2.1, hs.2.2.2.2.1, hs.2.2.2.2.2.1, hs.2.2.2.2.2.2.1, ⟨hs.2.2.2.2.2.2.2.1, hs.2.2.2.2.2.2.2.2.1⟩, hw.1, hw.2.1, hw.2.2.1, hw.2.2.2.1, hw.2.2.2.2⟩
    · cases h
  · cases h
theorem sg_bd {x : Sg} (h : smSg x = true) (g : whSg x = true) : (sgB x).length ≤ 10000000 := by
  simp only [smSg, decide_eq_true_eq] at h
  simp only [whSg, Bool.and_eq_true, decide_eq_true_eq] at g
  have := types_len (l := x.params)
  have := types_len (l := x.results)
  simp only [sgB, List.length_append]; omega
theorem fn_bd (x : Fn) : (fnB x).length ≤ 10000000 := by
  have := num_len x.sig
  simp only [fnB, oneB, List.length_append, List.length_cons, List.length_nil]; omega
theorem gl_bd (x : Gl) : (glB x).length ≤ 10000000 := by
  have := tyB_len x.t
  have := encS_len (glV x)
  simp only [glB, List.length_append]; omega
theorem cd_bd {x : Fn} (h : smFn x = true) : (cdB x).length ≤ 10000000 := by
  simp only [smFn, Bool.and_eq_true, decide_eq_true_eq] at h
  have := types_len (l := x.locals)
  have := cnt_len (flat inB x.body)
  have := body_len (l := x.body)
  simp only [cdB, List.length_append]; omega
theorem da_bd {x : Da} (h : x.bytes.length ≤ 9000000) : (daB x).length ≤ 10000000 := by
  have := num_len x.mem
  have := num_len x.pos
  have := cnt_len x.bytes
  simp only [daB, List.length_append]; omega
theorem one_bd (x : Int) : (oneB x).length ≤ 10000000 := by simp [oneB]
theorem mem_byte {x : Int} (h : smMem x = true) : 0 ≤ x ∧ x ≤ 255 := by
  simp only [smMem, Bool.or_eq_true, Bool.and_eq_true, decide_eq_true_eq] at h; omega
theorem memL_len (M : Mo) : (memL M).length ≤ 1000 := by unfold memL; split <;> simp
theorem memL_byte {M : Mo} (F : Fit M) : ∀ x ∈ memL M, 0 ≤ x ∧ x ≤ 255 := by
  intro x hx
  unfold memL at hx
  split at hx
  · simp at hx
  · simp at hx; rcases hx with rfl | rfl
    · exact mem_byte F.s3.1
    · exact mem_byte F.s3.2
theorem Tryz.sizeInt (w : World) : (sizeOf 3).run Tryz.prog w = .ok 1 w := by kernel_rfl
theorem Tryz.part0 (x y : Value) (w : World) : (part 3 #[x, y] 0).run Tryz.prog w = .ok x w := by kernel_rfl
theorem Tryz.part1 (x y : Value) (w : World) : (part 3 #[x, y] 1).run Tryz.prog w = .ok y w := by kernel_rfl
theorem run_equalIn_two (a b c d : Int) (w : World) : (Op.equalIn 10000 25 (.agg #[.int .i64 a, .int .i64 b]) (.agg #[.int .i64 c, .int .i64 d])).run Tryz.prog w = .ok (a == c && b == d) w := by
  have h3 : ∀ (x y : Int) (w : World), (Op.equalIn 9999 3 (.int .i64 x) (.int .i64 y)).run Tryz.prog w = .ok (x == y) w := fun x y w => run_equalIn_int w 9998 3 .i64 .i64 x y Tryz.underlying3
  rw [show (10000 : Nat) = 9999 + 1 from rfl, Op.equalIn]
  simp only [Sem.run_bind, run_underlying Tryz.underlying25, Result.andThen_ok, Tryz.sizeInt]
  rw [Std.Legacy.Range.forIn_eq_forIn_range']
  simp only [Std.Legacy.Range.size]
  simp [List.range', Tryz.part0, Tryz.part1, h3, Sem.run_bind]
  cases h1 : (a == c) <;> cases h2 : (b == d) <;> simp_all
theorem idx_pos {x : Int} (h : idx x = true) : 0 ≤ x := by simp only [idx, Bool.and_eq_true, decide_eq_true_eq] at h; exact h.1
theorem fn_idx {x : Fn} (h : whFn x = true) : idx x.sig = true := by simp only [whFn, Bool.and_eq_true] at h; exact h.1
theorem secs_len (M : Mo) (F : Fit M) (hd : ∀ d ∈ M.data, d.bytes.length ≤ 9000000) : (secs M).length ≤ 70000000700 := by
  have b0 := sec_bd (k := 1) (P := sgB) (l := M.sigs) (fun x hx => sg_bd (F.s0 x hx) (F.w0 x hx)) (by have := F.l0; omega)
  have b1 := sec_bd (k := 2) (P := num) (l := M.imports) (fun x _ => Nat.le_trans (num_len x) (by decide)) (by have := F.l1; omega)
  have b2 := sec_bd (k := 3) (P := fnB) (l := M.funcs) (fun x _ => fn_bd x) (by have := F.l2; omega)
  have b3 := sec_bd (k := 5) (P := oneB) (l := memL M) (fun x _ => one_bd x) (memL_len M)
  have b4 := sec_bd (k := 6) (P := glB) (l := M.globals) (fun x _ => gl_bd x) (by have := F.l5; omega)
  have b5 := sec_bd (k := 10) (P := cdB) (l := M.funcs) (fun x hx => cd_bd (F.s2 x hx)) (by have := F.l2; omega)
  have b6 := sec_bd (k := 11) (P := daB) (l := M.data) (fun x hx => da_bd (hd x hx)) (by have := F.l6; omega)
  simp only [secs, List.length_append]; omega
set_option maxRecDepth 100000 in
set_option maxHeartbeats 3200000 in
theorem sections_z (V : MoV) (M : Mo) (w : World) (F : Fit M) (hd : ∀ d ∈ M.data, d.bytes.length ≤ 9000000) (h : IsMo w.heap.size w V M) (hm : (M.m0 = 0 ∧ M.m1 = 0)) :
    Calls Tryz.prog 20 #[moV V M] w fun e w' => e = .returned (.string (str (secs M))) ∧ Below w.heap.size w w' := by
  obtain ⟨a0, c0, a1, c1, a2, c2, a5, c5, a6, c6, rfl⟩ := h.forms
  have hb0 := bel_one w (.cells #[.slice a0 M.sigs.length c0, .slice a1 M.imports.length c1, .slice a2 M.funcs.length c2, .int .i64 M.m0, .int .i64 M.m1, .slice a5 M.globals.length c5, .slice a6 M.data.length c6] 29)
  have R0 := hide (Row.made w #[.slice a0 M.sigs.length c0, .slice a1 M.imports.length c1, .slice a2 M.funcs.length c2, .int .i64 M.m0, .int .i64 M.m1, .slice a5 M.globals.length c5, .slice a6 M.data.length c6] 29)
  have D0 := hide (fun d os => Calls.regrown_of (w := w.alloc (.cells #[.slice a0 M.sigs.length c0, .slice a1 M.imports.length c1, .slice a2 M.funcs.length c2, .int .i64 M.m0, .int .i64 M.m1, .slice a5 M.globals.length c5, .slice a6 M.data.length c6] 29)) (d := d) (os := os) (section_sg 1 40 sgB _ M.sigs _ (by decide) at40 (by have := F.l0; omega) (fun x hx => sg_bd (F.s0 x hx) (F.w0 x hx)) (h.sigs.step keeps_sg (below_next hb0 (below_regrown _ d os)) (below_next hb0 (below_regrown _ d os)).size) (fun x hx vp vr w hp hr => sigBytes_w x vp vr w (F.s0 x hx) (F.w0 x hx) hp hr)))
  have D1 := hide (fun d os => Calls.regrown_of (w := w.alloc (.cells #[.slice a0 M.sigs.length c0, .slice a1 M.imports.length c1, .slice a2 M.funcs.length c2, .int .i64 M.m0, .int .i64 M.m1, .slice a5 M.globals.length c5, .slice a6 M.data.length c6] 29)) (d := d) (os := os) (section_int 2 42 num _ M.imports _ (by decide) at42 (by have := F.l1; omega) (fun x _ => Nat.le_trans (num_len x) (by decide)) (h.imports.step keeps_int (below_next hb0 (below_regrown _ d os)) (below_next hb0 (below_regrown _ d os)).size) (fun x hx w _ => number_w x w (idx_pos (F.w1 x hx)))))
  have D2 := hide (fun d os => Calls.regrown_of (w := w.alloc (.cells #[.slice a0 M.sigs.length c0, .slice a1 M.imports.length c1, .slice a2 M.funcs.length c2, .int .i64 M.m0, .int .i64 M.m1, .slice a5 M.globals.length c5, .slice a6 M.data.length c6] 29)) (d := d) (os := os) (section_fn 3 44 fnB _ M.funcs _ (by decide) at44 (by have := F.l2; omega) (fun x _ => fn_bd x) (h.funcs.step keeps_fn (below_next hb0 (below_regrown _ d os)) (below_next hb0 (below_regrown _ d os)).size) (fun x hx vl vb w _ hp hr => funcBytes_w x vl vb w (fn_idx (F.w2 x hx)) hp hr)))
  have D3 := hide (fun d os => Calls.regrown_of (w := w.alloc (.cells #[.slice a0 M.sigs.length c0, .slice a1 M.imports.length c1, .slice a2 M.funcs.length c2, .int .i64 M.m0, .int .i64 M.m1, .slice a5 M.globals.length c5, .slice a6 M.data.length c6] 29)) (d := d) (os := os) (section_int 5 45 oneB (.slice none 0 0) (memL M) _ (by decide) at45 (memL_len M) (fun x _ => one_bd x) (by rw [show memL M = [] from if_pos hm]; exact Sl.isNil _ _ none 0) (fun x hx w _ => oneByte_w x w (memL_byte F x hx).1 (memL_byte F x hx).2)))
  have D4 := hide (fun d os => Calls.regrown_of (w := w.alloc (.cells #[.slice a0 M.sigs.length c0, .slice a1 M.imports.length c1, .slice a2 M.funcs.length c2, .int .i64 M.m0, .int .i64 M.m1, .slice a5 M.globals.length c5, .slice a6 M.data.length c6] 29)) (d := d) (os := os) (section_gl 6 47 glB _ M.globals _ (by decide) at47 (by have := F.l5; omega) (fun x _ => gl_bd x) (h.globals.step keeps_gl (below_next hb0 (below_regrown _ d os)) (below_next hb0 (below_regrown _ d os)).size) (fun x hx w hi => globalBytes_w x w (F.w5 x hx) hi)))
  have D5 := hide (fun d os => Calls.regrown_of (w := w.alloc (.cells #[.slice a0 M.sigs.length c0, .slice a1 M.imports.length c1, .slice a2 M.funcs.length c2, .int .i64 M.m0, .int .i64 M.m1, .slice a5 M.globals.length c5, .slice a6 M.data.length c6] 29)) (d := d) (os := os) (section_fn 10 48 cdB _ M.funcs _ (by decide) at48 (by have := F.l2; omega) (fun x hx => cd_bd (F.s2 x hx)) (h.funcs.step keeps_fn (below_next hb0 (below_regrown _ d os)) (below_next hb0 (below_regrown _ d os)).size) (fun x hx vl vb w _ hp hr => codeBytes_w x vl vb w (F.s2 x hx) (F.w2 x hx) hp hr)))
  have D6 := hide (fun d os => Calls.regrown_of (w := w.alloc (.cells #[.slice a0 M.sigs.length c0, .slice a1 M.imports.length c1, .slice a2 M.funcs.length c2, .int .i64 M.m0, .int .i64 M.m1, .slice a5 M.globals.length c5, .slice a6 M.data.length c6] 29)) (d := d) (os := os) (section_da 11 50 daB _ M.data _ (by decide) at50 (by have := F.l6; omega) (fun x hx => da_bd (hd x hx)) (h.data.step keeps_da (below_next hb0 (below_regrown _ d os)) (below_next hb0 (below_regrown _ d os)).size) (fun x hx w _ => datumBytes_w x w (F.w6 x hx) (hd x hx))))
  have e0 := cell_regrown (R0.out.c 0 (.slice a0 M.sigs.length c0) rfl)
  have e1 := cell_regrown (R0.out.c 1 (.slice a1 M.imports.length c1) rfl)
  have e2 := cell_regrown (R0.out.c 2 (.slice a2 M.funcs.length c2) rfl)
  have e5 := cell_regrown (R0.out.c 5 (.slice a5 M.globals.length c5) rfl)
  have e6 := cell_regrown (R0.out.c 6 (.slice a6 M.data.length c6) rfl)
  have b0 := sec_bd (k := 1) (P := sgB) (l := M.sigs) (fun x hx => sg_bd (F.s0 x hx) (F.w0 x hx)) (by have := F.l0; omega)
  have b1 := sec_bd (k := 2) (P := num) (l := M.imports) (fun x _ => Nat.le_trans (num_len x) (by decide)) (by have := F.l1; omega)
  have b2 := sec_bd (k := 3) (P := fnB) (l := M.funcs) (fun x _ => fn_bd x) (by have := F.l2; omega)
  have b3 := sec_bd (k := 5) (P := oneB) (l := memL M) (fun x _ => one_bd x) (memL_len M)
  have b4 := sec_bd (k := 6) (P := glB) (l := M.globals) (fun x _ => gl_bd x) (by have := F.l5; omega)
  have b5 := sec_bd (k := 10) (P := cdB) (l := M.funcs) (fun x hx => cd_bd (F.s2 x hx)) (by have := F.l2; omega)
  have b6 := sec_bd (k := 11) (P := daB) (l := M.data) (fun x hx => da_bd (hd x hx)) (by have := F.l6; omega)
  have z1 : ¬ 9223372036854775807 < (str (sec 1 sgB M.sigs)).size + (str (sec 2 num M.imports)).size := by simp only [str_size]; omega
  have z2 : ¬ 9223372036854775807 < (str (sec 1 sgB M.sigs)).size + (str (sec 2 num M.imports)).size + (str (sec 3 fnB M.funcs)).size := by simp only [str_size]; omega
  have z3 : ¬ 9223372036854775807 < (str (sec 1 sgB M.sigs)).size + (str (sec 2 num M.imports)).size + (str (sec 3 fnB M.funcs)).size + (str (sec 5 oneB (memL M))).size := by simp only [str_size]; omega
  have z4 : ¬ 9223372036854775807 < (str (sec 1 sgB M.sigs)).size + (str (sec 2 num M.imports)).size + (str (sec 3 fnB M.funcs)).size + (str (sec 5 oneB (memL M))).size + (str (sec 6 glB M.globals)).size := by simp only [str_size]; omega
  have z5 : ¬ 9223372036854775807 < (str (sec 1 sgB M.sigs)).size + (str (sec 2 num M.imports)).size + (str (sec 3 fnB M.funcs)).size + (str (sec 5 oneB (memL M))).size + (str (sec 6 glB M.globals)).size + (str (sec 10 cdB M.funcs)).size := by simp only [str_size]; omega
  have z6 : ¬ 9223372036854775807 < (str (sec 1 sgB M.sigs)).size + (str (sec 2 num M.imports)).size + (str (sec 3 fnB M.funcs)).size + (str (sec 5 oneB (memL M))).size + (str (sec 6 glB M.globals)).size + (str (sec 10 cdB M.funcs)).size + (str (sec 11 daB M.data)).size := by simp only [str_size]; omega
  have he : ∀ w, (Op.equalIn 10000 25 (.agg #[.int .i64 M.m0, .int .i64 M.m1]) (.agg #[.int .i64 0, .int .i64 0])).run Tryz.prog w = .ok true w := fun w => by rw [run_equalIn_two]; simp [hm]
  clear F hd h hm b0 b1 b2 b3 b4 b5 b6
  unfold moV
  dsimp only
  go_enter Tryz.func20, Tryz.ntmps20
  go_wp2_with fail
  clear R0
  generalize w.alloc (.cells #[.slice a0 M.sigs.length c0, .slice a1 M.imports.length c1, .slice a2 M.funcs.length c2, .int .i64 M.m0, .int .i64 M.m1, .slice a5 M.globals.length c5, .slice a6 M.data.length c6] 29) = w0 at *
  refine wp_region_quiet_below (by kernel_rfl) (by kernel_rfl) ?_
  iterate 3 (go_big_quiet_step (exact D0.out _ _))
  iterate 3 (go_big_quiet_step (exact D1.out _ _))
  iterate 4 (go_big_quiet_step (exact D2.out _ _))
  iterate 3 (go_big_quiet_step (exact D3.out _ _))
  iterate 4 (go_big_quiet_step (exact D4.out _ _))
  iterate 4 (go_big_quiet_step (exact D5.out _ _))
  repeat (go_big_quiet_step (exact D6.out _ _))
  refine wpQuiet_nil ?_
  intro _ hw'
  obtain ⟨⟨dq, osq⟩, hw''⟩ := hw'
  subst hw''
  go_wp2
  go_ret
  exact ⟨ret_str (by simp only [str_append, secs]), below_next hb0 (below_regrown _ dq osq)⟩
set_option maxRecDepth 100000 in
set_option maxHeartbeats 3200000 in
theorem sections_n (V : MoV) (M : Mo) (w : World) (F : Fit M) (hd : ∀ d ∈ M.data, d.bytes.length ≤ 9000000) (h : IsMo w.heap.size w V M) (hm : ¬ (M.m0 = 0 ∧ M.m1 = 0)) :
    Calls Tryz.prog 20 #[moV V M] w fun e w' => e = .returned (.string (str (secs M))) ∧ Below w.heap.size w w' := by
  obtain ⟨a0, c0, a1, c1, a2, c2, a5, c5, a6, c6, rfl⟩ := h.forms
  have hb0 := bel_one w (.cells #[.slice a0 M.sigs.length c0, .slice a1 M.imports.length c1, .slice a2 M.funcs.length c2, .int .i64 M.m0, .int .i64 M.m1, .slice a5 M.globals.length c5, .slice a6 M.data.length c6] 29)
  have R0 := hide (Row.made w #[.slice a0 M.sigs.length c0, .slice a1 M.imports.length c1, .slice a2 M.funcs.length c2, .int .i64 M.m0, .int .i64 M.m1, .slice a5 M.globals.length c5, .slice a6 M.data.length c6] 29)
  have D0 := hide (fun d os => Calls.regrown_of (w := w.alloc (.cells #[.slice a0 M.sigs.length c0, .slice a1 M.imports.length c1, .slice a2 M.funcs.length c2, .int .i64 M.m0, .int .i64 M.m1, .slice a5 M.globals.length c5, .slice a6 M.data.length c6] 29)) (d := d) (os := os) (section_sg 1 40 sgB _ M.sigs _ (by decide) at40 (by have := F.l0; omega) (fun x hx => sg_bd (F.s0 x hx) (F.w0 x hx)) (h.sigs.step keeps_sg (below_next hb0 (below_regrown _ d os)) (below_next hb0 (below_regrown _ d os)).size) (fun x hx vp vr w hp hr => sigBytes_w x vp vr w (F.s0 x hx) (F.w0 x hx) hp hr)))
  have D1 := hide (fun d os => Calls.regrown_of (w := w.alloc (.cells #[.slice a0 M.sigs.length c0, .slice a1 M.imports.length c1, .slice a2 M.funcs.length c2, .int .i64 M.m0, .int .i64 M.m1, .slice a5 M.globals.length c5, .slice a6 M.data.length c6] 29)) (d := d) (os := os) (section_int 2 42 num _ M.imports _ (by decide) at42 (by have := F.l1; omega) (fun x _ => Nat.le_trans (num_len x) (by decide)) (h.imports.step keeps_int (below_next hb0 (below_regrown _ d os)) (below_next hb0 (below_regrown _ d os)).size) (fun x hx w _ => number_w x w (idx_pos (F.w1 x hx)))))
  have D2 := hide (fun d os => Calls.regrown_of (w := w.alloc (.cells #[.slice a0 M.sigs.length c0, .slice a1 M.imports.length c1, .slice a2 M.funcs.length c2, .int .i64 M.m0, .int .i64 M.m1, .slice a5 M.globals.length c5, .slice a6 M.data.length c6] 29)) (d := d) (os := os) (section_fn 3 44 fnB _ M.funcs _ (by decide) at44 (by have := F.l2; omega) (fun x _ => fn_bd x) (h.funcs.step keeps_fn (below_next hb0 (below_regrown _ d os)) (below_next hb0 (below_regrown _ d os)).size) (fun x hx vl vb w _ hp hr => funcBytes_w x vl vb w (fn_idx (F.w2 x hx)) hp hr)))
  have D3 := hide (fun d os => Calls.regrown_of (w := w.alloc (.cells #[.slice a0 M.sigs.length c0, .slice a1 M.imports.length c1, .slice a2 M.funcs.length c2, .int .i64 M.m0, .int .i64 M.m1, .slice a5 M.globals.length c5, .slice a6 M.data.length c6] 29)) (d := d) (os := os) (section_int 5 45 oneB (.slice (some ⟨w.heap.size, 3, none⟩) 2 2) (memL M) _ (by decide) at45 (memL_len M) (fun x _ => one_bd x) (by rw [show memL M = [M.m0, M.m1] from if_neg hm]; exact box_mems (R0.out.kept (below_regrown _ d os)) h.mems) (fun x hx w _ => oneByte_w x w (memL_byte F x hx).1 (memL_byte F x hx).2)))
  have D4 := hide (fun d os => Calls.regrown_of (w := w.alloc (.cells #[.slice a0 M.sigs.length c0, .slice a1 M.imports.length c1, .slice a2 M.funcs.length c2, .int .i64 M.m0, .int .i64 M.m1, .slice a5 M.globals.length c5, .slice a6 M.data.length c6] 29)) (d := d) (os := os) (section_gl 6 47 glB _ M.globals _ (by decide) at47 (by have := F.l5; omega) (fun x _ => gl_bd x) (h.globals.step keeps_gl (below_next hb0 (below_regrown _ d os)) (below_next hb0 (below_regrown _ d os)).size) (fun x hx w hi => globalBytes_w x w (F.w5 x hx) hi)))
  have D5 := hide (fun d os => Calls.regrown_of (w := w.alloc (.cells #[.slice a0 M.sigs.length c0, .slice a1 M.imports.length c1, .slice a2 M.funcs.length c2, .int .i64 M.m0, .int .i64 M.m1, .slice a5 M.globals.length c5, .slice a6 M.data.length c6] 29)) (d := d) (os := os) (section_fn 10 48 cdB _ M.funcs _ (by decide) at48 (by have := F.l2; omega) (fun x hx => cd_bd (F.s2 x hx)) (h.funcs.step keeps_fn (below_next hb0 (below_regrown _ d os)) (below_next hb0 (below_regrown _ d os)).size) (fun x hx vl vb w _ hp hr => codeBytes_w x vl vb w (F.s2 x hx) (F.w2 x hx) hp hr)))
  have D6 := hide (fun d os => Calls.regrown_of (w := w.alloc (.cells #[.slice a0 M.sigs.length c0, .slice a1 M.imports.length c1, .slice a2 M.funcs.length c2, .int .i64 M.m0, .int .i64 M.m1, .slice a5 M.globals.length c5, .slice a6 M.data.length c6] 29)) (d := d) (os := os) (section_da 11 50 daB _ M.data _ (by decide) at50 (by have := F.l6; omega) (fun x hx => da_bd (hd x hx)) (h.data.step keeps_da (below_next hb0 (below_regrown _ d os)) (below_next hb0 (below_regrown _ d os)).size) (fun x hx w _ => datumBytes_w x w (F.w6 x hx) (hd x hx))))
  have e0 := cell_regrown (R0.out.c 0 (.slice a0 M.sigs.length c0) rfl)
  have e1 := cell_regrown (R0.out.c 1 (.slice a1 M.imports.length c1) rfl)
  have e2 := cell_regrown (R0.out.c 2 (.slice a2 M.funcs.length c2) rfl)
  have e5 := cell_regrown (R0.out.c 5 (.slice a5 M.globals.length c5) rfl)
  have e6 := cell_regrown (R0.out.c 6 (.slice a6 M.data.length c6) rfl)
  have b0 := sec_bd (k := 1) (P := sgB) (l := M.sigs) (fun x hx => sg_bd (F.s0 x hx) (F.w0 x hx)) (by have := F.l0; omega)
  have b1 := sec_bd (k := 2) (P := num) (l := M.imports) (fun x _ => Nat.le_trans (num_len x) (by decide)) (by have := F.l1; omega)
  have b2 := sec_bd (k := 3) (P := fnB) (l := M.funcs) (fun x _ => fn_bd x) (by have := F.l2; omega)
  have b3 := sec_bd (k := 5) (P := oneB) (l := memL M) (fun x _ => one_bd x) (memL_len M)
  have b4 := sec_bd (k := 6) (P := glB) (l := M.globals) (fun x _ => gl_bd x) (by have := F.l5; omega)
  have b5 := sec_bd (k := 10) (P := cdB) (l := M.funcs) (fun x hx => cd_bd (F.s2 x hx)) (by have := F.l2; omega)
  have b6 := sec_bd (k := 11) (P := daB) (l := M.data) (fun x hx => da_bd (hd x hx)) (by have := F.l6; omega)
  have z1 : ¬ 9223372036854775807 < (str (sec 1 sgB M.sigs)).size + (str (sec 2 num M.imports)).size := by simp only [str_size]; omega
  have z2 : ¬ 9223372036854775807 < (str (sec 1 sgB M.sigs)).size + (str (sec 2 num M.imports)).size + (str (sec 3 fnB M.funcs)).size := by simp only [str_size]; omega
  have z3 : ¬ 9223372036854775807 < (str (sec 1 sgB M.sigs)).size + (str (sec 2 num M.imports)).size + (str (sec 3 fnB M.funcs)).size + (str (sec 5 oneB (memL M))).size := by simp only [str_size]; omega
  have z4 : ¬ 9223372036854775807 < (str (sec 1 sgB M.sigs)).size + (str (sec 2 num M.imports)).size + (str (sec 3 fnB M.funcs)).size + (str (sec 5 oneB (memL M))).size + (str (sec 6 glB M.globals)).size := by simp only [str_size]; omega
  have z5 : ¬ 9223372036854775807 < (str (sec 1 sgB M.sigs)).size + (str (sec 2 num M.imports)).size + (str (sec 3 fnB M.funcs)).size + (str (sec 5 oneB (memL M))).size + (str (sec 6 glB M.globals)).size + (str (sec 10 cdB M.funcs)).size := by simp only [str_size]; omega
  have z6 : ¬ 9223372036854775807 < (str (sec 1 sgB M.sigs)).size + (str (sec 2 num M.imports)).size + (str (sec 3 fnB M.funcs)).size + (str (sec 5 oneB (memL M))).size + (str (sec 6 glB M.globals)).size + (str (sec 10 cdB M.funcs)).size + (str (sec 11 daB M.data)).size := by simp only [str_size]; omega
  have he : ∀ w, (Op.equalIn 10000 25 (.agg #[.int .i64 M.m0, .int .i64 M.m1]) (.agg #[.int .i64 0, .int .i64 0])).run Tryz.prog w = .ok false w := fun w => by rw [run_equalIn_two]; simpa using hm
  clear F hd h hm b0 b1 b2 b3 b4 b5 b6
  unfold moV
  dsimp only
  go_enter Tryz.func20, Tryz.ntmps20
  go_wp2_with fail
  clear R0
  generalize w.alloc (.cells #[.slice a0 M.sigs.length c0, .slice a1 M.imports.length c1, .slice a2 M.funcs.length c2, .int .i64 M.m0, .int .i64 M.m1, .slice a5 M.globals.length c5, .slice a6 M.data.length c6] 29) = w0 at *
  refine wp_region_quiet_below (by kernel_rfl) (by kernel_rfl) ?_
  iterate 3 (go_big_quiet_step (exact D0.out _ _))
  iterate 3 (go_big_quiet_step (exact D1.out _ _))
  iterate 4 (go_big_quiet_step (exact D2.out _ _))
  iterate 3 (go_big_quiet_step (exact D3.out _ _))
  iterate 4 (go_big_quiet_step (exact D4.out _ _))
  iterate 4 (go_big_quiet_step (exact D5.out _ _))
  repeat (go_big_quiet_step (exact D6.out _ _))
  refine wpQuiet_nil ?_
  intro _ hw'
  obtain ⟨⟨dq, osq⟩, hw''⟩ := hw'
  subst hw''
  go_wp2
  go_ret
  exact ⟨ret_str (by simp only [str_append, secs]), below_next hb0 (below_regrown _ dq osq)⟩
theorem sections_w (V : MoV) (M : Mo) (w : World) (F : Fit M) (hd : ∀ d ∈ M.data, d.bytes.length ≤ 9000000) (h : IsMo w.heap.size w V M) :
    Calls Tryz.prog 20 #[moV V M] w fun e w' => e = .returned (.string (str (secs M))) ∧ Below w.heap.size w w' := by
  by_cases hm : M.m0 = 0 ∧ M.m1 = 0
  · exact sections_z V M w F hd h hm
  · exact sections_n V M w F hd h hm
theorem encode_misfit (V : MoV) (M : Mo) (w : World) (h : IsMo w.heap.size w V M) (hf : fitE M ≠ 0) :
    Calls Tryz.prog 10 #[moV V M] w fun e w' => ∃ p, e = .returned (.tuple #[.string (str []), flt p]) ∧ FaultAt w' p (fitE M) 0 ∧ w.heap.size ≤ p ∧ Below w.heap.size w w' := by
  have HM := hide h
  obtain ⟨a0, c0, a1, c1, a2, c2, a5, c5, a6, c6, rfl⟩ := h.forms
  have hb0 := bel_one w (.cells #[.slice a0 M.sigs.length c0, .slice a1 M.imports.length c1, .slice a2 M.funcs.length c2, .int .i64 M.m0, .int .i64 M.m1, .slice a5 M.globals.length c5, .slice a6 M.data.length c6] 29)
  have S := hide (misfit_no _ M _ (HM.out.step hb0 hb0.size) hf)
  clear h hf HM
  unfold moV at *
  dsimp only at *
  go_enter Tryz.func10, Tryz.ntmps10
  go_wp2_with fail
  refine S.out.mono ?_
  rintro r w1 ⟨p, rfl, f1, hp, b1⟩
  have hb1 := below_next hb0 b1
  have F1 := hide f1
  have P1 := hide hp
  clear f1 hp b1 S
  unfold flt
  go_wp2_with fail
  go_ret2
  exact ⟨p, rfl, F1.out, Nat.le_trans hb0.size P1.out, hb1⟩
set_option maxHeartbeats 800000 in
theorem encode_long (V : MoV) (M : Mo) (w : World) (hd : ∀ d ∈ M.data, d.bytes.length ≤ 9000000) (h : IsMo w.heap.size w V M) (hf : fitE M = 0) (hl : 4000 < (encM M).length) :
    Calls Tryz.prog 10 #[moV V M] w fun e w' => ∃ p, e = .returned (.tuple #[.string (str []), flt p]) ∧ FaultAt w' p 1 0 ∧ w.heap.size ≤ p ∧ Below w.heap.size w w' := by
  have HM := hide h
  obtain ⟨a0, c0, a1, c1, a2, c2, a5, c5, a6, c6, rfl⟩ := h.forms
  have hb0 := bel_one w (.cells #[.slice a0 M.sigs.length c0, .slice a1 M.imports.length c1, .slice a2 M.funcs.length c2, .int .i64 M.m0, .int .i64 M.m1, .slice a5 M.globals.length c5, .slice a6 M.data.length c6] 29)
  have R0 := hide (Row.made w #[.slice a0 M.sigs.length c0, .slice a1 M.imports.length c1, .slice a2 M.funcs.length c2, .int .i64 M.m0, .int .i64 M.m1, .slice a5 M.globals.length c5, .slice a6 M.data.length c6] 29)
  have S := hide (misfit_ok _ M _ (HM.out.step hb0 hb0.size) hf)
  have F := fit_of hf
  have T := hide (fun w1 (b1 : Below w.heap.size w w1) => sections_w _ M w1 F hd (HM.out.step b1 b1.size))
  have q := secs_len M F hd
  have z1 : ¬ 9223372036854775807 < (str head6).size + (str (secs M)).size := by rw [str_size, str_size]; simp only [head6, List.length_cons, List.length_nil]; omega
  have z2 : (4000 : Int) < ((str head6 ++ str (secs M)).size : Int) := by rw [str_append, str_size]; unfold encM at hl; omega
  have z3 : (str head6).size = 6 := by rw [str_size]; rfl
  rw [z3] at z1
  rw [ByteArray.size_append, z3] at z2
  have Z2 := hide z2
  clear h hf HM F q hl z3 z2
  unfold moV at *
  dsimp only at *
  go_enter Tryz.func10, Tryz.ntmps10
  go_wp2_with fail
  refine S.out.mono ?_
  rintro r w1 ⟨rfl, b1⟩
  have hb1 := below_next hb0 b1
  have R1 := hide (R0.out.kept b1)
  have e0 := R1.out.c 0 _ rfl
  have e1 := R1.out.c 1 _ rfl
  have e2 := R1.out.c 2 _ rfl
  have e3 := R1.out.c 3 _ rfl
  have e4 := R1.out.c 4 _ rfl
  have e5 := R1.out.c 5 _ rfl
  have e6 := R1.out.c 6 _ rfl
  have T1 := hide (T.out w1 hb1)
  clear b1 S R0 T
  go_wp2_with fail
  refine T1.out.mono ?_
  rintro r w2 ⟨rfl, b2⟩
  have hb2 := below_next hb1 b2
  have q2 := hb2.size
  clear b2 T1 e0 e1 e2 e3 e4 e5 e6 R1
  have z2 := Z2.out
  go_wp2_with fail
  refine (fault_any 1 0 _).mono ?_
  rintro r w3 ⟨rfl, f3, b3⟩
  have F3 := hide f3
  clear f3
  unfold flt
  go_wp2_with fail
  go_ret2
  exact ⟨w2.heap.size, rfl, F3.out, q2, below_next hb2 b3⟩
set_option maxHeartbeats 800000 in
theorem encode_ok (V : MoV) (M : Mo) (w : World) (hd : ∀ d ∈ M.data, d.bytes.length ≤ 9000000) (h : IsMo w.heap.size w V M) (hf : fitE M = 0) (hl : ¬ 4000 < (encM M).length) :
    Calls Tryz.prog 10 #[moV V M] w fun e w' => e = .returned (.tuple #[.string (str (encM M)), .nilIface]) ∧ Below w.heap.size w w' := by
  have HM := hide h
  obtain ⟨a0, c0, a1, c1, a2, c2, a5, c5, a6, c6, rfl⟩ := h.forms
  have hb0 := bel_one w (.cells #[.slice a0 M.sigs.length c0, .slice a1 M.imports.length c1, .slice a2 M.funcs.length c2, .int .i64 M.m0, .int .i64 M.m1, .slice a5 M.globals.length c5, .slice a6 M.data.length c6] 29)
  have R0 := hide (Row.made w #[.slice a0 M.sigs.length c0, .slice a1 M.imports.length c1, .slice a2 M.funcs.length c2, .int .i64 M.m0, .int .i64 M.m1, .slice a5 M.globals.length c5, .slice a6 M.data.length c6] 29)
  have S := hide (misfit_ok _ M _ (HM.out.step hb0 hb0.size) hf)
  have F := fit_of hf
  have T := hide (fun w1 (b1 : Below w.heap.size w w1) => sections_w _ M w1 F hd (HM.out.step b1 b1.size))
  have z1 : ¬ 9223372036854775807 < (str head6).size + (str (secs M)).size := by rw [str_size, str_size]; unfold encM at hl; simp only [List.length_append] at hl; omega
  have z2 : ¬ (4000 : Int) < ((str head6 ++ str (secs M)).size : Int) := by rw [str_append, str_size]; unfold encM at hl; omega
  have z3 : (str head6).size = 6 := by rw [str_size]; rfl
  rw [z3] at z1
  rw [ByteArray.size_append, z3] at z2
  have Z2 := hide z2
  clear h hf HM F hl z3 z2
  unfold moV at *
  dsimp only at *
  go_enter Tryz.func10, Tryz.ntmps10
  go_wp2_with fail
  refine S.out.mono ?_
  rintro r w1 ⟨rfl, b1⟩
  have hb1 := below_next hb0 b1
  have R1 := hide (R0.out.kept b1)
  have e0 := R1.out.c 0 _ rfl
  have e1 := R1.out.c 1 _ rfl
  have e2 := R1.out.c 2 _ rfl
  have e3 := R1.out.c 3 _ rfl
  have e4 := R1.out.c 4 _ rfl
  have e5 := R1.out.c 5 _ rfl
  have e6 := R1.out.c 6 _ rfl
  have T1 := hide (T.out w1 hb1)
  clear b1 S R0 T
  go_wp2_with fail
  refine T1.out.mono ?_
  rintro r w2 ⟨rfl, b2⟩
  have hb2 := below_next hb1 b2
  clear b2 T1 e0 e1 e2 e3 e4 e5 e6 R1
  have z2 := Z2.out
  go_wp2_with fail
  go_ret2
  refine ⟨?_, hb2⟩
  have e : str head6 ++ str (secs M) = str (encM M) := str_append _ _
  rw [← e]; rfl
end Go.Proofs.YtcbfpikggphokaaGreatDoor
