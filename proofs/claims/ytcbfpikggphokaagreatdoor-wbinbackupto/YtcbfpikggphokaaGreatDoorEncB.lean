/-
  The program's Encode, put together: a module that fits is written as the plain function encM says; memory that was there stays as it was.
-/
import Derived.Test.YtcbfpikggphokaaGreatDoorList
import Derived.Test.YtcbfpikggphokaaGreatDoorFitsB
namespace Go.Proofs.YtcbfpikggphokaaGreatDoor
open Go.RowKit

theorem types_w (v : Value) (l : List Int) (w : World) (hl : l.length ≤ 1000) (hr : l.all ri = true) (h : SInts w.heap.size w v l) :
    Calls Tryz.prog 89 #[v, .func (.func 90) #[] #[]] w fun e w' => e = .returned (.string (str (lst tyB l))) ∧ Below w.heap.size w w' :=
  list_int 90 tyB v l w at90 hl (fun x _ => Nat.le_trans (tyB_len x) (by decide)) h (fun x hx w _ => typeByte_w x w (List.all_eq_true.1 hr x hx))
theorem types_len {l : List Int} : (lst tyB l).length ≤ 9 + l.length := by
  have := lst_len (P := tyB) (c := 1) (l := l) (fun x _ => tyB_len x); omega
set_option maxRecDepth 100000 in
set_option maxHeartbeats 800000 in
theorem sigBytes_w (x : Sg) (vp vr : Value) (w : World) (hs : smSg x = true) (hw : whSg x = true) (hp : SInts w.heap.size w vp x.params) (hr : SInts w.heap.size w vr x.results) :
    Calls Tryz.prog 40 #[.agg #[vp, vr]] w fun e w' => e = .returned (.string (str (sgB x))) ∧ Below w.heap.size w w' := by
  simp only [smSg, decide_eq_true_eq] at hs
  simp only [whSg, Bool.and_eq_true, decide_eq_true_eq] at hw
  have hp0 := hp
  have hr0 := hr
  obtain ⟨ap, kp, rfl, _⟩ := hp0
  obtain ⟨ar, kr, rfl, _⟩ := hr0
  have hb0 := bel_one w (.cells #[.slice ap x.params.length kp, .slice ar x.results.length kr] 64)
  have D1 := hide (fun d os => Calls.regrown_of (w := w.alloc (.cells #[.slice ap x.params.length kp, .slice ar x.results.length kr] 64)) (d := d) (os := os) (types_w _ x.params _ (by omega) hw.2.1 (hp.step keeps_int (below_next hb0 (below_regrown _ d os)) (below_next hb0 (below_regrown _ d os)).size)))
  have D2 := hide (fun d os => Calls.regrown_of (w := w.alloc (.cells #[.slice ap x.params.length kp, .slice ar x.results.length kr] 64)) (d := d) (os := os) (types_w _ x.results _ (by omega) hw.2.2 (hr.step keeps_int (below_next hb0 (below_regrown _ d os)) (below_next hb0 (below_regrown _ d os)).size)))
  have R0 := hide (Row.made w #[.slice ap x.params.length kp, .slice ar x.results.length kr] 64)
  have e0 := cell_regrown (R0.out.c 0 (.slice ap x.params.length kp) rfl)
  have e1 := cell_regrown (R0.out.c 1 (.slice ar x.results.length kr) rfl)
  have hz : ¬ 9223372036854775807 < (str (lst tyB x.params)).size + (str (lst tyB x.results)).size := by
    rw [str_size, str_size]; have := types_len (l := x.params); have := types_len (l := x.results); omega
  clear hp hr hs hw
  go_enter Tryz.func40, Tryz.ntmps40
  go_wp2_with fail
  clear R0
  generalize w.alloc (.cells #[.slice ap x.params.length kp, .slice ar x.results.length kr] 64) = w0 at *
  refine wp_region_quiet_below (by kernel_rfl) (by kernel_rfl) ?_
  iterate 3 (go_big_quiet_step (exact D1.out _ _))
  repeat (go_big_quiet_step (exact D2.out _ _))
  refine wpQuiet_nil ?_
  intro _ hw'
  obtain ⟨⟨dq, osq⟩, hw''⟩ := hw'
  subst hw''
  go_wp2
  go_ret
  exact ⟨ret_str (str_append _ _), below_next hb0 (below_regrown _ dq osq)⟩
set_option maxHeartbeats 800000 in
theorem funcBytes_w (x : Fn) (vl vb : Value) (w : World) (hi : idx x.sig = true) (hp : SInts w.heap.size w vl x.locals) (hr : SIns w.heap.size w vb x.body) :
    Calls Tryz.prog 44 #[.agg #[.int .i64 x.sig, .bool x.tr, vl, vb]] w fun e w' => e = .returned (.string (str (fnB x))) ∧ Below w.heap.size w w' := by
  simp only [idx, Bool.and_eq_true, decide_eq_true_eq] at hi
  obtain ⟨ap, kp, rfl, _⟩ := hp
  obtain ⟨ar, kr, rfl, _⟩ := hr
  have NU := hide (fun w => number_w x.sig w hi.1)
  have hb0 := bel_one w (.cells #[.int .i64 x.sig, .bool x.tr, .slice ap x.locals.length kp, .slice ar x.body.length kr] 50)
  have hn := num_len x.sig
  clear hi
  cases ht : x.tr with
  | true =>
    have ON := hide (fun w => oneByte_w 1 w (by decide) (by decide))
    have hz : ¬ 9223372036854775807 < (str (num x.sig)).size + (str (oneB 1)).size := by rw [str_size, str_size]; simp only [oneB, List.length_cons, List.length_nil]; omega
    have H : Hid (fnB x = num x.sig ++ oneB 1) := hide (by simp [fnB, ht])
    have HZ := hide hz
    rw [ht] at hb0
    clear ht hz hn
    go_enter Tryz.func44, Tryz.ntmps44
    go_wp2_with fail
    refine (NU.out _).mono ?_
    rintro r w1 ⟨rfl, b1⟩
    go_wp2_with fail
    refine (ON.out _).mono ?_
    rintro r w2 ⟨rfl, b2⟩
    have hz := HZ.out
    go_wp2_with fail
    go_ret
    exact ⟨ret_str (by rw [H.out]; exact str_append _ _), below_next (below_next hb0 b1) b2⟩
  | false =>
    have ON := hide (fun w => oneByte_w 0 w (by decide) (by decide))
    have hz : ¬ 9223372036854775807 < (str (num x.sig)).size + (str (oneB 0)).size := by rw [str_size, str_size]; simp only [oneB, List.length_cons, List.length_nil]; omega
    have H : Hid (fnB x = num x.sig ++ oneB 0) := hide (by simp [fnB, ht])
    have HZ := hide hz
    rw [ht] at hb0
    clear ht hz hn
    go_enter Tryz.func44, Tryz.ntmps44
    go_wp2_with fail
    refine (NU.out _).mono ?_
    rintro r w1 ⟨rfl, b1⟩
    go_wp2_with fail
    refine (ON.out _).mono ?_
    rintro r w2 ⟨rfl, b2⟩
    have hz := HZ.out
    go_wp2_with fail
    go_ret
    exact ⟨ret_str (by rw [H.out]; exact str_append _ _), below_next (below_next hb0 b1) b2⟩
theorem s32_wrap {v : Int} (h : idx v = true) : wrap64 (wrap32 v) = s32 v := by
  simp only [idx, Bool.and_eq_true, decide_eq_true_eq] at h
  unfold wrap64 wrap32 s32
  split <;> omega
theorem encS_len (v : Int) : (enc v (szS v)).length ≤ 10 := by rw [enc_length]; exact (szS_bd v).2
set_option maxHeartbeats 800000 in
theorem globalBytes_w (x : Gl) (w : World) (hw : whGl x = true) (hi : I64 x.t ∧ I64 x.v) :
    Calls Tryz.prog 47 #[.agg #[.int .i64 x.t, .int .i64 x.v]] w fun e w' => e = .returned (.string (str (glB x))) ∧ Below w.heap.size w w' := by
  simp only [whGl, Bool.and_eq_true, Bool.or_eq_true] at hw
  have hb0 := bel_one w (.cells #[.int .i64 x.t, .int .i64 x.v] 70)
  have R0 := hide (Row.made w #[.int .i64 x.t, .int .i64 x.v] 70)
  have WI := hide (fun r hr => wide_is x.t r (w.alloc (.cells #[.int .i64 x.t, .int .i64 x.v] 70)) hi.1 hr)
  have TY := hide (fun w => typeByte_w x.t w hw.1)
  have SV := hide (fun w => S_any (glV x) w)
  have hz : ¬ 9223372036854775807 < (str (tyB x.t)).size + (str (enc (glV x) (szS (glV x)))).size := by
    rw [str_size, str_size]; have := tyB_len x.t; have := encS_len (glV x); omega
  have HZ := hide hz
  cases h1 : wi x.t with
  | true =>
    have H : Hid (glV x = x.v) := hide (by simp [glV, h1])
    have W1 := hide (WI.out _ h1)
    have hg : Hid (glB x = tyB x.t ++ enc (glV x) (szS (glV x))) := hide rfl
    rw [H.out] at SV HZ hg
    clear hz h1 WI hw hi
    go_enter Tryz.func47, Tryz.ntmps47
    go_wp2_with fail
    refine W1.out.mono ?_
    rintro r w1 ⟨rfl, rfl⟩
    go_wp2_with fail
    refine (TY.out _).mono ?_
    rintro r w2 ⟨rfl, b2⟩
    go_wp2_with fail
    refine (SV.out _).mono ?_
    rintro r w3 ⟨rfl, b3⟩
    have hz := HZ.out
    go_wp2_with fail
    go_ret
    exact ⟨ret_str (by rw [hg.out]; exact str_append _ _), below_next (below_next hb0 b2) b3⟩
  | false =>
    have hx : idx x.v = true := by
      rcases hw.2 with h | h
      · rw [h] at h1; cases h1
      · exact h
    have H : Hid (glV x = s32 x.v) := hide (by simp [glV, h1])
    have hwr := s32_wrap hx
    have W1 := hide (WI.out _ h1)
    have hg : Hid (glB x = tyB x.t ++ enc (glV x) (szS (glV x))) := hide rfl
    rw [H.out] at SV HZ hg
    clear hz h1 WI hw hi hx
    go_enter Tryz.func47, Tryz.ntmps47
    go_wp2_with fail
    refine W1.out.mono ?_
    rintro r w1 ⟨rfl, rfl⟩
    go_wp2_with fail
    refine (TY.out _).mono ?_
    rintro r w2 ⟨rfl, b2⟩
    go_wp2_with fail
    refine (SV.out _).mono ?_
    rintro r w3 ⟨rfl, b3⟩
    have hz := HZ.out
    go_wp2_with fail
    go_ret
    exact ⟨ret_str (by rw [hg.out]; exact str_append _ _), below_next (below_next hb0 b2) b3⟩
theorem body_flat (l : List In) : ∀ k, k ≤ l.length → bodyL (fun j => (l[j]?.map In.op).getD 0) (fun j => (l[j]?.map In.n).getD 0) (fun j => (l[j]?.map In.m).getD 0) k = flat inB (l.take k)
  | 0, _ => by simp [bodyL, flat]
  | k + 1, h => by
    rw [bodyL, body_flat l k (by omega), flat_next (by omega)]
    simp [inB, List.getElem?_eq_getElem (show k < l.length by omega)]
theorem body_w (v : Value) (l : List In) (w : World) (hl : l.length ≤ 1000) (hr : l.all rtI = true) (h : SIns w.heap.size w v l) :
    Calls Tryz.prog 96 #[v] w fun e w' => e = .returned (.tuple #[.string (str (flat inB l)), .int .i64 0]) ∧ Below w.heap.size w w' := by
  obtain ⟨a, cap, rfl, he⟩ := h
  by_cases h0 : l.length = 0
  · have e : l = [] := List.eq_nil_of_length_eq_zero h0
    subst e
    exact body_nil a cap w
  · obtain ⟨b, off, rfl, hb, _⟩ := he 0 (by omega)
    have hL : Lists w.heap.size w b off l.length (fun j => (l[j]?.map In.op).getD 0) (fun j => (l[j]?.map In.n).getD 0) (fun j => (l[j]?.map In.m).getD 0) := by
      intro j hj
      obtain ⟨b2, off2, e2, hb2, _, c0, c1, c2⟩ := he j hj
      cases e2
      simp [List.getElem?_eq_getElem hj]
      exact ⟨hb2, c0, c1, c2⟩
    have hI : ∀ j : Nat, I64 ((l[j]?.map In.n).getD 0) ∧ I64 ((l[j]?.map In.m).getD 0) := by
      intro j
      by_cases hj : j < l.length
      · obtain ⟨_, _, _, _, hi, _⟩ := he j hj
        simp only [List.getElem?_eq_getElem hj, Option.map_some, Option.getD_some]
        exact hi.2
      · simp only [List.getElem?_eq_none (Nat.le_of_not_lt hj), Option.map_none, Option.getD_none]
        exact ⟨⟨by decide, by decide⟩, ⟨by decide, by decide⟩⟩
    have hA : allR (fun j => (l[j]?.map In.op).getD 0) (fun j => (l[j]?.map In.n).getD 0) (fun j => (l[j]?.map In.m).getD 0) l.length := by
      intro j hj
      have := List.all_eq_true.1 hr l[j] (List.getElem_mem hj)
      simpa [List.getElem?_eq_getElem hj, rtI] using this
    have e := body_flat l l.length (Nat.le_refl _)
    rw [List.take_length] at e
    exact body_is b off l.length cap _ _ _ (flat inB l) 0 w (by omega) hL hI (fun _ => by rw [e]) (fun h => absurd hA h)
theorem body_len {l : List In} : (flat inB l).length ≤ l.length * 20 := flat_len (fun x _ => iby_len x.op x.n x.m)
set_option maxHeartbeats 800000 in
theorem codeBytes_w (x : Fn) (vl vb : Value) (w : World) (hs : smFn x = true) (hw : whFn x = true) (hp : SInts w.heap.size w vl x.locals) (hr : SIns w.heap.size w vb x.body) :
    Calls Tryz.prog 48 #[.agg #[.int .i64 x.sig, .bool x.tr, vl, vb]] w fun e w' => e = .returned (.string (str (cdB x))) ∧ Below w.heap.size w w' := by
  simp only [smFn, Bool.and_eq_true, decide_eq_true_eq] at hs
  simp only [whFn, Bool.and_eq_true] at hw
  have hp0 := hp
  have hr0 := hr
  obtain ⟨ap, kp, rfl, _⟩ := hp0
  obtain ⟨ar, kr, rfl, _⟩ := hr0
  have hb0 := bel_one w (.cells #[.int .i64 x.sig, .bool x.tr, .slice ap x.locals.length kp, .slice ar x.body.length kr] 50)
  have R0 := hide (Row.made w #[.int .i64 x.sig, .bool x.tr, .slice ap x.locals.length kp, .slice ar x.body.length kr] 50)
  have BO := hide (body_w _ x.body _ (by omega) hw.2.2.1 (hr.step keeps_in hb0 hb0.size))
  have TY := hide (fun w1 (b1 : Below w.heap.size w w1) => types_w _ x.locals w1 (by omega) hw.2.1 (hp.step keeps_int b1 b1.size))
  have hq := body_len (l := x.body)
  have CN := hide (fun w => counted_w (flat inB x.body) w (by omega))
  have hz : ¬ 9223372036854775807 < (str (lst tyB x.locals)).size + (str (cnt (flat inB x.body))).size := by
    rw [str_size, str_size]; have := types_len (l := x.locals); have := cnt_len (flat inB x.body); omega
  have HZ := hide hz
  clear hs hw hp hr hz hq
  go_enter Tryz.func48, Tryz.ntmps48
  go_wp2_with fail
  refine BO.out.mono ?_
  rintro r w1 ⟨rfl, b1⟩
  have hb1 := below_next hb0 b1
  have R1 := hide (R0.out.kept b1)
  have e2 := R1.out.c 2 _ rfl
  have T1 := hide (TY.out w1 hb1)
  clear b1 R0 BO TY
  go_wp2_with fail
  refine T1.out.mono ?_
  rintro r w2 ⟨rfl, b2⟩
  have hb2 := below_next hb1 b2
  clear b2 T1 e2
  go_wp2_with fail
  refine (CN.out _).mono ?_
  rintro r w3 ⟨rfl, b3⟩
  have hz := HZ.out
  go_wp2_with fail
  go_ret
  exact ⟨ret_str (str_append _ _), below_next hb2 b3⟩
set_option maxRecDepth 100000 in
set_option maxHeartbeats 1600000 in
theorem datumBytes_w (x : Da) (w : World) (hw : whDa x = true) (hd : x.bytes.length ≤ 9000000) :
    Calls Tryz.prog 50 #[.agg #[.int .i64 x.mem, .int .i64 x.pos, .string (str x.bytes)]] w fun e w' => e = .returned (.string (str (daB x))) ∧ Below w.heap.size w w' := by
  simp only [whDa, idx, Bool.and_eq_true, Bool.or_eq_true, decide_eq_true_eq] at hw
  have hb0 := bel_one w (.cells #[.int .i64 x.mem, .int .i64 x.pos, .string (str x.bytes)] 73)
  have D1 := hide (fun d os => Calls.regrown_of (w := w.alloc (.cells #[.int .i64 x.mem, .int .i64 x.pos, .string (str x.bytes)] 73)) (d := d) (os := os) (number_w x.mem _ (by omega)))
  have D2 := hide (fun d os => Calls.regrown_of (w := w.alloc (.cells #[.int .i64 x.mem, .int .i64 x.pos, .string (str x.bytes)] 73)) (d := d) (os := os) (number_w x.pos _ (by omega)))
  have D3 := hide (fun d os => Calls.regrown_of (w := w.alloc (.cells #[.int .i64 x.mem, .int .i64 x.pos, .string (str x.bytes)] 73)) (d := d) (os := os) (counted_w x.bytes _ (by omega)))
  have R0 := hide (Row.made w #[.int .i64 x.mem, .int .i64 x.pos, .string (str x.bytes)] 73)
  have e0 := cell_regrown (R0.out.c 0 (.int .i64 x.mem) rfl)
  have e1 := cell_regrown (R0.out.c 1 (.int .i64 x.pos) rfl)
  have e2 := cell_regrown (R0.out.c 2 (.string (str x.bytes)) rfl)
  have h1 := num_len x.mem
  have h2 := num_len x.pos
  have h3 := cnt_len x.bytes
  have hz1 : ¬ 9223372036854775807 < (str (num x.mem)).size + (str (num x.pos)).size := by rw [str_size, str_size]; omega
  have hz2 : ¬ 9223372036854775807 < (str (num x.mem) ++ str (num x.pos)).size + (str (cnt x.bytes)).size := by rw [str_append, str_size, str_size, List.length_append]; omega
  simp only [ByteArray.size_append] at hz2
  clear hw hd h1 h2 h3
  go_enter Tryz.func50, Tryz.ntmps50
  go_wp2_with fail
  clear R0
  generalize w.alloc (.cells #[.int .i64 x.mem, .int .i64 x.pos, .string (str x.bytes)] 73) = w0 at *
  refine wp_region_quiet_below (by kernel_rfl) (by kernel_rfl) ?_
  iterate 3 (go_big_quiet_step (exact D1.out _ _))
  iterate 3 (go_big_quiet_step (exact D2.out _ _))
  repeat (go_big_quiet_step (exact D3.out _ _))
  refine wpQuiet_nil ?_
  intro _ hw'
  obtain ⟨⟨dq, osq⟩, hw''⟩ := hw'
  subst hw''
  go_wp2
  go_ret
  exact ⟨ret_str (by rw [str_append, str_append]; rfl), below_next hb0 (below_regrown _ dq osq)⟩
end Go.Proofs.YtcbfpikggphokaaGreatDoor
