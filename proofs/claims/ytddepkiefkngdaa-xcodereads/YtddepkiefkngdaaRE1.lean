/-
  The walks of the document's Encode: mov, movi, byte, ret.
-/
import Derived.Test.YtddepkiefkngdaaEP
import Derived.Deep.RegionHeld3
import Derived.Deep.DrawnRows
namespace Go.Proofs.Ytddepkiefkngdaa
open Go.RowKit
set_option linter.unusedSimpArgs false
set_option linter.unusedVariables false
attribute [local go_sem ↓] Go.wp_at_zero Go.wp_at_succ

set_option maxRecDepth 100000 in
set_option maxHeartbeats 8000000 in
theorem renc_1 (wd : Bool) (r b : Int) (w : World) (hx : rt ⟨1, wd, r, b, 0, 0, 0⟩ = true) (h1 : 0 ≤ r ∧ r ≤ 15) (h2 : 0 ≤ b ∧ b ≤ 15) : ReIs ⟨1, wd, r, b, 0, 0, 0⟩ w := by
  have e0 : enS ⟨1, wd, r, b, 0, 0, 0⟩ = enc ⟨1, wd, r, b, 0, 0, 0⟩ := by simp [enS, hx]
  have e1 : reB ⟨1, wd, r, b, 0, 0, 0⟩ = true := hx
  unfold ReIs
  rw [e0, e1]
  simp only [xv]
  have RI := hide (fun U => rright_is 1 wd r b 0 0 0 U hx)
  obtain ⟨r0, r1⟩ := h1
  obtain ⟨b0, b1⟩ := h2
  have z0 : ¬ 9223372036854775807 < (str (pre (rxb wd r 0 b)) : ByteArray).size + (⟨#[137]⟩ : ByteArray).size := by simp only [cat_size, sz_str, sz_lit, List.length_cons, List.length_nil, bys_len]; have q1 := pre_len (rxb wd r 0 b); omega
  have y0 : ¬ 9223372036854775807 < (str (pre (rxb wd r 0 b)) : ByteArray).size + 1 := by simp only [cat_size, sz_str, sz_lit, List.length_cons, List.length_nil, bys_len]; have q1 := pre_len (rxb wd r 0 b); omega
  have z1 : ¬ 9223372036854775807 < (str (pre (rxb wd r 0 b)) ++ ⟨#[137]⟩ : ByteArray).size + (str [by8 (mri 3 r b)] : ByteArray).size := by simp only [cat_size, sz_str, sz_lit, List.length_cons, List.length_nil, bys_len]; have q1 := pre_len (rxb wd r 0 b); omega
  have y1 : ¬ 9223372036854775807 < (str (pre (rxb wd r 0 b)) : ByteArray).size + 1 + (str [by8 (mri 3 r b)] : ByteArray).size := by simp only [cat_size, sz_str, sz_lit, List.length_cons, List.length_nil, bys_len]; have q1 := pre_len (rxb wd r 0 b); omega
  have v1 : ¬ 9223372036854775807 < (str (pre (rxb wd r 0 b)) ++ ⟨#[137]⟩ : ByteArray).size + (str [by8 (mri 3 r b)] : ByteArray).size := by simp only [cat_size, sz_str, sz_lit, List.length_cons, List.length_nil, bys_len]; have q1 := pre_len (rxb wd r 0 b); omega
  have HE : Hid ((str (pre (rxb wd r 0 b)) ++ ⟨#[137]⟩ ++ str [by8 (mri 3 r b)] : ByteArray) = str (enc ⟨1, wd, r, b, 0, 0, 0⟩)) := by
    show _ = _
    simp only [lit_str, str_app]
    first | rfl | (apply congrArg str; simp [enc, rx, mrs, nmb, fR2, fRR, fB, fP, h32, mid, cod, two, by8]; done) | (apply congrArg str; simp [enc, rx, mrs, nmb, fR2, fRR, fB, fP, h32, mid, cod, two, by8]; rfl)
  obtain ⟨W, hW⟩ : ∃ W, W = w.alloc (.cells #[.int .i64 1, .bool wd, .int .i64 r, .int .i64 b, .int .i64 0, .int .i64 0, .int .i64 0] 23) := ⟨_, rfl⟩
  have B0 : Bx w.heap.size ⟨1, wd, r, b, 0, 0, 0⟩ W := by rw [hW]; exact Bx.made w ⟨1, wd, r, b, 0, 0, 0⟩
  have W0 : Below w.heap.size w W := by rw [hW]; exact bel_one _ _
  clear hx e0 e1
  go_enter Try.func11, Try.ntmps11
  go_wp2_with fail
  rw [← hW]
  refine (RI.out _).mono ?_
  clear hW
  rintro e w1 ⟨rfl, hb1⟩
  have B1 := Bx.draw hb1 B0
  have W1 := bel_tr W0 hb1
  clear hb1 B0 W0
  obtain ⟨x0, x1, x2, x3, x4, x5, x6⟩ := B1.cells
  dsimp only at x0 x1 x2 x3 x4 x5 x6
  go_wp2_with (first | (go_at_call 19; refine (rrex_any _ _ _ _ _).mono ?_; rintro e w2 ⟨rfl, hb2⟩; have B2 : Bx w.heap.size ⟨1, wd, r, b, 0, 0, 0⟩ w2 := (by first | exact Bx.draw hb2 (by assumption) | exact Bx.draw2 hb2 (by assumption)); have W2 : Below w.heap.size w w2 := (by first | exact bel_draw' hb2 (by assumption) | exact bel_draw2 hb2 (by assumption)); obtain ⟨x0, x1, x2, x3, x4, x5, x6⟩ := B2.cells; (dsimp only at x0 x1 x2 x3 x4 x5 x6)) | (go_at_call 20; refine (rmr_any _ _ _ _ ?ha ?hb ?hc ?hd).mono ?_; (case ha => decide); (case hb => decide); (case hc => first | assumption | decide); (case hd => first | assumption | decide); rintro e w2 ⟨rfl, hb2⟩; have B2 : Bx w.heap.size ⟨1, wd, r, b, 0, 0, 0⟩ w2 := (by first | exact Bx.draw hb2 (by assumption) | exact Bx.draw2 hb2 (by assumption)); have W2 : Below w.heap.size w w2 := (by first | exact bel_draw' hb2 (by assumption) | exact bel_draw2 hb2 (by assumption)); obtain ⟨x0, x1, x2, x3, x4, x5, x6⟩ := B2.cells; (dsimp only at x0 x1 x2 x3 x4 x5 x6)))
  go_ret2
  exact ⟨ret_sb HE.out, by assumption⟩
set_option maxRecDepth 100000 in
set_option maxHeartbeats 8000000 in
theorem renc_2 (r n : Int) (w : World) (hx : rt ⟨2, true, r, 0, 0, 0, n⟩ = true) (h1 : 0 ≤ r ∧ r ≤ 15) (hn : I64 n) : ReIs ⟨2, true, r, 0, 0, 0, n⟩ w := by
  have e0 : enS ⟨2, true, r, 0, 0, 0, n⟩ = enc ⟨2, true, r, 0, 0, 0, n⟩ := by simp [enS, hx]
  have e1 : reB ⟨2, true, r, 0, 0, 0, n⟩ = true := hx
  unfold ReIs
  rw [e0, e1]
  simp only [xv]
  have RI := hide (fun U => rright_is 2 true r 0 0 0 n U hx)
  obtain ⟨r0, r1⟩ := h1
  have hn' : I64 n := hn
  have wr0 : IntKind.i64.wrap (184 + r.tmod 8) = 184 + r % 8 := by rw [Int.tmod_eq_emod_of_nonneg (by omega), IntKind.wrap_i64]; omega
  have z0 : ¬ 9223372036854775807 < (str (pre (rxb true 0 0 r)) : ByteArray).size + (str [by8 (184 + r % 8)] : ByteArray).size := by simp only [cat_size, sz_str, sz_lit, List.length_cons, List.length_nil, bys_len]; have q1 := pre_len (rxb true 0 0 r); omega
  have y0 : ¬ 9223372036854775807 < (str (pre (rxb true 0 0 r)) : ByteArray).size + (str [by8 (184 + r % 8)] : ByteArray).size := by simp only [cat_size, sz_str, sz_lit, List.length_cons, List.length_nil, bys_len]; have q1 := pre_len (rxb true 0 0 r); omega
  have z1 : ¬ 9223372036854775807 < (str (pre (rxb true 0 0 r)) ++ str [by8 (184 + r % 8)] : ByteArray).size + (str (bys 8 n) : ByteArray).size := by simp only [cat_size, sz_str, sz_lit, List.length_cons, List.length_nil, bys_len]; have q1 := pre_len (rxb true 0 0 r); omega
  have y1 : ¬ 9223372036854775807 < (str (pre (rxb true 0 0 r)) : ByteArray).size + (str [by8 (184 + r % 8)] : ByteArray).size + (str (bys 8 n) : ByteArray).size := by simp only [cat_size, sz_str, sz_lit, List.length_cons, List.length_nil, bys_len]; have q1 := pre_len (rxb true 0 0 r); omega
  have v1 : ¬ 9223372036854775807 < (str (pre (rxb true 0 0 r)) ++ str [by8 (184 + r % 8)] : ByteArray).size + (str (bys 8 n) : ByteArray).size := by simp only [cat_size, sz_str, sz_lit, List.length_cons, List.length_nil, bys_len]; have q1 := pre_len (rxb true 0 0 r); omega
  have HE : Hid ((str (pre (rxb true 0 0 r)) ++ str [by8 (184 + r % 8)] ++ str (bys 8 n) : ByteArray) = str (enc ⟨2, true, r, 0, 0, 0, n⟩)) := by
    show _ = _
    have t2 : two (184 + r % 8) = [by8 (184 + r % 8)] := by unfold two; rw [if_neg (by omega)]
    simp only [lit_str, str_app]; apply congrArg str
    simp [enc, rx, mrs, nmb, fR2, fRR, fB, fP, h32, mid, cod, t2]
  obtain ⟨W, hW⟩ : ∃ W, W = w.alloc (.cells #[.int .i64 2, .bool true, .int .i64 r, .int .i64 0, .int .i64 0, .int .i64 0, .int .i64 n] 23) := ⟨_, rfl⟩
  have B0 : Bx w.heap.size ⟨2, true, r, 0, 0, 0, n⟩ W := by rw [hW]; exact Bx.made w ⟨2, true, r, 0, 0, 0, n⟩
  have W0 : Below w.heap.size w W := by rw [hW]; exact bel_one _ _
  clear hx e0 e1
  go_enter Try.func11, Try.ntmps11
  go_wp2_with fail
  rw [← hW]
  refine (RI.out _).mono ?_
  clear hW
  rintro e w1 ⟨rfl, hb1⟩
  have B1 := Bx.draw hb1 B0
  have W1 := bel_tr W0 hb1
  clear hb1 B0 W0
  obtain ⟨x0, x1, x2, x3, x4, x5, x6⟩ := B1.cells
  dsimp only at x0 x1 x2 x3 x4 x5 x6
  go_wp2_with (first | (go_at_call 19; refine (rrex_any _ _ _ _ _).mono ?_; rintro e w2 ⟨rfl, hb2⟩; have B2 : Bx w.heap.size ⟨2, true, r, 0, 0, 0, n⟩ w2 := (by first | exact Bx.draw hb2 (by assumption) | exact Bx.draw2 hb2 (by assumption)); have W2 : Below w.heap.size w w2 := (by first | exact bel_draw' hb2 (by assumption) | exact bel_draw2 hb2 (by assumption)); obtain ⟨x0, x1, x2, x3, x4, x5, x6⟩ := B2.cells; (dsimp only at x0 x1 x2 x3 x4 x5 x6)) | (go_at_call 21; refine (rone_any _ _).mono ?_; rintro e w2 ⟨rfl, hb2⟩; have B2 : Bx w.heap.size ⟨2, true, r, 0, 0, 0, n⟩ w2 := (by first | exact Bx.draw hb2 (by assumption) | exact Bx.draw2 hb2 (by assumption)); have W2 : Below w.heap.size w w2 := (by first | exact bel_draw' hb2 (by assumption) | exact bel_draw2 hb2 (by assumption)); obtain ⟨x0, x1, x2, x3, x4, x5, x6⟩ := B2.cells; (dsimp only at x0 x1 x2 x3 x4 x5 x6)) | (go_at_call 22; refine (rnum_8 _ _ ?hn).mono ?_; (case hn => assumption); rintro e w2 ⟨rfl, hb2⟩; have B2 : Bx w.heap.size ⟨2, true, r, 0, 0, 0, n⟩ w2 := (by first | exact Bx.draw hb2 (by assumption) | exact Bx.draw2 hb2 (by assumption)); have W2 : Below w.heap.size w w2 := (by first | exact bel_draw' hb2 (by assumption) | exact bel_draw2 hb2 (by assumption)); obtain ⟨x0, x1, x2, x3, x4, x5, x6⟩ := B2.cells; (dsimp only at x0 x1 x2 x3 x4 x5 x6)))
  go_region_held3 (fun X => X.cell? ⟨w.heap.size, 0, none⟩ = some (.int .i64 2) ∧ X.cell? ⟨w.heap.size, 1, none⟩ = some (.bool true) ∧ X.cell? ⟨w.heap.size, 2, none⟩ = some (.int .i64 r) ∧ X.cell? ⟨w.heap.size, 3, none⟩ = some (.int .i64 0) ∧ X.cell? ⟨w.heap.size, 4, none⟩ = some (.int .i64 0) ∧ X.cell? ⟨w.heap.size, 5, none⟩ = some (.int .i64 0) ∧ X.cell? ⟨w.heap.size, 6, none⟩ = some (.int .i64 n)) (go_keep)
    (first | (go_at_call 19; refine (rrex_any _ _ _ _ _).mono ?_; rintro e w2 ⟨rfl, hb2⟩; have B2 : Bx w.heap.size ⟨2, true, r, 0, 0, 0, n⟩ w2 := (by first | exact Bx.draw hb2 (by assumption) | exact Bx.draw2 hb2 (by assumption)); have W2 : Below w.heap.size w w2 := (by first | exact bel_draw' hb2 (by assumption) | exact bel_draw2 hb2 (by assumption)); obtain ⟨x0, x1, x2, x3, x4, x5, x6⟩ := B2.cells; (dsimp only at x0 x1 x2 x3 x4 x5 x6)) | (go_at_call 21; refine (rone_any _ _).mono ?_; rintro e w2 ⟨rfl, hb2⟩; have B2 : Bx w.heap.size ⟨2, true, r, 0, 0, 0, n⟩ w2 := (by first | exact Bx.draw hb2 (by assumption) | exact Bx.draw2 hb2 (by assumption)); have W2 : Below w.heap.size w w2 := (by first | exact bel_draw' hb2 (by assumption) | exact bel_draw2 hb2 (by assumption)); obtain ⟨x0, x1, x2, x3, x4, x5, x6⟩ := B2.cells; (dsimp only at x0 x1 x2 x3 x4 x5 x6)) | (go_at_call 22; refine (rnum_8 _ _ ?hn).mono ?_; (case hn => assumption); rintro e w2 ⟨rfl, hb2⟩; have B2 : Bx w.heap.size ⟨2, true, r, 0, 0, 0, n⟩ w2 := (by first | exact Bx.draw hb2 (by assumption) | exact Bx.draw2 hb2 (by assumption)); have W2 : Below w.heap.size w w2 := (by first | exact bel_draw' hb2 (by assumption) | exact bel_draw2 hb2 (by assumption)); obtain ⟨x0, x1, x2, x3, x4, x5, x6⟩ := B2.cells; (dsimp only at x0 x1 x2 x3 x4 x5 x6)))
  go_wp2_with (first | (go_at_call 19; refine (rrex_any _ _ _ _ _).mono ?_; rintro e w2 ⟨rfl, hb2⟩; have B2 : Bx w.heap.size ⟨2, true, r, 0, 0, 0, n⟩ w2 := (by first | exact Bx.draw hb2 (by assumption) | exact Bx.draw2 hb2 (by assumption)); have W2 : Below w.heap.size w w2 := (by first | exact bel_draw' hb2 (by assumption) | exact bel_draw2 hb2 (by assumption)); obtain ⟨x0, x1, x2, x3, x4, x5, x6⟩ := B2.cells; (dsimp only at x0 x1 x2 x3 x4 x5 x6)) | (go_at_call 21; refine (rone_any _ _).mono ?_; rintro e w2 ⟨rfl, hb2⟩; have B2 : Bx w.heap.size ⟨2, true, r, 0, 0, 0, n⟩ w2 := (by first | exact Bx.draw hb2 (by assumption) | exact Bx.draw2 hb2 (by assumption)); have W2 : Below w.heap.size w w2 := (by first | exact bel_draw' hb2 (by assumption) | exact bel_draw2 hb2 (by assumption)); obtain ⟨x0, x1, x2, x3, x4, x5, x6⟩ := B2.cells; (dsimp only at x0 x1 x2 x3 x4 x5 x6)) | (go_at_call 22; refine (rnum_8 _ _ ?hn).mono ?_; (case hn => assumption); rintro e w2 ⟨rfl, hb2⟩; have B2 : Bx w.heap.size ⟨2, true, r, 0, 0, 0, n⟩ w2 := (by first | exact Bx.draw hb2 (by assumption) | exact Bx.draw2 hb2 (by assumption)); have W2 : Below w.heap.size w w2 := (by first | exact bel_draw' hb2 (by assumption) | exact bel_draw2 hb2 (by assumption)); obtain ⟨x0, x1, x2, x3, x4, x5, x6⟩ := B2.cells; (dsimp only at x0 x1 x2 x3 x4 x5 x6)))
  go_ret2
  exact ⟨ret_sb HE.out, by assumption⟩
set_option maxRecDepth 100000 in
set_option maxHeartbeats 8000000 in
theorem renc_14  (w : World) (hx : rt ⟨14, false, 0, 0, 0, 0, 0⟩ = true)  : ReIs ⟨14, false, 0, 0, 0, 0, 0⟩ w := by
  have e0 : enS ⟨14, false, 0, 0, 0, 0, 0⟩ = enc ⟨14, false, 0, 0, 0, 0, 0⟩ := by simp [enS, hx]
  have e1 : reB ⟨14, false, 0, 0, 0, 0, 0⟩ = true := hx
  unfold ReIs
  rw [e0, e1]
  simp only [xv]
  have RI := hide (fun U => rright_is 14 false 0 0 0 0 0 U hx)
  have HE : Hid ((⟨#[15, 182, 192]⟩ : ByteArray) = str (enc ⟨14, false, 0, 0, 0, 0, 0⟩)) := by
    show _ = _
    simp only [lit_str, str_app]
    first | rfl | (apply congrArg str; simp [enc, rx, mrs, nmb, fR2, fRR, fB, fP, h32, mid, cod, two, by8, pre, rxb, up]; done) | (apply congrArg str; simp [enc, rx, mrs, nmb, fR2, fRR, fB, fP, h32, mid, cod, two, by8, pre, rxb, up]; rfl)
  obtain ⟨W, hW⟩ : ∃ W, W = w.alloc (.cells #[.int .i64 14, .bool false, .int .i64 0, .int .i64 0, .int .i64 0, .int .i64 0, .int .i64 0] 23) := ⟨_, rfl⟩
  have B0 : Bx w.heap.size ⟨14, false, 0, 0, 0, 0, 0⟩ W := by rw [hW]; exact Bx.made w ⟨14, false, 0, 0, 0, 0, 0⟩
  have W0 : Below w.heap.size w W := by rw [hW]; exact bel_one _ _
  clear hx e0 e1
  go_enter Try.func11, Try.ntmps11
  go_wp2_with fail
  rw [← hW]
  refine (RI.out _).mono ?_
  clear hW
  rintro e w1 ⟨rfl, hb1⟩
  have B1 := Bx.draw hb1 B0
  have W1 := bel_tr W0 hb1
  clear hb1 B0 W0
  obtain ⟨x0, x1, x2, x3, x4, x5, x6⟩ := B1.cells
  dsimp only at x0 x1 x2 x3 x4 x5 x6
  go_wp2_with (first | (go_at_call 19; refine (rrex_any _ _ _ _ _).mono ?_; rintro e w2 ⟨rfl, hb2⟩; have B2 : Bx w.heap.size ⟨14, false, 0, 0, 0, 0, 0⟩ w2 := (by first | exact Bx.draw hb2 (by assumption) | exact Bx.draw2 hb2 (by assumption)); have W2 : Below w.heap.size w w2 := (by first | exact bel_draw' hb2 (by assumption) | exact bel_draw2 hb2 (by assumption)); obtain ⟨x0, x1, x2, x3, x4, x5, x6⟩ := B2.cells; (dsimp only at x0 x1 x2 x3 x4 x5 x6)))
  go_ret2
  exact ⟨ret_sb HE.out, by assumption⟩
set_option maxRecDepth 100000 in
set_option maxHeartbeats 8000000 in
theorem renc_20  (w : World) (hx : rt ⟨20, false, 0, 0, 0, 0, 0⟩ = true)  : ReIs ⟨20, false, 0, 0, 0, 0, 0⟩ w := by
  have e0 : enS ⟨20, false, 0, 0, 0, 0, 0⟩ = enc ⟨20, false, 0, 0, 0, 0, 0⟩ := by simp [enS, hx]
  have e1 : reB ⟨20, false, 0, 0, 0, 0, 0⟩ = true := hx
  unfold ReIs
  rw [e0, e1]
  simp only [xv]
  have RI := hide (fun U => rright_is 20 false 0 0 0 0 0 U hx)
  have HE : Hid ((⟨#[195]⟩ : ByteArray) = str (enc ⟨20, false, 0, 0, 0, 0, 0⟩)) := by
    show _ = _
    simp only [lit_str, str_app]
    first | rfl | (apply congrArg str; simp [enc, rx, mrs, nmb, fR2, fRR, fB, fP, h32, mid, cod, two, by8, pre, rxb, up]; done) | (apply congrArg str; simp [enc, rx, mrs, nmb, fR2, fRR, fB, fP, h32, mid, cod, two, by8, pre, rxb, up]; rfl)
  obtain ⟨W, hW⟩ : ∃ W, W = w.alloc (.cells #[.int .i64 20, .bool false, .int .i64 0, .int .i64 0, .int .i64 0, .int .i64 0, .int .i64 0] 23) := ⟨_, rfl⟩
  have B0 : Bx w.heap.size ⟨20, false, 0, 0, 0, 0, 0⟩ W := by rw [hW]; exact Bx.made w ⟨20, false, 0, 0, 0, 0, 0⟩
  have W0 : Below w.heap.size w W := by rw [hW]; exact bel_one _ _
  clear hx e0 e1
  go_enter Try.func11, Try.ntmps11
  go_wp2_with fail
  rw [← hW]
  refine (RI.out _).mono ?_
  clear hW
  rintro e w1 ⟨rfl, hb1⟩
  have B1 := Bx.draw hb1 B0
  have W1 := bel_tr W0 hb1
  clear hb1 B0 W0
  obtain ⟨x0, x1, x2, x3, x4, x5, x6⟩ := B1.cells
  dsimp only at x0 x1 x2 x3 x4 x5 x6
  go_wp2_with (first | (go_at_call 19; refine (rrex_any _ _ _ _ _).mono ?_; rintro e w2 ⟨rfl, hb2⟩; have B2 : Bx w.heap.size ⟨20, false, 0, 0, 0, 0, 0⟩ w2 := (by first | exact Bx.draw hb2 (by assumption) | exact Bx.draw2 hb2 (by assumption)); have W2 : Below w.heap.size w w2 := (by first | exact bel_draw' hb2 (by assumption) | exact bel_draw2 hb2 (by assumption)); obtain ⟨x0, x1, x2, x3, x4, x5, x6⟩ := B2.cells; (dsimp only at x0 x1 x2 x3 x4 x5 x6)))
  go_ret2
  exact ⟨ret_sb HE.out, by assumption⟩
end Go.Proofs.Ytddepkiefkngdaa
