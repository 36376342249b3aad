/-
  The walks of the document's Encode: jcc, div, idiv, sign, widen.
-/
import Derived.Test.YtddepkiefkngdaaEP
import Derived.Deep.RegionHeld3
import Derived.Deep.DrawnRows
namespace Go.Proofs.Ytddepkiefkngdaa
open Go.RowKit
set_option linter.unusedSimpArgs false
set_option linter.unusedVariables false
attribute [local go_sem ↓] Go.wp_at_zero Go.wp_at_succ

set_option maxRecDepth 100000 in
set_option maxHeartbeats 8000000 in
theorem renc_18 (c n : Int) (w : World) (hx : rt ⟨18, false, 0, 0, 0, c, n⟩ = true) (hc : cnK c = true) (hs : s32 n = true) : ReIs ⟨18, false, 0, 0, 0, c, n⟩ w := by
  have e0 : enS ⟨18, false, 0, 0, 0, c, n⟩ = enc ⟨18, false, 0, 0, 0, c, n⟩ := by simp [enS, hx]
  have e1 : reB ⟨18, false, 0, 0, 0, c, n⟩ = true := hx
  unfold ReIs
  rw [e0, e1]
  simp only [xv]
  have RI := hide (fun U => rright_is 18 false 0 0 0 c n U hx)
  obtain ⟨hc0, hc1⟩ := cn_bd15 hc
  have hn' : I64 n := s32_64 hs
  have wr0 : IntKind.i64.wrap (128 + c) = 128 + c := by rw [IntKind.wrap_i64]; omega
  have z0 : ¬ 9223372036854775807 < (⟨#[15]⟩ : ByteArray).size + (str [by8 (128 + c)] : ByteArray).size := by simp only [cat_size, sz_str, sz_lit, List.length_cons, List.length_nil, bys_len]; have q1 := pre_len (rxb false 0 0 0); omega
  have y0 : ¬ 9223372036854775807 < 1 + (str [by8 (128 + c)] : ByteArray).size := by simp only [cat_size, sz_str, sz_lit, List.length_cons, List.length_nil, bys_len]; have q1 := pre_len (rxb false 0 0 0); omega
  have z1 : ¬ 9223372036854775807 < (⟨#[15]⟩ ++ str [by8 (128 + c)] : ByteArray).size + (str (bys 4 n) : ByteArray).size := by simp only [cat_size, sz_str, sz_lit, List.length_cons, List.length_nil, bys_len]; have q1 := pre_len (rxb false 0 0 0); omega
  have y1 : ¬ 9223372036854775807 < 1 + (str [by8 (128 + c)] : ByteArray).size + (str (bys 4 n) : ByteArray).size := by simp only [cat_size, sz_str, sz_lit, List.length_cons, List.length_nil, bys_len]; have q1 := pre_len (rxb false 0 0 0); omega
  have v1 : ¬ 9223372036854775807 < (⟨#[15]⟩ ++ str [by8 (128 + c)] : ByteArray).size + (str (bys 4 n) : ByteArray).size := by simp only [cat_size, sz_str, sz_lit, List.length_cons, List.length_nil, bys_len]; have q1 := pre_len (rxb false 0 0 0); omega
  have HE : Hid ((⟨#[15]⟩ ++ str [by8 (128 + c)] ++ str (bys 4 n) : ByteArray) = str (enc ⟨18, false, 0, 0, 0, c, n⟩)) := by
    show _ = _
    rcases cn_cases hc with rfl | rfl | rfl | rfl | rfl | rfl | rfl | rfl | rfl | rfl <;> (simp only [lit_str, str_app]; first | rfl | (apply congrArg str; simp [enc, rx, mrs, nmb, fR2, fRR, fB, fP, h32, mid, cod, two, by8, pre, rxb, up]; done) | (apply congrArg str; simp [enc, rx, mrs, nmb, fR2, fRR, fB, fP, h32, mid, cod, two, by8, pre, rxb, up]; rfl))
  obtain ⟨W, hW⟩ : ∃ W, W = w.alloc (.cells #[.int .i64 18, .bool false, .int .i64 0, .int .i64 0, .int .i64 0, .int .i64 c, .int .i64 n] 23) := ⟨_, rfl⟩
  have B0 : Bx w.heap.size ⟨18, false, 0, 0, 0, c, n⟩ W := by rw [hW]; exact Bx.made w ⟨18, false, 0, 0, 0, c, n⟩
  have W0 : Below w.heap.size w W := by rw [hW]; exact bel_one _ _
  clear hx e0 e1
  go_enter Try.func11, Try.ntmps11
  go_wp2_with fail
  rw [← hW]
  refine (RI.out _).mono ?_
  clear hW
  rintro e w1 ⟨rfl, hb1⟩
  have B1 := Bx.draw hb1 B0
  have W1 := bel_tr W0 hb1
  clear hb1 B0 W0
  obtain ⟨x0, x1, x2, x3, x4, x5, x6⟩ := B1.cells
  dsimp only at x0 x1 x2 x3 x4 x5 x6
  go_wp2_with (first | (go_at_call 19; refine (rrex_any _ _ _ _ _).mono ?_; rintro e w2 ⟨rfl, hb2⟩; have B2 : Bx w.heap.size ⟨18, false, 0, 0, 0, c, n⟩ w2 := (by first | exact Bx.draw hb2 (by assumption) | exact Bx.draw2 hb2 (by assumption)); have W2 : Below w.heap.size w w2 := (by first | exact bel_draw' hb2 (by assumption) | exact bel_draw2 hb2 (by assumption)); obtain ⟨x0, x1, x2, x3, x4, x5, x6⟩ := B2.cells; (dsimp only at x0 x1 x2 x3 x4 x5 x6)) | (go_at_call 21; refine (rone_any _ _).mono ?_; rintro e w2 ⟨rfl, hb2⟩; have B2 : Bx w.heap.size ⟨18, false, 0, 0, 0, c, n⟩ w2 := (by first | exact Bx.draw hb2 (by assumption) | exact Bx.draw2 hb2 (by assumption)); have W2 : Below w.heap.size w w2 := (by first | exact bel_draw' hb2 (by assumption) | exact bel_draw2 hb2 (by assumption)); obtain ⟨x0, x1, x2, x3, x4, x5, x6⟩ := B2.cells; (dsimp only at x0 x1 x2 x3 x4 x5 x6)) | (go_at_call 22; refine (rnum_4 _ _ ?hn).mono ?_; (case hn => assumption); rintro e w2 ⟨rfl, hb2⟩; have B2 : Bx w.heap.size ⟨18, false, 0, 0, 0, c, n⟩ w2 := (by first | exact Bx.draw hb2 (by assumption) | exact Bx.draw2 hb2 (by assumption)); have W2 : Below w.heap.size w w2 := (by first | exact bel_draw' hb2 (by assumption) | exact bel_draw2 hb2 (by assumption)); obtain ⟨x0, x1, x2, x3, x4, x5, x6⟩ := B2.cells; (dsimp only at x0 x1 x2 x3 x4 x5 x6)))
  go_region_held3 (fun X => X.cell? ⟨w.heap.size, 0, none⟩ = some (.int .i64 18) ∧ X.cell? ⟨w.heap.size, 1, none⟩ = some (.bool false) ∧ X.cell? ⟨w.heap.size, 2, none⟩ = some (.int .i64 0) ∧ X.cell? ⟨w.heap.size, 3, none⟩ = some (.int .i64 0) ∧ X.cell? ⟨w.heap.size, 4, none⟩ = some (.int .i64 0) ∧ X.cell? ⟨w.heap.size, 5, none⟩ = some (.int .i64 c) ∧ X.cell? ⟨w.heap.size, 6, none⟩ = some (.int .i64 n)) (go_keep)
    (first | (go_at_call 19; refine (rrex_any _ _ _ _ _).mono ?_; rintro e w2 ⟨rfl, hb2⟩; have B2 : Bx w.heap.size ⟨18, false, 0, 0, 0, c, n⟩ w2 := (by first | exact Bx.draw hb2 (by assumption) | exact Bx.draw2 hb2 (by assumption)); have W2 : Below w.heap.size w w2 := (by first | exact bel_draw' hb2 (by assumption) | exact bel_draw2 hb2 (by assumption)); obtain ⟨x0, x1, x2, x3, x4, x5, x6⟩ := B2.cells; (dsimp only at x0 x1 x2 x3 x4 x5 x6)) | (go_at_call 21; refine (rone_any _ _).mono ?_; rintro e w2 ⟨rfl, hb2⟩; have B2 : Bx w.heap.size ⟨18, false, 0, 0, 0, c, n⟩ w2 := (by first | exact Bx.draw hb2 (by assumption) | exact Bx.draw2 hb2 (by assumption)); have W2 : Below w.heap.size w w2 := (by first | exact bel_draw' hb2 (by assumption) | exact bel_draw2 hb2 (by assumption)); obtain ⟨x0, x1, x2, x3, x4, x5, x6⟩ := B2.cells; (dsimp only at x0 x1 x2 x3 x4 x5 x6)) | (go_at_call 22; refine (rnum_4 _ _ ?hn).mono ?_; (case hn => assumption); rintro e w2 ⟨rfl, hb2⟩; have B2 : Bx w.heap.size ⟨18, false, 0, 0, 0, c, n⟩ w2 := (by first | exact Bx.draw hb2 (by assumption) | exact Bx.draw2 hb2 (by assumption)); have W2 : Below w.heap.size w w2 := (by first | exact bel_draw' hb2 (by assumption) | exact bel_draw2 hb2 (by assumption)); obtain ⟨x0, x1, x2, x3, x4, x5, x6⟩ := B2.cells; (dsimp only at x0 x1 x2 x3 x4 x5 x6)))
  go_wp2_with (first | (go_at_call 19; refine (rrex_any _ _ _ _ _).mono ?_; rintro e w2 ⟨rfl, hb2⟩; have B2 : Bx w.heap.size ⟨18, false, 0, 0, 0, c, n⟩ w2 := (by first | exact Bx.draw hb2 (by assumption) | exact Bx.draw2 hb2 (by assumption)); have W2 : Below w.heap.size w w2 := (by first | exact bel_draw' hb2 (by assumption) | exact bel_draw2 hb2 (by assumption)); obtain ⟨x0, x1, x2, x3, x4, x5, x6⟩ := B2.cells; (dsimp only at x0 x1 x2 x3 x4 x5 x6)) | (go_at_call 21; refine (rone_any _ _).mono ?_; rintro e w2 ⟨rfl, hb2⟩; have B2 : Bx w.heap.size ⟨18, false, 0, 0, 0, c, n⟩ w2 := (by first | exact Bx.draw hb2 (by assumption) | exact Bx.draw2 hb2 (by assumption)); have W2 : Below w.heap.size w w2 := (by first | exact bel_draw' hb2 (by assumption) | exact bel_draw2 hb2 (by assumption)); obtain ⟨x0, x1, x2, x3, x4, x5, x6⟩ := B2.cells; (dsimp only at x0 x1 x2 x3 x4 x5 x6)) | (go_at_call 22; refine (rnum_4 _ _ ?hn).mono ?_; (case hn => assumption); rintro e w2 ⟨rfl, hb2⟩; have B2 : Bx w.heap.size ⟨18, false, 0, 0, 0, c, n⟩ w2 := (by first | exact Bx.draw hb2 (by assumption) | exact Bx.draw2 hb2 (by assumption)); have W2 : Below w.heap.size w w2 := (by first | exact bel_draw' hb2 (by assumption) | exact bel_draw2 hb2 (by assumption)); obtain ⟨x0, x1, x2, x3, x4, x5, x6⟩ := B2.cells; (dsimp only at x0 x1 x2 x3 x4 x5 x6)))
  go_ret2
  exact ⟨ret_sb HE.out, by assumption⟩
set_option maxRecDepth 100000 in
set_option maxHeartbeats 8000000 in
theorem renc_8 (wd : Bool) (b : Int) (w : World) (hx : rt ⟨8, wd, 0, b, 0, 0, 0⟩ = true) (h2 : 0 ≤ b ∧ b ≤ 15) : ReIs ⟨8, wd, 0, b, 0, 0, 0⟩ w := by
  have e0 : enS ⟨8, wd, 0, b, 0, 0, 0⟩ = enc ⟨8, wd, 0, b, 0, 0, 0⟩ := by simp [enS, hx]
  have e1 : reB ⟨8, wd, 0, b, 0, 0, 0⟩ = true := hx
  unfold ReIs
  rw [e0, e1]
  simp only [xv]
  have RI := hide (fun U => rright_is 8 wd 0 b 0 0 0 U hx)
  obtain ⟨b0, b1⟩ := h2
  have z0 : ¬ 9223372036854775807 < (str (pre (rxb wd 0 0 b)) : ByteArray).size + (⟨#[247]⟩ : ByteArray).size := by simp only [cat_size, sz_str, sz_lit, List.length_cons, List.length_nil, bys_len]; have q1 := pre_len (rxb wd 0 0 b); omega
  have y0 : ¬ 9223372036854775807 < (str (pre (rxb wd 0 0 b)) : ByteArray).size + 1 := by simp only [cat_size, sz_str, sz_lit, List.length_cons, List.length_nil, bys_len]; have q1 := pre_len (rxb wd 0 0 b); omega
  have z1 : ¬ 9223372036854775807 < (str (pre (rxb wd 0 0 b)) ++ ⟨#[247]⟩ : ByteArray).size + (str [by8 (mri 3 6 b)] : ByteArray).size := by simp only [cat_size, sz_str, sz_lit, List.length_cons, List.length_nil, bys_len]; have q1 := pre_len (rxb wd 0 0 b); omega
  have y1 : ¬ 9223372036854775807 < (str (pre (rxb wd 0 0 b)) : ByteArray).size + 1 + (str [by8 (mri 3 6 b)] : ByteArray).size := by simp only [cat_size, sz_str, sz_lit, List.length_cons, List.length_nil, bys_len]; have q1 := pre_len (rxb wd 0 0 b); omega
  have v1 : ¬ 9223372036854775807 < (str (pre (rxb wd 0 0 b)) ++ ⟨#[247]⟩ : ByteArray).size + (str [by8 (mri 3 6 b)] : ByteArray).size := by simp only [cat_size, sz_str, sz_lit, List.length_cons, List.length_nil, bys_len]; have q1 := pre_len (rxb wd 0 0 b); omega
  have HE : Hid ((str (pre (rxb wd 0 0 b)) ++ ⟨#[247]⟩ ++ str [by8 (mri 3 6 b)] : ByteArray) = str (enc ⟨8, wd, 0, b, 0, 0, 0⟩)) := by
    show _ = _
    simp only [lit_str, str_app]
    first | rfl | (apply congrArg str; simp [enc, rx, mrs, nmb, fR2, fRR, fB, fP, h32, mid, cod, two, by8, rxb_mid (show (6 : Int) ≤ 7 by decide)]; done) | (apply congrArg str; simp [enc, rx, mrs, nmb, fR2, fRR, fB, fP, h32, mid, cod, two, by8, rxb_mid (show (6 : Int) ≤ 7 by decide)]; rfl)
  obtain ⟨W, hW⟩ : ∃ W, W = w.alloc (.cells #[.int .i64 8, .bool wd, .int .i64 0, .int .i64 b, .int .i64 0, .int .i64 0, .int .i64 0] 23) := ⟨_, rfl⟩
  have B0 : Bx w.heap.size ⟨8, wd, 0, b, 0, 0, 0⟩ W := by rw [hW]; exact Bx.made w ⟨8, wd, 0, b, 0, 0, 0⟩
  have W0 : Below w.heap.size w W := by rw [hW]; exact bel_one _ _
  clear hx e0 e1
  go_enter Try.func11, Try.ntmps11
  go_wp2_with fail
  rw [← hW]
  refine (RI.out _).mono ?_
  clear hW
  rintro e w1 ⟨rfl, hb1⟩
  have B1 := Bx.draw hb1 B0
  have W1 := bel_tr W0 hb1
  clear hb1 B0 W0
  obtain ⟨x0, x1, x2, x3, x4, x5, x6⟩ := B1.cells
  dsimp only at x0 x1 x2 x3 x4 x5 x6
  go_wp2_with (first | (go_at_call 19; refine (rrex_any _ _ _ _ _).mono ?_; rintro e w2 ⟨rfl, hb2⟩; have B2 : Bx w.heap.size ⟨8, wd, 0, b, 0, 0, 0⟩ w2 := (by first | exact Bx.draw hb2 (by assumption) | exact Bx.draw2 hb2 (by assumption)); have W2 : Below w.heap.size w w2 := (by first | exact bel_draw' hb2 (by assumption) | exact bel_draw2 hb2 (by assumption)); obtain ⟨x0, x1, x2, x3, x4, x5, x6⟩ := B2.cells; (dsimp only at x0 x1 x2 x3 x4 x5 x6)) | (go_at_call 20; refine (rmr_any _ _ _ _ ?ha ?hb ?hc ?hd).mono ?_; (case ha => decide); (case hb => decide); (case hc => first | assumption | decide); (case hd => first | assumption | decide); rintro e w2 ⟨rfl, hb2⟩; have B2 : Bx w.heap.size ⟨8, wd, 0, b, 0, 0, 0⟩ w2 := (by first | exact Bx.draw hb2 (by assumption) | exact Bx.draw2 hb2 (by assumption)); have W2 : Below w.heap.size w w2 := (by first | exact bel_draw' hb2 (by assumption) | exact bel_draw2 hb2 (by assumption)); obtain ⟨x0, x1, x2, x3, x4, x5, x6⟩ := B2.cells; (dsimp only at x0 x1 x2 x3 x4 x5 x6)))
  go_ret2
  exact ⟨ret_sb HE.out, by assumption⟩
set_option maxRecDepth 100000 in
set_option maxHeartbeats 8000000 in
theorem renc_9 (wd : Bool) (b : Int) (w : World) (hx : rt ⟨9, wd, 0, b, 0, 0, 0⟩ = true) (h2 : 0 ≤ b ∧ b ≤ 15) : ReIs ⟨9, wd, 0, b, 0, 0, 0⟩ w := by
  have e0 : enS ⟨9, wd, 0, b, 0, 0, 0⟩ = enc ⟨9, wd, 0, b, 0, 0, 0⟩ := by simp [enS, hx]
  have e1 : reB ⟨9, wd, 0, b, 0, 0, 0⟩ = true := hx
  unfold ReIs
  rw [e0, e1]
  simp only [xv]
  have RI := hide (fun U => rright_is 9 wd 0 b 0 0 0 U hx)
  obtain ⟨b0, b1⟩ := h2
  have z0 : ¬ 9223372036854775807 < (str (pre (rxb wd 0 0 b)) : ByteArray).size + (⟨#[247]⟩ : ByteArray).size := by simp only [cat_size, sz_str, sz_lit, List.length_cons, List.length_nil, bys_len]; have q1 := pre_len (rxb wd 0 0 b); omega
  have y0 : ¬ 9223372036854775807 < (str (pre (rxb wd 0 0 b)) : ByteArray).size + 1 := by simp only [cat_size, sz_str, sz_lit, List.length_cons, List.length_nil, bys_len]; have q1 := pre_len (rxb wd 0 0 b); omega
  have z1 : ¬ 9223372036854775807 < (str (pre (rxb wd 0 0 b)) ++ ⟨#[247]⟩ : ByteArray).size + (str [by8 (mri 3 7 b)] : ByteArray).size := by simp only [cat_size, sz_str, sz_lit, List.length_cons, List.length_nil, bys_len]; have q1 := pre_len (rxb wd 0 0 b); omega
  have y1 : ¬ 9223372036854775807 < (str (pre (rxb wd 0 0 b)) : ByteArray).size + 1 + (str [by8 (mri 3 7 b)] : ByteArray).size := by simp only [cat_size, sz_str, sz_lit, List.length_cons, List.length_nil, bys_len]; have q1 := pre_len (rxb wd 0 0 b); omega
  have v1 : ¬ 9223372036854775807 < (str (pre (rxb wd 0 0 b)) ++ ⟨#[247]⟩ : ByteArray).size + (str [by8 (mri 3 7 b)] : ByteArray).size := by simp only [cat_size, sz_str, sz_lit, List.length_cons, List.length_nil, bys_len]; have q1 := pre_len (rxb wd 0 0 b); omega
  have HE : Hid ((str (pre (rxb wd 0 0 b)) ++ ⟨#[247]⟩ ++ str [by8 (mri 3 7 b)] : ByteArray) = str (enc ⟨9, wd, 0, b, 0, 0, 0⟩)) := by
    show _ = _
    simp only [lit_str, str_app]
    first | rfl | (apply congrArg str; simp [enc, rx, mrs, nmb, fR2, fRR, fB, fP, h32, mid, cod, two, by8, rxb_mid (show (7 : Int) ≤ 7 by decide)]; done) | (apply congrArg str; simp [enc, rx, mrs, nmb, fR2, fRR, fB, fP, h32, mid, cod, two, by8, rxb_mid (show (7 : Int) ≤ 7 by decide)]; rfl)
  obtain ⟨W, hW⟩ : ∃ W, W = w.alloc (.cells #[.int .i64 9, .bool wd, .int .i64 0, .int .i64 b, .int .i64 0, .int .i64 0, .int .i64 0] 23) := ⟨_, rfl⟩
  have B0 : Bx w.heap.size ⟨9, wd, 0, b, 0, 0, 0⟩ W := by rw [hW]; exact Bx.made w ⟨9, wd, 0, b, 0, 0, 0⟩
  have W0 : Below w.heap.size w W := by rw [hW]; exact bel_one _ _
  clear hx e0 e1
  go_enter Try.func11, Try.ntmps11
  go_wp2_with fail
  rw [← hW]
  refine (RI.out _).mono ?_
  clear hW
  rintro e w1 ⟨rfl, hb1⟩
  have B1 := Bx.draw hb1 B0
  have W1 := bel_tr W0 hb1
  clear hb1 B0 W0
  obtain ⟨x0, x1, x2, x3, x4, x5, x6⟩ := B1.cells
  dsimp only at x0 x1 x2 x3 x4 x5 x6
  go_wp2_with (first | (go_at_call 19; refine (rrex_any _ _ _ _ _).mono ?_; rintro e w2 ⟨rfl, hb2⟩; have B2 : Bx w.heap.size ⟨9, wd, 0, b, 0, 0, 0⟩ w2 := (by first | exact Bx.draw hb2 (by assumption) | exact Bx.draw2 hb2 (by assumption)); have W2 : Below w.heap.size w w2 := (by first | exact bel_draw' hb2 (by assumption) | exact bel_draw2 hb2 (by assumption)); obtain ⟨x0, x1, x2, x3, x4, x5, x6⟩ := B2.cells; (dsimp only at x0 x1 x2 x3 x4 x5 x6)) | (go_at_call 20; refine (rmr_any _ _ _ _ ?ha ?hb ?hc ?hd).mono ?_; (case ha => decide); (case hb => decide); (case hc => first | assumption | decide); (case hd => first | assumption | decide); rintro e w2 ⟨rfl, hb2⟩; have B2 : Bx w.heap.size ⟨9, wd, 0, b, 0, 0, 0⟩ w2 := (by first | exact Bx.draw hb2 (by assumption) | exact Bx.draw2 hb2 (by assumption)); have W2 : Below w.heap.size w w2 := (by first | exact bel_draw' hb2 (by assumption) | exact bel_draw2 hb2 (by assumption)); obtain ⟨x0, x1, x2, x3, x4, x5, x6⟩ := B2.cells; (dsimp only at x0 x1 x2 x3 x4 x5 x6)))
  go_ret2
  exact ⟨ret_sb HE.out, by assumption⟩
set_option maxRecDepth 100000 in
set_option maxHeartbeats 8000000 in
theorem renc_10 (wd : Bool) (w : World) (hx : rt ⟨10, wd, 0, 0, 0, 0, 0⟩ = true)  : ReIs ⟨10, wd, 0, 0, 0, 0, 0⟩ w := by
  have e0 : enS ⟨10, wd, 0, 0, 0, 0, 0⟩ = enc ⟨10, wd, 0, 0, 0, 0, 0⟩ := by simp [enS, hx]
  have e1 : reB ⟨10, wd, 0, 0, 0, 0, 0⟩ = true := hx
  unfold ReIs
  rw [e0, e1]
  simp only [xv]
  have RI := hide (fun U => rright_is 10 wd 0 0 0 0 0 U hx)
  have z0 : ¬ 9223372036854775807 < (str (pre (rxb wd 0 0 0)) : ByteArray).size + (⟨#[153]⟩ : ByteArray).size := by simp only [cat_size, sz_str, sz_lit, List.length_cons, List.length_nil, bys_len]; have q1 := pre_len (rxb wd 0 0 0); omega
  have y0 : ¬ 9223372036854775807 < (str (pre (rxb wd 0 0 0)) : ByteArray).size + 1 := by simp only [cat_size, sz_str, sz_lit, List.length_cons, List.length_nil, bys_len]; have q1 := pre_len (rxb wd 0 0 0); omega
  have HE : Hid ((str (pre (rxb wd 0 0 0)) ++ ⟨#[153]⟩ : ByteArray) = str (enc ⟨10, wd, 0, 0, 0, 0, 0⟩)) := by
    show _ = _
    simp only [lit_str, str_app]
    first | rfl | (apply congrArg str; simp [enc, rx, mrs, nmb, fR2, fRR, fB, fP, h32, mid, cod, two, by8, pre, rxb, up]; done) | (apply congrArg str; simp [enc, rx, mrs, nmb, fR2, fRR, fB, fP, h32, mid, cod, two, by8, pre, rxb, up]; rfl)
  obtain ⟨W, hW⟩ : ∃ W, W = w.alloc (.cells #[.int .i64 10, .bool wd, .int .i64 0, .int .i64 0, .int .i64 0, .int .i64 0, .int .i64 0] 23) := ⟨_, rfl⟩
  have B0 : Bx w.heap.size ⟨10, wd, 0, 0, 0, 0, 0⟩ W := by rw [hW]; exact Bx.made w ⟨10, wd, 0, 0, 0, 0, 0⟩
  have W0 : Below w.heap.size w W := by rw [hW]; exact bel_one _ _
  clear hx e0 e1
  go_enter Try.func11, Try.ntmps11
  go_wp2_with fail
  rw [← hW]
  refine (RI.out _).mono ?_
  clear hW
  rintro e w1 ⟨rfl, hb1⟩
  have B1 := Bx.draw hb1 B0
  have W1 := bel_tr W0 hb1
  clear hb1 B0 W0
  obtain ⟨x0, x1, x2, x3, x4, x5, x6⟩ := B1.cells
  dsimp only at x0 x1 x2 x3 x4 x5 x6
  go_wp2_with (first | (go_at_call 19; refine (rrex_any _ _ _ _ _).mono ?_; rintro e w2 ⟨rfl, hb2⟩; have B2 : Bx w.heap.size ⟨10, wd, 0, 0, 0, 0, 0⟩ w2 := (by first | exact Bx.draw hb2 (by assumption) | exact Bx.draw2 hb2 (by assumption)); have W2 : Below w.heap.size w w2 := (by first | exact bel_draw' hb2 (by assumption) | exact bel_draw2 hb2 (by assumption)); obtain ⟨x0, x1, x2, x3, x4, x5, x6⟩ := B2.cells; (dsimp only at x0 x1 x2 x3 x4 x5 x6)))
  go_ret2
  exact ⟨ret_sb HE.out, by assumption⟩
set_option maxRecDepth 100000 in
set_option maxHeartbeats 8000000 in
theorem renc_16 (r b : Int) (w : World) (hx : rt ⟨16, true, r, b, 0, 0, 0⟩ = true) (h1 : 0 ≤ r ∧ r ≤ 15) (h2 : 0 ≤ b ∧ b ≤ 15) : ReIs ⟨16, true, r, b, 0, 0, 0⟩ w := by
  have e0 : enS ⟨16, true, r, b, 0, 0, 0⟩ = enc ⟨16, true, r, b, 0, 0, 0⟩ := by simp [enS, hx]
  have e1 : reB ⟨16, true, r, b, 0, 0, 0⟩ = true := hx
  unfold ReIs
  rw [e0, e1]
  simp only [xv]
  have RI := hide (fun U => rright_is 16 true r b 0 0 0 U hx)
  obtain ⟨r0, r1⟩ := h1
  obtain ⟨b0, b1⟩ := h2
  have z0 : ¬ 9223372036854775807 < (str (pre (rxb true r 0 b)) : ByteArray).size + (⟨#[99]⟩ : ByteArray).size := by simp only [cat_size, sz_str, sz_lit, List.length_cons, List.length_nil, bys_len]; have q1 := pre_len (rxb true r 0 b); omega
  have y0 : ¬ 9223372036854775807 < (str (pre (rxb true r 0 b)) : ByteArray).size + 1 := by simp only [cat_size, sz_str, sz_lit, List.length_cons, List.length_nil, bys_len]; have q1 := pre_len (rxb true r 0 b); omega
  have z1 : ¬ 9223372036854775807 < (str (pre (rxb true r 0 b)) ++ ⟨#[99]⟩ : ByteArray).size + (str [by8 (mri 3 r b)] : ByteArray).size := by simp only [cat_size, sz_str, sz_lit, List.length_cons, List.length_nil, bys_len]; have q1 := pre_len (rxb true r 0 b); omega
  have y1 : ¬ 9223372036854775807 < (str (pre (rxb true r 0 b)) : ByteArray).size + 1 + (str [by8 (mri 3 r b)] : ByteArray).size := by simp only [cat_size, sz_str, sz_lit, List.length_cons, List.length_nil, bys_len]; have q1 := pre_len (rxb true r 0 b); omega
  have v1 : ¬ 9223372036854775807 < (str (pre (rxb true r 0 b)) ++ ⟨#[99]⟩ : ByteArray).size + (str [by8 (mri 3 r b)] : ByteArray).size := by simp only [cat_size, sz_str, sz_lit, List.length_cons, List.length_nil, bys_len]; have q1 := pre_len (rxb true r 0 b); omega
  have HE : Hid ((str (pre (rxb true r 0 b)) ++ ⟨#[99]⟩ ++ str [by8 (mri 3 r b)] : ByteArray) = str (enc ⟨16, true, r, b, 0, 0, 0⟩)) := by
    show _ = _
    simp only [lit_str, str_app]
    first | rfl | (apply congrArg str; simp [enc, rx, mrs, nmb, fR2, fRR, fB, fP, h32, mid, cod, two, by8]; done) | (apply congrArg str; simp [enc, rx, mrs, nmb, fR2, fRR, fB, fP, h32, mid, cod, two, by8]; rfl)
  obtain ⟨W, hW⟩ : ∃ W, W = w.alloc (.cells #[.int .i64 16, .bool true, .int .i64 r, .int .i64 b, .int .i64 0, .int .i64 0, .int .i64 0] 23) := ⟨_, rfl⟩
  have B0 : Bx w.heap.size ⟨16, true, r, b, 0, 0, 0⟩ W := by rw [hW]; exact Bx.made w ⟨16, true, r, b, 0, 0, 0⟩
  have W0 : Below w.heap.size w W := by rw [hW]; exact bel_one _ _
  clear hx e0 e1
  go_enter Try.func11, Try.ntmps11
  go_wp2_with fail
  rw [← hW]
  refine (RI.out _).mono ?_
  clear hW
  rintro e w1 ⟨rfl, hb1⟩
  have B1 := Bx.draw hb1 B0
  have W1 := bel_tr W0 hb1
  clear hb1 B0 W0
  obtain ⟨x0, x1, x2, x3, x4, x5, x6⟩ := B1.cells
  dsimp only at x0 x1 x2 x3 x4 x5 x6
  go_wp2_with (first | (go_at_call 19; refine (rrex_any _ _ _ _ _).mono ?_; rintro e w2 ⟨rfl, hb2⟩; have B2 : Bx w.heap.size ⟨16, true, r, b, 0, 0, 0⟩ w2 := (by first | exact Bx.draw hb2 (by assumption) | exact Bx.draw2 hb2 (by assumption)); have W2 : Below w.heap.size w w2 := (by first | exact bel_draw' hb2 (by assumption) | exact bel_draw2 hb2 (by assumption)); obtain ⟨x0, x1, x2, x3, x4, x5, x6⟩ := B2.cells; (dsimp only at x0 x1 x2 x3 x4 x5 x6)) | (go_at_call 20; refine (rmr_any _ _ _ _ ?ha ?hb ?hc ?hd).mono ?_; (case ha => decide); (case hb => decide); (case hc => first | assumption | decide); (case hd => first | assumption | decide); rintro e w2 ⟨rfl, hb2⟩; have B2 : Bx w.heap.size ⟨16, true, r, b, 0, 0, 0⟩ w2 := (by first | exact Bx.draw hb2 (by assumption) | exact Bx.draw2 hb2 (by assumption)); have W2 : Below w.heap.size w w2 := (by first | exact bel_draw' hb2 (by assumption) | exact bel_draw2 hb2 (by assumption)); obtain ⟨x0, x1, x2, x3, x4, x5, x6⟩ := B2.cells; (dsimp only at x0 x1 x2 x3 x4 x5 x6)))
  go_region_held3 (fun X => X.cell? ⟨w.heap.size, 0, none⟩ = some (.int .i64 16) ∧ X.cell? ⟨w.heap.size, 1, none⟩ = some (.bool true) ∧ X.cell? ⟨w.heap.size, 2, none⟩ = some (.int .i64 r) ∧ X.cell? ⟨w.heap.size, 3, none⟩ = some (.int .i64 b) ∧ X.cell? ⟨w.heap.size, 4, none⟩ = some (.int .i64 0) ∧ X.cell? ⟨w.heap.size, 5, none⟩ = some (.int .i64 0) ∧ X.cell? ⟨w.heap.size, 6, none⟩ = some (.int .i64 0)) (go_keep)
    (first | (go_at_call 19; refine (rrex_any _ _ _ _ _).mono ?_; rintro e w2 ⟨rfl, hb2⟩; have B2 : Bx w.heap.size ⟨16, true, r, b, 0, 0, 0⟩ w2 := (by first | exact Bx.draw hb2 (by assumption) | exact Bx.draw2 hb2 (by assumption)); have W2 : Below w.heap.size w w2 := (by first | exact bel_draw' hb2 (by assumption) | exact bel_draw2 hb2 (by assumption)); obtain ⟨x0, x1, x2, x3, x4, x5, x6⟩ := B2.cells; (dsimp only at x0 x1 x2 x3 x4 x5 x6)) | (go_at_call 20; refine (rmr_any _ _ _ _ ?ha ?hb ?hc ?hd).mono ?_; (case ha => decide); (case hb => decide); (case hc => first | assumption | decide); (case hd => first | assumption | decide); rintro e w2 ⟨rfl, hb2⟩; have B2 : Bx w.heap.size ⟨16, true, r, b, 0, 0, 0⟩ w2 := (by first | exact Bx.draw hb2 (by assumption) | exact Bx.draw2 hb2 (by assumption)); have W2 : Below w.heap.size w w2 := (by first | exact bel_draw' hb2 (by assumption) | exact bel_draw2 hb2 (by assumption)); obtain ⟨x0, x1, x2, x3, x4, x5, x6⟩ := B2.cells; (dsimp only at x0 x1 x2 x3 x4 x5 x6)))
  go_wp2_with (first | (go_at_call 19; refine (rrex_any _ _ _ _ _).mono ?_; rintro e w2 ⟨rfl, hb2⟩; have B2 : Bx w.heap.size ⟨16, true, r, b, 0, 0, 0⟩ w2 := (by first | exact Bx.draw hb2 (by assumption) | exact Bx.draw2 hb2 (by assumption)); have W2 : Below w.heap.size w w2 := (by first | exact bel_draw' hb2 (by assumption) | exact bel_draw2 hb2 (by assumption)); obtain ⟨x0, x1, x2, x3, x4, x5, x6⟩ := B2.cells; (dsimp only at x0 x1 x2 x3 x4 x5 x6)) | (go_at_call 20; refine (rmr_any _ _ _ _ ?ha ?hb ?hc ?hd).mono ?_; (case ha => decide); (case hb => decide); (case hc => first | assumption | decide); (case hd => first | assumption | decide); rintro e w2 ⟨rfl, hb2⟩; have B2 : Bx w.heap.size ⟨16, true, r, b, 0, 0, 0⟩ w2 := (by first | exact Bx.draw hb2 (by assumption) | exact Bx.draw2 hb2 (by assumption)); have W2 : Below w.heap.size w w2 := (by first | exact bel_draw' hb2 (by assumption) | exact bel_draw2 hb2 (by assumption)); obtain ⟨x0, x1, x2, x3, x4, x5, x6⟩ := B2.cells; (dsimp only at x0 x1 x2 x3 x4 x5 x6)))
  go_ret2
  exact ⟨ret_sb HE.out, by assumption⟩
end Go.Proofs.Ytddepkiefkngdaa
