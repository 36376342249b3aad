/-
  Merged: CRE4 CRE5 CRE6 CREnc.
-/
import Derived.Test.YtookbgnidinkoaaEA
import Derived.Deep.RegionHeld3
import Derived.Deep.DrawnRows
/-
  The walks of the document's Encode: store, mul, host.
-/
namespace Go.Proofs.Ytookbgnidinkoaa.Xc
open Go.RowKit
set_option linter.unusedSimpArgs false
set_option linter.unusedVariables false
attribute [local go_sem ↓] Go.wp_at_zero Go.wp_at_succ

set_option maxRecDepth 100000 in
set_option maxHeartbeats 8000000 in
theorem renc_12z (wd : Bool) (r b n : Int) (w : World) (hx : rt ⟨12, wd, r, b, 0, 0, n⟩ = true) (h1 : 0 ≤ r ∧ r ≤ 15) (h2 : 0 ≤ b ∧ b ≤ 15) (hs : s32 n = true) : ReIs ⟨12, wd, r, b, 0, 0, n⟩ w := by
  have e0 : enS ⟨12, wd, r, b, 0, 0, n⟩ = enc ⟨12, wd, r, b, 0, 0, n⟩ := by simp [enS, hx]
  have e1 : reB ⟨12, wd, r, b, 0, 0, n⟩ = true := hx
  unfold ReIs
  rw [e0, e1]
  simp only [xv]
  have RI := hide (fun U => rright_is 12 wd r b 0 0 n U hx)
  have hix : inx 0 = 4 := rfl
  obtain ⟨r0, r1⟩ := h1
  obtain ⟨b0, b1⟩ := h2
  have hn' : I64 n := s32_64 hs
  have z0 : ¬ 9223372036854775807 < (str (pre (rxb wd r 4 b)) : ByteArray).size + (⟨#[137]⟩ : ByteArray).size := by simp only [cat_size, sz_str, sz_lit, List.length_cons, List.length_nil, bys_len]; have q1 := pre_len (rxb wd r 4 b); omega
  have y0 : ¬ 9223372036854775807 < (str (pre (rxb wd r 4 b)) : ByteArray).size + 1 := by simp only [cat_size, sz_str, sz_lit, List.length_cons, List.length_nil, bys_len]; have q1 := pre_len (rxb wd r 4 b); omega
  have z1 : ¬ 9223372036854775807 < (str (pre (rxb wd r 4 b)) ++ ⟨#[137]⟩ : ByteArray).size + (str [by8 (mri 2 r 4)] : ByteArray).size := by simp only [cat_size, sz_str, sz_lit, List.length_cons, List.length_nil, bys_len]; have q1 := pre_len (rxb wd r 4 b); omega
  have y1 : ¬ 9223372036854775807 < (str (pre (rxb wd r 4 b)) : ByteArray).size + 1 + (str [by8 (mri 2 r 4)] : ByteArray).size := by simp only [cat_size, sz_str, sz_lit, List.length_cons, List.length_nil, bys_len]; have q1 := pre_len (rxb wd r 4 b); omega
  have v1 : ¬ 9223372036854775807 < (str (pre (rxb wd r 4 b)) ++ ⟨#[137]⟩ : ByteArray).size + (str [by8 (mri 2 r 4)] : ByteArray).size := by simp only [cat_size, sz_str, sz_lit, List.length_cons, List.length_nil, bys_len]; have q1 := pre_len (rxb wd r 4 b); omega
  have z2 : ¬ 9223372036854775807 < (str (pre (rxb wd r 4 b)) ++ ⟨#[137]⟩ ++ str [by8 (mri 2 r 4)] : ByteArray).size + (str [by8 (mri 0 4 b)] : ByteArray).size := by simp only [cat_size, sz_str, sz_lit, List.length_cons, List.length_nil, bys_len]; have q1 := pre_len (rxb wd r 4 b); omega
  have y2 : ¬ 9223372036854775807 < (str (pre (rxb wd r 4 b)) : ByteArray).size + 1 + (str [by8 (mri 2 r 4)] : ByteArray).size + (str [by8 (mri 0 4 b)] : ByteArray).size := by simp only [cat_size, sz_str, sz_lit, List.length_cons, List.length_nil, bys_len]; have q1 := pre_len (rxb wd r 4 b); omega
  have v2 : ¬ 9223372036854775807 < (str (pre (rxb wd r 4 b)) ++ ⟨#[137]⟩ ++ str [by8 (mri 2 r 4)] : ByteArray).size + (str [by8 (mri 0 4 b)] : ByteArray).size := by simp only [cat_size, sz_str, sz_lit, List.length_cons, List.length_nil, bys_len]; have q1 := pre_len (rxb wd r 4 b); omega
  have z3 : ¬ 9223372036854775807 < (str (pre (rxb wd r 4 b)) ++ ⟨#[137]⟩ ++ str [by8 (mri 2 r 4)] ++ str [by8 (mri 0 4 b)] : ByteArray).size + (str (bys 4 n) : ByteArray).size := by simp only [cat_size, sz_str, sz_lit, List.length_cons, List.length_nil, bys_len]; have q1 := pre_len (rxb wd r 4 b); omega
  have y3 : ¬ 9223372036854775807 < (str (pre (rxb wd r 4 b)) : ByteArray).size + 1 + (str [by8 (mri 2 r 4)] : ByteArray).size + (str [by8 (mri 0 4 b)] : ByteArray).size + (str (bys 4 n) : ByteArray).size := by simp only [cat_size, sz_str, sz_lit, List.length_cons, List.length_nil, bys_len]; have q1 := pre_len (rxb wd r 4 b); omega
  have v3 : ¬ 9223372036854775807 < (str (pre (rxb wd r 4 b)) ++ ⟨#[137]⟩ ++ str [by8 (mri 2 r 4)] ++ str [by8 (mri 0 4 b)] : ByteArray).size + (str (bys 4 n) : ByteArray).size := by simp only [cat_size, sz_str, sz_lit, List.length_cons, List.length_nil, bys_len]; have q1 := pre_len (rxb wd r 4 b); omega
  have HE : Hid ((str (pre (rxb wd r 4 b)) ++ ⟨#[137]⟩ ++ str [by8 (mri 2 r 4)] ++ str [by8 (mri 0 4 b)] ++ str (bys 4 n) : ByteArray) = str (enc ⟨12, wd, r, b, 0, 0, n⟩)) := by
    show _ = _
    simp only [lit_str, str_app]
    first | rfl | (apply congrArg str; simp [enc, rx, mrs, nmb, fR2, fRR, fB, fP, h32, mid, cod, two, by8, hix]; done) | (apply congrArg str; simp [enc, rx, mrs, nmb, fR2, fRR, fB, fP, h32, mid, cod, two, by8, hix]; rfl)
  obtain ⟨W, hW⟩ : ∃ W, W = w.alloc (.cells #[.int .i64 12, .bool wd, .int .i64 r, .int .i64 b, .int .i64 0, .int .i64 0, .int .i64 n] 40) := ⟨_, rfl⟩
  have B0 : Bx w.heap.size ⟨12, wd, r, b, 0, 0, n⟩ W := by rw [hW]; exact Bx.made w ⟨12, wd, r, b, 0, 0, n⟩
  have W0 : Below w.heap.size w W := by rw [hW]; exact bel_one _ _
  clear hx e0 e1
  go_enter Try.func22, Try.ntmps22
  go_wp2_with fail
  rw [← hW]
  refine (RI.out _).mono ?_
  clear hW
  rintro e w1 ⟨rfl, hb1⟩
  have B1 := Bx.draw hb1 B0
  have W1 := bel_tr W0 hb1
  clear hb1 B0 W0
  obtain ⟨x0, x1, x2, x3, x4, x5, x6⟩ := B1.cells
  dsimp only at x0 x1 x2 x3 x4 x5 x6
  go_wp2_with (first | (go_at_call 33; refine (rrex_any _ _ _ _ _).mono ?_; rintro e w2 ⟨rfl, hb2⟩; have B2 : Bx w.heap.size ⟨12, wd, r, b, 0, 0, n⟩ w2 := (by first | exact Bx.draw hb2 (by assumption) | exact Bx.draw2 hb2 (by assumption)); have W2 : Below w.heap.size w w2 := (by first | exact bel_draw' hb2 (by assumption) | exact bel_draw2 hb2 (by assumption)); obtain ⟨x0, x1, x2, x3, x4, x5, x6⟩ := B2.cells; (dsimp only at x0 x1 x2 x3 x4 x5 x6)) | (go_at_call 34; refine (rmr_any _ _ _ _ ?ha ?hb ?hc ?hd).mono ?_; (case ha => decide); (case hb => decide); (case hc => first | assumption | decide); (case hd => first | assumption | decide); rintro e w2 ⟨rfl, hb2⟩; have B2 : Bx w.heap.size ⟨12, wd, r, b, 0, 0, n⟩ w2 := (by first | exact Bx.draw hb2 (by assumption) | exact Bx.draw2 hb2 (by assumption)); have W2 : Below w.heap.size w w2 := (by first | exact bel_draw' hb2 (by assumption) | exact bel_draw2 hb2 (by assumption)); obtain ⟨x0, x1, x2, x3, x4, x5, x6⟩ := B2.cells; (dsimp only at x0 x1 x2 x3 x4 x5 x6)) | (go_at_call 36; refine (rnum_4 _ _ ?hn).mono ?_; (case hn => assumption); rintro e w2 ⟨rfl, hb2⟩; have B2 : Bx w.heap.size ⟨12, wd, r, b, 0, 0, n⟩ w2 := (by first | exact Bx.draw hb2 (by assumption) | exact Bx.draw2 hb2 (by assumption)); have W2 : Below w.heap.size w w2 := (by first | exact bel_draw' hb2 (by assumption) | exact bel_draw2 hb2 (by assumption)); obtain ⟨x0, x1, x2, x3, x4, x5, x6⟩ := B2.cells; (dsimp only at x0 x1 x2 x3 x4 x5 x6)))
  go_region_held3 (fun X => X.cell? ⟨w.heap.size, 0, none⟩ = some (.int .i64 12) ∧ X.cell? ⟨w.heap.size, 1, none⟩ = some (.bool wd) ∧ X.cell? ⟨w.heap.size, 2, none⟩ = some (.int .i64 r) ∧ X.cell? ⟨w.heap.size, 3, none⟩ = some (.int .i64 b) ∧ X.cell? ⟨w.heap.size, 4, none⟩ = some (.int .i64 0) ∧ X.cell? ⟨w.heap.size, 5, none⟩ = some (.int .i64 0) ∧ X.cell? ⟨w.heap.size, 6, none⟩ = some (.int .i64 n)) (go_keep)
    (first | (go_at_call 33; refine (rrex_any _ _ _ _ _).mono ?_; rintro e w2 ⟨rfl, hb2⟩; have B2 : Bx w.heap.size ⟨12, wd, r, b, 0, 0, n⟩ w2 := (by first | exact Bx.draw hb2 (by assumption) | exact Bx.draw2 hb2 (by assumption)); have W2 : Below w.heap.size w w2 := (by first | exact bel_draw' hb2 (by assumption) | exact bel_draw2 hb2 (by assumption)); obtain ⟨x0, x1, x2, x3, x4, x5, x6⟩ := B2.cells; (dsimp only at x0 x1 x2 x3 x4 x5 x6)) | (go_at_call 34; refine (rmr_any _ _ _ _ ?ha ?hb ?hc ?hd).mono ?_; (case ha => decide); (case hb => decide); (case hc => first | assumption | decide); (case hd => first | assumption | decide); rintro e w2 ⟨rfl, hb2⟩; have B2 : Bx w.heap.size ⟨12, wd, r, b, 0, 0, n⟩ w2 := (by first | exact Bx.draw hb2 (by assumption) | exact Bx.draw2 hb2 (by assumption)); have W2 : Below w.heap.size w w2 := (by first | exact bel_draw' hb2 (by assumption) | exact bel_draw2 hb2 (by assumption)); obtain ⟨x0, x1, x2, x3, x4, x5, x6⟩ := B2.cells; (dsimp only at x0 x1 x2 x3 x4 x5 x6)) | (go_at_call 36; refine (rnum_4 _ _ ?hn).mono ?_; (case hn => assumption); rintro e w2 ⟨rfl, hb2⟩; have B2 : Bx w.heap.size ⟨12, wd, r, b, 0, 0, n⟩ w2 := (by first | exact Bx.draw hb2 (by assumption) | exact Bx.draw2 hb2 (by assumption)); have W2 : Below w.heap.size w w2 := (by first | exact bel_draw' hb2 (by assumption) | exact bel_draw2 hb2 (by assumption)); obtain ⟨x0, x1, x2, x3, x4, x5, x6⟩ := B2.cells; (dsimp only at x0 x1 x2 x3 x4 x5 x6)))
  go_wp2_with (first | (go_at_call 33; refine (rrex_any _ _ _ _ _).mono ?_; rintro e w2 ⟨rfl, hb2⟩; have B2 : Bx w.heap.size ⟨12, wd, r, b, 0, 0, n⟩ w2 := (by first | exact Bx.draw hb2 (by assumption) | exact Bx.draw2 hb2 (by assumption)); have W2 : Below w.heap.size w w2 := (by first | exact bel_draw' hb2 (by assumption) | exact bel_draw2 hb2 (by assumption)); obtain ⟨x0, x1, x2, x3, x4, x5, x6⟩ := B2.cells; (dsimp only at x0 x1 x2 x3 x4 x5 x6)) | (go_at_call 34; refine (rmr_any _ _ _ _ ?ha ?hb ?hc ?hd).mono ?_; (case ha => decide); (case hb => decide); (case hc => first | assumption | decide); (case hd => first | assumption | decide); rintro e w2 ⟨rfl, hb2⟩; have B2 : Bx w.heap.size ⟨12, wd, r, b, 0, 0, n⟩ w2 := (by first | exact Bx.draw hb2 (by assumption) | exact Bx.draw2 hb2 (by assumption)); have W2 : Below w.heap.size w w2 := (by first | exact bel_draw' hb2 (by assumption) | exact bel_draw2 hb2 (by assumption)); obtain ⟨x0, x1, x2, x3, x4, x5, x6⟩ := B2.cells; (dsimp only at x0 x1 x2 x3 x4 x5 x6)) | (go_at_call 36; refine (rnum_4 _ _ ?hn).mono ?_; (case hn => assumption); rintro e w2 ⟨rfl, hb2⟩; have B2 : Bx w.heap.size ⟨12, wd, r, b, 0, 0, n⟩ w2 := (by first | exact Bx.draw hb2 (by assumption) | exact Bx.draw2 hb2 (by assumption)); have W2 : Below w.heap.size w w2 := (by first | exact bel_draw' hb2 (by assumption) | exact bel_draw2 hb2 (by assumption)); obtain ⟨x0, x1, x2, x3, x4, x5, x6⟩ := B2.cells; (dsimp only at x0 x1 x2 x3 x4 x5 x6)))
  go_ret2
  exact ⟨ret_sb HE.out, by assumption⟩
set_option maxRecDepth 100000 in
set_option maxHeartbeats 8000000 in
theorem renc_12p (wd : Bool) (r b i n : Int) (w : World) (hx : rt ⟨12, wd, r, b, i, 0, n⟩ = true) (h1 : 0 ≤ r ∧ r ≤ 15) (h2 : 0 ≤ b ∧ b ≤ 15) (h3 : 0 ≤ i ∧ i ≤ 16 ∧ i ≠ 5) (hs : s32 n = true) (hiz : i ≠ 0) : ReIs ⟨12, wd, r, b, i, 0, n⟩ w := by
  have e0 : enS ⟨12, wd, r, b, i, 0, n⟩ = enc ⟨12, wd, r, b, i, 0, n⟩ := by simp [enS, hx]
  have e1 : reB ⟨12, wd, r, b, i, 0, n⟩ = true := hx
  unfold ReIs
  rw [e0, e1]
  simp only [xv]
  have RI := hide (fun U => rright_is 12 wd r b i 0 n U hx)
  obtain ⟨hi0, hi1⟩ := inx_0 h3
  have hix : inx i = i - 1 := by simp [inx, hiz]
  have hie : (i == 0) = false := by simp [hiz]
  rw [hix] at hi0
  obtain ⟨r0, r1⟩ := h1
  obtain ⟨b0, b1⟩ := h2
  obtain ⟨i0, i1, i5⟩ := h3
  have hn' : I64 n := s32_64 hs
  have wr0 : IntKind.i64.wrap (i - 1) = i - 1 := by rw [IntKind.wrap_i64]; omega
  have z0 : ¬ 9223372036854775807 < (str (pre (rxb wd r (i - 1) b)) : ByteArray).size + (⟨#[137]⟩ : ByteArray).size := by simp only [cat_size, sz_str, sz_lit, List.length_cons, List.length_nil, bys_len]; have q1 := pre_len (rxb wd r (i - 1) b); omega
  have y0 : ¬ 9223372036854775807 < (str (pre (rxb wd r (i - 1) b)) : ByteArray).size + 1 := by simp only [cat_size, sz_str, sz_lit, List.length_cons, List.length_nil, bys_len]; have q1 := pre_len (rxb wd r (i - 1) b); omega
  have z1 : ¬ 9223372036854775807 < (str (pre (rxb wd r (i - 1) b)) ++ ⟨#[137]⟩ : ByteArray).size + (str [by8 (mri 2 r 4)] : ByteArray).size := by simp only [cat_size, sz_str, sz_lit, List.length_cons, List.length_nil, bys_len]; have q1 := pre_len (rxb wd r (i - 1) b); omega
  have y1 : ¬ 9223372036854775807 < (str (pre (rxb wd r (i - 1) b)) : ByteArray).size + 1 + (str [by8 (mri 2 r 4)] : ByteArray).size := by simp only [cat_size, sz_str, sz_lit, List.length_cons, List.length_nil, bys_len]; have q1 := pre_len (rxb wd r (i - 1) b); omega
  have v1 : ¬ 9223372036854775807 < (str (pre (rxb wd r (i - 1) b)) ++ ⟨#[137]⟩ : ByteArray).size + (str [by8 (mri 2 r 4)] : ByteArray).size := by simp only [cat_size, sz_str, sz_lit, List.length_cons, List.length_nil, bys_len]; have q1 := pre_len (rxb wd r (i - 1) b); omega
  have z2 : ¬ 9223372036854775807 < (str (pre (rxb wd r (i - 1) b)) ++ ⟨#[137]⟩ ++ str [by8 (mri 2 r 4)] : ByteArray).size + (str [by8 (mri 0 (i - 1) b)] : ByteArray).size := by simp only [cat_size, sz_str, sz_lit, List.length_cons, List.length_nil, bys_len]; have q1 := pre_len (rxb wd r (i - 1) b); omega
  have y2 : ¬ 9223372036854775807 < (str (pre (rxb wd r (i - 1) b)) : ByteArray).size + 1 + (str [by8 (mri 2 r 4)] : ByteArray).size + (str [by8 (mri 0 (i - 1) b)] : ByteArray).size := by simp only [cat_size, sz_str, sz_lit, List.length_cons, List.length_nil, bys_len]; have q1 := pre_len (rxb wd r (i - 1) b); omega
  have v2 : ¬ 9223372036854775807 < (str (pre (rxb wd r (i - 1) b)) ++ ⟨#[137]⟩ ++ str [by8 (mri 2 r 4)] : ByteArray).size + (str [by8 (mri 0 (i - 1) b)] : ByteArray).size := by simp only [cat_size, sz_str, sz_lit, List.length_cons, List.length_nil, bys_len]; have q1 := pre_len (rxb wd r (i - 1) b); omega
  have z3 : ¬ 9223372036854775807 < (str (pre (rxb wd r (i - 1) b)) ++ ⟨#[137]⟩ ++ str [by8 (mri 2 r 4)] ++ str [by8 (mri 0 (i - 1) b)] : ByteArray).size + (str (bys 4 n) : ByteArray).size := by simp only [cat_size, sz_str, sz_lit, List.length_cons, List.length_nil, bys_len]; have q1 := pre_len (rxb wd r (i - 1) b); omega
  have y3 : ¬ 9223372036854775807 < (str (pre (rxb wd r (i - 1) b)) : ByteArray).size + 1 + (str [by8 (mri 2 r 4)] : ByteArray).size + (str [by8 (mri 0 (i - 1) b)] : ByteArray).size + (str (bys 4 n) : ByteArray).size := by simp only [cat_size, sz_str, sz_lit, List.length_cons, List.length_nil, bys_len]; have q1 := pre_len (rxb wd r (i - 1) b); omega
  have v3 : ¬ 9223372036854775807 < (str (pre (rxb wd r (i - 1) b)) ++ ⟨#[137]⟩ ++ str [by8 (mri 2 r 4)] ++ str [by8 (mri 0 (i - 1) b)] : ByteArray).size + (str (bys 4 n) : ByteArray).size := by simp only [cat_size, sz_str, sz_lit, List.length_cons, List.length_nil, bys_len]; have q1 := pre_len (rxb wd r (i - 1) b); omega
  have HE : Hid ((str (pre (rxb wd r (i - 1) b)) ++ ⟨#[137]⟩ ++ str [by8 (mri 2 r 4)] ++ str [by8 (mri 0 (i - 1) b)] ++ str (bys 4 n) : ByteArray) = str (enc ⟨12, wd, r, b, i, 0, n⟩)) := by
    show _ = _
    simp only [lit_str, str_app]
    first | rfl | (apply congrArg str; simp [enc, rx, mrs, nmb, fR2, fRR, fB, fP, h32, mid, cod, two, by8, hix]; done) | (apply congrArg str; simp [enc, rx, mrs, nmb, fR2, fRR, fB, fP, h32, mid, cod, two, by8, hix]; rfl)
  obtain ⟨W, hW⟩ : ∃ W, W = w.alloc (.cells #[.int .i64 12, .bool wd, .int .i64 r, .int .i64 b, .int .i64 i, .int .i64 0, .int .i64 n] 40) := ⟨_, rfl⟩
  have B0 : Bx w.heap.size ⟨12, wd, r, b, i, 0, n⟩ W := by rw [hW]; exact Bx.made w ⟨12, wd, r, b, i, 0, n⟩
  have W0 : Below w.heap.size w W := by rw [hW]; exact bel_one _ _
  clear hx e0 e1
  go_enter Try.func22, Try.ntmps22
  go_wp2_with fail
  rw [← hW]
  refine (RI.out _).mono ?_
  clear hW
  rintro e w1 ⟨rfl, hb1⟩
  have B1 := Bx.draw hb1 B0
  have W1 := bel_tr W0 hb1
  clear hb1 B0 W0
  obtain ⟨x0, x1, x2, x3, x4, x5, x6⟩ := B1.cells
  dsimp only at x0 x1 x2 x3 x4 x5 x6
  go_wp2_with (first | (go_at_call 33; refine (rrex_any _ _ _ _ _).mono ?_; rintro e w2 ⟨rfl, hb2⟩; have B2 : Bx w.heap.size ⟨12, wd, r, b, i, 0, n⟩ w2 := (by first | exact Bx.draw hb2 (by assumption) | exact Bx.draw2 hb2 (by assumption)); have W2 : Below w.heap.size w w2 := (by first | exact bel_draw' hb2 (by assumption) | exact bel_draw2 hb2 (by assumption)); obtain ⟨x0, x1, x2, x3, x4, x5, x6⟩ := B2.cells; (dsimp only at x0 x1 x2 x3 x4 x5 x6)) | (go_at_call 34; refine (rmr_any _ _ _ _ ?ha ?hb ?hc ?hd).mono ?_; (case ha => decide); (case hb => decide); (case hc => first | assumption | decide); (case hd => first | assumption | decide); rintro e w2 ⟨rfl, hb2⟩; have B2 : Bx w.heap.size ⟨12, wd, r, b, i, 0, n⟩ w2 := (by first | exact Bx.draw hb2 (by assumption) | exact Bx.draw2 hb2 (by assumption)); have W2 : Below w.heap.size w w2 := (by first | exact bel_draw' hb2 (by assumption) | exact bel_draw2 hb2 (by assumption)); obtain ⟨x0, x1, x2, x3, x4, x5, x6⟩ := B2.cells; (dsimp only at x0 x1 x2 x3 x4 x5 x6)) | (go_at_call 36; refine (rnum_4 _ _ ?hn).mono ?_; (case hn => assumption); rintro e w2 ⟨rfl, hb2⟩; have B2 : Bx w.heap.size ⟨12, wd, r, b, i, 0, n⟩ w2 := (by first | exact Bx.draw hb2 (by assumption) | exact Bx.draw2 hb2 (by assumption)); have W2 : Below w.heap.size w w2 := (by first | exact bel_draw' hb2 (by assumption) | exact bel_draw2 hb2 (by assumption)); obtain ⟨x0, x1, x2, x3, x4, x5, x6⟩ := B2.cells; (dsimp only at x0 x1 x2 x3 x4 x5 x6)))
  go_region_held3 (fun X => X.cell? ⟨w.heap.size, 0, none⟩ = some (.int .i64 12) ∧ X.cell? ⟨w.heap.size, 1, none⟩ = some (.bool wd) ∧ X.cell? ⟨w.heap.size, 2, none⟩ = some (.int .i64 r) ∧ X.cell? ⟨w.heap.size, 3, none⟩ = some (.int .i64 b) ∧ X.cell? ⟨w.heap.size, 4, none⟩ = some (.int .i64 i) ∧ X.cell? ⟨w.heap.size, 5, none⟩ = some (.int .i64 0) ∧ X.cell? ⟨w.heap.size, 6, none⟩ = some (.int .i64 n)) (go_keep)
    (first | (go_at_call 33; refine (rrex_any _ _ _ _ _).mono ?_; rintro e w2 ⟨rfl, hb2⟩; have B2 : Bx w.heap.size ⟨12, wd, r, b, i, 0, n⟩ w2 := (by first | exact Bx.draw hb2 (by assumption) | exact Bx.draw2 hb2 (by assumption)); have W2 : Below w.heap.size w w2 := (by first | exact bel_draw' hb2 (by assumption) | exact bel_draw2 hb2 (by assumption)); obtain ⟨x0, x1, x2, x3, x4, x5, x6⟩ := B2.cells; (dsimp only at x0 x1 x2 x3 x4 x5 x6)) | (go_at_call 34; refine (rmr_any _ _ _ _ ?ha ?hb ?hc ?hd).mono ?_; (case ha => decide); (case hb => decide); (case hc => first | assumption | decide); (case hd => first | assumption | decide); rintro e w2 ⟨rfl, hb2⟩; have B2 : Bx w.heap.size ⟨12, wd, r, b, i, 0, n⟩ w2 := (by first | exact Bx.draw hb2 (by assumption) | exact Bx.draw2 hb2 (by assumption)); have W2 : Below w.heap.size w w2 := (by first | exact bel_draw' hb2 (by assumption) | exact bel_draw2 hb2 (by assumption)); obtain ⟨x0, x1, x2, x3, x4, x5, x6⟩ := B2.cells; (dsimp only at x0 x1 x2 x3 x4 x5 x6)) | (go_at_call 36; refine (rnum_4 _ _ ?hn).mono ?_; (case hn => assumption); rintro e w2 ⟨rfl, hb2⟩; have B2 : Bx w.heap.size ⟨12, wd, r, b, i, 0, n⟩ w2 := (by first | exact Bx.draw hb2 (by assumption) | exact Bx.draw2 hb2 (by assumption)); have W2 : Below w.heap.size w w2 := (by first | exact bel_draw' hb2 (by assumption) | exact bel_draw2 hb2 (by assumption)); obtain ⟨x0, x1, x2, x3, x4, x5, x6⟩ := B2.cells; (dsimp only at x0 x1 x2 x3 x4 x5 x6)))
  go_wp2_with (first | (go_at_call 33; refine (rrex_any _ _ _ _ _).mono ?_; rintro e w2 ⟨rfl, hb2⟩; have B2 : Bx w.heap.size ⟨12, wd, r, b, i, 0, n⟩ w2 := (by first | exact Bx.draw hb2 (by assumption) | exact Bx.draw2 hb2 (by assumption)); have W2 : Below w.heap.size w w2 := (by first | exact bel_draw' hb2 (by assumption) | exact bel_draw2 hb2 (by assumption)); obtain ⟨x0, x1, x2, x3, x4, x5, x6⟩ := B2.cells; (dsimp only at x0 x1 x2 x3 x4 x5 x6)) | (go_at_call 34; refine (rmr_any _ _ _ _ ?ha ?hb ?hc ?hd).mono ?_; (case ha => decide); (case hb => decide); (case hc => first | assumption | decide); (case hd => first | assumption | decide); rintro e w2 ⟨rfl, hb2⟩; have B2 : Bx w.heap.size ⟨12, wd, r, b, i, 0, n⟩ w2 := (by first | exact Bx.draw hb2 (by assumption) | exact Bx.draw2 hb2 (by assumption)); have W2 : Below w.heap.size w w2 := (by first | exact bel_draw' hb2 (by assumption) | exact bel_draw2 hb2 (by assumption)); obtain ⟨x0, x1, x2, x3, x4, x5, x6⟩ := B2.cells; (dsimp only at x0 x1 x2 x3 x4 x5 x6)) | (go_at_call 36; refine (rnum_4 _ _ ?hn).mono ?_; (case hn => assumption); rintro e w2 ⟨rfl, hb2⟩; have B2 : Bx w.heap.size ⟨12, wd, r, b, i, 0, n⟩ w2 := (by first | exact Bx.draw hb2 (by assumption) | exact Bx.draw2 hb2 (by assumption)); have W2 : Below w.heap.size w w2 := (by first | exact bel_draw' hb2 (by assumption) | exact bel_draw2 hb2 (by assumption)); obtain ⟨x0, x1, x2, x3, x4, x5, x6⟩ := B2.cells; (dsimp only at x0 x1 x2 x3 x4 x5 x6)))
  go_ret2
  exact ⟨ret_sb HE.out, by assumption⟩
set_option maxRecDepth 100000 in
set_option maxHeartbeats 8000000 in
theorem renc_6 (wd : Bool) (r b : Int) (w : World) (hx : rt ⟨6, wd, r, b, 0, 0, 0⟩ = true) (h1 : 0 ≤ r ∧ r ≤ 15) (h2 : 0 ≤ b ∧ b ≤ 15) : ReIs ⟨6, wd, r, b, 0, 0, 0⟩ w := by
  have e0 : enS ⟨6, wd, r, b, 0, 0, 0⟩ = enc ⟨6, wd, r, b, 0, 0, 0⟩ := by simp [enS, hx]
  have e1 : reB ⟨6, wd, r, b, 0, 0, 0⟩ = true := hx
  unfold ReIs
  rw [e0, e1]
  simp only [xv]
  have RI := hide (fun U => rright_is 6 wd r b 0 0 0 U hx)
  obtain ⟨r0, r1⟩ := h1
  obtain ⟨b0, b1⟩ := h2
  have z0 : ¬ 9223372036854775807 < (str (pre (rxb wd r 0 b)) : ByteArray).size + (⟨#[15, 175]⟩ : ByteArray).size := by simp only [cat_size, sz_str, sz_lit, List.length_cons, List.length_nil, bys_len]; have q1 := pre_len (rxb wd r 0 b); omega
  have y0 : ¬ 9223372036854775807 < (str (pre (rxb wd r 0 b)) : ByteArray).size + 2 := by simp only [cat_size, sz_str, sz_lit, List.length_cons, List.length_nil, bys_len]; have q1 := pre_len (rxb wd r 0 b); omega
  have z1 : ¬ 9223372036854775807 < (str (pre (rxb wd r 0 b)) ++ ⟨#[15, 175]⟩ : ByteArray).size + (str [by8 (mri 3 r b)] : ByteArray).size := by simp only [cat_size, sz_str, sz_lit, List.length_cons, List.length_nil, bys_len]; have q1 := pre_len (rxb wd r 0 b); omega
  have y1 : ¬ 9223372036854775807 < (str (pre (rxb wd r 0 b)) : ByteArray).size + 2 + (str [by8 (mri 3 r b)] : ByteArray).size := by simp only [cat_size, sz_str, sz_lit, List.length_cons, List.length_nil, bys_len]; have q1 := pre_len (rxb wd r 0 b); omega
  have v1 : ¬ 9223372036854775807 < (str (pre (rxb wd r 0 b)) ++ ⟨#[15, 175]⟩ : ByteArray).size + (str [by8 (mri 3 r b)] : ByteArray).size := by simp only [cat_size, sz_str, sz_lit, List.length_cons, List.length_nil, bys_len]; have q1 := pre_len (rxb wd r 0 b); omega
  have HE : Hid ((str (pre (rxb wd r 0 b)) ++ ⟨#[15, 175]⟩ ++ str [by8 (mri 3 r b)] : ByteArray) = str (enc ⟨6, wd, r, b, 0, 0, 0⟩)) := by
    show _ = _
    simp only [lit_str, str_app]
    first | rfl | (apply congrArg str; simp [enc, rx, mrs, nmb, fR2, fRR, fB, fP, h32, mid, cod, two, by8]; done) | (apply congrArg str; simp [enc, rx, mrs, nmb, fR2, fRR, fB, fP, h32, mid, cod, two, by8]; rfl)
  obtain ⟨W, hW⟩ : ∃ W, W = w.alloc (.cells #[.int .i64 6, .bool wd, .int .i64 r, .int .i64 b, .int .i64 0, .int .i64 0, .int .i64 0] 40) := ⟨_, rfl⟩
  have B0 : Bx w.heap.size ⟨6, wd, r, b, 0, 0, 0⟩ W := by rw [hW]; exact Bx.made w ⟨6, wd, r, b, 0, 0, 0⟩
  have W0 : Below w.heap.size w W := by rw [hW]; exact bel_one _ _
  clear hx e0 e1
  go_enter Try.func22, Try.ntmps22
  go_wp2_with fail
  rw [← hW]
  refine (RI.out _).mono ?_
  clear hW
  rintro e w1 ⟨rfl, hb1⟩
  have B1 := Bx.draw hb1 B0
  have W1 := bel_tr W0 hb1
  clear hb1 B0 W0
  obtain ⟨x0, x1, x2, x3, x4, x5, x6⟩ := B1.cells
  dsimp only at x0 x1 x2 x3 x4 x5 x6
  go_wp2_with (first | (go_at_call 33; refine (rrex_any _ _ _ _ _).mono ?_; rintro e w2 ⟨rfl, hb2⟩; have B2 : Bx w.heap.size ⟨6, wd, r, b, 0, 0, 0⟩ w2 := (by first | exact Bx.draw hb2 (by assumption) | exact Bx.draw2 hb2 (by assumption)); have W2 : Below w.heap.size w w2 := (by first | exact bel_draw' hb2 (by assumption) | exact bel_draw2 hb2 (by assumption)); obtain ⟨x0, x1, x2, x3, x4, x5, x6⟩ := B2.cells; (dsimp only at x0 x1 x2 x3 x4 x5 x6)) | (go_at_call 34; refine (rmr_any _ _ _ _ ?ha ?hb ?hc ?hd).mono ?_; (case ha => decide); (case hb => decide); (case hc => first | assumption | decide); (case hd => first | assumption | decide); rintro e w2 ⟨rfl, hb2⟩; have B2 : Bx w.heap.size ⟨6, wd, r, b, 0, 0, 0⟩ w2 := (by first | exact Bx.draw hb2 (by assumption) | exact Bx.draw2 hb2 (by assumption)); have W2 : Below w.heap.size w w2 := (by first | exact bel_draw' hb2 (by assumption) | exact bel_draw2 hb2 (by assumption)); obtain ⟨x0, x1, x2, x3, x4, x5, x6⟩ := B2.cells; (dsimp only at x0 x1 x2 x3 x4 x5 x6)))
  go_ret2
  exact ⟨ret_sb HE.out, by assumption⟩
set_option maxRecDepth 100000 in
set_option maxHeartbeats 8000000 in
theorem renc_23  (w : World) (hx : rt ⟨23, false, 0, 0, 0, 0, 0⟩ = true)  : ReIs ⟨23, false, 0, 0, 0, 0, 0⟩ w := by
  have e0 : enS ⟨23, false, 0, 0, 0, 0, 0⟩ = enc ⟨23, false, 0, 0, 0, 0, 0⟩ := by simp [enS, hx]
  have e1 : reB ⟨23, false, 0, 0, 0, 0, 0⟩ = true := hx
  unfold ReIs
  rw [e0, e1]
  simp only [xv]
  have RI := hide (fun U => rright_is 23 false 0 0 0 0 0 U hx)
  have HE : Hid ((⟨#[204]⟩ : ByteArray) = str (enc ⟨23, false, 0, 0, 0, 0, 0⟩)) := by
    show _ = _
    simp only [lit_str, str_app]
    first | rfl | (apply congrArg str; simp [enc, rx, mrs, nmb, fR2, fRR, fB, fP, h32, mid, cod, two, by8, pre, rxb, up]; done) | (apply congrArg str; simp [enc, rx, mrs, nmb, fR2, fRR, fB, fP, h32, mid, cod, two, by8, pre, rxb, up]; rfl)
  obtain ⟨W, hW⟩ : ∃ W, W = w.alloc (.cells #[.int .i64 23, .bool false, .int .i64 0, .int .i64 0, .int .i64 0, .int .i64 0, .int .i64 0] 40) := ⟨_, rfl⟩
  have B0 : Bx w.heap.size ⟨23, false, 0, 0, 0, 0, 0⟩ W := by rw [hW]; exact Bx.made w ⟨23, false, 0, 0, 0, 0, 0⟩
  have W0 : Below w.heap.size w W := by rw [hW]; exact bel_one _ _
  clear hx e0 e1
  go_enter Try.func22, Try.ntmps22
  go_wp2_with fail
  rw [← hW]
  refine (RI.out _).mono ?_
  clear hW
  rintro e w1 ⟨rfl, hb1⟩
  have B1 := Bx.draw hb1 B0
  have W1 := bel_tr W0 hb1
  clear hb1 B0 W0
  obtain ⟨x0, x1, x2, x3, x4, x5, x6⟩ := B1.cells
  dsimp only at x0 x1 x2 x3 x4 x5 x6
  go_wp2_with (first | (go_at_call 33; refine (rrex_any _ _ _ _ _).mono ?_; rintro e w2 ⟨rfl, hb2⟩; have B2 : Bx w.heap.size ⟨23, false, 0, 0, 0, 0, 0⟩ w2 := (by first | exact Bx.draw hb2 (by assumption) | exact Bx.draw2 hb2 (by assumption)); have W2 : Below w.heap.size w w2 := (by first | exact bel_draw' hb2 (by assumption) | exact bel_draw2 hb2 (by assumption)); obtain ⟨x0, x1, x2, x3, x4, x5, x6⟩ := B2.cells; (dsimp only at x0 x1 x2 x3 x4 x5 x6)))
  go_ret2
  exact ⟨ret_sb HE.out, by assumption⟩
end Go.Proofs.Ytookbgnidinkoaa.Xc
/-
  The walks of the document's Encode: set, cmov, shift, call.
-/
namespace Go.Proofs.Ytookbgnidinkoaa.Xc
open Go.RowKit
set_option linter.unusedSimpArgs false
set_option linter.unusedVariables false
attribute [local go_sem ↓] Go.wp_at_zero Go.wp_at_succ

set_option maxRecDepth 100000 in
set_option maxHeartbeats 8000000 in
theorem renc_13 (c : Int) (w : World) (hx : rt ⟨13, false, 0, 0, 0, c, 0⟩ = true) (hc : cnK c = true) : ReIs ⟨13, false, 0, 0, 0, c, 0⟩ w := by
  have e0 : enS ⟨13, false, 0, 0, 0, c, 0⟩ = enc ⟨13, false, 0, 0, 0, c, 0⟩ := by simp [enS, hx]
  have e1 : reB ⟨13, false, 0, 0, 0, c, 0⟩ = true := hx
  unfold ReIs
  rw [e0, e1]
  simp only [xv]
  have RI := hide (fun U => rright_is 13 false 0 0 0 c 0 U hx)
  obtain ⟨hc0, hc1⟩ := cn_bd15 hc
  have wr0 : IntKind.i64.wrap (144 + c) = 144 + c := by rw [IntKind.wrap_i64]; omega
  have z0 : ¬ 9223372036854775807 < (⟨#[15]⟩ : ByteArray).size + (str [by8 (144 + c)] : ByteArray).size := by simp only [cat_size, sz_str, sz_lit, List.length_cons, List.length_nil, bys_len]; have q1 := pre_len (rxb false 0 0 0); omega
  have y0 : ¬ 9223372036854775807 < 1 + (str [by8 (144 + c)] : ByteArray).size := by simp only [cat_size, sz_str, sz_lit, List.length_cons, List.length_nil, bys_len]; have q1 := pre_len (rxb false 0 0 0); omega
  have z1 : ¬ 9223372036854775807 < (⟨#[15]⟩ ++ str [by8 (144 + c)] : ByteArray).size + (⟨#[192]⟩ : ByteArray).size := by simp only [cat_size, sz_str, sz_lit, List.length_cons, List.length_nil, bys_len]; have q1 := pre_len (rxb false 0 0 0); omega
  have y1 : ¬ 9223372036854775807 < 1 + (str [by8 (144 + c)] : ByteArray).size + 1 := by simp only [cat_size, sz_str, sz_lit, List.length_cons, List.length_nil, bys_len]; have q1 := pre_len (rxb false 0 0 0); omega
  have v1 : ¬ 9223372036854775807 < (⟨#[15]⟩ ++ str [by8 (144 + c)] : ByteArray).size + 1 := by simp only [cat_size, sz_str, sz_lit, List.length_cons, List.length_nil, bys_len]; have q1 := pre_len (rxb false 0 0 0); omega
  have HE : Hid ((⟨#[15]⟩ ++ str [by8 (144 + c)] ++ ⟨#[192]⟩ : ByteArray) = str (enc ⟨13, false, 0, 0, 0, c, 0⟩)) := by
    show _ = _
    rcases cn_cases hc with rfl | rfl | rfl | rfl | rfl | rfl | rfl | rfl | rfl | rfl <;> (simp only [lit_str, str_app]; first | rfl | (apply congrArg str; simp [enc, rx, mrs, nmb, fR2, fRR, fB, fP, h32, mid, cod, two, by8, pre, rxb, up]; done) | (apply congrArg str; simp [enc, rx, mrs, nmb, fR2, fRR, fB, fP, h32, mid, cod, two, by8, pre, rxb, up]; rfl))
  obtain ⟨W, hW⟩ : ∃ W, W = w.alloc (.cells #[.int .i64 13, .bool false, .int .i64 0, .int .i64 0, .int .i64 0, .int .i64 c, .int .i64 0] 40) := ⟨_, rfl⟩
  have B0 : Bx w.heap.size ⟨13, false, 0, 0, 0, c, 0⟩ W := by rw [hW]; exact Bx.made w ⟨13, false, 0, 0, 0, c, 0⟩
  have W0 : Below w.heap.size w W := by rw [hW]; exact bel_one _ _
  clear hx e0 e1
  go_enter Try.func22, Try.ntmps22
  go_wp2_with fail
  rw [← hW]
  refine (RI.out _).mono ?_
  clear hW
  rintro e w1 ⟨rfl, hb1⟩
  have B1 := Bx.draw hb1 B0
  have W1 := bel_tr W0 hb1
  clear hb1 B0 W0
  obtain ⟨x0, x1, x2, x3, x4, x5, x6⟩ := B1.cells
  dsimp only at x0 x1 x2 x3 x4 x5 x6
  go_wp2_with (first | (go_at_call 33; refine (rrex_any _ _ _ _ _).mono ?_; rintro e w2 ⟨rfl, hb2⟩; have B2 : Bx w.heap.size ⟨13, false, 0, 0, 0, c, 0⟩ w2 := (by first | exact Bx.draw hb2 (by assumption) | exact Bx.draw2 hb2 (by assumption)); have W2 : Below w.heap.size w w2 := (by first | exact bel_draw' hb2 (by assumption) | exact bel_draw2 hb2 (by assumption)); obtain ⟨x0, x1, x2, x3, x4, x5, x6⟩ := B2.cells; (dsimp only at x0 x1 x2 x3 x4 x5 x6)) | (go_at_call 35; refine (rone_any _ _).mono ?_; rintro e w2 ⟨rfl, hb2⟩; have B2 : Bx w.heap.size ⟨13, false, 0, 0, 0, c, 0⟩ w2 := (by first | exact Bx.draw hb2 (by assumption) | exact Bx.draw2 hb2 (by assumption)); have W2 : Below w.heap.size w w2 := (by first | exact bel_draw' hb2 (by assumption) | exact bel_draw2 hb2 (by assumption)); obtain ⟨x0, x1, x2, x3, x4, x5, x6⟩ := B2.cells; (dsimp only at x0 x1 x2 x3 x4 x5 x6)))
  go_ret2
  exact ⟨ret_sb HE.out, by assumption⟩
set_option maxRecDepth 100000 in
set_option maxHeartbeats 8000000 in
theorem renc_15 (wd : Bool) (r b c : Int) (w : World) (hx : rt ⟨15, wd, r, b, 0, c, 0⟩ = true) (h1 : 0 ≤ r ∧ r ≤ 15) (h2 : 0 ≤ b ∧ b ≤ 15) (hc : cnK c = true) : ReIs ⟨15, wd, r, b, 0, c, 0⟩ w := by
  have e0 : enS ⟨15, wd, r, b, 0, c, 0⟩ = enc ⟨15, wd, r, b, 0, c, 0⟩ := by simp [enS, hx]
  have e1 : reB ⟨15, wd, r, b, 0, c, 0⟩ = true := hx
  unfold ReIs
  rw [e0, e1]
  simp only [xv]
  have RI := hide (fun U => rright_is 15 wd r b 0 c 0 U hx)
  obtain ⟨hc0, hc1⟩ := cn_bd15 hc
  obtain ⟨r0, r1⟩ := h1
  obtain ⟨b0, b1⟩ := h2
  have wr0 : IntKind.i64.wrap (64 + c) = 64 + c := by rw [IntKind.wrap_i64]; omega
  have z0 : ¬ 9223372036854775807 < (str (pre (rxb wd r 0 b)) : ByteArray).size + (⟨#[15]⟩ : ByteArray).size := by simp only [cat_size, sz_str, sz_lit, List.length_cons, List.length_nil, bys_len]; have q1 := pre_len (rxb wd r 0 b); omega
  have y0 : ¬ 9223372036854775807 < (str (pre (rxb wd r 0 b)) : ByteArray).size + 1 := by simp only [cat_size, sz_str, sz_lit, List.length_cons, List.length_nil, bys_len]; have q1 := pre_len (rxb wd r 0 b); omega
  have z1 : ¬ 9223372036854775807 < (str (pre (rxb wd r 0 b)) ++ ⟨#[15]⟩ : ByteArray).size + (str [by8 (64 + c)] : ByteArray).size := by simp only [cat_size, sz_str, sz_lit, List.length_cons, List.length_nil, bys_len]; have q1 := pre_len (rxb wd r 0 b); omega
  have y1 : ¬ 9223372036854775807 < (str (pre (rxb wd r 0 b)) : ByteArray).size + 1 + (str [by8 (64 + c)] : ByteArray).size := by simp only [cat_size, sz_str, sz_lit, List.length_cons, List.length_nil, bys_len]; have q1 := pre_len (rxb wd r 0 b); omega
  have v1 : ¬ 9223372036854775807 < (str (pre (rxb wd r 0 b)) ++ ⟨#[15]⟩ : ByteArray).size + (str [by8 (64 + c)] : ByteArray).size := by simp only [cat_size, sz_str, sz_lit, List.length_cons, List.length_nil, bys_len]; have q1 := pre_len (rxb wd r 0 b); omega
  have z2 : ¬ 9223372036854775807 < (str (pre (rxb wd r 0 b)) ++ ⟨#[15]⟩ ++ str [by8 (64 + c)] : ByteArray).size + (str [by8 (mri 3 r b)] : ByteArray).size := by simp only [cat_size, sz_str, sz_lit, List.length_cons, List.length_nil, bys_len]; have q1 := pre_len (rxb wd r 0 b); omega
  have y2 : ¬ 9223372036854775807 < (str (pre (rxb wd r 0 b)) : ByteArray).size + 1 + (str [by8 (64 + c)] : ByteArray).size + (str [by8 (mri 3 r b)] : ByteArray).size := by simp only [cat_size, sz_str, sz_lit, List.length_cons, List.length_nil, bys_len]; have q1 := pre_len (rxb wd r 0 b); omega
  have v2 : ¬ 9223372036854775807 < (str (pre (rxb wd r 0 b)) ++ ⟨#[15]⟩ ++ str [by8 (64 + c)] : ByteArray).size + (str [by8 (mri 3 r b)] : ByteArray).size := by simp only [cat_size, sz_str, sz_lit, List.length_cons, List.length_nil, bys_len]; have q1 := pre_len (rxb wd r 0 b); omega
  have HE : Hid ((str (pre (rxb wd r 0 b)) ++ ⟨#[15]⟩ ++ str [by8 (64 + c)] ++ str [by8 (mri 3 r b)] : ByteArray) = str (enc ⟨15, wd, r, b, 0, c, 0⟩)) := by
    show _ = _
    rcases cn_cases hc with rfl | rfl | rfl | rfl | rfl | rfl | rfl | rfl | rfl | rfl <;> (simp only [lit_str, str_app]; first | rfl | (apply congrArg str; simp [enc, rx, mrs, nmb, fR2, fRR, fB, fP, h32, mid, cod, two, by8]; done) | (apply congrArg str; simp [enc, rx, mrs, nmb, fR2, fRR, fB, fP, h32, mid, cod, two, by8]; rfl))
  obtain ⟨W, hW⟩ : ∃ W, W = w.alloc (.cells #[.int .i64 15, .bool wd, .int .i64 r, .int .i64 b, .int .i64 0, .int .i64 c, .int .i64 0] 40) := ⟨_, rfl⟩
  have B0 : Bx w.heap.size ⟨15, wd, r, b, 0, c, 0⟩ W := by rw [hW]; exact Bx.made w ⟨15, wd, r, b, 0, c, 0⟩
  have W0 : Below w.heap.size w W := by rw [hW]; exact bel_one _ _
  clear hx e0 e1
  go_enter Try.func22, Try.ntmps22
  go_wp2_with fail
  rw [← hW]
  refine (RI.out _).mono ?_
  clear hW
  rintro e w1 ⟨rfl, hb1⟩
  have B1 := Bx.draw hb1 B0
  have W1 := bel_tr W0 hb1
  clear hb1 B0 W0
  obtain ⟨x0, x1, x2, x3, x4, x5, x6⟩ := B1.cells
  dsimp only at x0 x1 x2 x3 x4 x5 x6
  go_wp2_with (first | (go_at_call 33; refine (rrex_any _ _ _ _ _).mono ?_; rintro e w2 ⟨rfl, hb2⟩; have B2 : Bx w.heap.size ⟨15, wd, r, b, 0, c, 0⟩ w2 := (by first | exact Bx.draw hb2 (by assumption) | exact Bx.draw2 hb2 (by assumption)); have W2 : Below w.heap.size w w2 := (by first | exact bel_draw' hb2 (by assumption) | exact bel_draw2 hb2 (by assumption)); obtain ⟨x0, x1, x2, x3, x4, x5, x6⟩ := B2.cells; (dsimp only at x0 x1 x2 x3 x4 x5 x6)) | (go_at_call 34; refine (rmr_any _ _ _ _ ?ha ?hb ?hc ?hd).mono ?_; (case ha => decide); (case hb => decide); (case hc => first | assumption | decide); (case hd => first | assumption | decide); rintro e w2 ⟨rfl, hb2⟩; have B2 : Bx w.heap.size ⟨15, wd, r, b, 0, c, 0⟩ w2 := (by first | exact Bx.draw hb2 (by assumption) | exact Bx.draw2 hb2 (by assumption)); have W2 : Below w.heap.size w w2 := (by first | exact bel_draw' hb2 (by assumption) | exact bel_draw2 hb2 (by assumption)); obtain ⟨x0, x1, x2, x3, x4, x5, x6⟩ := B2.cells; (dsimp only at x0 x1 x2 x3 x4 x5 x6)) | (go_at_call 35; refine (rone_any _ _).mono ?_; rintro e w2 ⟨rfl, hb2⟩; have B2 : Bx w.heap.size ⟨15, wd, r, b, 0, c, 0⟩ w2 := (by first | exact Bx.draw hb2 (by assumption) | exact Bx.draw2 hb2 (by assumption)); have W2 : Below w.heap.size w w2 := (by first | exact bel_draw' hb2 (by assumption) | exact bel_draw2 hb2 (by assumption)); obtain ⟨x0, x1, x2, x3, x4, x5, x6⟩ := B2.cells; (dsimp only at x0 x1 x2 x3 x4 x5 x6)))
  go_region_held3 (fun X => X.cell? ⟨w.heap.size, 0, none⟩ = some (.int .i64 15) ∧ X.cell? ⟨w.heap.size, 1, none⟩ = some (.bool wd) ∧ X.cell? ⟨w.heap.size, 2, none⟩ = some (.int .i64 r) ∧ X.cell? ⟨w.heap.size, 3, none⟩ = some (.int .i64 b) ∧ X.cell? ⟨w.heap.size, 4, none⟩ = some (.int .i64 0) ∧ X.cell? ⟨w.heap.size, 5, none⟩ = some (.int .i64 c) ∧ X.cell? ⟨w.heap.size, 6, none⟩ = some (.int .i64 0)) (go_keep)
    (first | (go_at_call 33; refine (rrex_any _ _ _ _ _).mono ?_; rintro e w2 ⟨rfl, hb2⟩; have B2 : Bx w.heap.size ⟨15, wd, r, b, 0, c, 0⟩ w2 := (by first | exact Bx.draw hb2 (by assumption) | exact Bx.draw2 hb2 (by assumption)); have W2 : Below w.heap.size w w2 := (by first | exact bel_draw' hb2 (by assumption) | exact bel_draw2 hb2 (by assumption)); obtain ⟨x0, x1, x2, x3, x4, x5, x6⟩ := B2.cells; (dsimp only at x0 x1 x2 x3 x4 x5 x6)) | (go_at_call 34; refine (rmr_any _ _ _ _ ?ha ?hb ?hc ?hd).mono ?_; (case ha => decide); (case hb => decide); (case hc => first | assumption | decide); (case hd => first | assumption | decide); rintro e w2 ⟨rfl, hb2⟩; have B2 : Bx w.heap.size ⟨15, wd, r, b, 0, c, 0⟩ w2 := (by first | exact Bx.draw hb2 (by assumption) | exact Bx.draw2 hb2 (by assumption)); have W2 : Below w.heap.size w w2 := (by first | exact bel_draw' hb2 (by assumption) | exact bel_draw2 hb2 (by assumption)); obtain ⟨x0, x1, x2, x3, x4, x5, x6⟩ := B2.cells; (dsimp only at x0 x1 x2 x3 x4 x5 x6)) | (go_at_call 35; refine (rone_any _ _).mono ?_; rintro e w2 ⟨rfl, hb2⟩; have B2 : Bx w.heap.size ⟨15, wd, r, b, 0, c, 0⟩ w2 := (by first | exact Bx.draw hb2 (by assumption) | exact Bx.draw2 hb2 (by assumption)); have W2 : Below w.heap.size w w2 := (by first | exact bel_draw' hb2 (by assumption) | exact bel_draw2 hb2 (by assumption)); obtain ⟨x0, x1, x2, x3, x4, x5, x6⟩ := B2.cells; (dsimp only at x0 x1 x2 x3 x4 x5 x6)))
  go_wp2_with (first | (go_at_call 33; refine (rrex_any _ _ _ _ _).mono ?_; rintro e w2 ⟨rfl, hb2⟩; have B2 : Bx w.heap.size ⟨15, wd, r, b, 0, c, 0⟩ w2 := (by first | exact Bx.draw hb2 (by assumption) | exact Bx.draw2 hb2 (by assumption)); have W2 : Below w.heap.size w w2 := (by first | exact bel_draw' hb2 (by assumption) | exact bel_draw2 hb2 (by assumption)); obtain ⟨x0, x1, x2, x3, x4, x5, x6⟩ := B2.cells; (dsimp only at x0 x1 x2 x3 x4 x5 x6)) | (go_at_call 34; refine (rmr_any _ _ _ _ ?ha ?hb ?hc ?hd).mono ?_; (case ha => decide); (case hb => decide); (case hc => first | assumption | decide); (case hd => first | assumption | decide); rintro e w2 ⟨rfl, hb2⟩; have B2 : Bx w.heap.size ⟨15, wd, r, b, 0, c, 0⟩ w2 := (by first | exact Bx.draw hb2 (by assumption) | exact Bx.draw2 hb2 (by assumption)); have W2 : Below w.heap.size w w2 := (by first | exact bel_draw' hb2 (by assumption) | exact bel_draw2 hb2 (by assumption)); obtain ⟨x0, x1, x2, x3, x4, x5, x6⟩ := B2.cells; (dsimp only at x0 x1 x2 x3 x4 x5 x6)) | (go_at_call 35; refine (rone_any _ _).mono ?_; rintro e w2 ⟨rfl, hb2⟩; have B2 : Bx w.heap.size ⟨15, wd, r, b, 0, c, 0⟩ w2 := (by first | exact Bx.draw hb2 (by assumption) | exact Bx.draw2 hb2 (by assumption)); have W2 : Below w.heap.size w w2 := (by first | exact bel_draw' hb2 (by assumption) | exact bel_draw2 hb2 (by assumption)); obtain ⟨x0, x1, x2, x3, x4, x5, x6⟩ := B2.cells; (dsimp only at x0 x1 x2 x3 x4 x5 x6)))
  go_ret2
  exact ⟨ret_sb HE.out, by assumption⟩
set_option maxRecDepth 100000 in
set_option maxHeartbeats 8000000 in
theorem renc_7 (wd : Bool) (b c : Int) (w : World) (hx : rt ⟨7, wd, 0, b, 0, c, 0⟩ = true) (h2 : 0 ≤ b ∧ b ≤ 15) (hc : shK c = true) : ReIs ⟨7, wd, 0, b, 0, c, 0⟩ w := by
  have e0 : enS ⟨7, wd, 0, b, 0, c, 0⟩ = enc ⟨7, wd, 0, b, 0, c, 0⟩ := by simp [enS, hx]
  have e1 : reB ⟨7, wd, 0, b, 0, c, 0⟩ = true := hx
  unfold ReIs
  rw [e0, e1]
  simp only [xv]
  have RI := hide (fun U => rright_is 7 wd 0 b 0 c 0 U hx)
  obtain ⟨hc0, hc1⟩ := sh_bd15 hc
  obtain ⟨b0, b1⟩ := h2
  have z0 : ¬ 9223372036854775807 < (str (pre (rxb wd 0 0 b)) : ByteArray).size + (⟨#[211]⟩ : ByteArray).size := by simp only [cat_size, sz_str, sz_lit, List.length_cons, List.length_nil, bys_len]; have q1 := pre_len (rxb wd 0 0 b); omega
  have y0 : ¬ 9223372036854775807 < (str (pre (rxb wd 0 0 b)) : ByteArray).size + 1 := by simp only [cat_size, sz_str, sz_lit, List.length_cons, List.length_nil, bys_len]; have q1 := pre_len (rxb wd 0 0 b); omega
  have z1 : ¬ 9223372036854775807 < (str (pre (rxb wd 0 0 b)) ++ ⟨#[211]⟩ : ByteArray).size + (str [by8 (mri 3 c b)] : ByteArray).size := by simp only [cat_size, sz_str, sz_lit, List.length_cons, List.length_nil, bys_len]; have q1 := pre_len (rxb wd 0 0 b); omega
  have y1 : ¬ 9223372036854775807 < (str (pre (rxb wd 0 0 b)) : ByteArray).size + 1 + (str [by8 (mri 3 c b)] : ByteArray).size := by simp only [cat_size, sz_str, sz_lit, List.length_cons, List.length_nil, bys_len]; have q1 := pre_len (rxb wd 0 0 b); omega
  have v1 : ¬ 9223372036854775807 < (str (pre (rxb wd 0 0 b)) ++ ⟨#[211]⟩ : ByteArray).size + (str [by8 (mri 3 c b)] : ByteArray).size := by simp only [cat_size, sz_str, sz_lit, List.length_cons, List.length_nil, bys_len]; have q1 := pre_len (rxb wd 0 0 b); omega
  have HE : Hid ((str (pre (rxb wd 0 0 b)) ++ ⟨#[211]⟩ ++ str [by8 (mri 3 c b)] : ByteArray) = str (enc ⟨7, wd, 0, b, 0, c, 0⟩)) := by
    show _ = _
    simp only [lit_str, str_app]
    first | rfl | (apply congrArg str; simp [enc, rx, mrs, nmb, fR2, fRR, fB, fP, h32, mid, cod, two, by8, rxb_mid (show c ≤ 7 from (sh_bd hc).2)]; done) | (apply congrArg str; simp [enc, rx, mrs, nmb, fR2, fRR, fB, fP, h32, mid, cod, two, by8, rxb_mid (show c ≤ 7 from (sh_bd hc).2)]; rfl)
  obtain ⟨W, hW⟩ : ∃ W, W = w.alloc (.cells #[.int .i64 7, .bool wd, .int .i64 0, .int .i64 b, .int .i64 0, .int .i64 c, .int .i64 0] 40) := ⟨_, rfl⟩
  have B0 : Bx w.heap.size ⟨7, wd, 0, b, 0, c, 0⟩ W := by rw [hW]; exact Bx.made w ⟨7, wd, 0, b, 0, c, 0⟩
  have W0 : Below w.heap.size w W := by rw [hW]; exact bel_one _ _
  clear hx e0 e1
  go_enter Try.func22, Try.ntmps22
  go_wp2_with fail
  rw [← hW]
  refine (RI.out _).mono ?_
  clear hW
  rintro e w1 ⟨rfl, hb1⟩
  have B1 := Bx.draw hb1 B0
  have W1 := bel_tr W0 hb1
  clear hb1 B0 W0
  obtain ⟨x0, x1, x2, x3, x4, x5, x6⟩ := B1.cells
  dsimp only at x0 x1 x2 x3 x4 x5 x6
  go_wp2_with (first | (go_at_call 33; refine (rrex_any _ _ _ _ _).mono ?_; rintro e w2 ⟨rfl, hb2⟩; have B2 : Bx w.heap.size ⟨7, wd, 0, b, 0, c, 0⟩ w2 := (by first | exact Bx.draw hb2 (by assumption) | exact Bx.draw2 hb2 (by assumption)); have W2 : Below w.heap.size w w2 := (by first | exact bel_draw' hb2 (by assumption) | exact bel_draw2 hb2 (by assumption)); obtain ⟨x0, x1, x2, x3, x4, x5, x6⟩ := B2.cells; (dsimp only at x0 x1 x2 x3 x4 x5 x6)) | (go_at_call 34; refine (rmr_any _ _ _ _ ?ha ?hb ?hc ?hd).mono ?_; (case ha => decide); (case hb => decide); (case hc => first | assumption | decide); (case hd => first | assumption | decide); rintro e w2 ⟨rfl, hb2⟩; have B2 : Bx w.heap.size ⟨7, wd, 0, b, 0, c, 0⟩ w2 := (by first | exact Bx.draw hb2 (by assumption) | exact Bx.draw2 hb2 (by assumption)); have W2 : Below w.heap.size w w2 := (by first | exact bel_draw' hb2 (by assumption) | exact bel_draw2 hb2 (by assumption)); obtain ⟨x0, x1, x2, x3, x4, x5, x6⟩ := B2.cells; (dsimp only at x0 x1 x2 x3 x4 x5 x6)))
  go_ret2
  exact ⟨ret_sb HE.out, by assumption⟩
set_option maxRecDepth 100000 in
set_option maxHeartbeats 8000000 in
theorem renc_19 (n : Int) (w : World) (hx : rt ⟨19, false, 0, 0, 0, 0, n⟩ = true) (hs : s32 n = true) : ReIs ⟨19, false, 0, 0, 0, 0, n⟩ w := by
  have e0 : enS ⟨19, false, 0, 0, 0, 0, n⟩ = enc ⟨19, false, 0, 0, 0, 0, n⟩ := by simp [enS, hx]
  have e1 : reB ⟨19, false, 0, 0, 0, 0, n⟩ = true := hx
  unfold ReIs
  rw [e0, e1]
  simp only [xv]
  have RI := hide (fun U => rright_is 19 false 0 0 0 0 n U hx)
  have hn' : I64 n := s32_64 hs
  have z0 : ¬ 9223372036854775807 < (⟨#[232]⟩ : ByteArray).size + (str (bys 4 n) : ByteArray).size := by simp only [cat_size, sz_str, sz_lit, List.length_cons, List.length_nil, bys_len]; have q1 := pre_len (rxb false 0 0 0); omega
  have y0 : ¬ 9223372036854775807 < 1 + (str (bys 4 n) : ByteArray).size := by simp only [cat_size, sz_str, sz_lit, List.length_cons, List.length_nil, bys_len]; have q1 := pre_len (rxb false 0 0 0); omega
  have HE : Hid ((⟨#[232]⟩ ++ str (bys 4 n) : ByteArray) = str (enc ⟨19, false, 0, 0, 0, 0, n⟩)) := by
    show _ = _
    simp only [lit_str, str_app]
    first | rfl | (apply congrArg str; simp [enc, rx, mrs, nmb, fR2, fRR, fB, fP, h32, mid, cod, two, by8, pre, rxb, up]; done) | (apply congrArg str; simp [enc, rx, mrs, nmb, fR2, fRR, fB, fP, h32, mid, cod, two, by8, pre, rxb, up]; rfl)
  obtain ⟨W, hW⟩ : ∃ W, W = w.alloc (.cells #[.int .i64 19, .bool false, .int .i64 0, .int .i64 0, .int .i64 0, .int .i64 0, .int .i64 n] 40) := ⟨_, rfl⟩
  have B0 : Bx w.heap.size ⟨19, false, 0, 0, 0, 0, n⟩ W := by rw [hW]; exact Bx.made w ⟨19, false, 0, 0, 0, 0, n⟩
  have W0 : Below w.heap.size w W := by rw [hW]; exact bel_one _ _
  clear hx e0 e1
  go_enter Try.func22, Try.ntmps22
  go_wp2_with fail
  rw [← hW]
  refine (RI.out _).mono ?_
  clear hW
  rintro e w1 ⟨rfl, hb1⟩
  have B1 := Bx.draw hb1 B0
  have W1 := bel_tr W0 hb1
  clear hb1 B0 W0
  obtain ⟨x0, x1, x2, x3, x4, x5, x6⟩ := B1.cells
  dsimp only at x0 x1 x2 x3 x4 x5 x6
  go_wp2_with (first | (go_at_call 33; refine (rrex_any _ _ _ _ _).mono ?_; rintro e w2 ⟨rfl, hb2⟩; have B2 : Bx w.heap.size ⟨19, false, 0, 0, 0, 0, n⟩ w2 := (by first | exact Bx.draw hb2 (by assumption) | exact Bx.draw2 hb2 (by assumption)); have W2 : Below w.heap.size w w2 := (by first | exact bel_draw' hb2 (by assumption) | exact bel_draw2 hb2 (by assumption)); obtain ⟨x0, x1, x2, x3, x4, x5, x6⟩ := B2.cells; (dsimp only at x0 x1 x2 x3 x4 x5 x6)) | (go_at_call 36; refine (rnum_4 _ _ ?hn).mono ?_; (case hn => assumption); rintro e w2 ⟨rfl, hb2⟩; have B2 : Bx w.heap.size ⟨19, false, 0, 0, 0, 0, n⟩ w2 := (by first | exact Bx.draw hb2 (by assumption) | exact Bx.draw2 hb2 (by assumption)); have W2 : Below w.heap.size w w2 := (by first | exact bel_draw' hb2 (by assumption) | exact bel_draw2 hb2 (by assumption)); obtain ⟨x0, x1, x2, x3, x4, x5, x6⟩ := B2.cells; (dsimp only at x0 x1 x2 x3 x4 x5 x6)))
  go_ret2
  exact ⟨ret_sb HE.out, by assumption⟩
end Go.Proofs.Ytookbgnidinkoaa.Xc
/-
  The walks of the document's Encode: jcc, div, idiv, sign, widen.
-/
namespace Go.Proofs.Ytookbgnidinkoaa.Xc
open Go.RowKit
set_option linter.unusedSimpArgs false
set_option linter.unusedVariables false
attribute [local go_sem ↓] Go.wp_at_zero Go.wp_at_succ

set_option maxRecDepth 100000 in
set_option maxHeartbeats 8000000 in
theorem renc_18 (c n : Int) (w : World) (hx : rt ⟨18, false, 0, 0, 0, c, n⟩ = true) (hc : cnK c = true) (hs : s32 n = true) : ReIs ⟨18, false, 0, 0, 0, c, n⟩ w := by
  have e0 : enS ⟨18, false, 0, 0, 0, c, n⟩ = enc ⟨18, false, 0, 0, 0, c, n⟩ := by simp [enS, hx]
  have e1 : reB ⟨18, false, 0, 0, 0, c, n⟩ = true := hx
  unfold ReIs
  rw [e0, e1]
  simp only [xv]
  have RI := hide (fun U => rright_is 18 false 0 0 0 c n U hx)
  obtain ⟨hc0, hc1⟩ := cn_bd15 hc
  have hn' : I64 n := s32_64 hs
  have wr0 : IntKind.i64.wrap (128 + c) = 128 + c := by rw [IntKind.wrap_i64]; omega
  have z0 : ¬ 9223372036854775807 < (⟨#[15]⟩ : ByteArray).size + (str [by8 (128 + c)] : ByteArray).size := by simp only [cat_size, sz_str, sz_lit, List.length_cons, List.length_nil, bys_len]; have q1 := pre_len (rxb false 0 0 0); omega
  have y0 : ¬ 9223372036854775807 < 1 + (str [by8 (128 + c)] : ByteArray).size := by simp only [cat_size, sz_str, sz_lit, List.length_cons, List.length_nil, bys_len]; have q1 := pre_len (rxb false 0 0 0); omega
  have z1 : ¬ 9223372036854775807 < (⟨#[15]⟩ ++ str [by8 (128 + c)] : ByteArray).size + (str (bys 4 n) : ByteArray).size := by simp only [cat_size, sz_str, sz_lit, List.length_cons, List.length_nil, bys_len]; have q1 := pre_len (rxb false 0 0 0); omega
  have y1 : ¬ 9223372036854775807 < 1 + (str [by8 (128 + c)] : ByteArray).size + (str (bys 4 n) : ByteArray).size := by simp only [cat_size, sz_str, sz_lit, List.length_cons, List.length_nil, bys_len]; have q1 := pre_len (rxb false 0 0 0); omega
  have v1 : ¬ 9223372036854775807 < (⟨#[15]⟩ ++ str [by8 (128 + c)] : ByteArray).size + (str (bys 4 n) : ByteArray).size := by simp only [cat_size, sz_str, sz_lit, List.length_cons, List.length_nil, bys_len]; have q1 := pre_len (rxb false 0 0 0); omega
  have HE : Hid ((⟨#[15]⟩ ++ str [by8 (128 + c)] ++ str (bys 4 n) : ByteArray) = str (enc ⟨18, false, 0, 0, 0, c, n⟩)) := by
    show _ = _
    rcases cn_cases hc with rfl | rfl | rfl | rfl | rfl | rfl | rfl | rfl | rfl | rfl <;> (simp only [lit_str, str_app]; first | rfl | (apply congrArg str; simp [enc, rx, mrs, nmb, fR2, fRR, fB, fP, h32, mid, cod, two, by8, pre, rxb, up]; done) | (apply congrArg str; simp [enc, rx, mrs, nmb, fR2, fRR, fB, fP, h32, mid, cod, two, by8, pre, rxb, up]; rfl))
  obtain ⟨W, hW⟩ : ∃ W, W = w.alloc (.cells #[.int .i64 18, .bool false, .int .i64 0, .int .i64 0, .int .i64 0, .int .i64 c, .int .i64 n] 40) := ⟨_, rfl⟩
  have B0 : Bx w.heap.size ⟨18, false, 0, 0, 0, c, n⟩ W := by rw [hW]; exact Bx.made w ⟨18, false, 0, 0, 0, c, n⟩
  have W0 : Below w.heap.size w W := by rw [hW]; exact bel_one _ _
  clear hx e0 e1
  go_enter Try.func22, Try.ntmps22
  go_wp2_with fail
  rw [← hW]
  refine (RI.out _).mono ?_
  clear hW
  rintro e w1 ⟨rfl, hb1⟩
  have B1 := Bx.draw hb1 B0
  have W1 := bel_tr W0 hb1
  clear hb1 B0 W0
  obtain ⟨x0, x1, x2, x3, x4, x5, x6⟩ := B1.cells
  dsimp only at x0 x1 x2 x3 x4 x5 x6
  go_wp2_with (first | (go_at_call 33; refine (rrex_any _ _ _ _ _).mono ?_; rintro e w2 ⟨rfl, hb2⟩; have B2 : Bx w.heap.size ⟨18, false, 0, 0, 0, c, n⟩ w2 := (by first | exact Bx.draw hb2 (by assumption) | exact Bx.draw2 hb2 (by assumption)); have W2 : Below w.heap.size w w2 := (by first | exact bel_draw' hb2 (by assumption) | exact bel_draw2 hb2 (by assumption)); obtain ⟨x0, x1, x2, x3, x4, x5, x6⟩ := B2.cells; (dsimp only at x0 x1 x2 x3 x4 x5 x6)) | (go_at_call 35; refine (rone_any _ _).mono ?_; rintro e w2 ⟨rfl, hb2⟩; have B2 : Bx w.heap.size ⟨18, false, 0, 0, 0, c, n⟩ w2 := (by first | exact Bx.draw hb2 (by assumption) | exact Bx.draw2 hb2 (by assumption)); have W2 : Below w.heap.size w w2 := (by first | exact bel_draw' hb2 (by assumption) | exact bel_draw2 hb2 (by assumption)); obtain ⟨x0, x1, x2, x3, x4, x5, x6⟩ := B2.cells; (dsimp only at x0 x1 x2 x3 x4 x5 x6)) | (go_at_call 36; refine (rnum_4 _ _ ?hn).mono ?_; (case hn => assumption); rintro e w2 ⟨rfl, hb2⟩; have B2 : Bx w.heap.size ⟨18, false, 0, 0, 0, c, n⟩ w2 := (by first | exact Bx.draw hb2 (by assumption) | exact Bx.draw2 hb2 (by assumption)); have W2 : Below w.heap.size w w2 := (by first | exact bel_draw' hb2 (by assumption) | exact bel_draw2 hb2 (by assumption)); obtain ⟨x0, x1, x2, x3, x4, x5, x6⟩ := B2.cells; (dsimp only at x0 x1 x2 x3 x4 x5 x6)))
  go_region_held3 (fun X => X.cell? ⟨w.heap.size, 0, none⟩ = some (.int .i64 18) ∧ X.cell? ⟨w.heap.size, 1, none⟩ = some (.bool false) ∧ X.cell? ⟨w.heap.size, 2, none⟩ = some (.int .i64 0) ∧ X.cell? ⟨w.heap.size, 3, none⟩ = some (.int .i64 0) ∧ X.cell? ⟨w.heap.size, 4, none⟩ = some (.int .i64 0) ∧ X.cell? ⟨w.heap.size, 5, none⟩ = some (.int .i64 c) ∧ X.cell? ⟨w.heap.size, 6, none⟩ = some (.int .i64 n)) (go_keep)
    (first | (go_at_call 33; refine (rrex_any _ _ _ _ _).mono ?_; rintro e w2 ⟨rfl, hb2⟩; have B2 : Bx w.heap.size ⟨18, false, 0, 0, 0, c, n⟩ w2 := (by first | exact Bx.draw hb2 (by assumption) | exact Bx.draw2 hb2 (by assumption)); have W2 : Below w.heap.size w w2 := (by first | exact bel_draw' hb2 (by assumption) | exact bel_draw2 hb2 (by assumption)); obtain ⟨x0, x1, x2, x3, x4, x5, x6⟩ := B2.cells; (dsimp only at x0 x1 x2 x3 x4 x5 x6)) | (go_at_call 35; refine (rone_any _ _).mono ?_; rintro e w2 ⟨rfl, hb2⟩; have B2 : Bx w.heap.size ⟨18, false, 0, 0, 0, c, n⟩ w2 := (by first | exact Bx.draw hb2 (by assumption) | exact Bx.draw2 hb2 (by assumption)); have W2 : Below w.heap.size w w2 := (by first | exact bel_draw' hb2 (by assumption) | exact bel_draw2 hb2 (by assumption)); obtain ⟨x0, x1, x2, x3, x4, x5, x6⟩ := B2.cells; (dsimp only at x0 x1 x2 x3 x4 x5 x6)) | (go_at_call 36; refine (rnum_4 _ _ ?hn).mono ?_; (case hn => assumption); rintro e w2 ⟨rfl, hb2⟩; have B2 : Bx w.heap.size ⟨18, false, 0, 0, 0, c, n⟩ w2 := (by first | exact Bx.draw hb2 (by assumption) | exact Bx.draw2 hb2 (by assumption)); have W2 : Below w.heap.size w w2 := (by first | exact bel_draw' hb2 (by assumption) | exact bel_draw2 hb2 (by assumption)); obtain ⟨x0, x1, x2, x3, x4, x5, x6⟩ := B2.cells; (dsimp only at x0 x1 x2 x3 x4 x5 x6)))
  go_wp2_with (first | (go_at_call 33; refine (rrex_any _ _ _ _ _).mono ?_; rintro e w2 ⟨rfl, hb2⟩; have B2 : Bx w.heap.size ⟨18, false, 0, 0, 0, c, n⟩ w2 := (by first | exact Bx.draw hb2 (by assumption) | exact Bx.draw2 hb2 (by assumption)); have W2 : Below w.heap.size w w2 := (by first | exact bel_draw' hb2 (by assumption) | exact bel_draw2 hb2 (by assumption)); obtain ⟨x0, x1, x2, x3, x4, x5, x6⟩ := B2.cells; (dsimp only at x0 x1 x2 x3 x4 x5 x6)) | (go_at_call 35; refine (rone_any _ _).mono ?_; rintro e w2 ⟨rfl, hb2⟩; have B2 : Bx w.heap.size ⟨18, false, 0, 0, 0, c, n⟩ w2 := (by first | exact Bx.draw hb2 (by assumption) | exact Bx.draw2 hb2 (by assumption)); have W2 : Below w.heap.size w w2 := (by first | exact bel_draw' hb2 (by assumption) | exact bel_draw2 hb2 (by assumption)); obtain ⟨x0, x1, x2, x3, x4, x5, x6⟩ := B2.cells; (dsimp only at x0 x1 x2 x3 x4 x5 x6)) | (go_at_call 36; refine (rnum_4 _ _ ?hn).mono ?_; (case hn => assumption); rintro e w2 ⟨rfl, hb2⟩; have B2 : Bx w.heap.size ⟨18, false, 0, 0, 0, c, n⟩ w2 := (by first | exact Bx.draw hb2 (by assumption) | exact Bx.draw2 hb2 (by assumption)); have W2 : Below w.heap.size w w2 := (by first | exact bel_draw' hb2 (by assumption) | exact bel_draw2 hb2 (by assumption)); obtain ⟨x0, x1, x2, x3, x4, x5, x6⟩ := B2.cells; (dsimp only at x0 x1 x2 x3 x4 x5 x6)))
  go_ret2
  exact ⟨ret_sb HE.out, by assumption⟩
set_option maxRecDepth 100000 in
set_option maxHeartbeats 8000000 in
theorem renc_8 (wd : Bool) (b : Int) (w : World) (hx : rt ⟨8, wd, 0, b, 0, 0, 0⟩ = true) (h2 : 0 ≤ b ∧ b ≤ 15) : ReIs ⟨8, wd, 0, b, 0, 0, 0⟩ w := by
  have e0 : enS ⟨8, wd, 0, b, 0, 0, 0⟩ = enc ⟨8, wd, 0, b, 0, 0, 0⟩ := by simp [enS, hx]
  have e1 : reB ⟨8, wd, 0, b, 0, 0, 0⟩ = true := hx
  unfold ReIs
  rw [e0, e1]
  simp only [xv]
  have RI := hide (fun U => rright_is 8 wd 0 b 0 0 0 U hx)
  obtain ⟨b0, b1⟩ := h2
  have z0 : ¬ 9223372036854775807 < (str (pre (rxb wd 0 0 b)) : ByteArray).size + (⟨#[247]⟩ : ByteArray).size := by simp only [cat_size, sz_str, sz_lit, List.length_cons, List.length_nil, bys_len]; have q1 := pre_len (rxb wd 0 0 b); omega
  have y0 : ¬ 9223372036854775807 < (str (pre (rxb wd 0 0 b)) : ByteArray).size + 1 := by simp only [cat_size, sz_str, sz_lit, List.length_cons, List.length_nil, bys_len]; have q1 := pre_len (rxb wd 0 0 b); omega
  have z1 : ¬ 9223372036854775807 < (str (pre (rxb wd 0 0 b)) ++ ⟨#[247]⟩ : ByteArray).size + (str [by8 (mri 3 6 b)] : ByteArray).size := by simp only [cat_size, sz_str, sz_lit, List.length_cons, List.length_nil, bys_len]; have q1 := pre_len (rxb wd 0 0 b); omega
  have y1 : ¬ 9223372036854775807 < (str (pre (rxb wd 0 0 b)) : ByteArray).size + 1 + (str [by8 (mri 3 6 b)] : ByteArray).size := by simp only [cat_size, sz_str, sz_lit, List.length_cons, List.length_nil, bys_len]; have q1 := pre_len (rxb wd 0 0 b); omega
  have v1 : ¬ 9223372036854775807 < (str (pre (rxb wd 0 0 b)) ++ ⟨#[247]⟩ : ByteArray).size + (str [by8 (mri 3 6 b)] : ByteArray).size := by simp only [cat_size, sz_str, sz_lit, List.length_cons, List.length_nil, bys_len]; have q1 := pre_len (rxb wd 0 0 b); omega
  have HE : Hid ((str (pre (rxb wd 0 0 b)) ++ ⟨#[247]⟩ ++ str [by8 (mri 3 6 b)] : ByteArray) = str (enc ⟨8, wd, 0, b, 0, 0, 0⟩)) := by
    show _ = _
    simp only [lit_str, str_app]
    first | rfl | (apply congrArg str; simp [enc, rx, mrs, nmb, fR2, fRR, fB, fP, h32, mid, cod, two, by8, rxb_mid (show (6 : Int) ≤ 7 by decide)]; done) | (apply congrArg str; simp [enc, rx, mrs, nmb, fR2, fRR, fB, fP, h32, mid, cod, two, by8, rxb_mid (show (6 : Int) ≤ 7 by decide)]; rfl)
  obtain ⟨W, hW⟩ : ∃ W, W = w.alloc (.cells #[.int .i64 8, .bool wd, .int .i64 0, .int .i64 b, .int .i64 0, .int .i64 0, .int .i64 0] 40) := ⟨_, rfl⟩
  have B0 : Bx w.heap.size ⟨8, wd, 0, b, 0, 0, 0⟩ W := by rw [hW]; exact Bx.made w ⟨8, wd, 0, b, 0, 0, 0⟩
  have W0 : Below w.heap.size w W := by rw [hW]; exact bel_one _ _
  clear hx e0 e1
  go_enter Try.func22, Try.ntmps22
  go_wp2_with fail
  rw [← hW]
  refine (RI.out _).mono ?_
  clear hW
  rintro e w1 ⟨rfl, hb1⟩
  have B1 := Bx.draw hb1 B0
  have W1 := bel_tr W0 hb1
  clear hb1 B0 W0
  obtain ⟨x0, x1, x2, x3, x4, x5, x6⟩ := B1.cells
  dsimp only at x0 x1 x2 x3 x4 x5 x6
  go_wp2_with (first | (go_at_call 33; refine (rrex_any _ _ _ _ _).mono ?_; rintro e w2 ⟨rfl, hb2⟩; have B2 : Bx w.heap.size ⟨8, wd, 0, b, 0, 0, 0⟩ w2 := (by first | exact Bx.draw hb2 (by assumption) | exact Bx.draw2 hb2 (by assumption)); have W2 : Below w.heap.size w w2 := (by first | exact bel_draw' hb2 (by assumption) | exact bel_draw2 hb2 (by assumption)); obtain ⟨x0, x1, x2, x3, x4, x5, x6⟩ := B2.cells; (dsimp only at x0 x1 x2 x3 x4 x5 x6)) | (go_at_call 34; refine (rmr_any _ _ _ _ ?ha ?hb ?hc ?hd).mono ?_; (case ha => decide); (case hb => decide); (case hc => first | assumption | decide); (case hd => first | assumption | decide); rintro e w2 ⟨rfl, hb2⟩; have B2 : Bx w.heap.size ⟨8, wd, 0, b, 0, 0, 0⟩ w2 := (by first | exact Bx.draw hb2 (by assumption) | exact Bx.draw2 hb2 (by assumption)); have W2 : Below w.heap.size w w2 := (by first | exact bel_draw' hb2 (by assumption) | exact bel_draw2 hb2 (by assumption)); obtain ⟨x0, x1, x2, x3, x4, x5, x6⟩ := B2.cells; (dsimp only at x0 x1 x2 x3 x4 x5 x6)))
  go_ret2
  exact ⟨ret_sb HE.out, by assumption⟩
set_option maxRecDepth 100000 in
set_option maxHeartbeats 8000000 in
theorem renc_9 (wd : Bool) (b : Int) (w : World) (hx : rt ⟨9, wd, 0, b, 0, 0, 0⟩ = true) (h2 : 0 ≤ b ∧ b ≤ 15) : ReIs ⟨9, wd, 0, b, 0, 0, 0⟩ w := by
  have e0 : enS ⟨9, wd, 0, b, 0, 0, 0⟩ = enc ⟨9, wd, 0, b, 0, 0, 0⟩ := by simp [enS, hx]
  have e1 : reB ⟨9, wd, 0, b, 0, 0, 0⟩ = true := hx
  unfold ReIs
  rw [e0, e1]
  simp only [xv]
  have RI := hide (fun U => rright_is 9 wd 0 b 0 0 0 U hx)
  obtain ⟨b0, b1⟩ := h2
  have z0 : ¬ 9223372036854775807 < (str (pre (rxb wd 0 0 b)) : ByteArray).size + (⟨#[247]⟩ : ByteArray).size := by simp only [cat_size, sz_str, sz_lit, List.length_cons, List.length_nil, bys_len]; have q1 := pre_len (rxb wd 0 0 b); omega
  have y0 : ¬ 9223372036854775807 < (str (pre (rxb wd 0 0 b)) : ByteArray).size + 1 := by simp only [cat_size, sz_str, sz_lit, List.length_cons, List.length_nil, bys_len]; have q1 := pre_len (rxb wd 0 0 b); omega
  have z1 : ¬ 9223372036854775807 < (str (pre (rxb wd 0 0 b)) ++ ⟨#[247]⟩ : ByteArray).size + (str [by8 (mri 3 7 b)] : ByteArray).size := by simp only [cat_size, sz_str, sz_lit, List.length_cons, List.length_nil, bys_len]; have q1 := pre_len (rxb wd 0 0 b); omega
  have y1 : ¬ 9223372036854775807 < (str (pre (rxb wd 0 0 b)) : ByteArray).size + 1 + (str [by8 (mri 3 7 b)] : ByteArray).size := by simp only [cat_size, sz_str, sz_lit, List.length_cons, List.length_nil, bys_len]; have q1 := pre_len (rxb wd 0 0 b); omega
  have v1 : ¬ 9223372036854775807 < (str (pre (rxb wd 0 0 b)) ++ ⟨#[247]⟩ : ByteArray).size + (str [by8 (mri 3 7 b)] : ByteArray).size := by simp only [cat_size, sz_str, sz_lit, List.length_cons, List.length_nil, bys_len]; have q1 := pre_len (rxb wd 0 0 b); omega
  have HE : Hid ((str (pre (rxb wd 0 0 b)) ++ ⟨#[247]⟩ ++ str [by8 (mri 3 7 b)] : ByteArray) = str (enc ⟨9, wd, 0, b, 0, 0, 0⟩)) := by
    show _ = _
    simp only [lit_str, str_app]
    first | rfl | (apply congrArg str; simp [enc, rx, mrs, nmb, fR2, fRR, fB, fP, h32, mid, cod, two, by8, rxb_mid (show (7 : Int) ≤ 7 by decide)]; done) | (apply congrArg str; simp [enc, rx, mrs, nmb, fR2, fRR, fB, fP, h32, mid, cod, two, by8, rxb_mid (show (7 : Int) ≤ 7 by decide)]; rfl)
  obtain ⟨W, hW⟩ : ∃ W, W = w.alloc (.cells #[.int .i64 9, .bool wd, .int .i64 0, .int .i64 b, .int .i64 0, .int .i64 0, .int .i64 0] 40) := ⟨_, rfl⟩
  have B0 : Bx w.heap.size ⟨9, wd, 0, b, 0, 0, 0⟩ W := by rw [hW]; exact Bx.made w ⟨9, wd, 0, b, 0, 0, 0⟩
  have W0 : Below w.heap.size w W := by rw [hW]; exact bel_one _ _
  clear hx e0 e1
  go_enter Try.func22, Try.ntmps22
  go_wp2_with fail
  rw [← hW]
  refine (RI.out _).mono ?_
  clear hW
  rintro e w1 ⟨rfl, hb1⟩
  have B1 := Bx.draw hb1 B0
  have W1 := bel_tr W0 hb1
  clear hb1 B0 W0
  obtain ⟨x0, x1, x2, x3, x4, x5, x6⟩ := B1.cells
  dsimp only at x0 x1 x2 x3 x4 x5 x6
  go_wp2_with (first | (go_at_call 33; refine (rrex_any _ _ _ _ _).mono ?_; rintro e w2 ⟨rfl, hb2⟩; have B2 : Bx w.heap.size ⟨9, wd, 0, b, 0, 0, 0⟩ w2 := (by first | exact Bx.draw hb2 (by assumption) | exact Bx.draw2 hb2 (by assumption)); have W2 : Below w.heap.size w w2 := (by first | exact bel_draw' hb2 (by assumption) | exact bel_draw2 hb2 (by assumption)); obtain ⟨x0, x1, x2, x3, x4, x5, x6⟩ := B2.cells; (dsimp only at x0 x1 x2 x3 x4 x5 x6)) | (go_at_call 34; refine (rmr_any _ _ _ _ ?ha ?hb ?hc ?hd).mono ?_; (case ha => decide); (case hb => decide); (case hc => first | assumption | decide); (case hd => first | assumption | decide); rintro e w2 ⟨rfl, hb2⟩; have B2 : Bx w.heap.size ⟨9, wd, 0, b, 0, 0, 0⟩ w2 := (by first | exact Bx.draw hb2 (by assumption) | exact Bx.draw2 hb2 (by assumption)); have W2 : Below w.heap.size w w2 := (by first | exact bel_draw' hb2 (by assumption) | exact bel_draw2 hb2 (by assumption)); obtain ⟨x0, x1, x2, x3, x4, x5, x6⟩ := B2.cells; (dsimp only at x0 x1 x2 x3 x4 x5 x6)))
  go_ret2
  exact ⟨ret_sb HE.out, by assumption⟩
set_option maxRecDepth 100000 in
set_option maxHeartbeats 8000000 in
theorem renc_10 (wd : Bool) (w : World) (hx : rt ⟨10, wd, 0, 0, 0, 0, 0⟩ = true)  : ReIs ⟨10, wd, 0, 0, 0, 0, 0⟩ w := by
  have e0 : enS ⟨10, wd, 0, 0, 0, 0, 0⟩ = enc ⟨10, wd, 0, 0, 0, 0, 0⟩ := by simp [enS, hx]
  have e1 : reB ⟨10, wd, 0, 0, 0, 0, 0⟩ = true := hx
  unfold ReIs
  rw [e0, e1]
  simp only [xv]
  have RI := hide (fun U => rright_is 10 wd 0 0 0 0 0 U hx)
  have z0 : ¬ 9223372036854775807 < (str (pre (rxb wd 0 0 0)) : ByteArray).size + (⟨#[153]⟩ : ByteArray).size := by simp only [cat_size, sz_str, sz_lit, List.length_cons, List.length_nil, bys_len]; have q1 := pre_len (rxb wd 0 0 0); omega
  have y0 : ¬ 9223372036854775807 < (str (pre (rxb wd 0 0 0)) : ByteArray).size + 1 := by simp only [cat_size, sz_str, sz_lit, List.length_cons, List.length_nil, bys_len]; have q1 := pre_len (rxb wd 0 0 0); omega
  have HE : Hid ((str (pre (rxb wd 0 0 0)) ++ ⟨#[153]⟩ : ByteArray) = str (enc ⟨10, wd, 0, 0, 0, 0, 0⟩)) := by
    show _ = _
    simp only [lit_str, str_app]
    first | rfl | (apply congrArg str; simp [enc, rx, mrs, nmb, fR2, fRR, fB, fP, h32, mid, cod, two, by8, pre, rxb, up]; done) | (apply congrArg str; simp [enc, rx, mrs, nmb, fR2, fRR, fB, fP, h32, mid, cod, two, by8, pre, rxb, up]; rfl)
  obtain ⟨W, hW⟩ : ∃ W, W = w.alloc (.cells #[.int .i64 10, .bool wd, .int .i64 0, .int .i64 0, .int .i64 0, .int .i64 0, .int .i64 0] 40) := ⟨_, rfl⟩
  have B0 : Bx w.heap.size ⟨10, wd, 0, 0, 0, 0, 0⟩ W := by rw [hW]; exact Bx.made w ⟨10, wd, 0, 0, 0, 0, 0⟩
  have W0 : Below w.heap.size w W := by rw [hW]; exact bel_one _ _
  clear hx e0 e1
  go_enter Try.func22, Try.ntmps22
  go_wp2_with fail
  rw [← hW]
  refine (RI.out _).mono ?_
  clear hW
  rintro e w1 ⟨rfl, hb1⟩
  have B1 := Bx.draw hb1 B0
  have W1 := bel_tr W0 hb1
  clear hb1 B0 W0
  obtain ⟨x0, x1, x2, x3, x4, x5, x6⟩ := B1.cells
  dsimp only at x0 x1 x2 x3 x4 x5 x6
  go_wp2_with (first | (go_at_call 33; refine (rrex_any _ _ _ _ _).mono ?_; rintro e w2 ⟨rfl, hb2⟩; have B2 : Bx w.heap.size ⟨10, wd, 0, 0, 0, 0, 0⟩ w2 := (by first | exact Bx.draw hb2 (by assumption) | exact Bx.draw2 hb2 (by assumption)); have W2 : Below w.heap.size w w2 := (by first | exact bel_draw' hb2 (by assumption) | exact bel_draw2 hb2 (by assumption)); obtain ⟨x0, x1, x2, x3, x4, x5, x6⟩ := B2.cells; (dsimp only at x0 x1 x2 x3 x4 x5 x6)))
  go_ret2
  exact ⟨ret_sb HE.out, by assumption⟩
set_option maxRecDepth 100000 in
set_option maxHeartbeats 8000000 in
theorem renc_16 (r b : Int) (w : World) (hx : rt ⟨16, true, r, b, 0, 0, 0⟩ = true) (h1 : 0 ≤ r ∧ r ≤ 15) (h2 : 0 ≤ b ∧ b ≤ 15) : ReIs ⟨16, true, r, b, 0, 0, 0⟩ w := by
  have e0 : enS ⟨16, true, r, b, 0, 0, 0⟩ = enc ⟨16, true, r, b, 0, 0, 0⟩ := by simp [enS, hx]
  have e1 : reB ⟨16, true, r, b, 0, 0, 0⟩ = true := hx
  unfold ReIs
  rw [e0, e1]
  simp only [xv]
  have RI := hide (fun U => rright_is 16 true r b 0 0 0 U hx)
  obtain ⟨r0, r1⟩ := h1
  obtain ⟨b0, b1⟩ := h2
  have z0 : ¬ 9223372036854775807 < (str (pre (rxb true r 0 b)) : ByteArray).size + (⟨#[99]⟩ : ByteArray).size := by simp only [cat_size, sz_str, sz_lit, List.length_cons, List.length_nil, bys_len]; have q1 := pre_len (rxb true r 0 b); omega
  have y0 : ¬ 9223372036854775807 < (str (pre (rxb true r 0 b)) : ByteArray).size + 1 := by simp only [cat_size, sz_str, sz_lit, List.length_cons, List.length_nil, bys_len]; have q1 := pre_len (rxb true r 0 b); omega
  have z1 : ¬ 9223372036854775807 < (str (pre (rxb true r 0 b)) ++ ⟨#[99]⟩ : ByteArray).size + (str [by8 (mri 3 r b)] : ByteArray).size := by simp only [cat_size, sz_str, sz_lit, List.length_cons, List.length_nil, bys_len]; have q1 := pre_len (rxb true r 0 b); omega
  have y1 : ¬ 9223372036854775807 < (str (pre (rxb true r 0 b)) : ByteArray).size + 1 + (str [by8 (mri 3 r b)] : ByteArray).size := by simp only [cat_size, sz_str, sz_lit, List.length_cons, List.length_nil, bys_len]; have q1 := pre_len (rxb true r 0 b); omega
  have v1 : ¬ 9223372036854775807 < (str (pre (rxb true r 0 b)) ++ ⟨#[99]⟩ : ByteArray).size + (str [by8 (mri 3 r b)] : ByteArray).size := by simp only [cat_size, sz_str, sz_lit, List.length_cons, List.length_nil, bys_len]; have q1 := pre_len (rxb true r 0 b); omega
  have HE : Hid ((str (pre (rxb true r 0 b)) ++ ⟨#[99]⟩ ++ str [by8 (mri 3 r b)] : ByteArray) = str (enc ⟨16, true, r, b, 0, 0, 0⟩)) := by
    show _ = _
    simp only [lit_str, str_app]
    first | rfl | (apply congrArg str; simp [enc, rx, mrs, nmb, fR2, fRR, fB, fP, h32, mid, cod, two, by8]; done) | (apply congrArg str; simp [enc, rx, mrs, nmb, fR2, fRR, fB, fP, h32, mid, cod, two, by8]; rfl)
  obtain ⟨W, hW⟩ : ∃ W, W = w.alloc (.cells #[.int .i64 16, .bool true, .int .i64 r, .int .i64 b, .int .i64 0, .int .i64 0, .int .i64 0] 40) := ⟨_, rfl⟩
  have B0 : Bx w.heap.size ⟨16, true, r, b, 0, 0, 0⟩ W := by rw [hW]; exact Bx.made w ⟨16, true, r, b, 0, 0, 0⟩
  have W0 : Below w.heap.size w W := by rw [hW]; exact bel_one _ _
  clear hx e0 e1
  go_enter Try.func22, Try.ntmps22
  go_wp2_with fail
  rw [← hW]
  refine (RI.out _).mono ?_
  clear hW
  rintro e w1 ⟨rfl, hb1⟩
  have B1 := Bx.draw hb1 B0
  have W1 := bel_tr W0 hb1
  clear hb1 B0 W0
  obtain ⟨x0, x1, x2, x3, x4, x5, x6⟩ := B1.cells
  dsimp only at x0 x1 x2 x3 x4 x5 x6
  go_wp2_with (first | (go_at_call 33; refine (rrex_any _ _ _ _ _).mono ?_; rintro e w2 ⟨rfl, hb2⟩; have B2 : Bx w.heap.size ⟨16, true, r, b, 0, 0, 0⟩ w2 := (by first | exact Bx.draw hb2 (by assumption) | exact Bx.draw2 hb2 (by assumption)); have W2 : Below w.heap.size w w2 := (by first | exact bel_draw' hb2 (by assumption) | exact bel_draw2 hb2 (by assumption)); obtain ⟨x0, x1, x2, x3, x4, x5, x6⟩ := B2.cells; (dsimp only at x0 x1 x2 x3 x4 x5 x6)) | (go_at_call 34; refine (rmr_any _ _ _ _ ?ha ?hb ?hc ?hd).mono ?_; (case ha => decide); (case hb => decide); (case hc => first | assumption | decide); (case hd => first | assumption | decide); rintro e w2 ⟨rfl, hb2⟩; have B2 : Bx w.heap.size ⟨16, true, r, b, 0, 0, 0⟩ w2 := (by first | exact Bx.draw hb2 (by assumption) | exact Bx.draw2 hb2 (by assumption)); have W2 : Below w.heap.size w w2 := (by first | exact bel_draw' hb2 (by assumption) | exact bel_draw2 hb2 (by assumption)); obtain ⟨x0, x1, x2, x3, x4, x5, x6⟩ := B2.cells; (dsimp only at x0 x1 x2 x3 x4 x5 x6)))
  go_region_held3 (fun X => X.cell? ⟨w.heap.size, 0, none⟩ = some (.int .i64 16) ∧ X.cell? ⟨w.heap.size, 1, none⟩ = some (.bool true) ∧ X.cell? ⟨w.heap.size, 2, none⟩ = some (.int .i64 r) ∧ X.cell? ⟨w.heap.size, 3, none⟩ = some (.int .i64 b) ∧ X.cell? ⟨w.heap.size, 4, none⟩ = some (.int .i64 0) ∧ X.cell? ⟨w.heap.size, 5, none⟩ = some (.int .i64 0) ∧ X.cell? ⟨w.heap.size, 6, none⟩ = some (.int .i64 0)) (go_keep)
    (first | (go_at_call 33; refine (rrex_any _ _ _ _ _).mono ?_; rintro e w2 ⟨rfl, hb2⟩; have B2 : Bx w.heap.size ⟨16, true, r, b, 0, 0, 0⟩ w2 := (by first | exact Bx.draw hb2 (by assumption) | exact Bx.draw2 hb2 (by assumption)); have W2 : Below w.heap.size w w2 := (by first | exact bel_draw' hb2 (by assumption) | exact bel_draw2 hb2 (by assumption)); obtain ⟨x0, x1, x2, x3, x4, x5, x6⟩ := B2.cells; (dsimp only at x0 x1 x2 x3 x4 x5 x6)) | (go_at_call 34; refine (rmr_any _ _ _ _ ?ha ?hb ?hc ?hd).mono ?_; (case ha => decide); (case hb => decide); (case hc => first | assumption | decide); (case hd => first | assumption | decide); rintro e w2 ⟨rfl, hb2⟩; have B2 : Bx w.heap.size ⟨16, true, r, b, 0, 0, 0⟩ w2 := (by first | exact Bx.draw hb2 (by assumption) | exact Bx.draw2 hb2 (by assumption)); have W2 : Below w.heap.size w w2 := (by first | exact bel_draw' hb2 (by assumption) | exact bel_draw2 hb2 (by assumption)); obtain ⟨x0, x1, x2, x3, x4, x5, x6⟩ := B2.cells; (dsimp only at x0 x1 x2 x3 x4 x5 x6)))
  go_wp2_with (first | (go_at_call 33; refine (rrex_any _ _ _ _ _).mono ?_; rintro e w2 ⟨rfl, hb2⟩; have B2 : Bx w.heap.size ⟨16, true, r, b, 0, 0, 0⟩ w2 := (by first | exact Bx.draw hb2 (by assumption) | exact Bx.draw2 hb2 (by assumption)); have W2 : Below w.heap.size w w2 := (by first | exact bel_draw' hb2 (by assumption) | exact bel_draw2 hb2 (by assumption)); obtain ⟨x0, x1, x2, x3, x4, x5, x6⟩ := B2.cells; (dsimp only at x0 x1 x2 x3 x4 x5 x6)) | (go_at_call 34; refine (rmr_any _ _ _ _ ?ha ?hb ?hc ?hd).mono ?_; (case ha => decide); (case hb => decide); (case hc => first | assumption | decide); (case hd => first | assumption | decide); rintro e w2 ⟨rfl, hb2⟩; have B2 : Bx w.heap.size ⟨16, true, r, b, 0, 0, 0⟩ w2 := (by first | exact Bx.draw hb2 (by assumption) | exact Bx.draw2 hb2 (by assumption)); have W2 : Below w.heap.size w w2 := (by first | exact bel_draw' hb2 (by assumption) | exact bel_draw2 hb2 (by assumption)); obtain ⟨x0, x1, x2, x3, x4, x5, x6⟩ := B2.cells; (dsimp only at x0 x1 x2 x3 x4 x5 x6)))
  go_ret2
  exact ⟨ret_sb HE.out, by assumption⟩
end Go.Proofs.Ytookbgnidinkoaa.Xc
/-
  The document's Encode answers an instruction's bytes, or that it is none.
-/
namespace Go.Proofs.Ytookbgnidinkoaa.Xc
open Go.RowKit
set_option linter.unusedSimpArgs false
set_option linter.unusedVariables false
theorem renc_any (x : Xi) (w : World) (hn : I64 x.n) : ReIs x w := by
  cases hq : rt x
  · exact renc_no x w hq
  revert hn
  suffices h : rt x = true → I64 x.n → ReIs x w from h hq
  refine rt_elim (P := fun x => rt x = true → I64 x.n → ReIs x w) hq ?mov ?movi ?alu ?alui ?test ?mul ?shift ?div ?idiv ?sign ?load ?store ?set ?byte ?cmov ?widen ?jmp ?jcc ?call ?ret ?hlt ?stop ?host
  case mov => exact fun wd r b h1 h2 hx hn => renc_1 wd r b w hx h1 h2
  case movi => exact fun r n h1 hx hn => renc_2 r n w hx h1 hn
  case alu => exact fun wd r b c h1 h2 hc hx hn => renc_3 wd r b c w hx h1 h2 hc
  case alui => exact fun wd b c n h2 hc hs hx hn => renc_4 wd b c n w hx h2 hc hs
  case test => exact fun wd r b h1 h2 hx hn => renc_5 wd r b w hx h1 h2
  case mul => exact fun wd r b h1 h2 hx hn => renc_6 wd r b w hx h1 h2
  case shift => exact fun wd b c h2 hc hx hn => renc_7 wd b c w hx h2 hc
  case div => exact fun wd b h2 hx hn => renc_8 wd b w hx h2
  case idiv => exact fun wd b h2 hx hn => renc_9 wd b w hx h2
  case sign => exact fun wd hx hn => renc_10 wd w hx 
  case load =>
    intro wd r b i n h1 h2 h3 hs hx hn
    by_cases hz : i = 0
    · subst hz; exact renc_11z wd r b n w hx h1 h2 hs
    · exact renc_11p wd r b i n w hx h1 h2 h3 hs hz
  case store =>
    intro wd r b i n h1 h2 h3 hs hx hn
    by_cases hz : i = 0
    · subst hz; exact renc_12z wd r b n w hx h1 h2 hs
    · exact renc_12p wd r b i n w hx h1 h2 h3 hs hz
  case set => exact fun c hc hx hn => renc_13 c w hx hc
  case byte => exact fun hx hn => renc_14 w hx 
  case cmov => exact fun wd r b c h1 h2 hc hx hn => renc_15 wd r b c w hx h1 h2 hc
  case widen => exact fun r b h1 h2 hx hn => renc_16 r b w hx h1 h2
  case jmp => exact fun n hs hx hn => renc_17 n w hx hs
  case jcc => exact fun c n hc hs hx hn => renc_18 c n w hx hc hs
  case call => exact fun n hs hx hn => renc_19 n w hx hs
  case ret => exact fun hx hn => renc_20 w hx 
  case hlt => exact fun hx hn => renc_21 w hx 
  case stop => exact fun hx hn => renc_22 w hx 
  case host => exact fun hx hn => renc_23 w hx 
end Go.Proofs.Ytookbgnidinkoaa.Xc
