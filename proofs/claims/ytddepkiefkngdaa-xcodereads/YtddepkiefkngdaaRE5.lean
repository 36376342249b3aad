/-
  The walks of the document's Encode: set, cmov, shift, call.
-/
import Derived.Test.YtddepkiefkngdaaEP
import Derived.Deep.RegionHeld3
import Derived.Deep.DrawnRows
namespace Go.Proofs.Ytddepkiefkngdaa
open Go.RowKit
set_option linter.unusedSimpArgs false
set_option linter.unusedVariables false
attribute [local go_sem ↓] Go.wp_at_zero Go.wp_at_succ

set_option maxRecDepth 100000 in
set_option maxHeartbeats 8000000 in
theorem renc_13 (c : Int) (w : World) (hx : rt ⟨13, false, 0, 0, 0, c, 0⟩ = true) (hc : cnK c = true) : ReIs ⟨13, false, 0, 0, 0, c, 0⟩ w := by
  have e0 : enS ⟨13, false, 0, 0, 0, c, 0⟩ = enc ⟨13, false, 0, 0, 0, c, 0⟩ := by simp [enS, hx]
  have e1 : reB ⟨13, false, 0, 0, 0, c, 0⟩ = true := hx
  unfold ReIs
  rw [e0, e1]
  simp only [xv]
  have RI := hide (fun U => rright_is 13 false 0 0 0 c 0 U hx)
  obtain ⟨hc0, hc1⟩ := cn_bd15 hc
  have wr0 : IntKind.i64.wrap (144 + c) = 144 + c := by rw [IntKind.wrap_i64]; omega
  have z0 : ¬ 9223372036854775807 < (⟨#[15]⟩ : ByteArray).size + (str [by8 (144 + c)] : ByteArray).size := by simp only [cat_size, sz_str, sz_lit, List.length_cons, List.length_nil, bys_len]; have q1 := pre_len (rxb false 0 0 0); omega
  have y0 : ¬ 9223372036854775807 < 1 + (str [by8 (144 + c)] : ByteArray).size := by simp only [cat_size, sz_str, sz_lit, List.length_cons, List.length_nil, bys_len]; have q1 := pre_len (rxb false 0 0 0); omega
  have z1 : ¬ 9223372036854775807 < (⟨#[15]⟩ ++ str [by8 (144 + c)] : ByteArray).size + (⟨#[192]⟩ : ByteArray).size := by simp only [cat_size, sz_str, sz_lit, List.length_cons, List.length_nil, bys_len]; have q1 := pre_len (rxb false 0 0 0); omega
  have y1 : ¬ 9223372036854775807 < 1 + (str [by8 (144 + c)] : ByteArray).size + 1 := by simp only [cat_size, sz_str, sz_lit, List.length_cons, List.length_nil, bys_len]; have q1 := pre_len (rxb false 0 0 0); omega
  have v1 : ¬ 9223372036854775807 < (⟨#[15]⟩ ++ str [by8 (144 + c)] : ByteArray).size + 1 := by simp only [cat_size, sz_str, sz_lit, List.length_cons, List.length_nil, bys_len]; have q1 := pre_len (rxb false 0 0 0); omega
  have HE : Hid ((⟨#[15]⟩ ++ str [by8 (144 + c)] ++ ⟨#[192]⟩ : ByteArray) = str (enc ⟨13, false, 0, 0, 0, c, 0⟩)) := by
    show _ = _
    rcases cn_cases hc with rfl | rfl | rfl | rfl | rfl | rfl | rfl | rfl | rfl | rfl <;> (simp only [lit_str, str_app]; first | rfl | (apply congrArg str; simp [enc, rx, mrs, nmb, fR2, fRR, fB, fP, h32, mid, cod, two, by8, pre, rxb, up]; done) | (apply congrArg str; simp [enc, rx, mrs, nmb, fR2, fRR, fB, fP, h32, mid, cod, two, by8, pre, rxb, up]; rfl))
  obtain ⟨W, hW⟩ : ∃ W, W = w.alloc (.cells #[.int .i64 13, .bool false, .int .i64 0, .int .i64 0, .int .i64 0, .int .i64 c, .int .i64 0] 23) := ⟨_, rfl⟩
  have B0 : Bx w.heap.size ⟨13, false, 0, 0, 0, c, 0⟩ W := by rw [hW]; exact Bx.made w ⟨13, false, 0, 0, 0, c, 0⟩
  have W0 : Below w.heap.size w W := by rw [hW]; exact bel_one _ _
  clear hx e0 e1
  go_enter Try.func11, Try.ntmps11
  go_wp2_with fail
  rw [← hW]
  refine (RI.out _).mono ?_
  clear hW
  rintro e w1 ⟨rfl, hb1⟩
  have B1 := Bx.draw hb1 B0
  have W1 := bel_tr W0 hb1
  clear hb1 B0 W0
  obtain ⟨x0, x1, x2, x3, x4, x5, x6⟩ := B1.cells
  dsimp only at x0 x1 x2 x3 x4 x5 x6
  go_wp2_with (first | (go_at_call 19; refine (rrex_any _ _ _ _ _).mono ?_; rintro e w2 ⟨rfl, hb2⟩; have B2 : Bx w.heap.size ⟨13, false, 0, 0, 0, c, 0⟩ w2 := (by first | exact Bx.draw hb2 (by assumption) | exact Bx.draw2 hb2 (by assumption)); have W2 : Below w.heap.size w w2 := (by first | exact bel_draw' hb2 (by assumption) | exact bel_draw2 hb2 (by assumption)); obtain ⟨x0, x1, x2, x3, x4, x5, x6⟩ := B2.cells; (dsimp only at x0 x1 x2 x3 x4 x5 x6)) | (go_at_call 21; refine (rone_any _ _).mono ?_; rintro e w2 ⟨rfl, hb2⟩; have B2 : Bx w.heap.size ⟨13, false, 0, 0, 0, c, 0⟩ w2 := (by first | exact Bx.draw hb2 (by assumption) | exact Bx.draw2 hb2 (by assumption)); have W2 : Below w.heap.size w w2 := (by first | exact bel_draw' hb2 (by assumption) | exact bel_draw2 hb2 (by assumption)); obtain ⟨x0, x1, x2, x3, x4, x5, x6⟩ := B2.cells; (dsimp only at x0 x1 x2 x3 x4 x5 x6)))
  go_ret2
  exact ⟨ret_sb HE.out, by assumption⟩
set_option maxRecDepth 100000 in
set_option maxHeartbeats 8000000 in
theorem renc_15 (wd : Bool) (r b c : Int) (w : World) (hx : rt ⟨15, wd, r, b, 0, c, 0⟩ = true) (h1 : 0 ≤ r ∧ r ≤ 15) (h2 : 0 ≤ b ∧ b ≤ 15) (hc : cnK c = true) : ReIs ⟨15, wd, r, b, 0, c, 0⟩ w := by
  have e0 : enS ⟨15, wd, r, b, 0, c, 0⟩ = enc ⟨15, wd, r, b, 0, c, 0⟩ := by simp [enS, hx]
  have e1 : reB ⟨15, wd, r, b, 0, c, 0⟩ = true := hx
  unfold ReIs
  rw [e0, e1]
  simp only [xv]
  have RI := hide (fun U => rright_is 15 wd r b 0 c 0 U hx)
  obtain ⟨hc0, hc1⟩ := cn_bd15 hc
  obtain ⟨r0, r1⟩ := h1
  obtain ⟨b0, b1⟩ := h2
  have wr0 : IntKind.i64.wrap (64 + c) = 64 + c := by rw [IntKind.wrap_i64]; omega
  have z0 : ¬ 9223372036854775807 < (str (pre (rxb wd r 0 b)) : ByteArray).size + (⟨#[15]⟩ : ByteArray).size := by simp only [cat_size, sz_str, sz_lit, List.length_cons, List.length_nil, bys_len]; have q1 := pre_len (rxb wd r 0 b); omega
  have y0 : ¬ 9223372036854775807 < (str (pre (rxb wd r 0 b)) : ByteArray).size + 1 := by simp only [cat_size, sz_str, sz_lit, List.length_cons, List.length_nil, bys_len]; have q1 := pre_len (rxb wd r 0 b); omega
  have z1 : ¬ 9223372036854775807 < (str (pre (rxb wd r 0 b)) ++ ⟨#[15]⟩ : ByteArray).size + (str [by8 (64 + c)] : ByteArray).size := by simp only [cat_size, sz_str, sz_lit, List.length_cons, List.length_nil, bys_len]; have q1 := pre_len (rxb wd r 0 b); omega
  have y1 : ¬ 9223372036854775807 < (str (pre (rxb wd r 0 b)) : ByteArray).size + 1 + (str [by8 (64 + c)] : ByteArray).size := by simp only [cat_size, sz_str, sz_lit, List.length_cons, List.length_nil, bys_len]; have q1 := pre_len (rxb wd r 0 b); omega
  have v1 : ¬ 9223372036854775807 < (str (pre (rxb wd r 0 b)) ++ ⟨#[15]⟩ : ByteArray).size + (str [by8 (64 + c)] : ByteArray).size := by simp only [cat_size, sz_str, sz_lit, List.length_cons, List.length_nil, bys_len]; have q1 := pre_len (rxb wd r 0 b); omega
  have z2 : ¬ 9223372036854775807 < (str (pre (rxb wd r 0 b)) ++ ⟨#[15]⟩ ++ str [by8 (64 + c)] : ByteArray).size + (str [by8 (mri 3 r b)] : ByteArray).size := by simp only [cat_size, sz_str, sz_lit, List.length_cons, List.length_nil, bys_len]; have q1 := pre_len (rxb wd r 0 b); omega
  have y2 : ¬ 9223372036854775807 < (str (pre (rxb wd r 0 b)) : ByteArray).size + 1 + (str [by8 (64 + c)] : ByteArray).size + (str [by8 (mri 3 r b)] : ByteArray).size := by simp only [cat_size, sz_str, sz_lit, List.length_cons, List.length_nil, bys_len]; have q1 := pre_len (rxb wd r 0 b); omega
  have v2 : ¬ 9223372036854775807 < (str (pre (rxb wd r 0 b)) ++ ⟨#[15]⟩ ++ str [by8 (64 + c)] : ByteArray).size + (str [by8 (mri 3 r b)] : ByteArray).size := by simp only [cat_size, sz_str, sz_lit, List.length_cons, List.length_nil, bys_len]; have q1 := pre_len (rxb wd r 0 b); omega
  have HE : Hid ((str (pre (rxb wd r 0 b)) ++ ⟨#[15]⟩ ++ str [by8 (64 + c)] ++ str [by8 (mri 3 r b)] : ByteArray) = str (enc ⟨15, wd, r, b, 0, c, 0⟩)) := by
    show _ = _
    rcases cn_cases hc with rfl | rfl | rfl | rfl | rfl | rfl | rfl | rfl | rfl | rfl <;> (simp only [lit_str, str_app]; first | rfl | (apply congrArg str; simp [enc, rx, mrs, nmb, fR2, fRR, fB, fP, h32, mid, cod, two, by8]; done) | (apply congrArg str; simp [enc, rx, mrs, nmb, fR2, fRR, fB, fP, h32, mid, cod, two, by8]; rfl))
  obtain ⟨W, hW⟩ : ∃ W, W = w.alloc (.cells #[.int .i64 15, .bool wd, .int .i64 r, .int .i64 b, .int .i64 0, .int .i64 c, .int .i64 0] 23) := ⟨_, rfl⟩
  have B0 : Bx w.heap.size ⟨15, wd, r, b, 0, c, 0⟩ W := by rw [hW]; exact Bx.made w ⟨15, wd, r, b, 0, c, 0⟩
  have W0 : Below w.heap.size w W := by rw [hW]; exact bel_one _ _
  clear hx e0 e1
  go_enter Try.func11, Try.ntmps11
  go_wp2_with fail
  rw [← hW]
  refine (RI.out _).mono ?_
  clear hW
  rintro e w1 ⟨rfl, hb1⟩
  have B1 := Bx.draw hb1 B0
  have W1 := bel_tr W0 hb1
  clear hb1 B0 W0
  obtain ⟨x0, x1, x2, x3, x4, x5, x6⟩ := B1.cells
  dsimp only at x0 x1 x2 x3 x4 x5 x6
  go_wp2_with (first | (go_at_call 19; refine (rrex_any _ _ _ _ _).mono ?_; rintro e w2 ⟨rfl, hb2⟩; have B2 : Bx w.heap.size ⟨15, wd, r, b, 0, c, 0⟩ w2 := (by first | exact Bx.draw hb2 (by assumption) | exact Bx.draw2 hb2 (by assumption)); have W2 : Below w.heap.size w w2 := (by first | exact bel_draw' hb2 (by assumption) | exact bel_draw2 hb2 (by assumption)); obtain ⟨x0, x1, x2, x3, x4, x5, x6⟩ := B2.cells; (dsimp only at x0 x1 x2 x3 x4 x5 x6)) | (go_at_call 20; refine (rmr_any _ _ _ _ ?ha ?hb ?hc ?hd).mono ?_; (case ha => decide); (case hb => decide); (case hc => first | assumption | decide); (case hd => first | assumption | decide); rintro e w2 ⟨rfl, hb2⟩; have B2 : Bx w.heap.size ⟨15, wd, r, b, 0, c, 0⟩ w2 := (by first | exact Bx.draw hb2 (by assumption) | exact Bx.draw2 hb2 (by assumption)); have W2 : Below w.heap.size w w2 := (by first | exact bel_draw' hb2 (by assumption) | exact bel_draw2 hb2 (by assumption)); obtain ⟨x0, x1, x2, x3, x4, x5, x6⟩ := B2.cells; (dsimp only at x0 x1 x2 x3 x4 x5 x6)) | (go_at_call 21; refine (rone_any _ _).mono ?_; rintro e w2 ⟨rfl, hb2⟩; have B2 : Bx w.heap.size ⟨15, wd, r, b, 0, c, 0⟩ w2 := (by first | exact Bx.draw hb2 (by assumption) | exact Bx.draw2 hb2 (by assumption)); have W2 : Below w.heap.size w w2 := (by first | exact bel_draw' hb2 (by assumption) | exact bel_draw2 hb2 (by assumption)); obtain ⟨x0, x1, x2, x3, x4, x5, x6⟩ := B2.cells; (dsimp only at x0 x1 x2 x3 x4 x5 x6)))
  go_region_held3 (fun X => X.cell? ⟨w.heap.size, 0, none⟩ = some (.int .i64 15) ∧ X.cell? ⟨w.heap.size, 1, none⟩ = some (.bool wd) ∧ X.cell? ⟨w.heap.size, 2, none⟩ = some (.int .i64 r) ∧ X.cell? ⟨w.heap.size, 3, none⟩ = some (.int .i64 b) ∧ X.cell? ⟨w.heap.size, 4, none⟩ = some (.int .i64 0) ∧ X.cell? ⟨w.heap.size, 5, none⟩ = some (.int .i64 c) ∧ X.cell? ⟨w.heap.size, 6, none⟩ = some (.int .i64 0)) (go_keep)
    (first | (go_at_call 19; refine (rrex_any _ _ _ _ _).mono ?_; rintro e w2 ⟨rfl, hb2⟩; have B2 : Bx w.heap.size ⟨15, wd, r, b, 0, c, 0⟩ w2 := (by first | exact Bx.draw hb2 (by assumption) | exact Bx.draw2 hb2 (by assumption)); have W2 : Below w.heap.size w w2 := (by first | exact bel_draw' hb2 (by assumption) | exact bel_draw2 hb2 (by assumption)); obtain ⟨x0, x1, x2, x3, x4, x5, x6⟩ := B2.cells; (dsimp only at x0 x1 x2 x3 x4 x5 x6)) | (go_at_call 20; refine (rmr_any _ _ _ _ ?ha ?hb ?hc ?hd).mono ?_; (case ha => decide); (case hb => decide); (case hc => first | assumption | decide); (case hd => first | assumption | decide); rintro e w2 ⟨rfl, hb2⟩; have B2 : Bx w.heap.size ⟨15, wd, r, b, 0, c, 0⟩ w2 := (by first | exact Bx.draw hb2 (by assumption) | exact Bx.draw2 hb2 (by assumption)); have W2 : Below w.heap.size w w2 := (by first | exact bel_draw' hb2 (by assumption) | exact bel_draw2 hb2 (by assumption)); obtain ⟨x0, x1, x2, x3, x4, x5, x6⟩ := B2.cells; (dsimp only at x0 x1 x2 x3 x4 x5 x6)) | (go_at_call 21; refine (rone_any _ _).mono ?_; rintro e w2 ⟨rfl, hb2⟩; have B2 : Bx w.heap.size ⟨15, wd, r, b, 0, c, 0⟩ w2 := (by first | exact Bx.draw hb2 (by assumption) | exact Bx.draw2 hb2 (by assumption)); have W2 : Below w.heap.size w w2 := (by first | exact bel_draw' hb2 (by assumption) | exact bel_draw2 hb2 (by assumption)); obtain ⟨x0, x1, x2, x3, x4, x5, x6⟩ := B2.cells; (dsimp only at x0 x1 x2 x3 x4 x5 x6)))
  go_wp2_with (first | (go_at_call 19; refine (rrex_any _ _ _ _ _).mono ?_; rintro e w2 ⟨rfl, hb2⟩; have B2 : Bx w.heap.size ⟨15, wd, r, b, 0, c, 0⟩ w2 := (by first | exact Bx.draw hb2 (by assumption) | exact Bx.draw2 hb2 (by assumption)); have W2 : Below w.heap.size w w2 := (by first | exact bel_draw' hb2 (by assumption) | exact bel_draw2 hb2 (by assumption)); obtain ⟨x0, x1, x2, x3, x4, x5, x6⟩ := B2.cells; (dsimp only at x0 x1 x2 x3 x4 x5 x6)) | (go_at_call 20; refine (rmr_any _ _ _ _ ?ha ?hb ?hc ?hd).mono ?_; (case ha => decide); (case hb => decide); (case hc => first | assumption | decide); (case hd => first | assumption | decide); rintro e w2 ⟨rfl, hb2⟩; have B2 : Bx w.heap.size ⟨15, wd, r, b, 0, c, 0⟩ w2 := (by first | exact Bx.draw hb2 (by assumption) | exact Bx.draw2 hb2 (by assumption)); have W2 : Below w.heap.size w w2 := (by first | exact bel_draw' hb2 (by assumption) | exact bel_draw2 hb2 (by assumption)); obtain ⟨x0, x1, x2, x3, x4, x5, x6⟩ := B2.cells; (dsimp only at x0 x1 x2 x3 x4 x5 x6)) | (go_at_call 21; refine (rone_any _ _).mono ?_; rintro e w2 ⟨rfl, hb2⟩; have B2 : Bx w.heap.size ⟨15, wd, r, b, 0, c, 0⟩ w2 := (by first | exact Bx.draw hb2 (by assumption) | exact Bx.draw2 hb2 (by assumption)); have W2 : Below w.heap.size w w2 := (by first | exact bel_draw' hb2 (by assumption) | exact bel_draw2 hb2 (by assumption)); obtain ⟨x0, x1, x2, x3, x4, x5, x6⟩ := B2.cells; (dsimp only at x0 x1 x2 x3 x4 x5 x6)))
  go_ret2
  exact ⟨ret_sb HE.out, by assumption⟩
set_option maxRecDepth 100000 in
set_option maxHeartbeats 8000000 in
theorem renc_7 (wd : Bool) (b c : Int) (w : World) (hx : rt ⟨7, wd, 0, b, 0, c, 0⟩ = true) (h2 : 0 ≤ b ∧ b ≤ 15) (hc : shK c = true) : ReIs ⟨7, wd, 0, b, 0, c, 0⟩ w := by
  have e0 : enS ⟨7, wd, 0, b, 0, c, 0⟩ = enc ⟨7, wd, 0, b, 0, c, 0⟩ := by simp [enS, hx]
  have e1 : reB ⟨7, wd, 0, b, 0, c, 0⟩ = true := hx
  unfold ReIs
  rw [e0, e1]
  simp only [xv]
  have RI := hide (fun U => rright_is 7 wd 0 b 0 c 0 U hx)
  obtain ⟨hc0, hc1⟩ := sh_bd15 hc
  obtain ⟨b0, b1⟩ := h2
  have z0 : ¬ 9223372036854775807 < (str (pre (rxb wd 0 0 b)) : ByteArray).size + (⟨#[211]⟩ : ByteArray).size := by simp only [cat_size, sz_str, sz_lit, List.length_cons, List.length_nil, bys_len]; have q1 := pre_len (rxb wd 0 0 b); omega
  have y0 : ¬ 9223372036854775807 < (str (pre (rxb wd 0 0 b)) : ByteArray).size + 1 := by simp only [cat_size, sz_str, sz_lit, List.length_cons, List.length_nil, bys_len]; have q1 := pre_len (rxb wd 0 0 b); omega
  have z1 : ¬ 9223372036854775807 < (str (pre (rxb wd 0 0 b)) ++ ⟨#[211]⟩ : ByteArray).size + (str [by8 (mri 3 c b)] : ByteArray).size := by simp only [cat_size, sz_str, sz_lit, List.length_cons, List.length_nil, bys_len]; have q1 := pre_len (rxb wd 0 0 b); omega
  have y1 : ¬ 9223372036854775807 < (str (pre (rxb wd 0 0 b)) : ByteArray).size + 1 + (str [by8 (mri 3 c b)] : ByteArray).size := by simp only [cat_size, sz_str, sz_lit, List.length_cons, List.length_nil, bys_len]; have q1 := pre_len (rxb wd 0 0 b); omega
  have v1 : ¬ 9223372036854775807 < (str (pre (rxb wd 0 0 b)) ++ ⟨#[211]⟩ : ByteArray).size + (str [by8 (mri 3 c b)] : ByteArray).size := by simp only [cat_size, sz_str, sz_lit, List.length_cons, List.length_nil, bys_len]; have q1 := pre_len (rxb wd 0 0 b); omega
  have HE : Hid ((str (pre (rxb wd 0 0 b)) ++ ⟨#[211]⟩ ++ str [by8 (mri 3 c b)] : ByteArray) = str (enc ⟨7, wd, 0, b, 0, c, 0⟩)) := by
    show _ = _
    simp only [lit_str, str_app]
    first | rfl | (apply congrArg str; simp [enc, rx, mrs, nmb, fR2, fRR, fB, fP, h32, mid, cod, two, by8, rxb_mid (show c ≤ 7 from (sh_bd hc).2)]; done) | (apply congrArg str; simp [enc, rx, mrs, nmb, fR2, fRR, fB, fP, h32, mid, cod, two, by8, rxb_mid (show c ≤ 7 from (sh_bd hc).2)]; rfl)
  obtain ⟨W, hW⟩ : ∃ W, W = w.alloc (.cells #[.int .i64 7, .bool wd, .int .i64 0, .int .i64 b, .int .i64 0, .int .i64 c, .int .i64 0] 23) := ⟨_, rfl⟩
  have B0 : Bx w.heap.size ⟨7, wd, 0, b, 0, c, 0⟩ W := by rw [hW]; exact Bx.made w ⟨7, wd, 0, b, 0, c, 0⟩
  have W0 : Below w.heap.size w W := by rw [hW]; exact bel_one _ _
  clear hx e0 e1
  go_enter Try.func11, Try.ntmps11
  go_wp2_with fail
  rw [← hW]
  refine (RI.out _).mono ?_
  clear hW
  rintro e w1 ⟨rfl, hb1⟩
  have B1 := Bx.draw hb1 B0
  have W1 := bel_tr W0 hb1
  clear hb1 B0 W0
  obtain ⟨x0, x1, x2, x3, x4, x5, x6⟩ := B1.cells
  dsimp only at x0 x1 x2 x3 x4 x5 x6
  go_wp2_with (first | (go_at_call 19; refine (rrex_any _ _ _ _ _).mono ?_; rintro e w2 ⟨rfl, hb2⟩; have B2 : Bx w.heap.size ⟨7, wd, 0, b, 0, c, 0⟩ w2 := (by first | exact Bx.draw hb2 (by assumption) | exact Bx.draw2 hb2 (by assumption)); have W2 : Below w.heap.size w w2 := (by first | exact bel_draw' hb2 (by assumption) | exact bel_draw2 hb2 (by assumption)); obtain ⟨x0, x1, x2, x3, x4, x5, x6⟩ := B2.cells; (dsimp only at x0 x1 x2 x3 x4 x5 x6)) | (go_at_call 20; refine (rmr_any _ _ _ _ ?ha ?hb ?hc ?hd).mono ?_; (case ha => decide); (case hb => decide); (case hc => first | assumption | decide); (case hd => first | assumption | decide); rintro e w2 ⟨rfl, hb2⟩; have B2 : Bx w.heap.size ⟨7, wd, 0, b, 0, c, 0⟩ w2 := (by first | exact Bx.draw hb2 (by assumption) | exact Bx.draw2 hb2 (by assumption)); have W2 : Below w.heap.size w w2 := (by first | exact bel_draw' hb2 (by assumption) | exact bel_draw2 hb2 (by assumption)); obtain ⟨x0, x1, x2, x3, x4, x5, x6⟩ := B2.cells; (dsimp only at x0 x1 x2 x3 x4 x5 x6)))
  go_ret2
  exact ⟨ret_sb HE.out, by assumption⟩
set_option maxRecDepth 100000 in
set_option maxHeartbeats 8000000 in
theorem renc_19 (n : Int) (w : World) (hx : rt ⟨19, false, 0, 0, 0, 0, n⟩ = true) (hs : s32 n = true) : ReIs ⟨19, false, 0, 0, 0, 0, n⟩ w := by
  have e0 : enS ⟨19, false, 0, 0, 0, 0, n⟩ = enc ⟨19, false, 0, 0, 0, 0, n⟩ := by simp [enS, hx]
  have e1 : reB ⟨19, false, 0, 0, 0, 0, n⟩ = true := hx
  unfold ReIs
  rw [e0, e1]
  simp only [xv]
  have RI := hide (fun U => rright_is 19 false 0 0 0 0 n U hx)
  have hn' : I64 n := s32_64 hs
  have z0 : ¬ 9223372036854775807 < (⟨#[232]⟩ : ByteArray).size + (str (bys 4 n) : ByteArray).size := by simp only [cat_size, sz_str, sz_lit, List.length_cons, List.length_nil, bys_len]; have q1 := pre_len (rxb false 0 0 0); omega
  have y0 : ¬ 9223372036854775807 < 1 + (str (bys 4 n) : ByteArray).size := by simp only [cat_size, sz_str, sz_lit, List.length_cons, List.length_nil, bys_len]; have q1 := pre_len (rxb false 0 0 0); omega
  have HE : Hid ((⟨#[232]⟩ ++ str (bys 4 n) : ByteArray) = str (enc ⟨19, false, 0, 0, 0, 0, n⟩)) := by
    show _ = _
    simp only [lit_str, str_app]
    first | rfl | (apply congrArg str; simp [enc, rx, mrs, nmb, fR2, fRR, fB, fP, h32, mid, cod, two, by8, pre, rxb, up]; done) | (apply congrArg str; simp [enc, rx, mrs, nmb, fR2, fRR, fB, fP, h32, mid, cod, two, by8, pre, rxb, up]; rfl)
  obtain ⟨W, hW⟩ : ∃ W, W = w.alloc (.cells #[.int .i64 19, .bool false, .int .i64 0, .int .i64 0, .int .i64 0, .int .i64 0, .int .i64 n] 23) := ⟨_, rfl⟩
  have B0 : Bx w.heap.size ⟨19, false, 0, 0, 0, 0, n⟩ W := by rw [hW]; exact Bx.made w ⟨19, false, 0, 0, 0, 0, n⟩
  have W0 : Below w.heap.size w W := by rw [hW]; exact bel_one _ _
  clear hx e0 e1
  go_enter Try.func11, Try.ntmps11
  go_wp2_with fail
  rw [← hW]
  refine (RI.out _).mono ?_
  clear hW
  rintro e w1 ⟨rfl, hb1⟩
  have B1 := Bx.draw hb1 B0
  have W1 := bel_tr W0 hb1
  clear hb1 B0 W0
  obtain ⟨x0, x1, x2, x3, x4, x5, x6⟩ := B1.cells
  dsimp only at x0 x1 x2 x3 x4 x5 x6
  go_wp2_with (first | (go_at_call 19; refine (rrex_any _ _ _ _ _).mono ?_; rintro e w2 ⟨rfl, hb2⟩; have B2 : Bx w.heap.size ⟨19, false, 0, 0, 0, 0, n⟩ w2 := (by first | exact Bx.draw hb2 (by assumption) | exact Bx.draw2 hb2 (by assumption)); have W2 : Below w.heap.size w w2 := (by first | exact bel_draw' hb2 (by assumption) | exact bel_draw2 hb2 (by assumption)); obtain ⟨x0, x1, x2, x3, x4, x5, x6⟩ := B2.cells; (dsimp only at x0 x1 x2 x3 x4 x5 x6)) | (go_at_call 22; refine (rnum_4 _ _ ?hn).mono ?_; (case hn => assumption); rintro e w2 ⟨rfl, hb2⟩; have B2 : Bx w.heap.size ⟨19, false, 0, 0, 0, 0, n⟩ w2 := (by first | exact Bx.draw hb2 (by assumption) | exact Bx.draw2 hb2 (by assumption)); have W2 : Below w.heap.size w w2 := (by first | exact bel_draw' hb2 (by assumption) | exact bel_draw2 hb2 (by assumption)); obtain ⟨x0, x1, x2, x3, x4, x5, x6⟩ := B2.cells; (dsimp only at x0 x1 x2 x3 x4 x5 x6)))
  go_ret2
  exact ⟨ret_sb HE.out, by assumption⟩
end Go.Proofs.Ytddepkiefkngdaa
