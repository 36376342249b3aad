/-
  Merged: CREncP CRE1 CRE2 CRE3.
-/
import Derived.Test.YtookbgnidinkoaaCRRight
import Derived.Test.YtookbgnidinkoaaCRBytes
import Derived.Test.YtookbgnidinkoaaCWriteP
import Derived.Deep.RegionHeld3
import Derived.Deep.DrawnRows
/-
  What the document's Encode meets.
-/
namespace Go.Proofs.Ytookbgnidinkoaa.Xc
open Go.RowKit
set_option linter.unusedSimpArgs false
set_option linter.unusedVariables false

def reB (x : Xi) : Bool := rt x
def ReIs (x : Xi) (w : World) : Prop := Calls Try.prog 22 #[xv x] w fun e w' => e = .returned (.tuple #[.string (str (enS x)), .bool (reB x)]) ∧ Below w.heap.size w w'
theorem rright_is (op : Int) (wd : Bool) (r b i c n : Int) (w : World) {q : Bool} (h : rt ⟨op, wd, r, b, i, c, n⟩ = q) :
    Calls Try.prog 32 #[.agg #[.int .i64 op, .bool wd, .int .i64 r, .int .i64 b, .int .i64 i, .int .i64 c, .int .i64 n]] w fun e w' => e = .returned (.bool q) ∧ Below w.heap.size w w' := by subst h; exact rright_any ⟨op, wd, r, b, i, c, n⟩ w
theorem Bx.draw {g : Nat} {x : Xi} {V w' : World} (hb : Below V.heap.size V w') (h : Bx g x V) : Bx g x w' := h.kept hb
theorem bel_draw' {a V w' : World} (hb : Below V.heap.size V w') (h : Below a.heap.size a V) : Below a.heap.size a w' := bel_tr h hb
theorem Bx.draw2 {g : Nat} {x : Xi} {V w' : World} (hb : Below V.drew.heap.size V.drew w') (h : Bx g x V) : Bx g x w' := Bx.draw hb h
theorem bel_draw2 {a V w' : World} (hb : Below V.drew.heap.size V.drew w') (h : Below a.heap.size a V) : Below a.heap.size a w' := bel_tr h.drew hb
theorem rxb_mid {w : Bool} {m i l : Int} (h : m ≤ 7) : rxb w m i l = rxb w 0 i l := by unfold rxb; rw [up8 h 4, up8 (show (0 : Int) ≤ 7 by decide) 4]
theorem cat_size (a b : ByteArray) : (a ++ b).size = a.size + b.size := ByteArray.size_append
theorem sz_str (l : List UInt8) : (str l).size = l.length := str_size' l
theorem sz_lit (l : List UInt8) : (⟨l.toArray⟩ : ByteArray).size = l.length := by simp [ByteArray.size]
theorem lit_str (l : List UInt8) : (⟨l.toArray⟩ : ByteArray) = str l := rfl
theorem sm_bd15 {c : Int} (h : smK c = true) : 0 ≤ c ∧ c ≤ 15 := by have := sm_bd h; omega
theorem sh_bd15 {c : Int} (h : shK c = true) : 0 ≤ c ∧ c ≤ 15 := by have := sh_bd h; omega
theorem cn_bd15 {c : Int} (h : cnK c = true) : 0 ≤ c ∧ c ≤ 15 := by rcases cn_cases h with rfl | rfl | rfl | rfl | rfl | rfl | rfl | rfl | rfl | rfl <;> decide
theorem rnum_4 (n : Int) (w : World) (hn : I64 n) : Calls Try.prog 36 #[.int .i64 n, .int .i64 4] w fun e w' => e = .returned (.string (str (bys 4 n))) ∧ Below w.heap.size w w' := rnumber_any n 4 w (by decide) hn
theorem rnum_8 (n : Int) (w : World) (hn : I64 n) : Calls Try.prog 36 #[.int .i64 n, .int .i64 8] w fun e w' => e = .returned (.string (str (bys 8 n))) ∧ Below w.heap.size w w' := rnumber_any n 8 w (by decide) hn
theorem ret_sb {a : ByteArray} {b : ByteArray} (h : a = b) : Ending.returned (.tuple #[.string a, .bool true]) = .returned (.tuple #[.string b, .bool true]) := by rw [h]
set_option maxRecDepth 100000 in
set_option maxHeartbeats 2000000 in
theorem renc_no (x : Xi) (w : World) (hx : rt x = false) : ReIs x w := by
  obtain ⟨op, wd, r, b, i, c, n⟩ := x
  have e0 : enS ⟨op, wd, r, b, i, c, n⟩ = [] := by simp [enS, hx]
  have e1 : reB ⟨op, wd, r, b, i, c, n⟩ = false := hx
  unfold ReIs
  rw [e0, e1]
  simp only [xv]
  have RI := hide (fun U => rright_is op wd r b i c n U hx)
  obtain ⟨W, hW⟩ : ∃ W, W = w.alloc (.cells #[.int .i64 op, .bool wd, .int .i64 r, .int .i64 b, .int .i64 i, .int .i64 c, .int .i64 n] 40) := ⟨_, rfl⟩
  have W0 : Hid (Below w.heap.size w W) := by show Below _ _ _; rw [hW]; exact bel_one _ _
  clear hx e0 e1
  go_enter Try.func22, Try.ntmps22
  go_wp2_with fail
  rw [← hW]
  refine (RI.out _).mono ?_
  clear hW
  rintro e w1 ⟨rfl, hb1⟩
  go_wp2_with fail
  go_ret2
  exact ⟨rfl, bel_tr W0.out hb1⟩
end Go.Proofs.Ytookbgnidinkoaa.Xc
/-
  The walks of the document's Encode: mov, movi, byte, ret.
-/
namespace Go.Proofs.Ytookbgnidinkoaa.Xc
open Go.RowKit
set_option linter.unusedSimpArgs false
set_option linter.unusedVariables false
attribute [local go_sem ↓] Go.wp_at_zero Go.wp_at_succ

set_option maxRecDepth 100000 in
set_option maxHeartbeats 8000000 in
theorem renc_1 (wd : Bool) (r b : Int) (w : World) (hx : rt ⟨1, wd, r, b, 0, 0, 0⟩ = true) (h1 : 0 ≤ r ∧ r ≤ 15) (h2 : 0 ≤ b ∧ b ≤ 15) : ReIs ⟨1, wd, r, b, 0, 0, 0⟩ w := by
  have e0 : enS ⟨1, wd, r, b, 0, 0, 0⟩ = enc ⟨1, wd, r, b, 0, 0, 0⟩ := by simp [enS, hx]
  have e1 : reB ⟨1, wd, r, b, 0, 0, 0⟩ = true := hx
  unfold ReIs
  rw [e0, e1]
  simp only [xv]
  have RI := hide (fun U => rright_is 1 wd r b 0 0 0 U hx)
  obtain ⟨r0, r1⟩ := h1
  obtain ⟨b0, b1⟩ := h2
  have z0 : ¬ 9223372036854775807 < (str (pre (rxb wd r 0 b)) : ByteArray).size + (⟨#[137]⟩ : ByteArray).size := by simp only [cat_size, sz_str, sz_lit, List.length_cons, List.length_nil, bys_len]; have q1 := pre_len (rxb wd r 0 b); omega
  have y0 : ¬ 9223372036854775807 < (str (pre (rxb wd r 0 b)) : ByteArray).size + 1 := by simp only [cat_size, sz_str, sz_lit, List.length_cons, List.length_nil, bys_len]; have q1 := pre_len (rxb wd r 0 b); omega
  have z1 : ¬ 9223372036854775807 < (str (pre (rxb wd r 0 b)) ++ ⟨#[137]⟩ : ByteArray).size + (str [by8 (mri 3 r b)] : ByteArray).size := by simp only [cat_size, sz_str, sz_lit, List.length_cons, List.length_nil, bys_len]; have q1 := pre_len (rxb wd r 0 b); omega
  have y1 : ¬ 9223372036854775807 < (str (pre (rxb wd r 0 b)) : ByteArray).size + 1 + (str [by8 (mri 3 r b)] : ByteArray).size := by simp only [cat_size, sz_str, sz_lit, List.length_cons, List.length_nil, bys_len]; have q1 := pre_len (rxb wd r 0 b); omega
  have v1 : ¬ 9223372036854775807 < (str (pre (rxb wd r 0 b)) ++ ⟨#[137]⟩ : ByteArray).size + (str [by8 (mri 3 r b)] : ByteArray).size := by simp only [cat_size, sz_str, sz_lit, List.length_cons, List.length_nil, bys_len]; have q1 := pre_len (rxb wd r 0 b); omega
  have HE : Hid ((str (pre (rxb wd r 0 b)) ++ ⟨#[137]⟩ ++ str [by8 (mri 3 r b)] : ByteArray) = str (enc ⟨1, wd, r, b, 0, 0, 0⟩)) := by
    show _ = _
    simp only [lit_str, str_app]
    first | rfl | (apply congrArg str; simp [enc, rx, mrs, nmb, fR2, fRR, fB, fP, h32, mid, cod, two, by8]; done) | (apply congrArg str; simp [enc, rx, mrs, nmb, fR2, fRR, fB, fP, h32, mid, cod, two, by8]; rfl)
  obtain ⟨W, hW⟩ : ∃ W, W = w.alloc (.cells #[.int .i64 1, .bool wd, .int .i64 r, .int .i64 b, .int .i64 0, .int .i64 0, .int .i64 0] 40) := ⟨_, rfl⟩
  have B0 : Bx w.heap.size ⟨1, wd, r, b, 0, 0, 0⟩ W := by rw [hW]; exact Bx.made w ⟨1, wd, r, b, 0, 0, 0⟩
  have W0 : Below w.heap.size w W := by rw [hW]; exact bel_one _ _
  clear hx e0 e1
  go_enter Try.func22, Try.ntmps22
  go_wp2_with fail
  rw [← hW]
  refine (RI.out _).mono ?_
  clear hW
  rintro e w1 ⟨rfl, hb1⟩
  have B1 := Bx.draw hb1 B0
  have W1 := bel_tr W0 hb1
  clear hb1 B0 W0
  obtain ⟨x0, x1, x2, x3, x4, x5, x6⟩ := B1.cells
  dsimp only at x0 x1 x2 x3 x4 x5 x6
  go_wp2_with (first | (go_at_call 33; refine (rrex_any _ _ _ _ _).mono ?_; rintro e w2 ⟨rfl, hb2⟩; have B2 : Bx w.heap.size ⟨1, wd, r, b, 0, 0, 0⟩ w2 := (by first | exact Bx.draw hb2 (by assumption) | exact Bx.draw2 hb2 (by assumption)); have W2 : Below w.heap.size w w2 := (by first | exact bel_draw' hb2 (by assumption) | exact bel_draw2 hb2 (by assumption)); obtain ⟨x0, x1, x2, x3, x4, x5, x6⟩ := B2.cells; (dsimp only at x0 x1 x2 x3 x4 x5 x6)) | (go_at_call 34; refine (rmr_any _ _ _ _ ?ha ?hb ?hc ?hd).mono ?_; (case ha => decide); (case hb => decide); (case hc => first | assumption | decide); (case hd => first | assumption | decide); rintro e w2 ⟨rfl, hb2⟩; have B2 : Bx w.heap.size ⟨1, wd, r, b, 0, 0, 0⟩ w2 := (by first | exact Bx.draw hb2 (by assumption) | exact Bx.draw2 hb2 (by assumption)); have W2 : Below w.heap.size w w2 := (by first | exact bel_draw' hb2 (by assumption) | exact bel_draw2 hb2 (by assumption)); obtain ⟨x0, x1, x2, x3, x4, x5, x6⟩ := B2.cells; (dsimp only at x0 x1 x2 x3 x4 x5 x6)))
  go_ret2
  exact ⟨ret_sb HE.out, by assumption⟩
set_option maxRecDepth 100000 in
set_option maxHeartbeats 8000000 in
theorem renc_2 (r n : Int) (w : World) (hx : rt ⟨2, true, r, 0, 0, 0, n⟩ = true) (h1 : 0 ≤ r ∧ r ≤ 15) (hn : I64 n) : ReIs ⟨2, true, r, 0, 0, 0, n⟩ w := by
  have e0 : enS ⟨2, true, r, 0, 0, 0, n⟩ = enc ⟨2, true, r, 0, 0, 0, n⟩ := by simp [enS, hx]
  have e1 : reB ⟨2, true, r, 0, 0, 0, n⟩ = true := hx
  unfold ReIs
  rw [e0, e1]
  simp only [xv]
  have RI := hide (fun U => rright_is 2 true r 0 0 0 n U hx)
  obtain ⟨r0, r1⟩ := h1
  have hn' : I64 n := hn
  have wr0 : IntKind.i64.wrap (184 + r.tmod 8) = 184 + r % 8 := by rw [Int.tmod_eq_emod_of_nonneg (by omega), IntKind.wrap_i64]; omega
  have z0 : ¬ 9223372036854775807 < (str (pre (rxb true 0 0 r)) : ByteArray).size + (str [by8 (184 + r % 8)] : ByteArray).size := by simp only [cat_size, sz_str, sz_lit, List.length_cons, List.length_nil, bys_len]; have q1 := pre_len (rxb true 0 0 r); omega
  have y0 : ¬ 9223372036854775807 < (str (pre (rxb true 0 0 r)) : ByteArray).size + (str [by8 (184 + r % 8)] : ByteArray).size := by simp only [cat_size, sz_str, sz_lit, List.length_cons, List.length_nil, bys_len]; have q1 := pre_len (rxb true 0 0 r); omega
  have z1 : ¬ 9223372036854775807 < (str (pre (rxb true 0 0 r)) ++ str [by8 (184 + r % 8)] : ByteArray).size + (str (bys 8 n) : ByteArray).size := by simp only [cat_size, sz_str, sz_lit, List.length_cons, List.length_nil, bys_len]; have q1 := pre_len (rxb true 0 0 r); omega
  have y1 : ¬ 9223372036854775807 < (str (pre (rxb true 0 0 r)) : ByteArray).size + (str [by8 (184 + r % 8)] : ByteArray).size + (str (bys 8 n) : ByteArray).size := by simp only [cat_size, sz_str, sz_lit, List.length_cons, List.length_nil, bys_len]; have q1 := pre_len (rxb true 0 0 r); omega
  have v1 : ¬ 9223372036854775807 < (str (pre (rxb true 0 0 r)) ++ str [by8 (184 + r % 8)] : ByteArray).size + (str (bys 8 n) : ByteArray).size := by simp only [cat_size, sz_str, sz_lit, List.length_cons, List.length_nil, bys_len]; have q1 := pre_len (rxb true 0 0 r); omega
  have HE : Hid ((str (pre (rxb true 0 0 r)) ++ str [by8 (184 + r % 8)] ++ str (bys 8 n) : ByteArray) = str (enc ⟨2, true, r, 0, 0, 0, n⟩)) := by
    show _ = _
    have t2 : two (184 + r % 8) = [by8 (184 + r % 8)] := by unfold two; rw [if_neg (by omega)]
    simp only [lit_str, str_app]; apply congrArg str
    simp [enc, rx, mrs, nmb, fR2, fRR, fB, fP, h32, mid, cod, t2]
  obtain ⟨W, hW⟩ : ∃ W, W = w.alloc (.cells #[.int .i64 2, .bool true, .int .i64 r, .int .i64 0, .int .i64 0, .int .i64 0, .int .i64 n] 40) := ⟨_, rfl⟩
  have B0 : Bx w.heap.size ⟨2, true, r, 0, 0, 0, n⟩ W := by rw [hW]; exact Bx.made w ⟨2, true, r, 0, 0, 0, n⟩
  have W0 : Below w.heap.size w W := by rw [hW]; exact bel_one _ _
  clear hx e0 e1
  go_enter Try.func22, Try.ntmps22
  go_wp2_with fail
  rw [← hW]
  refine (RI.out _).mono ?_
  clear hW
  rintro e w1 ⟨rfl, hb1⟩
  have B1 := Bx.draw hb1 B0
  have W1 := bel_tr W0 hb1
  clear hb1 B0 W0
  obtain ⟨x0, x1, x2, x3, x4, x5, x6⟩ := B1.cells
  dsimp only at x0 x1 x2 x3 x4 x5 x6
  go_wp2_with (first | (go_at_call 33; refine (rrex_any _ _ _ _ _).mono ?_; rintro e w2 ⟨rfl, hb2⟩; have B2 : Bx w.heap.size ⟨2, true, r, 0, 0, 0, n⟩ w2 := (by first | exact Bx.draw hb2 (by assumption) | exact Bx.draw2 hb2 (by assumption)); have W2 : Below w.heap.size w w2 := (by first | exact bel_draw' hb2 (by assumption) | exact bel_draw2 hb2 (by assumption)); obtain ⟨x0, x1, x2, x3, x4, x5, x6⟩ := B2.cells; (dsimp only at x0 x1 x2 x3 x4 x5 x6)) | (go_at_call 35; refine (rone_any _ _).mono ?_; rintro e w2 ⟨rfl, hb2⟩; have B2 : Bx w.heap.size ⟨2, true, r, 0, 0, 0, n⟩ w2 := (by first | exact Bx.draw hb2 (by assumption) | exact Bx.draw2 hb2 (by assumption)); have W2 : Below w.heap.size w w2 := (by first | exact bel_draw' hb2 (by assumption) | exact bel_draw2 hb2 (by assumption)); obtain ⟨x0, x1, x2, x3, x4, x5, x6⟩ := B2.cells; (dsimp only at x0 x1 x2 x3 x4 x5 x6)) | (go_at_call 36; refine (rnum_8 _ _ ?hn).mono ?_; (case hn => assumption); rintro e w2 ⟨rfl, hb2⟩; have B2 : Bx w.heap.size ⟨2, true, r, 0, 0, 0, n⟩ w2 := (by first | exact Bx.draw hb2 (by assumption) | exact Bx.draw2 hb2 (by assumption)); have W2 : Below w.heap.size w w2 := (by first | exact bel_draw' hb2 (by assumption) | exact bel_draw2 hb2 (by assumption)); obtain ⟨x0, x1, x2, x3, x4, x5, x6⟩ := B2.cells; (dsimp only at x0 x1 x2 x3 x4 x5 x6)))
  go_region_held3 (fun X => X.cell? ⟨w.heap.size, 0, none⟩ = some (.int .i64 2) ∧ X.cell? ⟨w.heap.size, 1, none⟩ = some (.bool true) ∧ X.cell? ⟨w.heap.size, 2, none⟩ = some (.int .i64 r) ∧ X.cell? ⟨w.heap.size, 3, none⟩ = some (.int .i64 0) ∧ X.cell? ⟨w.heap.size, 4, none⟩ = some (.int .i64 0) ∧ X.cell? ⟨w.heap.size, 5, none⟩ = some (.int .i64 0) ∧ X.cell? ⟨w.heap.size, 6, none⟩ = some (.int .i64 n)) (go_keep)
    (first | (go_at_call 33; refine (rrex_any _ _ _ _ _).mono ?_; rintro e w2 ⟨rfl, hb2⟩; have B2 : Bx w.heap.size ⟨2, true, r, 0, 0, 0, n⟩ w2 := (by first | exact Bx.draw hb2 (by assumption) | exact Bx.draw2 hb2 (by assumption)); have W2 : Below w.heap.size w w2 := (by first | exact bel_draw' hb2 (by assumption) | exact bel_draw2 hb2 (by assumption)); obtain ⟨x0, x1, x2, x3, x4, x5, x6⟩ := B2.cells; (dsimp only at x0 x1 x2 x3 x4 x5 x6)) | (go_at_call 35; refine (rone_any _ _).mono ?_; rintro e w2 ⟨rfl, hb2⟩; have B2 : Bx w.heap.size ⟨2, true, r, 0, 0, 0, n⟩ w2 := (by first | exact Bx.draw hb2 (by assumption) | exact Bx.draw2 hb2 (by assumption)); have W2 : Below w.heap.size w w2 := (by first | exact bel_draw' hb2 (by assumption) | exact bel_draw2 hb2 (by assumption)); obtain ⟨x0, x1, x2, x3, x4, x5, x6⟩ := B2.cells; (dsimp only at x0 x1 x2 x3 x4 x5 x6)) | (go_at_call 36; refine (rnum_8 _ _ ?hn).mono ?_; (case hn => assumption); rintro e w2 ⟨rfl, hb2⟩; have B2 : Bx w.heap.size ⟨2, true, r, 0, 0, 0, n⟩ w2 := (by first | exact Bx.draw hb2 (by assumption) | exact Bx.draw2 hb2 (by assumption)); have W2 : Below w.heap.size w w2 := (by first | exact bel_draw' hb2 (by assumption) | exact bel_draw2 hb2 (by assumption)); obtain ⟨x0, x1, x2, x3, x4, x5, x6⟩ := B2.cells; (dsimp only at x0 x1 x2 x3 x4 x5 x6)))
  go_wp2_with (first | (go_at_call 33; refine (rrex_any _ _ _ _ _).mono ?_; rintro e w2 ⟨rfl, hb2⟩; have B2 : Bx w.heap.size ⟨2, true, r, 0, 0, 0, n⟩ w2 := (by first | exact Bx.draw hb2 (by assumption) | exact Bx.draw2 hb2 (by assumption)); have W2 : Below w.heap.size w w2 := (by first | exact bel_draw' hb2 (by assumption) | exact bel_draw2 hb2 (by assumption)); obtain ⟨x0, x1, x2, x3, x4, x5, x6⟩ := B2.cells; (dsimp only at x0 x1 x2 x3 x4 x5 x6)) | (go_at_call 35; refine (rone_any _ _).mono ?_; rintro e w2 ⟨rfl, hb2⟩; have B2 : Bx w.heap.size ⟨2, true, r, 0, 0, 0, n⟩ w2 := (by first | exact Bx.draw hb2 (by assumption) | exact Bx.draw2 hb2 (by assumption)); have W2 : Below w.heap.size w w2 := (by first | exact bel_draw' hb2 (by assumption) | exact bel_draw2 hb2 (by assumption)); obtain ⟨x0, x1, x2, x3, x4, x5, x6⟩ := B2.cells; (dsimp only at x0 x1 x2 x3 x4 x5 x6)) | (go_at_call 36; refine (rnum_8 _ _ ?hn).mono ?_; (case hn => assumption); rintro e w2 ⟨rfl, hb2⟩; have B2 : Bx w.heap.size ⟨2, true, r, 0, 0, 0, n⟩ w2 := (by first | exact Bx.draw hb2 (by assumption) | exact Bx.draw2 hb2 (by assumption)); have W2 : Below w.heap.size w w2 := (by first | exact bel_draw' hb2 (by assumption) | exact bel_draw2 hb2 (by assumption)); obtain ⟨x0, x1, x2, x3, x4, x5, x6⟩ := B2.cells; (dsimp only at x0 x1 x2 x3 x4 x5 x6)))
  go_ret2
  exact ⟨ret_sb HE.out, by assumption⟩
set_option maxRecDepth 100000 in
set_option maxHeartbeats 8000000 in
theorem renc_14  (w : World) (hx : rt ⟨14, false, 0, 0, 0, 0, 0⟩ = true)  : ReIs ⟨14, false, 0, 0, 0, 0, 0⟩ w := by
  have e0 : enS ⟨14, false, 0, 0, 0, 0, 0⟩ = enc ⟨14, false, 0, 0, 0, 0, 0⟩ := by simp [enS, hx]
  have e1 : reB ⟨14, false, 0, 0, 0, 0, 0⟩ = true := hx
  unfold ReIs
  rw [e0, e1]
  simp only [xv]
  have RI := hide (fun U => rright_is 14 false 0 0 0 0 0 U hx)
  have HE : Hid ((⟨#[15, 182, 192]⟩ : ByteArray) = str (enc ⟨14, false, 0, 0, 0, 0, 0⟩)) := by
    show _ = _
    simp only [lit_str, str_app]
    first | rfl | (apply congrArg str; simp [enc, rx, mrs, nmb, fR2, fRR, fB, fP, h32, mid, cod, two, by8, pre, rxb, up]; done) | (apply congrArg str; simp [enc, rx, mrs, nmb, fR2, fRR, fB, fP, h32, mid, cod, two, by8, pre, rxb, up]; rfl)
  obtain ⟨W, hW⟩ : ∃ W, W = w.alloc (.cells #[.int .i64 14, .bool false, .int .i64 0, .int .i64 0, .int .i64 0, .int .i64 0, .int .i64 0] 40) := ⟨_, rfl⟩
  have B0 : Bx w.heap.size ⟨14, false, 0, 0, 0, 0, 0⟩ W := by rw [hW]; exact Bx.made w ⟨14, false, 0, 0, 0, 0, 0⟩
  have W0 : Below w.heap.size w W := by rw [hW]; exact bel_one _ _
  clear hx e0 e1
  go_enter Try.func22, Try.ntmps22
  go_wp2_with fail
  rw [← hW]
  refine (RI.out _).mono ?_
  clear hW
  rintro e w1 ⟨rfl, hb1⟩
  have B1 := Bx.draw hb1 B0
  have W1 := bel_tr W0 hb1
  clear hb1 B0 W0
  obtain ⟨x0, x1, x2, x3, x4, x5, x6⟩ := B1.cells
  dsimp only at x0 x1 x2 x3 x4 x5 x6
  go_wp2_with (first | (go_at_call 33; refine (rrex_any _ _ _ _ _).mono ?_; rintro e w2 ⟨rfl, hb2⟩; have B2 : Bx w.heap.size ⟨14, false, 0, 0, 0, 0, 0⟩ w2 := (by first | exact Bx.draw hb2 (by assumption) | exact Bx.draw2 hb2 (by assumption)); have W2 : Below w.heap.size w w2 := (by first | exact bel_draw' hb2 (by assumption) | exact bel_draw2 hb2 (by assumption)); obtain ⟨x0, x1, x2, x3, x4, x5, x6⟩ := B2.cells; (dsimp only at x0 x1 x2 x3 x4 x5 x6)))
  go_ret2
  exact ⟨ret_sb HE.out, by assumption⟩
set_option maxRecDepth 100000 in
set_option maxHeartbeats 8000000 in
theorem renc_20  (w : World) (hx : rt ⟨20, false, 0, 0, 0, 0, 0⟩ = true)  : ReIs ⟨20, false, 0, 0, 0, 0, 0⟩ w := by
  have e0 : enS ⟨20, false, 0, 0, 0, 0, 0⟩ = enc ⟨20, false, 0, 0, 0, 0, 0⟩ := by simp [enS, hx]
  have e1 : reB ⟨20, false, 0, 0, 0, 0, 0⟩ = true := hx
  unfold ReIs
  rw [e0, e1]
  simp only [xv]
  have RI := hide (fun U => rright_is 20 false 0 0 0 0 0 U hx)
  have HE : Hid ((⟨#[195]⟩ : ByteArray) = str (enc ⟨20, false, 0, 0, 0, 0, 0⟩)) := by
    show _ = _
    simp only [lit_str, str_app]
    first | rfl | (apply congrArg str; simp [enc, rx, mrs, nmb, fR2, fRR, fB, fP, h32, mid, cod, two, by8, pre, rxb, up]; done) | (apply congrArg str; simp [enc, rx, mrs, nmb, fR2, fRR, fB, fP, h32, mid, cod, two, by8, pre, rxb, up]; rfl)
  obtain ⟨W, hW⟩ : ∃ W, W = w.alloc (.cells #[.int .i64 20, .bool false, .int .i64 0, .int .i64 0, .int .i64 0, .int .i64 0, .int .i64 0] 40) := ⟨_, rfl⟩
  have B0 : Bx w.heap.size ⟨20, false, 0, 0, 0, 0, 0⟩ W := by rw [hW]; exact Bx.made w ⟨20, false, 0, 0, 0, 0, 0⟩
  have W0 : Below w.heap.size w W := by rw [hW]; exact bel_one _ _
  clear hx e0 e1
  go_enter Try.func22, Try.ntmps22
  go_wp2_with fail
  rw [← hW]
  refine (RI.out _).mono ?_
  clear hW
  rintro e w1 ⟨rfl, hb1⟩
  have B1 := Bx.draw hb1 B0
  have W1 := bel_tr W0 hb1
  clear hb1 B0 W0
  obtain ⟨x0, x1, x2, x3, x4, x5, x6⟩ := B1.cells
  dsimp only at x0 x1 x2 x3 x4 x5 x6
  go_wp2_with (first | (go_at_call 33; refine (rrex_any _ _ _ _ _).mono ?_; rintro e w2 ⟨rfl, hb2⟩; have B2 : Bx w.heap.size ⟨20, false, 0, 0, 0, 0, 0⟩ w2 := (by first | exact Bx.draw hb2 (by assumption) | exact Bx.draw2 hb2 (by assumption)); have W2 : Below w.heap.size w w2 := (by first | exact bel_draw' hb2 (by assumption) | exact bel_draw2 hb2 (by assumption)); obtain ⟨x0, x1, x2, x3, x4, x5, x6⟩ := B2.cells; (dsimp only at x0 x1 x2 x3 x4 x5 x6)))
  go_ret2
  exact ⟨ret_sb HE.out, by assumption⟩
end Go.Proofs.Ytookbgnidinkoaa.Xc
/-
  The walks of the document's Encode: alu, alui, jmp, hlt.
-/
namespace Go.Proofs.Ytookbgnidinkoaa.Xc
open Go.RowKit
set_option linter.unusedSimpArgs false
set_option linter.unusedVariables false
attribute [local go_sem ↓] Go.wp_at_zero Go.wp_at_succ

set_option maxRecDepth 100000 in
set_option maxHeartbeats 8000000 in
theorem renc_3 (wd : Bool) (r b c : Int) (w : World) (hx : rt ⟨3, wd, r, b, 0, c, 0⟩ = true) (h1 : 0 ≤ r ∧ r ≤ 15) (h2 : 0 ≤ b ∧ b ≤ 15) (hc : smK c = true) : ReIs ⟨3, wd, r, b, 0, c, 0⟩ w := by
  have e0 : enS ⟨3, wd, r, b, 0, c, 0⟩ = enc ⟨3, wd, r, b, 0, c, 0⟩ := by simp [enS, hx]
  have e1 : reB ⟨3, wd, r, b, 0, c, 0⟩ = true := hx
  unfold ReIs
  rw [e0, e1]
  simp only [xv]
  have RI := hide (fun U => rright_is 3 wd r b 0 c 0 U hx)
  obtain ⟨hc0, hc1⟩ := sm_bd15 hc
  obtain ⟨r0, r1⟩ := h1
  obtain ⟨b0, b1⟩ := h2
  have wr0 : IntKind.i64.wrap (8 * c) = 8 * c := by rw [IntKind.wrap_i64]; omega
  have wr1 : IntKind.i64.wrap (8 * c + 1) = 8 * c + 1 := by rw [IntKind.wrap_i64]; omega
  have z0 : ¬ 9223372036854775807 < (str (pre (rxb wd r 0 b)) : ByteArray).size + (str [by8 (8 * c + 1)] : ByteArray).size := by simp only [cat_size, sz_str, sz_lit, List.length_cons, List.length_nil, bys_len]; have q1 := pre_len (rxb wd r 0 b); omega
  have y0 : ¬ 9223372036854775807 < (str (pre (rxb wd r 0 b)) : ByteArray).size + (str [by8 (8 * c + 1)] : ByteArray).size := by simp only [cat_size, sz_str, sz_lit, List.length_cons, List.length_nil, bys_len]; have q1 := pre_len (rxb wd r 0 b); omega
  have z1 : ¬ 9223372036854775807 < (str (pre (rxb wd r 0 b)) ++ str [by8 (8 * c + 1)] : ByteArray).size + (str [by8 (mri 3 r b)] : ByteArray).size := by simp only [cat_size, sz_str, sz_lit, List.length_cons, List.length_nil, bys_len]; have q1 := pre_len (rxb wd r 0 b); omega
  have y1 : ¬ 9223372036854775807 < (str (pre (rxb wd r 0 b)) : ByteArray).size + (str [by8 (8 * c + 1)] : ByteArray).size + (str [by8 (mri 3 r b)] : ByteArray).size := by simp only [cat_size, sz_str, sz_lit, List.length_cons, List.length_nil, bys_len]; have q1 := pre_len (rxb wd r 0 b); omega
  have v1 : ¬ 9223372036854775807 < (str (pre (rxb wd r 0 b)) ++ str [by8 (8 * c + 1)] : ByteArray).size + (str [by8 (mri 3 r b)] : ByteArray).size := by simp only [cat_size, sz_str, sz_lit, List.length_cons, List.length_nil, bys_len]; have q1 := pre_len (rxb wd r 0 b); omega
  have HE : Hid ((str (pre (rxb wd r 0 b)) ++ str [by8 (8 * c + 1)] ++ str [by8 (mri 3 r b)] : ByteArray) = str (enc ⟨3, wd, r, b, 0, c, 0⟩)) := by
    show _ = _
    rcases sm_cases hc with rfl | rfl | rfl | rfl | rfl | rfl <;> (simp only [lit_str, str_app]; first | rfl | (apply congrArg str; simp [enc, rx, mrs, nmb, fR2, fRR, fB, fP, h32, mid, cod, two, by8]; done) | (apply congrArg str; simp [enc, rx, mrs, nmb, fR2, fRR, fB, fP, h32, mid, cod, two, by8]; rfl))
  obtain ⟨W, hW⟩ : ∃ W, W = w.alloc (.cells #[.int .i64 3, .bool wd, .int .i64 r, .int .i64 b, .int .i64 0, .int .i64 c, .int .i64 0] 40) := ⟨_, rfl⟩
  have B0 : Bx w.heap.size ⟨3, wd, r, b, 0, c, 0⟩ W := by rw [hW]; exact Bx.made w ⟨3, wd, r, b, 0, c, 0⟩
  have W0 : Below w.heap.size w W := by rw [hW]; exact bel_one _ _
  clear hx e0 e1
  go_enter Try.func22, Try.ntmps22
  go_wp2_with fail
  rw [← hW]
  refine (RI.out _).mono ?_
  clear hW
  rintro e w1 ⟨rfl, hb1⟩
  have B1 := Bx.draw hb1 B0
  have W1 := bel_tr W0 hb1
  clear hb1 B0 W0
  obtain ⟨x0, x1, x2, x3, x4, x5, x6⟩ := B1.cells
  dsimp only at x0 x1 x2 x3 x4 x5 x6
  go_wp2_with (first | (go_at_call 33; refine (rrex_any _ _ _ _ _).mono ?_; rintro e w2 ⟨rfl, hb2⟩; have B2 : Bx w.heap.size ⟨3, wd, r, b, 0, c, 0⟩ w2 := (by first | exact Bx.draw hb2 (by assumption) | exact Bx.draw2 hb2 (by assumption)); have W2 : Below w.heap.size w w2 := (by first | exact bel_draw' hb2 (by assumption) | exact bel_draw2 hb2 (by assumption)); obtain ⟨x0, x1, x2, x3, x4, x5, x6⟩ := B2.cells; (dsimp only at x0 x1 x2 x3 x4 x5 x6)) | (go_at_call 34; refine (rmr_any _ _ _ _ ?ha ?hb ?hc ?hd).mono ?_; (case ha => decide); (case hb => decide); (case hc => first | assumption | decide); (case hd => first | assumption | decide); rintro e w2 ⟨rfl, hb2⟩; have B2 : Bx w.heap.size ⟨3, wd, r, b, 0, c, 0⟩ w2 := (by first | exact Bx.draw hb2 (by assumption) | exact Bx.draw2 hb2 (by assumption)); have W2 : Below w.heap.size w w2 := (by first | exact bel_draw' hb2 (by assumption) | exact bel_draw2 hb2 (by assumption)); obtain ⟨x0, x1, x2, x3, x4, x5, x6⟩ := B2.cells; (dsimp only at x0 x1 x2 x3 x4 x5 x6)) | (go_at_call 35; refine (rone_any _ _).mono ?_; rintro e w2 ⟨rfl, hb2⟩; have B2 : Bx w.heap.size ⟨3, wd, r, b, 0, c, 0⟩ w2 := (by first | exact Bx.draw hb2 (by assumption) | exact Bx.draw2 hb2 (by assumption)); have W2 : Below w.heap.size w w2 := (by first | exact bel_draw' hb2 (by assumption) | exact bel_draw2 hb2 (by assumption)); obtain ⟨x0, x1, x2, x3, x4, x5, x6⟩ := B2.cells; (dsimp only at x0 x1 x2 x3 x4 x5 x6)))
  go_region_held3 (fun X => X.cell? ⟨w.heap.size, 0, none⟩ = some (.int .i64 3) ∧ X.cell? ⟨w.heap.size, 1, none⟩ = some (.bool wd) ∧ X.cell? ⟨w.heap.size, 2, none⟩ = some (.int .i64 r) ∧ X.cell? ⟨w.heap.size, 3, none⟩ = some (.int .i64 b) ∧ X.cell? ⟨w.heap.size, 4, none⟩ = some (.int .i64 0) ∧ X.cell? ⟨w.heap.size, 5, none⟩ = some (.int .i64 c) ∧ X.cell? ⟨w.heap.size, 6, none⟩ = some (.int .i64 0)) (go_keep)
    (first | (go_at_call 33; refine (rrex_any _ _ _ _ _).mono ?_; rintro e w2 ⟨rfl, hb2⟩; have B2 : Bx w.heap.size ⟨3, wd, r, b, 0, c, 0⟩ w2 := (by first | exact Bx.draw hb2 (by assumption) | exact Bx.draw2 hb2 (by assumption)); have W2 : Below w.heap.size w w2 := (by first | exact bel_draw' hb2 (by assumption) | exact bel_draw2 hb2 (by assumption)); obtain ⟨x0, x1, x2, x3, x4, x5, x6⟩ := B2.cells; (dsimp only at x0 x1 x2 x3 x4 x5 x6)) | (go_at_call 34; refine (rmr_any _ _ _ _ ?ha ?hb ?hc ?hd).mono ?_; (case ha => decide); (case hb => decide); (case hc => first | assumption | decide); (case hd => first | assumption | decide); rintro e w2 ⟨rfl, hb2⟩; have B2 : Bx w.heap.size ⟨3, wd, r, b, 0, c, 0⟩ w2 := (by first | exact Bx.draw hb2 (by assumption) | exact Bx.draw2 hb2 (by assumption)); have W2 : Below w.heap.size w w2 := (by first | exact bel_draw' hb2 (by assumption) | exact bel_draw2 hb2 (by assumption)); obtain ⟨x0, x1, x2, x3, x4, x5, x6⟩ := B2.cells; (dsimp only at x0 x1 x2 x3 x4 x5 x6)) | (go_at_call 35; refine (rone_any _ _).mono ?_; rintro e w2 ⟨rfl, hb2⟩; have B2 : Bx w.heap.size ⟨3, wd, r, b, 0, c, 0⟩ w2 := (by first | exact Bx.draw hb2 (by assumption) | exact Bx.draw2 hb2 (by assumption)); have W2 : Below w.heap.size w w2 := (by first | exact bel_draw' hb2 (by assumption) | exact bel_draw2 hb2 (by assumption)); obtain ⟨x0, x1, x2, x3, x4, x5, x6⟩ := B2.cells; (dsimp only at x0 x1 x2 x3 x4 x5 x6)))
  go_wp2_with (first | (go_at_call 33; refine (rrex_any _ _ _ _ _).mono ?_; rintro e w2 ⟨rfl, hb2⟩; have B2 : Bx w.heap.size ⟨3, wd, r, b, 0, c, 0⟩ w2 := (by first | exact Bx.draw hb2 (by assumption) | exact Bx.draw2 hb2 (by assumption)); have W2 : Below w.heap.size w w2 := (by first | exact bel_draw' hb2 (by assumption) | exact bel_draw2 hb2 (by assumption)); obtain ⟨x0, x1, x2, x3, x4, x5, x6⟩ := B2.cells; (dsimp only at x0 x1 x2 x3 x4 x5 x6)) | (go_at_call 34; refine (rmr_any _ _ _ _ ?ha ?hb ?hc ?hd).mono ?_; (case ha => decide); (case hb => decide); (case hc => first | assumption | decide); (case hd => first | assumption | decide); rintro e w2 ⟨rfl, hb2⟩; have B2 : Bx w.heap.size ⟨3, wd, r, b, 0, c, 0⟩ w2 := (by first | exact Bx.draw hb2 (by assumption) | exact Bx.draw2 hb2 (by assumption)); have W2 : Below w.heap.size w w2 := (by first | exact bel_draw' hb2 (by assumption) | exact bel_draw2 hb2 (by assumption)); obtain ⟨x0, x1, x2, x3, x4, x5, x6⟩ := B2.cells; (dsimp only at x0 x1 x2 x3 x4 x5 x6)) | (go_at_call 35; refine (rone_any _ _).mono ?_; rintro e w2 ⟨rfl, hb2⟩; have B2 : Bx w.heap.size ⟨3, wd, r, b, 0, c, 0⟩ w2 := (by first | exact Bx.draw hb2 (by assumption) | exact Bx.draw2 hb2 (by assumption)); have W2 : Below w.heap.size w w2 := (by first | exact bel_draw' hb2 (by assumption) | exact bel_draw2 hb2 (by assumption)); obtain ⟨x0, x1, x2, x3, x4, x5, x6⟩ := B2.cells; (dsimp only at x0 x1 x2 x3 x4 x5 x6)))
  go_ret2
  exact ⟨ret_sb HE.out, by assumption⟩
set_option maxRecDepth 100000 in
set_option maxHeartbeats 8000000 in
theorem renc_4 (wd : Bool) (b c n : Int) (w : World) (hx : rt ⟨4, wd, 0, b, 0, c, n⟩ = true) (h2 : 0 ≤ b ∧ b ≤ 15) (hc : smK c = true) (hs : s32 n = true) : ReIs ⟨4, wd, 0, b, 0, c, n⟩ w := by
  have e0 : enS ⟨4, wd, 0, b, 0, c, n⟩ = enc ⟨4, wd, 0, b, 0, c, n⟩ := by simp [enS, hx]
  have e1 : reB ⟨4, wd, 0, b, 0, c, n⟩ = true := hx
  unfold ReIs
  rw [e0, e1]
  simp only [xv]
  have RI := hide (fun U => rright_is 4 wd 0 b 0 c n U hx)
  obtain ⟨hc0, hc1⟩ := sm_bd15 hc
  obtain ⟨b0, b1⟩ := h2
  have hn' : I64 n := s32_64 hs
  have z0 : ¬ 9223372036854775807 < (str (pre (rxb wd 0 0 b)) : ByteArray).size + (⟨#[129]⟩ : ByteArray).size := by simp only [cat_size, sz_str, sz_lit, List.length_cons, List.length_nil, bys_len]; have q1 := pre_len (rxb wd 0 0 b); omega
  have y0 : ¬ 9223372036854775807 < (str (pre (rxb wd 0 0 b)) : ByteArray).size + 1 := by simp only [cat_size, sz_str, sz_lit, List.length_cons, List.length_nil, bys_len]; have q1 := pre_len (rxb wd 0 0 b); omega
  have z1 : ¬ 9223372036854775807 < (str (pre (rxb wd 0 0 b)) ++ ⟨#[129]⟩ : ByteArray).size + (str [by8 (mri 3 c b)] : ByteArray).size := by simp only [cat_size, sz_str, sz_lit, List.length_cons, List.length_nil, bys_len]; have q1 := pre_len (rxb wd 0 0 b); omega
  have y1 : ¬ 9223372036854775807 < (str (pre (rxb wd 0 0 b)) : ByteArray).size + 1 + (str [by8 (mri 3 c b)] : ByteArray).size := by simp only [cat_size, sz_str, sz_lit, List.length_cons, List.length_nil, bys_len]; have q1 := pre_len (rxb wd 0 0 b); omega
  have v1 : ¬ 9223372036854775807 < (str (pre (rxb wd 0 0 b)) ++ ⟨#[129]⟩ : ByteArray).size + (str [by8 (mri 3 c b)] : ByteArray).size := by simp only [cat_size, sz_str, sz_lit, List.length_cons, List.length_nil, bys_len]; have q1 := pre_len (rxb wd 0 0 b); omega
  have z2 : ¬ 9223372036854775807 < (str (pre (rxb wd 0 0 b)) ++ ⟨#[129]⟩ ++ str [by8 (mri 3 c b)] : ByteArray).size + (str (bys 4 n) : ByteArray).size := by simp only [cat_size, sz_str, sz_lit, List.length_cons, List.length_nil, bys_len]; have q1 := pre_len (rxb wd 0 0 b); omega
  have y2 : ¬ 9223372036854775807 < (str (pre (rxb wd 0 0 b)) : ByteArray).size + 1 + (str [by8 (mri 3 c b)] : ByteArray).size + (str (bys 4 n) : ByteArray).size := by simp only [cat_size, sz_str, sz_lit, List.length_cons, List.length_nil, bys_len]; have q1 := pre_len (rxb wd 0 0 b); omega
  have v2 : ¬ 9223372036854775807 < (str (pre (rxb wd 0 0 b)) ++ ⟨#[129]⟩ ++ str [by8 (mri 3 c b)] : ByteArray).size + (str (bys 4 n) : ByteArray).size := by simp only [cat_size, sz_str, sz_lit, List.length_cons, List.length_nil, bys_len]; have q1 := pre_len (rxb wd 0 0 b); omega
  have HE : Hid ((str (pre (rxb wd 0 0 b)) ++ ⟨#[129]⟩ ++ str [by8 (mri 3 c b)] ++ str (bys 4 n) : ByteArray) = str (enc ⟨4, wd, 0, b, 0, c, n⟩)) := by
    show _ = _
    simp only [lit_str, str_app]
    first | rfl | (apply congrArg str; simp [enc, rx, mrs, nmb, fR2, fRR, fB, fP, h32, mid, cod, two, by8, rxb_mid (show c ≤ 7 from (sm_bd hc).2)]; done) | (apply congrArg str; simp [enc, rx, mrs, nmb, fR2, fRR, fB, fP, h32, mid, cod, two, by8, rxb_mid (show c ≤ 7 from (sm_bd hc).2)]; rfl)
  obtain ⟨W, hW⟩ : ∃ W, W = w.alloc (.cells #[.int .i64 4, .bool wd, .int .i64 0, .int .i64 b, .int .i64 0, .int .i64 c, .int .i64 n] 40) := ⟨_, rfl⟩
  have B0 : Bx w.heap.size ⟨4, wd, 0, b, 0, c, n⟩ W := by rw [hW]; exact Bx.made w ⟨4, wd, 0, b, 0, c, n⟩
  have W0 : Below w.heap.size w W := by rw [hW]; exact bel_one _ _
  clear hx e0 e1
  go_enter Try.func22, Try.ntmps22
  go_wp2_with fail
  rw [← hW]
  refine (RI.out _).mono ?_
  clear hW
  rintro e w1 ⟨rfl, hb1⟩
  have B1 := Bx.draw hb1 B0
  have W1 := bel_tr W0 hb1
  clear hb1 B0 W0
  obtain ⟨x0, x1, x2, x3, x4, x5, x6⟩ := B1.cells
  dsimp only at x0 x1 x2 x3 x4 x5 x6
  go_wp2_with (first | (go_at_call 33; refine (rrex_any _ _ _ _ _).mono ?_; rintro e w2 ⟨rfl, hb2⟩; have B2 : Bx w.heap.size ⟨4, wd, 0, b, 0, c, n⟩ w2 := (by first | exact Bx.draw hb2 (by assumption) | exact Bx.draw2 hb2 (by assumption)); have W2 : Below w.heap.size w w2 := (by first | exact bel_draw' hb2 (by assumption) | exact bel_draw2 hb2 (by assumption)); obtain ⟨x0, x1, x2, x3, x4, x5, x6⟩ := B2.cells; (dsimp only at x0 x1 x2 x3 x4 x5 x6)) | (go_at_call 34; refine (rmr_any _ _ _ _ ?ha ?hb ?hc ?hd).mono ?_; (case ha => decide); (case hb => decide); (case hc => first | assumption | decide); (case hd => first | assumption | decide); rintro e w2 ⟨rfl, hb2⟩; have B2 : Bx w.heap.size ⟨4, wd, 0, b, 0, c, n⟩ w2 := (by first | exact Bx.draw hb2 (by assumption) | exact Bx.draw2 hb2 (by assumption)); have W2 : Below w.heap.size w w2 := (by first | exact bel_draw' hb2 (by assumption) | exact bel_draw2 hb2 (by assumption)); obtain ⟨x0, x1, x2, x3, x4, x5, x6⟩ := B2.cells; (dsimp only at x0 x1 x2 x3 x4 x5 x6)) | (go_at_call 36; refine (rnum_4 _ _ ?hn).mono ?_; (case hn => assumption); rintro e w2 ⟨rfl, hb2⟩; have B2 : Bx w.heap.size ⟨4, wd, 0, b, 0, c, n⟩ w2 := (by first | exact Bx.draw hb2 (by assumption) | exact Bx.draw2 hb2 (by assumption)); have W2 : Below w.heap.size w w2 := (by first | exact bel_draw' hb2 (by assumption) | exact bel_draw2 hb2 (by assumption)); obtain ⟨x0, x1, x2, x3, x4, x5, x6⟩ := B2.cells; (dsimp only at x0 x1 x2 x3 x4 x5 x6)))
  go_region_held3 (fun X => X.cell? ⟨w.heap.size, 0, none⟩ = some (.int .i64 4) ∧ X.cell? ⟨w.heap.size, 1, none⟩ = some (.bool wd) ∧ X.cell? ⟨w.heap.size, 2, none⟩ = some (.int .i64 0) ∧ X.cell? ⟨w.heap.size, 3, none⟩ = some (.int .i64 b) ∧ X.cell? ⟨w.heap.size, 4, none⟩ = some (.int .i64 0) ∧ X.cell? ⟨w.heap.size, 5, none⟩ = some (.int .i64 c) ∧ X.cell? ⟨w.heap.size, 6, none⟩ = some (.int .i64 n)) (go_keep)
    (first | (go_at_call 33; refine (rrex_any _ _ _ _ _).mono ?_; rintro e w2 ⟨rfl, hb2⟩; have B2 : Bx w.heap.size ⟨4, wd, 0, b, 0, c, n⟩ w2 := (by first | exact Bx.draw hb2 (by assumption) | exact Bx.draw2 hb2 (by assumption)); have W2 : Below w.heap.size w w2 := (by first | exact bel_draw' hb2 (by assumption) | exact bel_draw2 hb2 (by assumption)); obtain ⟨x0, x1, x2, x3, x4, x5, x6⟩ := B2.cells; (dsimp only at x0 x1 x2 x3 x4 x5 x6)) | (go_at_call 34; refine (rmr_any _ _ _ _ ?ha ?hb ?hc ?hd).mono ?_; (case ha => decide); (case hb => decide); (case hc => first | assumption | decide); (case hd => first | assumption | decide); rintro e w2 ⟨rfl, hb2⟩; have B2 : Bx w.heap.size ⟨4, wd, 0, b, 0, c, n⟩ w2 := (by first | exact Bx.draw hb2 (by assumption) | exact Bx.draw2 hb2 (by assumption)); have W2 : Below w.heap.size w w2 := (by first | exact bel_draw' hb2 (by assumption) | exact bel_draw2 hb2 (by assumption)); obtain ⟨x0, x1, x2, x3, x4, x5, x6⟩ := B2.cells; (dsimp only at x0 x1 x2 x3 x4 x5 x6)) | (go_at_call 36; refine (rnum_4 _ _ ?hn).mono ?_; (case hn => assumption); rintro e w2 ⟨rfl, hb2⟩; have B2 : Bx w.heap.size ⟨4, wd, 0, b, 0, c, n⟩ w2 := (by first | exact Bx.draw hb2 (by assumption) | exact Bx.draw2 hb2 (by assumption)); have W2 : Below w.heap.size w w2 := (by first | exact bel_draw' hb2 (by assumption) | exact bel_draw2 hb2 (by assumption)); obtain ⟨x0, x1, x2, x3, x4, x5, x6⟩ := B2.cells; (dsimp only at x0 x1 x2 x3 x4 x5 x6)))
  go_wp2_with (first | (go_at_call 33; refine (rrex_any _ _ _ _ _).mono ?_; rintro e w2 ⟨rfl, hb2⟩; have B2 : Bx w.heap.size ⟨4, wd, 0, b, 0, c, n⟩ w2 := (by first | exact Bx.draw hb2 (by assumption) | exact Bx.draw2 hb2 (by assumption)); have W2 : Below w.heap.size w w2 := (by first | exact bel_draw' hb2 (by assumption) | exact bel_draw2 hb2 (by assumption)); obtain ⟨x0, x1, x2, x3, x4, x5, x6⟩ := B2.cells; (dsimp only at x0 x1 x2 x3 x4 x5 x6)) | (go_at_call 34; refine (rmr_any _ _ _ _ ?ha ?hb ?hc ?hd).mono ?_; (case ha => decide); (case hb => decide); (case hc => first | assumption | decide); (case hd => first | assumption | decide); rintro e w2 ⟨rfl, hb2⟩; have B2 : Bx w.heap.size ⟨4, wd, 0, b, 0, c, n⟩ w2 := (by first | exact Bx.draw hb2 (by assumption) | exact Bx.draw2 hb2 (by assumption)); have W2 : Below w.heap.size w w2 := (by first | exact bel_draw' hb2 (by assumption) | exact bel_draw2 hb2 (by assumption)); obtain ⟨x0, x1, x2, x3, x4, x5, x6⟩ := B2.cells; (dsimp only at x0 x1 x2 x3 x4 x5 x6)) | (go_at_call 36; refine (rnum_4 _ _ ?hn).mono ?_; (case hn => assumption); rintro e w2 ⟨rfl, hb2⟩; have B2 : Bx w.heap.size ⟨4, wd, 0, b, 0, c, n⟩ w2 := (by first | exact Bx.draw hb2 (by assumption) | exact Bx.draw2 hb2 (by assumption)); have W2 : Below w.heap.size w w2 := (by first | exact bel_draw' hb2 (by assumption) | exact bel_draw2 hb2 (by assumption)); obtain ⟨x0, x1, x2, x3, x4, x5, x6⟩ := B2.cells; (dsimp only at x0 x1 x2 x3 x4 x5 x6)))
  go_ret2
  exact ⟨ret_sb HE.out, by assumption⟩
set_option maxRecDepth 100000 in
set_option maxHeartbeats 8000000 in
theorem renc_17 (n : Int) (w : World) (hx : rt ⟨17, false, 0, 0, 0, 0, n⟩ = true) (hs : s32 n = true) : ReIs ⟨17, false, 0, 0, 0, 0, n⟩ w := by
  have e0 : enS ⟨17, false, 0, 0, 0, 0, n⟩ = enc ⟨17, false, 0, 0, 0, 0, n⟩ := by simp [enS, hx]
  have e1 : reB ⟨17, false, 0, 0, 0, 0, n⟩ = true := hx
  unfold ReIs
  rw [e0, e1]
  simp only [xv]
  have RI := hide (fun U => rright_is 17 false 0 0 0 0 n U hx)
  have hn' : I64 n := s32_64 hs
  have z0 : ¬ 9223372036854775807 < (⟨#[233]⟩ : ByteArray).size + (str (bys 4 n) : ByteArray).size := by simp only [cat_size, sz_str, sz_lit, List.length_cons, List.length_nil, bys_len]; have q1 := pre_len (rxb false 0 0 0); omega
  have y0 : ¬ 9223372036854775807 < 1 + (str (bys 4 n) : ByteArray).size := by simp only [cat_size, sz_str, sz_lit, List.length_cons, List.length_nil, bys_len]; have q1 := pre_len (rxb false 0 0 0); omega
  have HE : Hid ((⟨#[233]⟩ ++ str (bys 4 n) : ByteArray) = str (enc ⟨17, false, 0, 0, 0, 0, n⟩)) := by
    show _ = _
    simp only [lit_str, str_app]
    first | rfl | (apply congrArg str; simp [enc, rx, mrs, nmb, fR2, fRR, fB, fP, h32, mid, cod, two, by8, pre, rxb, up]; done) | (apply congrArg str; simp [enc, rx, mrs, nmb, fR2, fRR, fB, fP, h32, mid, cod, two, by8, pre, rxb, up]; rfl)
  obtain ⟨W, hW⟩ : ∃ W, W = w.alloc (.cells #[.int .i64 17, .bool false, .int .i64 0, .int .i64 0, .int .i64 0, .int .i64 0, .int .i64 n] 40) := ⟨_, rfl⟩
  have B0 : Bx w.heap.size ⟨17, false, 0, 0, 0, 0, n⟩ W := by rw [hW]; exact Bx.made w ⟨17, false, 0, 0, 0, 0, n⟩
  have W0 : Below w.heap.size w W := by rw [hW]; exact bel_one _ _
  clear hx e0 e1
  go_enter Try.func22, Try.ntmps22
  go_wp2_with fail
  rw [← hW]
  refine (RI.out _).mono ?_
  clear hW
  rintro e w1 ⟨rfl, hb1⟩
  have B1 := Bx.draw hb1 B0
  have W1 := bel_tr W0 hb1
  clear hb1 B0 W0
  obtain ⟨x0, x1, x2, x3, x4, x5, x6⟩ := B1.cells
  dsimp only at x0 x1 x2 x3 x4 x5 x6
  go_wp2_with (first | (go_at_call 33; refine (rrex_any _ _ _ _ _).mono ?_; rintro e w2 ⟨rfl, hb2⟩; have B2 : Bx w.heap.size ⟨17, false, 0, 0, 0, 0, n⟩ w2 := (by first | exact Bx.draw hb2 (by assumption) | exact Bx.draw2 hb2 (by assumption)); have W2 : Below w.heap.size w w2 := (by first | exact bel_draw' hb2 (by assumption) | exact bel_draw2 hb2 (by assumption)); obtain ⟨x0, x1, x2, x3, x4, x5, x6⟩ := B2.cells; (dsimp only at x0 x1 x2 x3 x4 x5 x6)) | (go_at_call 36; refine (rnum_4 _ _ ?hn).mono ?_; (case hn => assumption); rintro e w2 ⟨rfl, hb2⟩; have B2 : Bx w.heap.size ⟨17, false, 0, 0, 0, 0, n⟩ w2 := (by first | exact Bx.draw hb2 (by assumption) | exact Bx.draw2 hb2 (by assumption)); have W2 : Below w.heap.size w w2 := (by first | exact bel_draw' hb2 (by assumption) | exact bel_draw2 hb2 (by assumption)); obtain ⟨x0, x1, x2, x3, x4, x5, x6⟩ := B2.cells; (dsimp only at x0 x1 x2 x3 x4 x5 x6)))
  go_ret2
  exact ⟨ret_sb HE.out, by assumption⟩
set_option maxRecDepth 100000 in
set_option maxHeartbeats 8000000 in
theorem renc_21  (w : World) (hx : rt ⟨21, false, 0, 0, 0, 0, 0⟩ = true)  : ReIs ⟨21, false, 0, 0, 0, 0, 0⟩ w := by
  have e0 : enS ⟨21, false, 0, 0, 0, 0, 0⟩ = enc ⟨21, false, 0, 0, 0, 0, 0⟩ := by simp [enS, hx]
  have e1 : reB ⟨21, false, 0, 0, 0, 0, 0⟩ = true := hx
  unfold ReIs
  rw [e0, e1]
  simp only [xv]
  have RI := hide (fun U => rright_is 21 false 0 0 0 0 0 U hx)
  have HE : Hid ((⟨#[244]⟩ : ByteArray) = str (enc ⟨21, false, 0, 0, 0, 0, 0⟩)) := by
    show _ = _
    simp only [lit_str, str_app]
    first | rfl | (apply congrArg str; simp [enc, rx, mrs, nmb, fR2, fRR, fB, fP, h32, mid, cod, two, by8, pre, rxb, up]; done) | (apply congrArg str; simp [enc, rx, mrs, nmb, fR2, fRR, fB, fP, h32, mid, cod, two, by8, pre, rxb, up]; rfl)
  obtain ⟨W, hW⟩ : ∃ W, W = w.alloc (.cells #[.int .i64 21, .bool false, .int .i64 0, .int .i64 0, .int .i64 0, .int .i64 0, .int .i64 0] 40) := ⟨_, rfl⟩
  have B0 : Bx w.heap.size ⟨21, false, 0, 0, 0, 0, 0⟩ W := by rw [hW]; exact Bx.made w ⟨21, false, 0, 0, 0, 0, 0⟩
  have W0 : Below w.heap.size w W := by rw [hW]; exact bel_one _ _
  clear hx e0 e1
  go_enter Try.func22, Try.ntmps22
  go_wp2_with fail
  rw [← hW]
  refine (RI.out _).mono ?_
  clear hW
  rintro e w1 ⟨rfl, hb1⟩
  have B1 := Bx.draw hb1 B0
  have W1 := bel_tr W0 hb1
  clear hb1 B0 W0
  obtain ⟨x0, x1, x2, x3, x4, x5, x6⟩ := B1.cells
  dsimp only at x0 x1 x2 x3 x4 x5 x6
  go_wp2_with (first | (go_at_call 33; refine (rrex_any _ _ _ _ _).mono ?_; rintro e w2 ⟨rfl, hb2⟩; have B2 : Bx w.heap.size ⟨21, false, 0, 0, 0, 0, 0⟩ w2 := (by first | exact Bx.draw hb2 (by assumption) | exact Bx.draw2 hb2 (by assumption)); have W2 : Below w.heap.size w w2 := (by first | exact bel_draw' hb2 (by assumption) | exact bel_draw2 hb2 (by assumption)); obtain ⟨x0, x1, x2, x3, x4, x5, x6⟩ := B2.cells; (dsimp only at x0 x1 x2 x3 x4 x5 x6)))
  go_ret2
  exact ⟨ret_sb HE.out, by assumption⟩
end Go.Proofs.Ytookbgnidinkoaa.Xc
/-
  The walks of the document's Encode: load, test, stop.
-/
namespace Go.Proofs.Ytookbgnidinkoaa.Xc
open Go.RowKit
set_option linter.unusedSimpArgs false
set_option linter.unusedVariables false
attribute [local go_sem ↓] Go.wp_at_zero Go.wp_at_succ

set_option maxRecDepth 100000 in
set_option maxHeartbeats 8000000 in
theorem renc_11z (wd : Bool) (r b n : Int) (w : World) (hx : rt ⟨11, wd, r, b, 0, 0, n⟩ = true) (h1 : 0 ≤ r ∧ r ≤ 15) (h2 : 0 ≤ b ∧ b ≤ 15) (hs : s32 n = true) : ReIs ⟨11, wd, r, b, 0, 0, n⟩ w := by
  have e0 : enS ⟨11, wd, r, b, 0, 0, n⟩ = enc ⟨11, wd, r, b, 0, 0, n⟩ := by simp [enS, hx]
  have e1 : reB ⟨11, wd, r, b, 0, 0, n⟩ = true := hx
  unfold ReIs
  rw [e0, e1]
  simp only [xv]
  have RI := hide (fun U => rright_is 11 wd r b 0 0 n U hx)
  have hix : inx 0 = 4 := rfl
  obtain ⟨r0, r1⟩ := h1
  obtain ⟨b0, b1⟩ := h2
  have hn' : I64 n := s32_64 hs
  have z0 : ¬ 9223372036854775807 < (str (pre (rxb wd r 4 b)) : ByteArray).size + (⟨#[139]⟩ : ByteArray).size := by simp only [cat_size, sz_str, sz_lit, List.length_cons, List.length_nil, bys_len]; have q1 := pre_len (rxb wd r 4 b); omega
  have y0 : ¬ 9223372036854775807 < (str (pre (rxb wd r 4 b)) : ByteArray).size + 1 := by simp only [cat_size, sz_str, sz_lit, List.length_cons, List.length_nil, bys_len]; have q1 := pre_len (rxb wd r 4 b); omega
  have z1 : ¬ 9223372036854775807 < (str (pre (rxb wd r 4 b)) ++ ⟨#[139]⟩ : ByteArray).size + (str [by8 (mri 2 r 4)] : ByteArray).size := by simp only [cat_size, sz_str, sz_lit, List.length_cons, List.length_nil, bys_len]; have q1 := pre_len (rxb wd r 4 b); omega
  have y1 : ¬ 9223372036854775807 < (str (pre (rxb wd r 4 b)) : ByteArray).size + 1 + (str [by8 (mri 2 r 4)] : ByteArray).size := by simp only [cat_size, sz_str, sz_lit, List.length_cons, List.length_nil, bys_len]; have q1 := pre_len (rxb wd r 4 b); omega
  have v1 : ¬ 9223372036854775807 < (str (pre (rxb wd r 4 b)) ++ ⟨#[139]⟩ : ByteArray).size + (str [by8 (mri 2 r 4)] : ByteArray).size := by simp only [cat_size, sz_str, sz_lit, List.length_cons, List.length_nil, bys_len]; have q1 := pre_len (rxb wd r 4 b); omega
  have z2 : ¬ 9223372036854775807 < (str (pre (rxb wd r 4 b)) ++ ⟨#[139]⟩ ++ str [by8 (mri 2 r 4)] : ByteArray).size + (str [by8 (mri 0 4 b)] : ByteArray).size := by simp only [cat_size, sz_str, sz_lit, List.length_cons, List.length_nil, bys_len]; have q1 := pre_len (rxb wd r 4 b); omega
  have y2 : ¬ 9223372036854775807 < (str (pre (rxb wd r 4 b)) : ByteArray).size + 1 + (str [by8 (mri 2 r 4)] : ByteArray).size + (str [by8 (mri 0 4 b)] : ByteArray).size := by simp only [cat_size, sz_str, sz_lit, List.length_cons, List.length_nil, bys_len]; have q1 := pre_len (rxb wd r 4 b); omega
  have v2 : ¬ 9223372036854775807 < (str (pre (rxb wd r 4 b)) ++ ⟨#[139]⟩ ++ str [by8 (mri 2 r 4)] : ByteArray).size + (str [by8 (mri 0 4 b)] : ByteArray).size := by simp only [cat_size, sz_str, sz_lit, List.length_cons, List.length_nil, bys_len]; have q1 := pre_len (rxb wd r 4 b); omega
  have z3 : ¬ 9223372036854775807 < (str (pre (rxb wd r 4 b)) ++ ⟨#[139]⟩ ++ str [by8 (mri 2 r 4)] ++ str [by8 (mri 0 4 b)] : ByteArray).size + (str (bys 4 n) : ByteArray).size := by simp only [cat_size, sz_str, sz_lit, List.length_cons, List.length_nil, bys_len]; have q1 := pre_len (rxb wd r 4 b); omega
  have y3 : ¬ 9223372036854775807 < (str (pre (rxb wd r 4 b)) : ByteArray).size + 1 + (str [by8 (mri 2 r 4)] : ByteArray).size + (str [by8 (mri 0 4 b)] : ByteArray).size + (str (bys 4 n) : ByteArray).size := by simp only [cat_size, sz_str, sz_lit, List.length_cons, List.length_nil, bys_len]; have q1 := pre_len (rxb wd r 4 b); omega
  have v3 : ¬ 9223372036854775807 < (str (pre (rxb wd r 4 b)) ++ ⟨#[139]⟩ ++ str [by8 (mri 2 r 4)] ++ str [by8 (mri 0 4 b)] : ByteArray).size + (str (bys 4 n) : ByteArray).size := by simp only [cat_size, sz_str, sz_lit, List.length_cons, List.length_nil, bys_len]; have q1 := pre_len (rxb wd r 4 b); omega
  have HE : Hid ((str (pre (rxb wd r 4 b)) ++ ⟨#[139]⟩ ++ str [by8 (mri 2 r 4)] ++ str [by8 (mri 0 4 b)] ++ str (bys 4 n) : ByteArray) = str (enc ⟨11, wd, r, b, 0, 0, n⟩)) := by
    show _ = _
    simp only [lit_str, str_app]
    first | rfl | (apply congrArg str; simp [enc, rx, mrs, nmb, fR2, fRR, fB, fP, h32, mid, cod, two, by8, hix]; done) | (apply congrArg str; simp [enc, rx, mrs, nmb, fR2, fRR, fB, fP, h32, mid, cod, two, by8, hix]; rfl)
  obtain ⟨W, hW⟩ : ∃ W, W = w.alloc (.cells #[.int .i64 11, .bool wd, .int .i64 r, .int .i64 b, .int .i64 0, .int .i64 0, .int .i64 n] 40) := ⟨_, rfl⟩
  have B0 : Bx w.heap.size ⟨11, wd, r, b, 0, 0, n⟩ W := by rw [hW]; exact Bx.made w ⟨11, wd, r, b, 0, 0, n⟩
  have W0 : Below w.heap.size w W := by rw [hW]; exact bel_one _ _
  clear hx e0 e1
  go_enter Try.func22, Try.ntmps22
  go_wp2_with fail
  rw [← hW]
  refine (RI.out _).mono ?_
  clear hW
  rintro e w1 ⟨rfl, hb1⟩
  have B1 := Bx.draw hb1 B0
  have W1 := bel_tr W0 hb1
  clear hb1 B0 W0
  obtain ⟨x0, x1, x2, x3, x4, x5, x6⟩ := B1.cells
  dsimp only at x0 x1 x2 x3 x4 x5 x6
  go_wp2_with (first | (go_at_call 33; refine (rrex_any _ _ _ _ _).mono ?_; rintro e w2 ⟨rfl, hb2⟩; have B2 : Bx w.heap.size ⟨11, wd, r, b, 0, 0, n⟩ w2 := (by first | exact Bx.draw hb2 (by assumption) | exact Bx.draw2 hb2 (by assumption)); have W2 : Below w.heap.size w w2 := (by first | exact bel_draw' hb2 (by assumption) | exact bel_draw2 hb2 (by assumption)); obtain ⟨x0, x1, x2, x3, x4, x5, x6⟩ := B2.cells; (dsimp only at x0 x1 x2 x3 x4 x5 x6)) | (go_at_call 34; refine (rmr_any _ _ _ _ ?ha ?hb ?hc ?hd).mono ?_; (case ha => decide); (case hb => decide); (case hc => first | assumption | decide); (case hd => first | assumption | decide); rintro e w2 ⟨rfl, hb2⟩; have B2 : Bx w.heap.size ⟨11, wd, r, b, 0, 0, n⟩ w2 := (by first | exact Bx.draw hb2 (by assumption) | exact Bx.draw2 hb2 (by assumption)); have W2 : Below w.heap.size w w2 := (by first | exact bel_draw' hb2 (by assumption) | exact bel_draw2 hb2 (by assumption)); obtain ⟨x0, x1, x2, x3, x4, x5, x6⟩ := B2.cells; (dsimp only at x0 x1 x2 x3 x4 x5 x6)) | (go_at_call 36; refine (rnum_4 _ _ ?hn).mono ?_; (case hn => assumption); rintro e w2 ⟨rfl, hb2⟩; have B2 : Bx w.heap.size ⟨11, wd, r, b, 0, 0, n⟩ w2 := (by first | exact Bx.draw hb2 (by assumption) | exact Bx.draw2 hb2 (by assumption)); have W2 : Below w.heap.size w w2 := (by first | exact bel_draw' hb2 (by assumption) | exact bel_draw2 hb2 (by assumption)); obtain ⟨x0, x1, x2, x3, x4, x5, x6⟩ := B2.cells; (dsimp only at x0 x1 x2 x3 x4 x5 x6)))
  go_region_held3 (fun X => X.cell? ⟨w.heap.size, 0, none⟩ = some (.int .i64 11) ∧ X.cell? ⟨w.heap.size, 1, none⟩ = some (.bool wd) ∧ X.cell? ⟨w.heap.size, 2, none⟩ = some (.int .i64 r) ∧ X.cell? ⟨w.heap.size, 3, none⟩ = some (.int .i64 b) ∧ X.cell? ⟨w.heap.size, 4, none⟩ = some (.int .i64 0) ∧ X.cell? ⟨w.heap.size, 5, none⟩ = some (.int .i64 0) ∧ X.cell? ⟨w.heap.size, 6, none⟩ = some (.int .i64 n)) (go_keep)
    (first | (go_at_call 33; refine (rrex_any _ _ _ _ _).mono ?_; rintro e w2 ⟨rfl, hb2⟩; have B2 : Bx w.heap.size ⟨11, wd, r, b, 0, 0, n⟩ w2 := (by first | exact Bx.draw hb2 (by assumption) | exact Bx.draw2 hb2 (by assumption)); have W2 : Below w.heap.size w w2 := (by first | exact bel_draw' hb2 (by assumption) | exact bel_draw2 hb2 (by assumption)); obtain ⟨x0, x1, x2, x3, x4, x5, x6⟩ := B2.cells; (dsimp only at x0 x1 x2 x3 x4 x5 x6)) | (go_at_call 34; refine (rmr_any _ _ _ _ ?ha ?hb ?hc ?hd).mono ?_; (case ha => decide); (case hb => decide); (case hc => first | assumption | decide); (case hd => first | assumption | decide); rintro e w2 ⟨rfl, hb2⟩; have B2 : Bx w.heap.size ⟨11, wd, r, b, 0, 0, n⟩ w2 := (by first | exact Bx.draw hb2 (by assumption) | exact Bx.draw2 hb2 (by assumption)); have W2 : Below w.heap.size w w2 := (by first | exact bel_draw' hb2 (by assumption) | exact bel_draw2 hb2 (by assumption)); obtain ⟨x0, x1, x2, x3, x4, x5, x6⟩ := B2.cells; (dsimp only at x0 x1 x2 x3 x4 x5 x6)) | (go_at_call 36; refine (rnum_4 _ _ ?hn).mono ?_; (case hn => assumption); rintro e w2 ⟨rfl, hb2⟩; have B2 : Bx w.heap.size ⟨11, wd, r, b, 0, 0, n⟩ w2 := (by first | exact Bx.draw hb2 (by assumption) | exact Bx.draw2 hb2 (by assumption)); have W2 : Below w.heap.size w w2 := (by first | exact bel_draw' hb2 (by assumption) | exact bel_draw2 hb2 (by assumption)); obtain ⟨x0, x1, x2, x3, x4, x5, x6⟩ := B2.cells; (dsimp only at x0 x1 x2 x3 x4 x5 x6)))
  go_wp2_with (first | (go_at_call 33; refine (rrex_any _ _ _ _ _).mono ?_; rintro e w2 ⟨rfl, hb2⟩; have B2 : Bx w.heap.size ⟨11, wd, r, b, 0, 0, n⟩ w2 := (by first | exact Bx.draw hb2 (by assumption) | exact Bx.draw2 hb2 (by assumption)); have W2 : Below w.heap.size w w2 := (by first | exact bel_draw' hb2 (by assumption) | exact bel_draw2 hb2 (by assumption)); obtain ⟨x0, x1, x2, x3, x4, x5, x6⟩ := B2.cells; (dsimp only at x0 x1 x2 x3 x4 x5 x6)) | (go_at_call 34; refine (rmr_any _ _ _ _ ?ha ?hb ?hc ?hd).mono ?_; (case ha => decide); (case hb => decide); (case hc => first | assumption | decide); (case hd => first | assumption | decide); rintro e w2 ⟨rfl, hb2⟩; have B2 : Bx w.heap.size ⟨11, wd, r, b, 0, 0, n⟩ w2 := (by first | exact Bx.draw hb2 (by assumption) | exact Bx.draw2 hb2 (by assumption)); have W2 : Below w.heap.size w w2 := (by first | exact bel_draw' hb2 (by assumption) | exact bel_draw2 hb2 (by assumption)); obtain ⟨x0, x1, x2, x3, x4, x5, x6⟩ := B2.cells; (dsimp only at x0 x1 x2 x3 x4 x5 x6)) | (go_at_call 36; refine (rnum_4 _ _ ?hn).mono ?_; (case hn => assumption); rintro e w2 ⟨rfl, hb2⟩; have B2 : Bx w.heap.size ⟨11, wd, r, b, 0, 0, n⟩ w2 := (by first | exact Bx.draw hb2 (by assumption) | exact Bx.draw2 hb2 (by assumption)); have W2 : Below w.heap.size w w2 := (by first | exact bel_draw' hb2 (by assumption) | exact bel_draw2 hb2 (by assumption)); obtain ⟨x0, x1, x2, x3, x4, x5, x6⟩ := B2.cells; (dsimp only at x0 x1 x2 x3 x4 x5 x6)))
  go_ret2
  exact ⟨ret_sb HE.out, by assumption⟩
set_option maxRecDepth 100000 in
set_option maxHeartbeats 8000000 in
theorem renc_11p (wd : Bool) (r b i n : Int) (w : World) (hx : rt ⟨11, wd, r, b, i, 0, n⟩ = true) (h1 : 0 ≤ r ∧ r ≤ 15) (h2 : 0 ≤ b ∧ b ≤ 15) (h3 : 0 ≤ i ∧ i ≤ 16 ∧ i ≠ 5) (hs : s32 n = true) (hiz : i ≠ 0) : ReIs ⟨11, wd, r, b, i, 0, n⟩ w := by
  have e0 : enS ⟨11, wd, r, b, i, 0, n⟩ = enc ⟨11, wd, r, b, i, 0, n⟩ := by simp [enS, hx]
  have e1 : reB ⟨11, wd, r, b, i, 0, n⟩ = true := hx
  unfold ReIs
  rw [e0, e1]
  simp only [xv]
  have RI := hide (fun U => rright_is 11 wd r b i 0 n U hx)
  obtain ⟨hi0, hi1⟩ := inx_0 h3
  have hix : inx i = i - 1 := by simp [inx, hiz]
  have hie : (i == 0) = false := by simp [hiz]
  rw [hix] at hi0
  obtain ⟨r0, r1⟩ := h1
  obtain ⟨b0, b1⟩ := h2
  obtain ⟨i0, i1, i5⟩ := h3
  have hn' : I64 n := s32_64 hs
  have wr0 : IntKind.i64.wrap (i - 1) = i - 1 := by rw [IntKind.wrap_i64]; omega
  have z0 : ¬ 9223372036854775807 < (str (pre (rxb wd r (i - 1) b)) : ByteArray).size + (⟨#[139]⟩ : ByteArray).size := by simp only [cat_size, sz_str, sz_lit, List.length_cons, List.length_nil, bys_len]; have q1 := pre_len (rxb wd r (i - 1) b); omega
  have y0 : ¬ 9223372036854775807 < (str (pre (rxb wd r (i - 1) b)) : ByteArray).size + 1 := by simp only [cat_size, sz_str, sz_lit, List.length_cons, List.length_nil, bys_len]; have q1 := pre_len (rxb wd r (i - 1) b); omega
  have z1 : ¬ 9223372036854775807 < (str (pre (rxb wd r (i - 1) b)) ++ ⟨#[139]⟩ : ByteArray).size + (str [by8 (mri 2 r 4)] : ByteArray).size := by simp only [cat_size, sz_str, sz_lit, List.length_cons, List.length_nil, bys_len]; have q1 := pre_len (rxb wd r (i - 1) b); omega
  have y1 : ¬ 9223372036854775807 < (str (pre (rxb wd r (i - 1) b)) : ByteArray).size + 1 + (str [by8 (mri 2 r 4)] : ByteArray).size := by simp only [cat_size, sz_str, sz_lit, List.length_cons, List.length_nil, bys_len]; have q1 := pre_len (rxb wd r (i - 1) b); omega
  have v1 : ¬ 9223372036854775807 < (str (pre (rxb wd r (i - 1) b)) ++ ⟨#[139]⟩ : ByteArray).size + (str [by8 (mri 2 r 4)] : ByteArray).size := by simp only [cat_size, sz_str, sz_lit, List.length_cons, List.length_nil, bys_len]; have q1 := pre_len (rxb wd r (i - 1) b); omega
  have z2 : ¬ 9223372036854775807 < (str (pre (rxb wd r (i - 1) b)) ++ ⟨#[139]⟩ ++ str [by8 (mri 2 r 4)] : ByteArray).size + (str [by8 (mri 0 (i - 1) b)] : ByteArray).size := by simp only [cat_size, sz_str, sz_lit, List.length_cons, List.length_nil, bys_len]; have q1 := pre_len (rxb wd r (i - 1) b); omega
  have y2 : ¬ 9223372036854775807 < (str (pre (rxb wd r (i - 1) b)) : ByteArray).size + 1 + (str [by8 (mri 2 r 4)] : ByteArray).size + (str [by8 (mri 0 (i - 1) b)] : ByteArray).size := by simp only [cat_size, sz_str, sz_lit, List.length_cons, List.length_nil, bys_len]; have q1 := pre_len (rxb wd r (i - 1) b); omega
  have v2 : ¬ 9223372036854775807 < (str (pre (rxb wd r (i - 1) b)) ++ ⟨#[139]⟩ ++ str [by8 (mri 2 r 4)] : ByteArray).size + (str [by8 (mri 0 (i - 1) b)] : ByteArray).size := by simp only [cat_size, sz_str, sz_lit, List.length_cons, List.length_nil, bys_len]; have q1 := pre_len (rxb wd r (i - 1) b); omega
  have z3 : ¬ 9223372036854775807 < (str (pre (rxb wd r (i - 1) b)) ++ ⟨#[139]⟩ ++ str [by8 (mri 2 r 4)] ++ str [by8 (mri 0 (i - 1) b)] : ByteArray).size + (str (bys 4 n) : ByteArray).size := by simp only [cat_size, sz_str, sz_lit, List.length_cons, List.length_nil, bys_len]; have q1 := pre_len (rxb wd r (i - 1) b); omega
  have y3 : ¬ 9223372036854775807 < (str (pre (rxb wd r (i - 1) b)) : ByteArray).size + 1 + (str [by8 (mri 2 r 4)] : ByteArray).size + (str [by8 (mri 0 (i - 1) b)] : ByteArray).size + (str (bys 4 n) : ByteArray).size := by simp only [cat_size, sz_str, sz_lit, List.length_cons, List.length_nil, bys_len]; have q1 := pre_len (rxb wd r (i - 1) b); omega
  have v3 : ¬ 9223372036854775807 < (str (pre (rxb wd r (i - 1) b)) ++ ⟨#[139]⟩ ++ str [by8 (mri 2 r 4)] ++ str [by8 (mri 0 (i - 1) b)] : ByteArray).size + (str (bys 4 n) : ByteArray).size := by simp only [cat_size, sz_str, sz_lit, List.length_cons, List.length_nil, bys_len]; have q1 := pre_len (rxb wd r (i - 1) b); omega
  have HE : Hid ((str (pre (rxb wd r (i - 1) b)) ++ ⟨#[139]⟩ ++ str [by8 (mri 2 r 4)] ++ str [by8 (mri 0 (i - 1) b)] ++ str (bys 4 n) : ByteArray) = str (enc ⟨11, wd, r, b, i, 0, n⟩)) := by
    show _ = _
    simp only [lit_str, str_app]
    first | rfl | (apply congrArg str; simp [enc, rx, mrs, nmb, fR2, fRR, fB, fP, h32, mid, cod, two, by8, hix]; done) | (apply congrArg str; simp [enc, rx, mrs, nmb, fR2, fRR, fB, fP, h32, mid, cod, two, by8, hix]; rfl)
  obtain ⟨W, hW⟩ : ∃ W, W = w.alloc (.cells #[.int .i64 11, .bool wd, .int .i64 r, .int .i64 b, .int .i64 i, .int .i64 0, .int .i64 n] 40) := ⟨_, rfl⟩
  have B0 : Bx w.heap.size ⟨11, wd, r, b, i, 0, n⟩ W := by rw [hW]; exact Bx.made w ⟨11, wd, r, b, i, 0, n⟩
  have W0 : Below w.heap.size w W := by rw [hW]; exact bel_one _ _
  clear hx e0 e1
  go_enter Try.func22, Try.ntmps22
  go_wp2_with fail
  rw [← hW]
  refine (RI.out _).mono ?_
  clear hW
  rintro e w1 ⟨rfl, hb1⟩
  have B1 := Bx.draw hb1 B0
  have W1 := bel_tr W0 hb1
  clear hb1 B0 W0
  obtain ⟨x0, x1, x2, x3, x4, x5, x6⟩ := B1.cells
  dsimp only at x0 x1 x2 x3 x4 x5 x6
  go_wp2_with (first | (go_at_call 33; refine (rrex_any _ _ _ _ _).mono ?_; rintro e w2 ⟨rfl, hb2⟩; have B2 : Bx w.heap.size ⟨11, wd, r, b, i, 0, n⟩ w2 := (by first | exact Bx.draw hb2 (by assumption) | exact Bx.draw2 hb2 (by assumption)); have W2 : Below w.heap.size w w2 := (by first | exact bel_draw' hb2 (by assumption) | exact bel_draw2 hb2 (by assumption)); obtain ⟨x0, x1, x2, x3, x4, x5, x6⟩ := B2.cells; (dsimp only at x0 x1 x2 x3 x4 x5 x6)) | (go_at_call 34; refine (rmr_any _ _ _ _ ?ha ?hb ?hc ?hd).mono ?_; (case ha => decide); (case hb => decide); (case hc => first | assumption | decide); (case hd => first | assumption | decide); rintro e w2 ⟨rfl, hb2⟩; have B2 : Bx w.heap.size ⟨11, wd, r, b, i, 0, n⟩ w2 := (by first | exact Bx.draw hb2 (by assumption) | exact Bx.draw2 hb2 (by assumption)); have W2 : Below w.heap.size w w2 := (by first | exact bel_draw' hb2 (by assumption) | exact bel_draw2 hb2 (by assumption)); obtain ⟨x0, x1, x2, x3, x4, x5, x6⟩ := B2.cells; (dsimp only at x0 x1 x2 x3 x4 x5 x6)) | (go_at_call 36; refine (rnum_4 _ _ ?hn).mono ?_; (case hn => assumption); rintro e w2 ⟨rfl, hb2⟩; have B2 : Bx w.heap.size ⟨11, wd, r, b, i, 0, n⟩ w2 := (by first | exact Bx.draw hb2 (by assumption) | exact Bx.draw2 hb2 (by assumption)); have W2 : Below w.heap.size w w2 := (by first | exact bel_draw' hb2 (by assumption) | exact bel_draw2 hb2 (by assumption)); obtain ⟨x0, x1, x2, x3, x4, x5, x6⟩ := B2.cells; (dsimp only at x0 x1 x2 x3 x4 x5 x6)))
  go_region_held3 (fun X => X.cell? ⟨w.heap.size, 0, none⟩ = some (.int .i64 11) ∧ X.cell? ⟨w.heap.size, 1, none⟩ = some (.bool wd) ∧ X.cell? ⟨w.heap.size, 2, none⟩ = some (.int .i64 r) ∧ X.cell? ⟨w.heap.size, 3, none⟩ = some (.int .i64 b) ∧ X.cell? ⟨w.heap.size, 4, none⟩ = some (.int .i64 i) ∧ X.cell? ⟨w.heap.size, 5, none⟩ = some (.int .i64 0) ∧ X.cell? ⟨w.heap.size, 6, none⟩ = some (.int .i64 n)) (go_keep)
    (first | (go_at_call 33; refine (rrex_any _ _ _ _ _).mono ?_; rintro e w2 ⟨rfl, hb2⟩; have B2 : Bx w.heap.size ⟨11, wd, r, b, i, 0, n⟩ w2 := (by first | exact Bx.draw hb2 (by assumption) | exact Bx.draw2 hb2 (by assumption)); have W2 : Below w.heap.size w w2 := (by first | exact bel_draw' hb2 (by assumption) | exact bel_draw2 hb2 (by assumption)); obtain ⟨x0, x1, x2, x3, x4, x5, x6⟩ := B2.cells; (dsimp only at x0 x1 x2 x3 x4 x5 x6)) | (go_at_call 34; refine (rmr_any _ _ _ _ ?ha ?hb ?hc ?hd).mono ?_; (case ha => decide); (case hb => decide); (case hc => first | assumption | decide); (case hd => first | assumption | decide); rintro e w2 ⟨rfl, hb2⟩; have B2 : Bx w.heap.size ⟨11, wd, r, b, i, 0, n⟩ w2 := (by first | exact Bx.draw hb2 (by assumption) | exact Bx.draw2 hb2 (by assumption)); have W2 : Below w.heap.size w w2 := (by first | exact bel_draw' hb2 (by assumption) | exact bel_draw2 hb2 (by assumption)); obtain ⟨x0, x1, x2, x3, x4, x5, x6⟩ := B2.cells; (dsimp only at x0 x1 x2 x3 x4 x5 x6)) | (go_at_call 36; refine (rnum_4 _ _ ?hn).mono ?_; (case hn => assumption); rintro e w2 ⟨rfl, hb2⟩; have B2 : Bx w.heap.size ⟨11, wd, r, b, i, 0, n⟩ w2 := (by first | exact Bx.draw hb2 (by assumption) | exact Bx.draw2 hb2 (by assumption)); have W2 : Below w.heap.size w w2 := (by first | exact bel_draw' hb2 (by assumption) | exact bel_draw2 hb2 (by assumption)); obtain ⟨x0, x1, x2, x3, x4, x5, x6⟩ := B2.cells; (dsimp only at x0 x1 x2 x3 x4 x5 x6)))
  go_wp2_with (first | (go_at_call 33; refine (rrex_any _ _ _ _ _).mono ?_; rintro e w2 ⟨rfl, hb2⟩; have B2 : Bx w.heap.size ⟨11, wd, r, b, i, 0, n⟩ w2 := (by first | exact Bx.draw hb2 (by assumption) | exact Bx.draw2 hb2 (by assumption)); have W2 : Below w.heap.size w w2 := (by first | exact bel_draw' hb2 (by assumption) | exact bel_draw2 hb2 (by assumption)); obtain ⟨x0, x1, x2, x3, x4, x5, x6⟩ := B2.cells; (dsimp only at x0 x1 x2 x3 x4 x5 x6)) | (go_at_call 34; refine (rmr_any _ _ _ _ ?ha ?hb ?hc ?hd).mono ?_; (case ha => decide); (case hb => decide); (case hc => first | assumption | decide); (case hd => first | assumption | decide); rintro e w2 ⟨rfl, hb2⟩; have B2 : Bx w.heap.size ⟨11, wd, r, b, i, 0, n⟩ w2 := (by first | exact Bx.draw hb2 (by assumption) | exact Bx.draw2 hb2 (by assumption)); have W2 : Below w.heap.size w w2 := (by first | exact bel_draw' hb2 (by assumption) | exact bel_draw2 hb2 (by assumption)); obtain ⟨x0, x1, x2, x3, x4, x5, x6⟩ := B2.cells; (dsimp only at x0 x1 x2 x3 x4 x5 x6)) | (go_at_call 36; refine (rnum_4 _ _ ?hn).mono ?_; (case hn => assumption); rintro e w2 ⟨rfl, hb2⟩; have B2 : Bx w.heap.size ⟨11, wd, r, b, i, 0, n⟩ w2 := (by first | exact Bx.draw hb2 (by assumption) | exact Bx.draw2 hb2 (by assumption)); have W2 : Below w.heap.size w w2 := (by first | exact bel_draw' hb2 (by assumption) | exact bel_draw2 hb2 (by assumption)); obtain ⟨x0, x1, x2, x3, x4, x5, x6⟩ := B2.cells; (dsimp only at x0 x1 x2 x3 x4 x5 x6)))
  go_ret2
  exact ⟨ret_sb HE.out, by assumption⟩
set_option maxRecDepth 100000 in
set_option maxHeartbeats 8000000 in
theorem renc_5 (wd : Bool) (r b : Int) (w : World) (hx : rt ⟨5, wd, r, b, 0, 0, 0⟩ = true) (h1 : 0 ≤ r ∧ r ≤ 15) (h2 : 0 ≤ b ∧ b ≤ 15) : ReIs ⟨5, wd, r, b, 0, 0, 0⟩ w := by
  have e0 : enS ⟨5, wd, r, b, 0, 0, 0⟩ = enc ⟨5, wd, r, b, 0, 0, 0⟩ := by simp [enS, hx]
  have e1 : reB ⟨5, wd, r, b, 0, 0, 0⟩ = true := hx
  unfold ReIs
  rw [e0, e1]
  simp only [xv]
  have RI := hide (fun U => rright_is 5 wd r b 0 0 0 U hx)
  obtain ⟨r0, r1⟩ := h1
  obtain ⟨b0, b1⟩ := h2
  have z0 : ¬ 9223372036854775807 < (str (pre (rxb wd r 0 b)) : ByteArray).size + (⟨#[133]⟩ : ByteArray).size := by simp only [cat_size, sz_str, sz_lit, List.length_cons, List.length_nil, bys_len]; have q1 := pre_len (rxb wd r 0 b); omega
  have y0 : ¬ 9223372036854775807 < (str (pre (rxb wd r 0 b)) : ByteArray).size + 1 := by simp only [cat_size, sz_str, sz_lit, List.length_cons, List.length_nil, bys_len]; have q1 := pre_len (rxb wd r 0 b); omega
  have z1 : ¬ 9223372036854775807 < (str (pre (rxb wd r 0 b)) ++ ⟨#[133]⟩ : ByteArray).size + (str [by8 (mri 3 r b)] : ByteArray).size := by simp only [cat_size, sz_str, sz_lit, List.length_cons, List.length_nil, bys_len]; have q1 := pre_len (rxb wd r 0 b); omega
  have y1 : ¬ 9223372036854775807 < (str (pre (rxb wd r 0 b)) : ByteArray).size + 1 + (str [by8 (mri 3 r b)] : ByteArray).size := by simp only [cat_size, sz_str, sz_lit, List.length_cons, List.length_nil, bys_len]; have q1 := pre_len (rxb wd r 0 b); omega
  have v1 : ¬ 9223372036854775807 < (str (pre (rxb wd r 0 b)) ++ ⟨#[133]⟩ : ByteArray).size + (str [by8 (mri 3 r b)] : ByteArray).size := by simp only [cat_size, sz_str, sz_lit, List.length_cons, List.length_nil, bys_len]; have q1 := pre_len (rxb wd r 0 b); omega
  have HE : Hid ((str (pre (rxb wd r 0 b)) ++ ⟨#[133]⟩ ++ str [by8 (mri 3 r b)] : ByteArray) = str (enc ⟨5, wd, r, b, 0, 0, 0⟩)) := by
    show _ = _
    simp only [lit_str, str_app]
    first | rfl | (apply congrArg str; simp [enc, rx, mrs, nmb, fR2, fRR, fB, fP, h32, mid, cod, two, by8]; done) | (apply congrArg str; simp [enc, rx, mrs, nmb, fR2, fRR, fB, fP, h32, mid, cod, two, by8]; rfl)
  obtain ⟨W, hW⟩ : ∃ W, W = w.alloc (.cells #[.int .i64 5, .bool wd, .int .i64 r, .int .i64 b, .int .i64 0, .int .i64 0, .int .i64 0] 40) := ⟨_, rfl⟩
  have B0 : Bx w.heap.size ⟨5, wd, r, b, 0, 0, 0⟩ W := by rw [hW]; exact Bx.made w ⟨5, wd, r, b, 0, 0, 0⟩
  have W0 : Below w.heap.size w W := by rw [hW]; exact bel_one _ _
  clear hx e0 e1
  go_enter Try.func22, Try.ntmps22
  go_wp2_with fail
  rw [← hW]
  refine (RI.out _).mono ?_
  clear hW
  rintro e w1 ⟨rfl, hb1⟩
  have B1 := Bx.draw hb1 B0
  have W1 := bel_tr W0 hb1
  clear hb1 B0 W0
  obtain ⟨x0, x1, x2, x3, x4, x5, x6⟩ := B1.cells
  dsimp only at x0 x1 x2 x3 x4 x5 x6
  go_wp2_with (first | (go_at_call 33; refine (rrex_any _ _ _ _ _).mono ?_; rintro e w2 ⟨rfl, hb2⟩; have B2 : Bx w.heap.size ⟨5, wd, r, b, 0, 0, 0⟩ w2 := (by first | exact Bx.draw hb2 (by assumption) | exact Bx.draw2 hb2 (by assumption)); have W2 : Below w.heap.size w w2 := (by first | exact bel_draw' hb2 (by assumption) | exact bel_draw2 hb2 (by assumption)); obtain ⟨x0, x1, x2, x3, x4, x5, x6⟩ := B2.cells; (dsimp only at x0 x1 x2 x3 x4 x5 x6)) | (go_at_call 34; refine (rmr_any _ _ _ _ ?ha ?hb ?hc ?hd).mono ?_; (case ha => decide); (case hb => decide); (case hc => first | assumption | decide); (case hd => first | assumption | decide); rintro e w2 ⟨rfl, hb2⟩; have B2 : Bx w.heap.size ⟨5, wd, r, b, 0, 0, 0⟩ w2 := (by first | exact Bx.draw hb2 (by assumption) | exact Bx.draw2 hb2 (by assumption)); have W2 : Below w.heap.size w w2 := (by first | exact bel_draw' hb2 (by assumption) | exact bel_draw2 hb2 (by assumption)); obtain ⟨x0, x1, x2, x3, x4, x5, x6⟩ := B2.cells; (dsimp only at x0 x1 x2 x3 x4 x5 x6)))
  go_ret2
  exact ⟨ret_sb HE.out, by assumption⟩
set_option maxRecDepth 100000 in
set_option maxHeartbeats 8000000 in
theorem renc_22  (w : World) (hx : rt ⟨22, false, 0, 0, 0, 0, 0⟩ = true)  : ReIs ⟨22, false, 0, 0, 0, 0, 0⟩ w := by
  have e0 : enS ⟨22, false, 0, 0, 0, 0, 0⟩ = enc ⟨22, false, 0, 0, 0, 0, 0⟩ := by simp [enS, hx]
  have e1 : reB ⟨22, false, 0, 0, 0, 0, 0⟩ = true := hx
  unfold ReIs
  rw [e0, e1]
  simp only [xv]
  have RI := hide (fun U => rright_is 22 false 0 0 0 0 0 U hx)
  have HE : Hid ((⟨#[15, 11]⟩ : ByteArray) = str (enc ⟨22, false, 0, 0, 0, 0, 0⟩)) := by
    show _ = _
    simp only [lit_str, str_app]
    first | rfl | (apply congrArg str; simp [enc, rx, mrs, nmb, fR2, fRR, fB, fP, h32, mid, cod, two, by8, pre, rxb, up]; done) | (apply congrArg str; simp [enc, rx, mrs, nmb, fR2, fRR, fB, fP, h32, mid, cod, two, by8, pre, rxb, up]; rfl)
  obtain ⟨W, hW⟩ : ∃ W, W = w.alloc (.cells #[.int .i64 22, .bool false, .int .i64 0, .int .i64 0, .int .i64 0, .int .i64 0, .int .i64 0] 40) := ⟨_, rfl⟩
  have B0 : Bx w.heap.size ⟨22, false, 0, 0, 0, 0, 0⟩ W := by rw [hW]; exact Bx.made w ⟨22, false, 0, 0, 0, 0, 0⟩
  have W0 : Below w.heap.size w W := by rw [hW]; exact bel_one _ _
  clear hx e0 e1
  go_enter Try.func22, Try.ntmps22
  go_wp2_with fail
  rw [← hW]
  refine (RI.out _).mono ?_
  clear hW
  rintro e w1 ⟨rfl, hb1⟩
  have B1 := Bx.draw hb1 B0
  have W1 := bel_tr W0 hb1
  clear hb1 B0 W0
  obtain ⟨x0, x1, x2, x3, x4, x5, x6⟩ := B1.cells
  dsimp only at x0 x1 x2 x3 x4 x5 x6
  go_wp2_with (first | (go_at_call 33; refine (rrex_any _ _ _ _ _).mono ?_; rintro e w2 ⟨rfl, hb2⟩; have B2 : Bx w.heap.size ⟨22, false, 0, 0, 0, 0, 0⟩ w2 := (by first | exact Bx.draw hb2 (by assumption) | exact Bx.draw2 hb2 (by assumption)); have W2 : Below w.heap.size w w2 := (by first | exact bel_draw' hb2 (by assumption) | exact bel_draw2 hb2 (by assumption)); obtain ⟨x0, x1, x2, x3, x4, x5, x6⟩ := B2.cells; (dsimp only at x0 x1 x2 x3 x4 x5 x6)))
  go_ret2
  exact ⟨ret_sb HE.out, by assumption⟩
end Go.Proofs.Ytookbgnidinkoaa.Xc
