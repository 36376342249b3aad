/-
  The walks of the program's write: cmov, widen, host.
-/
import Derived.Test.YtddepkiefkngdaaWriteP
import Derived.Deep.RegionHeld3
import Derived.Deep.DrawnRows
namespace Go.Proofs.Ytddepkiefkngdaa
open Go.RowKit
set_option linter.unusedSimpArgs false
set_option linter.unusedVariables false
attribute [local go_sem ↓] Go.wp_at_zero Go.wp_at_succ

set_option maxHeartbeats 8000000 in
theorem write_15 (B : Nat) (v : Value) (l : List UInt8) (wd : Bool) (r b c : Int) (w : World) (hB : B ≤ w.heap.size) (hr : BRow B v l w) (hl : l.length + 16 ≤ 140737488355328) (hx : rt ⟨15, wd, r, b, 0, c, 0⟩ = true) (h1 : 0 ≤ r ∧ r ≤ 15) (h2 : 0 ≤ b ∧ b ≤ 15) (hc : cnK c = true) : WrIs B v l ⟨15, wd, r, b, 0, c, 0⟩ w := by
  unfold WrIs
  simp only [xv]
  obtain ⟨W, hW⟩ : ∃ W, W = w.alloc (.cells #[.int .i64 15, .bool wd, .int .i64 r, .int .i64 b, .int .i64 0, .int .i64 c, .int .i64 0] 23) := ⟨_, rfl⟩
  have B0 : Bx w.heap.size ⟨15, wd, r, b, 0, c, 0⟩ W := by rw [hW]; exact Bx.made w ⟨15, wd, r, b, 0, c, 0⟩
  have W0 : Below w.heap.size w W := by rw [hW]; exact bel_one _ _
  have CC := hide (code_is 15 wd r b 0 c 0 hx _ rfl)
  have MM := hide (fun U : World => mr_any 3 r b U (by decide) (by decide) h1.1 h2.1)
  have RX := hide (fun U : World => rex_any wd r 0 b U)
  have PP := hide (put_in B v l (rxb wd r 0 b) [cod ⟨15, wd, r, b, 0, c, 0⟩, mri 3 r b] ⟨15, wd, r, b, 0, c, 0⟩ w W #[.int .i64 (cod ⟨15, wd, r, b, 0, c, 0⟩), .int .i64 (mri 3 r b)] hB hr (by omega) B0 W0 (rxb_bd _ _ _ _).1 (rxb_bd _ _ _ _).2 rfl (in_2 (cod_bd hx) (mri_4095 (by decide) (by decide))) (by simp))
  have HE : Hid (l ++ enc ⟨15, wd, r, b, 0, c, 0⟩ = (l ++ (pre (rxb wd r 0 b) ++ twos [cod ⟨15, wd, r, b, 0, c, 0⟩, mri 3 r b]))) := by show _ = _; simp [enc, rx, mrs, nmb, fR2, fRR, fB, fP, h32, mid, twos, two_3, two_2, two_0]
  generalize hck : cod ⟨15, wd, r, b, 0, c, 0⟩ = ck at CC PP HE
  generalize hrr : rxb wd r 0 b = rr at PP HE RX
  generalize hmm : mri 3 r b = mm at MM PP HE
  obtain ⟨m0, m1, m2, m3, m4, m5, m6⟩ := B0.cells
  have HB0 := hide B0
  clear B0 W0 hx
  go_enter Try.func18, Try.ntmps18
  go_wp2_with fail
  rw [← hW]
  clear hW
  go_region_held3 (fun X => X.cell? ⟨w.heap.size, 0, none⟩ = some (.int .i64 15) ∧ X.cell? ⟨w.heap.size, 1, none⟩ = some (.bool wd) ∧ X.cell? ⟨w.heap.size, 2, none⟩ = some (.int .i64 r) ∧ X.cell? ⟨w.heap.size, 3, none⟩ = some (.int .i64 b) ∧ X.cell? ⟨w.heap.size, 4, none⟩ = some (.int .i64 0) ∧ X.cell? ⟨w.heap.size, 5, none⟩ = some (.int .i64 c) ∧ X.cell? ⟨w.heap.size, 6, none⟩ = some (.int .i64 0)) (go_keep)
    (first | (go_at_call 37; refine (RX.out _).mono ?_; rintro e w' ⟨rfl, rfl⟩) | (go_at_call 39; refine (MM.out _).mono ?_; rintro e w' ⟨rfl, rfl⟩) | (go_at_call 38; refine (CC.out _).mono ?_; rintro e w2 ⟨rfl, hb2⟩; have K2 : Hid (Below W.heap.size W w2) := bel_draw hb2 ⟨rfl, rfl, rfl, Nat.le_refl _, fun _ _ => rfl⟩; obtain ⟨x0, x1, x2, x3, x4, x5, x6⟩ := (HB0.out.kept K2.out).cells) | (go_at_call 36; refine (PP.out _ _ ?hk ?hU).mono ?_; (case hU => exact ⟨rfl, rfl, rfl, Nat.le_refl _, fun _ _ => rfl⟩); (case hk => assumption); rintro e w3 ⟨v3, rfl, T3⟩; obtain ⟨y0, y1, y2, y3, y4, y5, y6⟩ := T3.out.2.2.1.cells))
  go_wp2_with (go_at_call 41; refine (has_any _ _).mono ?_; rintro e w' ⟨rfl, rfl⟩)
  go_ret
  exact ⟨_, rfl, by rw [HE.out]; exact T3.out.1, T3.out.2.1⟩
set_option maxHeartbeats 8000000 in
theorem write_16 (B : Nat) (v : Value) (l : List UInt8) (r b : Int) (w : World) (hB : B ≤ w.heap.size) (hr : BRow B v l w) (hl : l.length + 16 ≤ 140737488355328) (hx : rt ⟨16, true, r, b, 0, 0, 0⟩ = true) (h1 : 0 ≤ r ∧ r ≤ 15) (h2 : 0 ≤ b ∧ b ≤ 15) : WrIs B v l ⟨16, true, r, b, 0, 0, 0⟩ w := by
  unfold WrIs
  simp only [xv]
  obtain ⟨W, hW⟩ : ∃ W, W = w.alloc (.cells #[.int .i64 16, .bool true, .int .i64 r, .int .i64 b, .int .i64 0, .int .i64 0, .int .i64 0] 23) := ⟨_, rfl⟩
  have B0 : Bx w.heap.size ⟨16, true, r, b, 0, 0, 0⟩ W := by rw [hW]; exact Bx.made w ⟨16, true, r, b, 0, 0, 0⟩
  have W0 : Below w.heap.size w W := by rw [hW]; exact bel_one _ _
  have CC := hide (code_is 16 true r b 0 0 0 hx _ rfl)
  have MM := hide (fun U : World => mr_any 3 r b U (by decide) (by decide) h1.1 h2.1)
  have RX := hide (fun U : World => rex_any true r 0 b U)
  have PP := hide (put_in B v l (rxb true r 0 b) [cod ⟨16, true, r, b, 0, 0, 0⟩, mri 3 r b] ⟨16, true, r, b, 0, 0, 0⟩ w W #[.int .i64 (cod ⟨16, true, r, b, 0, 0, 0⟩), .int .i64 (mri 3 r b)] hB hr (by omega) B0 W0 (rxb_bd _ _ _ _).1 (rxb_bd _ _ _ _).2 rfl (in_2 (cod_bd hx) (mri_4095 (by decide) (by decide))) (by simp))
  have HE : Hid (l ++ enc ⟨16, true, r, b, 0, 0, 0⟩ = (l ++ (pre (rxb true r 0 b) ++ twos [cod ⟨16, true, r, b, 0, 0, 0⟩, mri 3 r b]))) := by show _ = _; simp [enc, rx, mrs, nmb, fR2, fRR, fB, fP, h32, mid, twos, two_3, two_2, two_0]
  generalize hck : cod ⟨16, true, r, b, 0, 0, 0⟩ = ck at CC PP HE
  generalize hrr : rxb true r 0 b = rr at PP HE RX
  generalize hmm : mri 3 r b = mm at MM PP HE
  obtain ⟨m0, m1, m2, m3, m4, m5, m6⟩ := B0.cells
  have HB0 := hide B0
  clear B0 W0 hx
  go_enter Try.func18, Try.ntmps18
  go_wp2_with fail
  rw [← hW]
  clear hW
  go_region_held3 (fun X => X.cell? ⟨w.heap.size, 0, none⟩ = some (.int .i64 16) ∧ X.cell? ⟨w.heap.size, 1, none⟩ = some (.bool true) ∧ X.cell? ⟨w.heap.size, 2, none⟩ = some (.int .i64 r) ∧ X.cell? ⟨w.heap.size, 3, none⟩ = some (.int .i64 b) ∧ X.cell? ⟨w.heap.size, 4, none⟩ = some (.int .i64 0) ∧ X.cell? ⟨w.heap.size, 5, none⟩ = some (.int .i64 0) ∧ X.cell? ⟨w.heap.size, 6, none⟩ = some (.int .i64 0)) (go_keep)
    (first | (go_at_call 37; refine (RX.out _).mono ?_; rintro e w' ⟨rfl, rfl⟩) | (go_at_call 39; refine (MM.out _).mono ?_; rintro e w' ⟨rfl, rfl⟩) | (go_at_call 38; refine (CC.out _).mono ?_; rintro e w2 ⟨rfl, hb2⟩; have K2 : Hid (Below W.heap.size W w2) := bel_draw hb2 ⟨rfl, rfl, rfl, Nat.le_refl _, fun _ _ => rfl⟩; obtain ⟨x0, x1, x2, x3, x4, x5, x6⟩ := (HB0.out.kept K2.out).cells) | (go_at_call 36; refine (PP.out _ _ ?hk ?hU).mono ?_; (case hU => exact ⟨rfl, rfl, rfl, Nat.le_refl _, fun _ _ => rfl⟩); (case hk => assumption); rintro e w3 ⟨v3, rfl, T3⟩; obtain ⟨y0, y1, y2, y3, y4, y5, y6⟩ := T3.out.2.2.1.cells))
  go_wp2_with (go_at_call 41; refine (has_any _ _).mono ?_; rintro e w' ⟨rfl, rfl⟩)
  go_ret
  exact ⟨_, rfl, by rw [HE.out]; exact T3.out.1, T3.out.2.1⟩
set_option maxHeartbeats 8000000 in
theorem write_23 (B : Nat) (v : Value) (l : List UInt8)  (w : World) (hB : B ≤ w.heap.size) (hr : BRow B v l w) (hl : l.length + 16 ≤ 140737488355328) (hx : rt ⟨23, false, 0, 0, 0, 0, 0⟩ = true)  : WrIs B v l ⟨23, false, 0, 0, 0, 0, 0⟩ w := by
  unfold WrIs
  simp only [xv]
  obtain ⟨W, hW⟩ : ∃ W, W = w.alloc (.cells #[.int .i64 23, .bool false, .int .i64 0, .int .i64 0, .int .i64 0, .int .i64 0, .int .i64 0] 23) := ⟨_, rfl⟩
  have B0 : Bx w.heap.size ⟨23, false, 0, 0, 0, 0, 0⟩ W := by rw [hW]; exact Bx.made w ⟨23, false, 0, 0, 0, 0, 0⟩
  have W0 : Below w.heap.size w W := by rw [hW]; exact bel_one _ _
  have CC := hide (code_is 23 false 0 0 0 0 0 hx _ rfl)
  have RX := hide (fun U : World => rex_any false 0 0 0 U)
  have PP := hide (put_in B v l (rxb false 0 0 0) [cod ⟨23, false, 0, 0, 0, 0, 0⟩] ⟨23, false, 0, 0, 0, 0, 0⟩ w W #[.int .i64 (cod ⟨23, false, 0, 0, 0, 0, 0⟩)] hB hr (by omega) B0 W0 (rxb_bd _ _ _ _).1 (rxb_bd _ _ _ _).2 rfl (in_1 (cod_bd hx)) (by simp))
  have HE : Hid (l ++ enc ⟨23, false, 0, 0, 0, 0, 0⟩ = (l ++ (pre (rxb false 0 0 0) ++ twos [cod ⟨23, false, 0, 0, 0, 0, 0⟩]))) := by show _ = _; simp [enc, rx, mrs, nmb, fR2, fRR, fB, fP, h32, mid, twos, two_3, two_2, two_0]
  generalize hck : cod ⟨23, false, 0, 0, 0, 0, 0⟩ = ck at CC PP HE
  generalize hrr : rxb false 0 0 0 = rr at PP HE RX
  obtain ⟨m0, m1, m2, m3, m4, m5, m6⟩ := B0.cells
  have HB0 := hide B0
  clear B0 W0 hx
  go_enter Try.func18, Try.ntmps18
  go_wp2_with fail
  rw [← hW]
  clear hW
  go_region_held3 (fun X => X.cell? ⟨w.heap.size, 0, none⟩ = some (.int .i64 23) ∧ X.cell? ⟨w.heap.size, 1, none⟩ = some (.bool false) ∧ X.cell? ⟨w.heap.size, 2, none⟩ = some (.int .i64 0) ∧ X.cell? ⟨w.heap.size, 3, none⟩ = some (.int .i64 0) ∧ X.cell? ⟨w.heap.size, 4, none⟩ = some (.int .i64 0) ∧ X.cell? ⟨w.heap.size, 5, none⟩ = some (.int .i64 0) ∧ X.cell? ⟨w.heap.size, 6, none⟩ = some (.int .i64 0)) (go_keep)
    (first | (go_at_call 37; refine (RX.out _).mono ?_; rintro e w' ⟨rfl, rfl⟩) | (go_at_call 38; refine (CC.out _).mono ?_; rintro e w2 ⟨rfl, hb2⟩; have K2 : Hid (Below W.heap.size W w2) := bel_draw hb2 ⟨rfl, rfl, rfl, Nat.le_refl _, fun _ _ => rfl⟩; obtain ⟨x0, x1, x2, x3, x4, x5, x6⟩ := (HB0.out.kept K2.out).cells) | (go_at_call 36; refine (PP.out _ _ ?hk ?hU).mono ?_; (case hU => exact ⟨rfl, rfl, rfl, Nat.le_refl _, fun _ _ => rfl⟩); (case hk => assumption); rintro e w3 ⟨v3, rfl, T3⟩; obtain ⟨y0, y1, y2, y3, y4, y5, y6⟩ := T3.out.2.2.1.cells))
  go_wp2_with (go_at_call 41; refine (has_any _ _).mono ?_; rintro e w' ⟨rfl, rfl⟩)
  go_ret
  exact ⟨_, rfl, by rw [HE.out]; exact T3.out.1, T3.out.2.1⟩
end Go.Proofs.Ytddepkiefkngdaa
