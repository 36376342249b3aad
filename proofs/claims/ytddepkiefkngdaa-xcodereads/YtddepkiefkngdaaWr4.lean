/-
  The walks of the program's write: load, jmp, jcc, ret.
-/
import Derived.Test.YtddepkiefkngdaaWriteP
import Derived.Deep.RegionHeld3
import Derived.Deep.DrawnRows
namespace Go.Proofs.Ytddepkiefkngdaa
open Go.RowKit
set_option linter.unusedSimpArgs false
set_option linter.unusedVariables false
attribute [local go_sem ↓] Go.wp_at_zero Go.wp_at_succ

set_option maxHeartbeats 8000000 in
theorem write_11 (B : Nat) (v : Value) (l : List UInt8) (wd : Bool) (r b i n : Int) (w : World) (hB : B ≤ w.heap.size) (hr : BRow B v l w) (hl : l.length + 16 ≤ 140737488355328) (hx : rt ⟨11, wd, r, b, i, 0, n⟩ = true) (h1 : 0 ≤ r ∧ r ≤ 15) (h2 : 0 ≤ b ∧ b ≤ 15) (h3 : 0 ≤ i ∧ i ≤ 16 ∧ i ≠ 5) (hs : s32 n = true) : WrIs B v l ⟨11, wd, r, b, i, 0, n⟩ w := by
  unfold WrIs
  simp only [xv]
  obtain ⟨W, hW⟩ : ∃ W, W = w.alloc (.cells #[.int .i64 11, .bool wd, .int .i64 r, .int .i64 b, .int .i64 i, .int .i64 0, .int .i64 n] 23) := ⟨_, rfl⟩
  have B0 : Bx w.heap.size ⟨11, wd, r, b, i, 0, n⟩ W := by rw [hW]; exact Bx.made w ⟨11, wd, r, b, i, 0, n⟩
  have W0 : Below w.heap.size w W := by rw [hW]; exact bel_one _ _
  have CC := hide (code_is 11 wd r b i 0 n hx _ rfl)
  have II := hide (index_is 11 wd r b i 0 n h3.1 h3.2.1)
  have RX := hide (fun U : World => rex_any wd r (inx i) b U)
  have PP := hide (fun (V : World) (hV : Hid (Below W.heap.size W V)) => put_in B v l (rxb wd r (inx i) b) [cod ⟨11, wd, r, b, i, 0, n⟩, mri 2 r 4, mri 0 (inx i) b] ⟨11, wd, r, b, i, 0, n⟩ w V #[.int .i64 (cod ⟨11, wd, r, b, i, 0, n⟩), .int .i64 (mri 2 r 4), .int .i64 (mri 0 (inx i) b)] hB hr (by omega) (B0.kept hV.out) (bel_tr W0 hV.out) (rxb_bd _ _ _ _).1 (rxb_bd _ _ _ _).2 rfl (in_3 (cod_bd hx) (mri_4095 (by decide) (by decide)) (mri_4095 (by decide) (by decide))) (by simp))
  have NN := hide (numb_4 B (l ++ (pre (rxb wd r (inx i) b) ++ twos [cod ⟨11, wd, r, b, i, 0, n⟩, mri 2 r 4, mri 0 (inx i) b])) n ⟨11, wd, r, b, i, 0, n⟩ w hB (by have := put_len l (rxb wd r (inx i) b) [cod ⟨11, wd, r, b, i, 0, n⟩, mri 2 r 4, mri 0 (inx i) b] (by simp); omega) (s32_64 hs))
  have HE : Hid (l ++ enc ⟨11, wd, r, b, i, 0, n⟩ = (l ++ (pre (rxb wd r (inx i) b) ++ twos [cod ⟨11, wd, r, b, i, 0, n⟩, mri 2 r 4, mri 0 (inx i) b])) ++ bys 4 n) := by show _ = _; simp [enc, rx, mrs, nmb, fR2, fRR, fB, fP, h32, mid, twos, two_3, two_2, two_0]
  generalize hck : cod ⟨11, wd, r, b, i, 0, n⟩ = ck at CC PP HE NN
  generalize hrr : rxb wd r (inx i) b = rr at PP HE RX NN
  obtain ⟨m0, m1, m2, m3, m4, m5, m6⟩ := B0.cells
  have HB0 := hide B0
  clear B0 W0 hx
  go_enter Try.func18, Try.ntmps18
  go_wp2_with fail
  rw [← hW]
  refine (II.out _).mono ?_
  clear hW
  rintro e V ⟨rfl, hbV⟩
  have HV := hide hbV
  have HBV := hide (HB0.out.kept hbV)
  clear m0 m1 m2 m3 m4 m5 m6 hbV
  obtain ⟨m0, m1, m2, m3, m4, m5, m6⟩ := HBV.out.cells
  go_wp2_with fail
  go_region_held3 (fun X => X.cell? ⟨w.heap.size, 0, none⟩ = some (.int .i64 11) ∧ X.cell? ⟨w.heap.size, 1, none⟩ = some (.bool wd) ∧ X.cell? ⟨w.heap.size, 2, none⟩ = some (.int .i64 r) ∧ X.cell? ⟨w.heap.size, 3, none⟩ = some (.int .i64 b) ∧ X.cell? ⟨w.heap.size, 4, none⟩ = some (.int .i64 i) ∧ X.cell? ⟨w.heap.size, 5, none⟩ = some (.int .i64 0) ∧ X.cell? ⟨w.heap.size, 6, none⟩ = some (.int .i64 n)) (go_keep)
    (first | (go_at_call 37; refine (RX.out _).mono ?_; rintro e w' ⟨rfl, rfl⟩) | (go_at_call 39; refine (mr_any _ _ _ _ ?ha ?hb ?hc ?hd).mono ?_; (case ha => decide); (case hb => decide); (case hc => first | exact h1.1 | exact (inx_0 h3).1); (case hd => first | decide | exact h2.1); rintro e w' ⟨rfl, rfl⟩) | (go_at_call 38; refine (CC.out _).mono ?_; rintro e w2 ⟨rfl, hb2⟩; have K2 : Hid (Below V.heap.size V w2) := bel_draw hb2 ⟨rfl, rfl, rfl, Nat.le_refl _, fun _ _ => rfl⟩; obtain ⟨x0, x1, x2, x3, x4, x5, x6⟩ := (HBV.out.kept K2.out).cells) | (go_at_call 36; refine (PP.out V HV _ _ ?hk ?hU).mono ?_; (case hU => exact ⟨rfl, rfl, rfl, Nat.le_refl _, fun _ _ => rfl⟩); (case hk => assumption); rintro e w3 ⟨v3, rfl, T3⟩; obtain ⟨y0, y1, y2, y3, y4, y5, y6⟩ := T3.out.2.2.1.cells))
  go_wp2_with (first | (go_at_call 41; refine (has_any _ _).mono ?_; rintro e w' ⟨rfl, rfl⟩) | (go_at_call 35; refine (NN.out _ ?wq _ ?hT ?hU).mono ?_; (case hT => assumption); (case hU => exact Below.refl _ _); rintro e w4 ⟨v4, rfl, T4⟩))
  go_ret
  exact ⟨_, rfl, by rw [HE.out]; exact T4.out.1, T4.out.2.1⟩
set_option maxHeartbeats 8000000 in
theorem write_17 (B : Nat) (v : Value) (l : List UInt8) (n : Int) (w : World) (hB : B ≤ w.heap.size) (hr : BRow B v l w) (hl : l.length + 16 ≤ 140737488355328) (hx : rt ⟨17, false, 0, 0, 0, 0, n⟩ = true) (hs : s32 n = true) : WrIs B v l ⟨17, false, 0, 0, 0, 0, n⟩ w := by
  unfold WrIs
  simp only [xv]
  obtain ⟨W, hW⟩ : ∃ W, W = w.alloc (.cells #[.int .i64 17, .bool false, .int .i64 0, .int .i64 0, .int .i64 0, .int .i64 0, .int .i64 n] 23) := ⟨_, rfl⟩
  have B0 : Bx w.heap.size ⟨17, false, 0, 0, 0, 0, n⟩ W := by rw [hW]; exact Bx.made w ⟨17, false, 0, 0, 0, 0, n⟩
  have W0 : Below w.heap.size w W := by rw [hW]; exact bel_one _ _
  have CC := hide (code_is 17 false 0 0 0 0 n hx _ rfl)
  have RX := hide (fun U : World => rex_any false 0 0 0 U)
  have PP := hide (put_in B v l (rxb false 0 0 0) [cod ⟨17, false, 0, 0, 0, 0, n⟩] ⟨17, false, 0, 0, 0, 0, n⟩ w W #[.int .i64 (cod ⟨17, false, 0, 0, 0, 0, n⟩)] hB hr (by omega) B0 W0 (rxb_bd _ _ _ _).1 (rxb_bd _ _ _ _).2 rfl (in_1 (cod_bd hx)) (by simp))
  have NN := hide (numb_4 B (l ++ (pre (rxb false 0 0 0) ++ twos [cod ⟨17, false, 0, 0, 0, 0, n⟩])) n ⟨17, false, 0, 0, 0, 0, n⟩ w hB (by have := put_len l (rxb false 0 0 0) [cod ⟨17, false, 0, 0, 0, 0, n⟩] (by simp); omega) (s32_64 hs))
  have HE : Hid (l ++ enc ⟨17, false, 0, 0, 0, 0, n⟩ = (l ++ (pre (rxb false 0 0 0) ++ twos [cod ⟨17, false, 0, 0, 0, 0, n⟩])) ++ bys 4 n) := by show _ = _; simp [enc, rx, mrs, nmb, fR2, fRR, fB, fP, h32, mid, twos, two_3, two_2, two_0]
  generalize hck : cod ⟨17, false, 0, 0, 0, 0, n⟩ = ck at CC PP HE NN
  generalize hrr : rxb false 0 0 0 = rr at PP HE RX NN
  obtain ⟨m0, m1, m2, m3, m4, m5, m6⟩ := B0.cells
  have HB0 := hide B0
  clear B0 W0 hx
  go_enter Try.func18, Try.ntmps18
  go_wp2_with fail
  rw [← hW]
  clear hW
  go_region_held3 (fun X => X.cell? ⟨w.heap.size, 0, none⟩ = some (.int .i64 17) ∧ X.cell? ⟨w.heap.size, 1, none⟩ = some (.bool false) ∧ X.cell? ⟨w.heap.size, 2, none⟩ = some (.int .i64 0) ∧ X.cell? ⟨w.heap.size, 3, none⟩ = some (.int .i64 0) ∧ X.cell? ⟨w.heap.size, 4, none⟩ = some (.int .i64 0) ∧ X.cell? ⟨w.heap.size, 5, none⟩ = some (.int .i64 0) ∧ X.cell? ⟨w.heap.size, 6, none⟩ = some (.int .i64 n)) (go_keep)
    (first | (go_at_call 37; refine (RX.out _).mono ?_; rintro e w' ⟨rfl, rfl⟩) | (go_at_call 38; refine (CC.out _).mono ?_; rintro e w2 ⟨rfl, hb2⟩; have K2 : Hid (Below W.heap.size W w2) := bel_draw hb2 ⟨rfl, rfl, rfl, Nat.le_refl _, fun _ _ => rfl⟩; obtain ⟨x0, x1, x2, x3, x4, x5, x6⟩ := (HB0.out.kept K2.out).cells) | (go_at_call 36; refine (PP.out _ _ ?hk ?hU).mono ?_; (case hU => exact ⟨rfl, rfl, rfl, Nat.le_refl _, fun _ _ => rfl⟩); (case hk => assumption); rintro e w3 ⟨v3, rfl, T3⟩; obtain ⟨y0, y1, y2, y3, y4, y5, y6⟩ := T3.out.2.2.1.cells))
  go_wp2_with (first | (go_at_call 41; refine (has_any _ _).mono ?_; rintro e w' ⟨rfl, rfl⟩) | (go_at_call 35; refine (NN.out _ ?wq _ ?hT ?hU).mono ?_; (case hT => assumption); (case hU => exact Below.refl _ _); rintro e w4 ⟨v4, rfl, T4⟩))
  go_ret
  exact ⟨_, rfl, by rw [HE.out]; exact T4.out.1, T4.out.2.1⟩
set_option maxHeartbeats 8000000 in
theorem write_18 (B : Nat) (v : Value) (l : List UInt8) (c n : Int) (w : World) (hB : B ≤ w.heap.size) (hr : BRow B v l w) (hl : l.length + 16 ≤ 140737488355328) (hx : rt ⟨18, false, 0, 0, 0, c, n⟩ = true) (hc : cnK c = true) (hs : s32 n = true) : WrIs B v l ⟨18, false, 0, 0, 0, c, n⟩ w := by
  unfold WrIs
  simp only [xv]
  obtain ⟨W, hW⟩ : ∃ W, W = w.alloc (.cells #[.int .i64 18, .bool false, .int .i64 0, .int .i64 0, .int .i64 0, .int .i64 c, .int .i64 n] 23) := ⟨_, rfl⟩
  have B0 : Bx w.heap.size ⟨18, false, 0, 0, 0, c, n⟩ W := by rw [hW]; exact Bx.made w ⟨18, false, 0, 0, 0, c, n⟩
  have W0 : Below w.heap.size w W := by rw [hW]; exact bel_one _ _
  have CC := hide (code_is 18 false 0 0 0 c n hx _ rfl)
  have RX := hide (fun U : World => rex_any false 0 0 0 U)
  have PP := hide (put_in B v l (rxb false 0 0 0) [cod ⟨18, false, 0, 0, 0, c, n⟩] ⟨18, false, 0, 0, 0, c, n⟩ w W #[.int .i64 (cod ⟨18, false, 0, 0, 0, c, n⟩)] hB hr (by omega) B0 W0 (rxb_bd _ _ _ _).1 (rxb_bd _ _ _ _).2 rfl (in_1 (cod_bd hx)) (by simp))
  have NN := hide (numb_4 B (l ++ (pre (rxb false 0 0 0) ++ twos [cod ⟨18, false, 0, 0, 0, c, n⟩])) n ⟨18, false, 0, 0, 0, c, n⟩ w hB (by have := put_len l (rxb false 0 0 0) [cod ⟨18, false, 0, 0, 0, c, n⟩] (by simp); omega) (s32_64 hs))
  have HE : Hid (l ++ enc ⟨18, false, 0, 0, 0, c, n⟩ = (l ++ (pre (rxb false 0 0 0) ++ twos [cod ⟨18, false, 0, 0, 0, c, n⟩])) ++ bys 4 n) := by show _ = _; simp [enc, rx, mrs, nmb, fR2, fRR, fB, fP, h32, mid, twos, two_3, two_2, two_0]
  generalize hck : cod ⟨18, false, 0, 0, 0, c, n⟩ = ck at CC PP HE NN
  generalize hrr : rxb false 0 0 0 = rr at PP HE RX NN
  obtain ⟨m0, m1, m2, m3, m4, m5, m6⟩ := B0.cells
  have HB0 := hide B0
  clear B0 W0 hx
  go_enter Try.func18, Try.ntmps18
  go_wp2_with fail
  rw [← hW]
  clear hW
  go_region_held3 (fun X => X.cell? ⟨w.heap.size, 0, none⟩ = some (.int .i64 18) ∧ X.cell? ⟨w.heap.size, 1, none⟩ = some (.bool false) ∧ X.cell? ⟨w.heap.size, 2, none⟩ = some (.int .i64 0) ∧ X.cell? ⟨w.heap.size, 3, none⟩ = some (.int .i64 0) ∧ X.cell? ⟨w.heap.size, 4, none⟩ = some (.int .i64 0) ∧ X.cell? ⟨w.heap.size, 5, none⟩ = some (.int .i64 c) ∧ X.cell? ⟨w.heap.size, 6, none⟩ = some (.int .i64 n)) (go_keep)
    (first | (go_at_call 37; refine (RX.out _).mono ?_; rintro e w' ⟨rfl, rfl⟩) | (go_at_call 38; refine (CC.out _).mono ?_; rintro e w2 ⟨rfl, hb2⟩; have K2 : Hid (Below W.heap.size W w2) := bel_draw hb2 ⟨rfl, rfl, rfl, Nat.le_refl _, fun _ _ => rfl⟩; obtain ⟨x0, x1, x2, x3, x4, x5, x6⟩ := (HB0.out.kept K2.out).cells) | (go_at_call 36; refine (PP.out _ _ ?hk ?hU).mono ?_; (case hU => exact ⟨rfl, rfl, rfl, Nat.le_refl _, fun _ _ => rfl⟩); (case hk => assumption); rintro e w3 ⟨v3, rfl, T3⟩; obtain ⟨y0, y1, y2, y3, y4, y5, y6⟩ := T3.out.2.2.1.cells))
  go_wp2_with (first | (go_at_call 41; refine (has_any _ _).mono ?_; rintro e w' ⟨rfl, rfl⟩) | (go_at_call 35; refine (NN.out _ ?wq _ ?hT ?hU).mono ?_; (case hT => assumption); (case hU => exact Below.refl _ _); rintro e w4 ⟨v4, rfl, T4⟩))
  go_ret
  exact ⟨_, rfl, by rw [HE.out]; exact T4.out.1, T4.out.2.1⟩
set_option maxHeartbeats 8000000 in
theorem write_20 (B : Nat) (v : Value) (l : List UInt8)  (w : World) (hB : B ≤ w.heap.size) (hr : BRow B v l w) (hl : l.length + 16 ≤ 140737488355328) (hx : rt ⟨20, false, 0, 0, 0, 0, 0⟩ = true)  : WrIs B v l ⟨20, false, 0, 0, 0, 0, 0⟩ w := by
  unfold WrIs
  simp only [xv]
  obtain ⟨W, hW⟩ : ∃ W, W = w.alloc (.cells #[.int .i64 20, .bool false, .int .i64 0, .int .i64 0, .int .i64 0, .int .i64 0, .int .i64 0] 23) := ⟨_, rfl⟩
  have B0 : Bx w.heap.size ⟨20, false, 0, 0, 0, 0, 0⟩ W := by rw [hW]; exact Bx.made w ⟨20, false, 0, 0, 0, 0, 0⟩
  have W0 : Below w.heap.size w W := by rw [hW]; exact bel_one _ _
  have CC := hide (code_is 20 false 0 0 0 0 0 hx _ rfl)
  have RX := hide (fun U : World => rex_any false 0 0 0 U)
  have PP := hide (put_in B v l (rxb false 0 0 0) [cod ⟨20, false, 0, 0, 0, 0, 0⟩] ⟨20, false, 0, 0, 0, 0, 0⟩ w W #[.int .i64 (cod ⟨20, false, 0, 0, 0, 0, 0⟩)] hB hr (by omega) B0 W0 (rxb_bd _ _ _ _).1 (rxb_bd _ _ _ _).2 rfl (in_1 (cod_bd hx)) (by simp))
  have HE : Hid (l ++ enc ⟨20, false, 0, 0, 0, 0, 0⟩ = (l ++ (pre (rxb false 0 0 0) ++ twos [cod ⟨20, false, 0, 0, 0, 0, 0⟩]))) := by show _ = _; simp [enc, rx, mrs, nmb, fR2, fRR, fB, fP, h32, mid, twos, two_3, two_2, two_0]
  generalize hck : cod ⟨20, false, 0, 0, 0, 0, 0⟩ = ck at CC PP HE
  generalize hrr : rxb false 0 0 0 = rr at PP HE RX
  obtain ⟨m0, m1, m2, m3, m4, m5, m6⟩ := B0.cells
  have HB0 := hide B0
  clear B0 W0 hx
  go_enter Try.func18, Try.ntmps18
  go_wp2_with fail
  rw [← hW]
  clear hW
  go_region_held3 (fun X => X.cell? ⟨w.heap.size, 0, none⟩ = some (.int .i64 20) ∧ X.cell? ⟨w.heap.size, 1, none⟩ = some (.bool false) ∧ X.cell? ⟨w.heap.size, 2, none⟩ = some (.int .i64 0) ∧ X.cell? ⟨w.heap.size, 3, none⟩ = some (.int .i64 0) ∧ X.cell? ⟨w.heap.size, 4, none⟩ = some (.int .i64 0) ∧ X.cell? ⟨w.heap.size, 5, none⟩ = some (.int .i64 0) ∧ X.cell? ⟨w.heap.size, 6, none⟩ = some (.int .i64 0)) (go_keep)
    (first | (go_at_call 37; refine (RX.out _).mono ?_; rintro e w' ⟨rfl, rfl⟩) | (go_at_call 38; refine (CC.out _).mono ?_; rintro e w2 ⟨rfl, hb2⟩; have K2 : Hid (Below W.heap.size W w2) := bel_draw hb2 ⟨rfl, rfl, rfl, Nat.le_refl _, fun _ _ => rfl⟩; obtain ⟨x0, x1, x2, x3, x4, x5, x6⟩ := (HB0.out.kept K2.out).cells) | (go_at_call 36; refine (PP.out _ _ ?hk ?hU).mono ?_; (case hU => exact ⟨rfl, rfl, rfl, Nat.le_refl _, fun _ _ => rfl⟩); (case hk => assumption); rintro e w3 ⟨v3, rfl, T3⟩; obtain ⟨y0, y1, y2, y3, y4, y5, y6⟩ := T3.out.2.2.1.cells))
  go_wp2_with (go_at_call 41; refine (has_any _ _).mono ?_; rintro e w' ⟨rfl, rfl⟩)
  go_ret
  exact ⟨_, rfl, by rw [HE.out]; exact T3.out.1, T3.out.2.1⟩
end Go.Proofs.Ytddepkiefkngdaa
