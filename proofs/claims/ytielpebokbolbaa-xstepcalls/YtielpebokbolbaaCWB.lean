/-
  Merged: CWr4 CWr5 CWr6 CWrite CEnc.
-/
import Derived.Test.YtielpebokbolbaaCWriteP
import Derived.Deep.RegionHeld3
import Derived.Deep.DrawnRows
import Derived.Test.YtielpebokbolbaaCWA
import Derived.Deep.RegionWith
import Derived.Laws.MakeOwn
/-
  The walks of the program's write: load, jmp, jcc, ret.
-/
namespace Go.Proofs.Ytielpebokbolbaa.Xc
open Go.RowKit
set_option linter.unusedSimpArgs false
set_option linter.unusedVariables false
attribute [local go_sem ↓] Go.wp_at_zero Go.wp_at_succ

set_option maxHeartbeats 8000000 in
theorem write_11 (B : Nat) (v : Value) (l : List UInt8) (wd : Bool) (r b i n : Int) (w : World) (hB : B ≤ w.heap.size) (hr : BRow B v l w) (hl : l.length + 16 ≤ 140737488355328) (hx : rt ⟨11, wd, r, b, i, 0, n⟩ = true) (h1 : 0 ≤ r ∧ r ≤ 15) (h2 : 0 ≤ b ∧ b ≤ 15) (h3 : 0 ≤ i ∧ i ≤ 16 ∧ i ≠ 5) (hs : s32 n = true) : WrIs B v l ⟨11, wd, r, b, i, 0, n⟩ w := by
  unfold WrIs
  simp only [xv]
  obtain ⟨W, hW⟩ : ∃ W, W = w.alloc (.cells #[.int .i64 11, .bool wd, .int .i64 r, .int .i64 b, .int .i64 i, .int .i64 0, .int .i64 n] 49) := ⟨_, rfl⟩
  have B0 : Bx w.heap.size ⟨11, wd, r, b, i, 0, n⟩ W := by rw [hW]; exact Bx.made w ⟨11, wd, r, b, i, 0, n⟩
  have W0 : Below w.heap.size w W := by rw [hW]; exact bel_one _ _
  have CC := hide (code_is 11 wd r b i 0 n hx _ rfl)
  have II := hide (index_is 11 wd r b i 0 n h3.1 h3.2.1)
  have RX := hide (fun U : World => rex_any wd r (inx i) b U)
  have PP := hide (fun (V : World) (hV : Hid (Below W.heap.size W V)) => put_in B v l (rxb wd r (inx i) b) [cod ⟨11, wd, r, b, i, 0, n⟩, mri 2 r 4, mri 0 (inx i) b] ⟨11, wd, r, b, i, 0, n⟩ w V #[.int .i64 (cod ⟨11, wd, r, b, i, 0, n⟩), .int .i64 (mri 2 r 4), .int .i64 (mri 0 (inx i) b)] hB hr (by omega) (B0.kept hV.out) (bel_tr W0 hV.out) (rxb_bd _ _ _ _).1 (rxb_bd _ _ _ _).2 rfl (in_3 (cod_bd hx) (mri_4095 (by decide) (by decide)) (mri_4095 (by decide) (by decide))) (by simp))
  have NN := hide (numb_4 B (l ++ (pre (rxb wd r (inx i) b) ++ twos [cod ⟨11, wd, r, b, i, 0, n⟩, mri 2 r 4, mri 0 (inx i) b])) n ⟨11, wd, r, b, i, 0, n⟩ w hB (by have := put_len l (rxb wd r (inx i) b) [cod ⟨11, wd, r, b, i, 0, n⟩, mri 2 r 4, mri 0 (inx i) b] (by simp); omega) (s32_64 hs))
  have HE : Hid (l ++ enc ⟨11, wd, r, b, i, 0, n⟩ = (l ++ (pre (rxb wd r (inx i) b) ++ twos [cod ⟨11, wd, r, b, i, 0, n⟩, mri 2 r 4, mri 0 (inx i) b])) ++ bys 4 n) := by show _ = _; simp [enc, rx, mrs, nmb, fR2, fRR, fB, fP, h32, mid, twos, two_3, two_2, two_0]
  generalize hck : cod ⟨11, wd, r, b, i, 0, n⟩ = ck at CC PP HE NN
  generalize hrr : rxb wd r (inx i) b = rr at PP HE RX NN
  obtain ⟨m0, m1, m2, m3, m4, m5, m6⟩ := B0.cells
  have HB0 := hide B0
  clear B0 W0 hx
  go_enter Try.func30, Try.ntmps30
  go_wp2_with fail
  rw [← hW]
  refine (II.out _).mono ?_
  clear hW
  rintro e V ⟨rfl, hbV⟩
  have HV := hide hbV
  have HBV := hide (HB0.out.kept hbV)
  clear m0 m1 m2 m3 m4 m5 m6 hbV
  obtain ⟨m0, m1, m2, m3, m4, m5, m6⟩ := HBV.out.cells
  go_wp2_with fail
  go_region_held3 (fun X => X.cell? ⟨w.heap.size, 0, none⟩ = some (.int .i64 11) ∧ X.cell? ⟨w.heap.size, 1, none⟩ = some (.bool wd) ∧ X.cell? ⟨w.heap.size, 2, none⟩ = some (.int .i64 r) ∧ X.cell? ⟨w.heap.size, 3, none⟩ = some (.int .i64 b) ∧ X.cell? ⟨w.heap.size, 4, none⟩ = some (.int .i64 i) ∧ X.cell? ⟨w.heap.size, 5, none⟩ = some (.int .i64 0) ∧ X.cell? ⟨w.heap.size, 6, none⟩ = some (.int .i64 n)) (go_keep)
    (first | (go_at_call 48; refine (RX.out _).mono ?_; rintro e w' ⟨rfl, rfl⟩) | (go_at_call 50; refine (mr_any _ _ _ _ ?ha ?hb ?hc ?hd).mono ?_; (case ha => decide); (case hb => decide); (case hc => first | exact h1.1 | exact (inx_0 h3).1); (case hd => first | decide | exact h2.1); rintro e w' ⟨rfl, rfl⟩) | (go_at_call 49; refine (CC.out _).mono ?_; rintro e w2 ⟨rfl, hb2⟩; have K2 : Hid (Below V.heap.size V w2) := bel_draw hb2 ⟨rfl, rfl, rfl, Nat.le_refl _, fun _ _ => rfl⟩; obtain ⟨x0, x1, x2, x3, x4, x5, x6⟩ := (HBV.out.kept K2.out).cells) | (go_at_call 47; refine (PP.out V HV _ _ ?hk ?hU).mono ?_; (case hU => exact ⟨rfl, rfl, rfl, Nat.le_refl _, fun _ _ => rfl⟩); (case hk => assumption); rintro e w3 ⟨v3, rfl, T3⟩; obtain ⟨y0, y1, y2, y3, y4, y5, y6⟩ := T3.out.2.2.1.cells))
  go_wp2_with (first | (go_at_call 52; refine (has_any _ _).mono ?_; rintro e w' ⟨rfl, rfl⟩) | (go_at_call 46; refine (NN.out _ ?wq _ ?hT ?hU).mono ?_; (case hT => assumption); (case hU => exact Below.refl _ _); rintro e w4 ⟨v4, rfl, T4⟩))
  go_ret
  exact ⟨_, rfl, by rw [HE.out]; exact T4.out.1, T4.out.2.1⟩
set_option maxHeartbeats 8000000 in
theorem write_17 (B : Nat) (v : Value) (l : List UInt8) (n : Int) (w : World) (hB : B ≤ w.heap.size) (hr : BRow B v l w) (hl : l.length + 16 ≤ 140737488355328) (hx : rt ⟨17, false, 0, 0, 0, 0, n⟩ = true) (hs : s32 n = true) : WrIs B v l ⟨17, false, 0, 0, 0, 0, n⟩ w := by
  unfold WrIs
  simp only [xv]
  obtain ⟨W, hW⟩ : ∃ W, W = w.alloc (.cells #[.int .i64 17, .bool false, .int .i64 0, .int .i64 0, .int .i64 0, .int .i64 0, .int .i64 n] 49) := ⟨_, rfl⟩
  have B0 : Bx w.heap.size ⟨17, false, 0, 0, 0, 0, n⟩ W := by rw [hW]; exact Bx.made w ⟨17, false, 0, 0, 0, 0, n⟩
  have W0 : Below w.heap.size w W := by rw [hW]; exact bel_one _ _
  have CC := hide (code_is 17 false 0 0 0 0 n hx _ rfl)
  have RX := hide (fun U : World => rex_any false 0 0 0 U)
  have PP := hide (put_in B v l (rxb false 0 0 0) [cod ⟨17, false, 0, 0, 0, 0, n⟩] ⟨17, false, 0, 0, 0, 0, n⟩ w W #[.int .i64 (cod ⟨17, false, 0, 0, 0, 0, n⟩)] hB hr (by omega) B0 W0 (rxb_bd _ _ _ _).1 (rxb_bd _ _ _ _).2 rfl (in_1 (cod_bd hx)) (by simp))
  have NN := hide (numb_4 B (l ++ (pre (rxb false 0 0 0) ++ twos [cod ⟨17, false, 0, 0, 0, 0, n⟩])) n ⟨17, false, 0, 0, 0, 0, n⟩ w hB (by have := put_len l (rxb false 0 0 0) [cod ⟨17, false, 0, 0, 0, 0, n⟩] (by simp); omega) (s32_64 hs))
  have HE : Hid (l ++ enc ⟨17, false, 0, 0, 0, 0, n⟩ = (l ++ (pre (rxb false 0 0 0) ++ twos [cod ⟨17, false, 0, 0, 0, 0, n⟩])) ++ bys 4 n) := by show _ = _; simp [enc, rx, mrs, nmb, fR2, fRR, fB, fP, h32, mid, twos, two_3, two_2, two_0]
  generalize hck : cod ⟨17, false, 0, 0, 0, 0, n⟩ = ck at CC PP HE NN
  generalize hrr : rxb false 0 0 0 = rr at PP HE RX NN
  obtain ⟨m0, m1, m2, m3, m4, m5, m6⟩ := B0.cells
  have HB0 := hide B0
  clear B0 W0 hx
  go_enter Try.func30, Try.ntmps30
  go_wp2_with fail
  rw [← hW]
  clear hW
  go_region_held3 (fun X => X.cell? ⟨w.heap.size, 0, none⟩ = some (.int .i64 17) ∧ X.cell? ⟨w.heap.size, 1, none⟩ = some (.bool false) ∧ X.cell? ⟨w.heap.size, 2, none⟩ = some (.int .i64 0) ∧ X.cell? ⟨w.heap.size, 3, none⟩ = some (.int .i64 0) ∧ X.cell? ⟨w.heap.size, 4, none⟩ = some (.int .i64 0) ∧ X.cell? ⟨w.heap.size, 5, none⟩ = some (.int .i64 0) ∧ X.cell? ⟨w.heap.size, 6, none⟩ = some (.int .i64 n)) (go_keep)
    (first | (go_at_call 48; refine (RX.out _).mono ?_; rintro e w' ⟨rfl, rfl⟩) | (go_at_call 49; refine (CC.out _).mono ?_; rintro e w2 ⟨rfl, hb2⟩; have K2 : Hid (Below W.heap.size W w2) := bel_draw hb2 ⟨rfl, rfl, rfl, Nat.le_refl _, fun _ _ => rfl⟩; obtain ⟨x0, x1, x2, x3, x4, x5, x6⟩ := (HB0.out.kept K2.out).cells) | (go_at_call 47; refine (PP.out _ _ ?hk ?hU).mono ?_; (case hU => exact ⟨rfl, rfl, rfl, Nat.le_refl _, fun _ _ => rfl⟩); (case hk => assumption); rintro e w3 ⟨v3, rfl, T3⟩; obtain ⟨y0, y1, y2, y3, y4, y5, y6⟩ := T3.out.2.2.1.cells))
  go_wp2_with (first | (go_at_call 52; refine (has_any _ _).mono ?_; rintro e w' ⟨rfl, rfl⟩) | (go_at_call 46; refine (NN.out _ ?wq _ ?hT ?hU).mono ?_; (case hT => assumption); (case hU => exact Below.refl _ _); rintro e w4 ⟨v4, rfl, T4⟩))
  go_ret
  exact ⟨_, rfl, by rw [HE.out]; exact T4.out.1, T4.out.2.1⟩
set_option maxHeartbeats 8000000 in
theorem write_18 (B : Nat) (v : Value) (l : List UInt8) (c n : Int) (w : World) (hB : B ≤ w.heap.size) (hr : BRow B v l w) (hl : l.length + 16 ≤ 140737488355328) (hx : rt ⟨18, false, 0, 0, 0, c, n⟩ = true) (hc : cnK c = true) (hs : s32 n = true) : WrIs B v l ⟨18, false, 0, 0, 0, c, n⟩ w := by
  unfold WrIs
  simp only [xv]
  obtain ⟨W, hW⟩ : ∃ W, W = w.alloc (.cells #[.int .i64 18, .bool false, .int .i64 0, .int .i64 0, .int .i64 0, .int .i64 c, .int .i64 n] 49) := ⟨_, rfl⟩
  have B0 : Bx w.heap.size ⟨18, false, 0, 0, 0, c, n⟩ W := by rw [hW]; exact Bx.made w ⟨18, false, 0, 0, 0, c, n⟩
  have W0 : Below w.heap.size w W := by rw [hW]; exact bel_one _ _
  have CC := hide (code_is 18 false 0 0 0 c n hx _ rfl)
  have RX := hide (fun U : World => rex_any false 0 0 0 U)
  have PP := hide (put_in B v l (rxb false 0 0 0) [cod ⟨18, false, 0, 0, 0, c, n⟩] ⟨18, false, 0, 0, 0, c, n⟩ w W #[.int .i64 (cod ⟨18, false, 0, 0, 0, c, n⟩)] hB hr (by omega) B0 W0 (rxb_bd _ _ _ _).1 (rxb_bd _ _ _ _).2 rfl (in_1 (cod_bd hx)) (by simp))
  have NN := hide (numb_4 B (l ++ (pre (rxb false 0 0 0) ++ twos [cod ⟨18, false, 0, 0, 0, c, n⟩])) n ⟨18, false, 0, 0, 0, c, n⟩ w hB (by have := put_len l (rxb false 0 0 0) [cod ⟨18, false, 0, 0, 0, c, n⟩] (by simp); omega) (s32_64 hs))
  have HE : Hid (l ++ enc ⟨18, false, 0, 0, 0, c, n⟩ = (l ++ (pre (rxb false 0 0 0) ++ twos [cod ⟨18, false, 0, 0, 0, c, n⟩])) ++ bys 4 n) := by show _ = _; simp [enc, rx, mrs, nmb, fR2, fRR, fB, fP, h32, mid, twos, two_3, two_2, two_0]
  generalize hck : cod ⟨18, false, 0, 0, 0, c, n⟩ = ck at CC PP HE NN
  generalize hrr : rxb false 0 0 0 = rr at PP HE RX NN
  obtain ⟨m0, m1, m2, m3, m4, m5, m6⟩ := B0.cells
  have HB0 := hide B0
  clear B0 W0 hx
  go_enter Try.func30, Try.ntmps30
  go_wp2_with fail
  rw [← hW]
  clear hW
  go_region_held3 (fun X => X.cell? ⟨w.heap.size, 0, none⟩ = some (.int .i64 18) ∧ X.cell? ⟨w.heap.size, 1, none⟩ = some (.bool false) ∧ X.cell? ⟨w.heap.size, 2, none⟩ = some (.int .i64 0) ∧ X.cell? ⟨w.heap.size, 3, none⟩ = some (.int .i64 0) ∧ X.cell? ⟨w.heap.size, 4, none⟩ = some (.int .i64 0) ∧ X.cell? ⟨w.heap.size, 5, none⟩ = some (.int .i64 c) ∧ X.cell? ⟨w.heap.size, 6, none⟩ = some (.int .i64 n)) (go_keep)
    (first | (go_at_call 48; refine (RX.out _).mono ?_; rintro e w' ⟨rfl, rfl⟩) | (go_at_call 49; refine (CC.out _).mono ?_; rintro e w2 ⟨rfl, hb2⟩; have K2 : Hid (Below W.heap.size W w2) := bel_draw hb2 ⟨rfl, rfl, rfl, Nat.le_refl _, fun _ _ => rfl⟩; obtain ⟨x0, x1, x2, x3, x4, x5, x6⟩ := (HB0.out.kept K2.out).cells) | (go_at_call 47; refine (PP.out _ _ ?hk ?hU).mono ?_; (case hU => exact ⟨rfl, rfl, rfl, Nat.le_refl _, fun _ _ => rfl⟩); (case hk => assumption); rintro e w3 ⟨v3, rfl, T3⟩; obtain ⟨y0, y1, y2, y3, y4, y5, y6⟩ := T3.out.2.2.1.cells))
  go_wp2_with (first | (go_at_call 52; refine (has_any _ _).mono ?_; rintro e w' ⟨rfl, rfl⟩) | (go_at_call 46; refine (NN.out _ ?wq _ ?hT ?hU).mono ?_; (case hT => assumption); (case hU => exact Below.refl _ _); rintro e w4 ⟨v4, rfl, T4⟩))
  go_ret
  exact ⟨_, rfl, by rw [HE.out]; exact T4.out.1, T4.out.2.1⟩
set_option maxHeartbeats 8000000 in
theorem write_20 (B : Nat) (v : Value) (l : List UInt8)  (w : World) (hB : B ≤ w.heap.size) (hr : BRow B v l w) (hl : l.length + 16 ≤ 140737488355328) (hx : rt ⟨20, false, 0, 0, 0, 0, 0⟩ = true)  : WrIs B v l ⟨20, false, 0, 0, 0, 0, 0⟩ w := by
  unfold WrIs
  simp only [xv]
  obtain ⟨W, hW⟩ : ∃ W, W = w.alloc (.cells #[.int .i64 20, .bool false, .int .i64 0, .int .i64 0, .int .i64 0, .int .i64 0, .int .i64 0] 49) := ⟨_, rfl⟩
  have B0 : Bx w.heap.size ⟨20, false, 0, 0, 0, 0, 0⟩ W := by rw [hW]; exact Bx.made w ⟨20, false, 0, 0, 0, 0, 0⟩
  have W0 : Below w.heap.size w W := by rw [hW]; exact bel_one _ _
  have CC := hide (code_is 20 false 0 0 0 0 0 hx _ rfl)
  have RX := hide (fun U : World => rex_any false 0 0 0 U)
  have PP := hide (put_in B v l (rxb false 0 0 0) [cod ⟨20, false, 0, 0, 0, 0, 0⟩] ⟨20, false, 0, 0, 0, 0, 0⟩ w W #[.int .i64 (cod ⟨20, false, 0, 0, 0, 0, 0⟩)] hB hr (by omega) B0 W0 (rxb_bd _ _ _ _).1 (rxb_bd _ _ _ _).2 rfl (in_1 (cod_bd hx)) (by simp))
  have HE : Hid (l ++ enc ⟨20, false, 0, 0, 0, 0, 0⟩ = (l ++ (pre (rxb false 0 0 0) ++ twos [cod ⟨20, false, 0, 0, 0, 0, 0⟩]))) := by show _ = _; simp [enc, rx, mrs, nmb, fR2, fRR, fB, fP, h32, mid, twos, two_3, two_2, two_0]
  generalize hck : cod ⟨20, false, 0, 0, 0, 0, 0⟩ = ck at CC PP HE
  generalize hrr : rxb false 0 0 0 = rr at PP HE RX
  obtain ⟨m0, m1, m2, m3, m4, m5, m6⟩ := B0.cells
  have HB0 := hide B0
  clear B0 W0 hx
  go_enter Try.func30, Try.ntmps30
  go_wp2_with fail
  rw [← hW]
  clear hW
  go_region_held3 (fun X => X.cell? ⟨w.heap.size, 0, none⟩ = some (.int .i64 20) ∧ X.cell? ⟨w.heap.size, 1, none⟩ = some (.bool false) ∧ X.cell? ⟨w.heap.size, 2, none⟩ = some (.int .i64 0) ∧ X.cell? ⟨w.heap.size, 3, none⟩ = some (.int .i64 0) ∧ X.cell? ⟨w.heap.size, 4, none⟩ = some (.int .i64 0) ∧ X.cell? ⟨w.heap.size, 5, none⟩ = some (.int .i64 0) ∧ X.cell? ⟨w.heap.size, 6, none⟩ = some (.int .i64 0)) (go_keep)
    (first | (go_at_call 48; refine (RX.out _).mono ?_; rintro e w' ⟨rfl, rfl⟩) | (go_at_call 49; refine (CC.out _).mono ?_; rintro e w2 ⟨rfl, hb2⟩; have K2 : Hid (Below W.heap.size W w2) := bel_draw hb2 ⟨rfl, rfl, rfl, Nat.le_refl _, fun _ _ => rfl⟩; obtain ⟨x0, x1, x2, x3, x4, x5, x6⟩ := (HB0.out.kept K2.out).cells) | (go_at_call 47; refine (PP.out _ _ ?hk ?hU).mono ?_; (case hU => exact ⟨rfl, rfl, rfl, Nat.le_refl _, fun _ _ => rfl⟩); (case hk => assumption); rintro e w3 ⟨v3, rfl, T3⟩; obtain ⟨y0, y1, y2, y3, y4, y5, y6⟩ := T3.out.2.2.1.cells))
  go_wp2_with (go_at_call 52; refine (has_any _ _).mono ?_; rintro e w' ⟨rfl, rfl⟩)
  go_ret
  exact ⟨_, rfl, by rw [HE.out]; exact T3.out.1, T3.out.2.1⟩
end Go.Proofs.Ytielpebokbolbaa.Xc
/-
  The walks of the program's write: store, call, hlt, stop.
-/
namespace Go.Proofs.Ytielpebokbolbaa.Xc
open Go.RowKit
set_option linter.unusedSimpArgs false
set_option linter.unusedVariables false
attribute [local go_sem ↓] Go.wp_at_zero Go.wp_at_succ

set_option maxHeartbeats 8000000 in
theorem write_12 (B : Nat) (v : Value) (l : List UInt8) (wd : Bool) (r b i n : Int) (w : World) (hB : B ≤ w.heap.size) (hr : BRow B v l w) (hl : l.length + 16 ≤ 140737488355328) (hx : rt ⟨12, wd, r, b, i, 0, n⟩ = true) (h1 : 0 ≤ r ∧ r ≤ 15) (h2 : 0 ≤ b ∧ b ≤ 15) (h3 : 0 ≤ i ∧ i ≤ 16 ∧ i ≠ 5) (hs : s32 n = true) : WrIs B v l ⟨12, wd, r, b, i, 0, n⟩ w := by
  unfold WrIs
  simp only [xv]
  obtain ⟨W, hW⟩ : ∃ W, W = w.alloc (.cells #[.int .i64 12, .bool wd, .int .i64 r, .int .i64 b, .int .i64 i, .int .i64 0, .int .i64 n] 49) := ⟨_, rfl⟩
  have B0 : Bx w.heap.size ⟨12, wd, r, b, i, 0, n⟩ W := by rw [hW]; exact Bx.made w ⟨12, wd, r, b, i, 0, n⟩
  have W0 : Below w.heap.size w W := by rw [hW]; exact bel_one _ _
  have CC := hide (code_is 12 wd r b i 0 n hx _ rfl)
  have II := hide (index_is 12 wd r b i 0 n h3.1 h3.2.1)
  have RX := hide (fun U : World => rex_any wd r (inx i) b U)
  have PP := hide (fun (V : World) (hV : Hid (Below W.heap.size W V)) => put_in B v l (rxb wd r (inx i) b) [cod ⟨12, wd, r, b, i, 0, n⟩, mri 2 r 4, mri 0 (inx i) b] ⟨12, wd, r, b, i, 0, n⟩ w V #[.int .i64 (cod ⟨12, wd, r, b, i, 0, n⟩), .int .i64 (mri 2 r 4), .int .i64 (mri 0 (inx i) b)] hB hr (by omega) (B0.kept hV.out) (bel_tr W0 hV.out) (rxb_bd _ _ _ _).1 (rxb_bd _ _ _ _).2 rfl (in_3 (cod_bd hx) (mri_4095 (by decide) (by decide)) (mri_4095 (by decide) (by decide))) (by simp))
  have NN := hide (numb_4 B (l ++ (pre (rxb wd r (inx i) b) ++ twos [cod ⟨12, wd, r, b, i, 0, n⟩, mri 2 r 4, mri 0 (inx i) b])) n ⟨12, wd, r, b, i, 0, n⟩ w hB (by have := put_len l (rxb wd r (inx i) b) [cod ⟨12, wd, r, b, i, 0, n⟩, mri 2 r 4, mri 0 (inx i) b] (by simp); omega) (s32_64 hs))
  have HE : Hid (l ++ enc ⟨12, wd, r, b, i, 0, n⟩ = (l ++ (pre (rxb wd r (inx i) b) ++ twos [cod ⟨12, wd, r, b, i, 0, n⟩, mri 2 r 4, mri 0 (inx i) b])) ++ bys 4 n) := by show _ = _; simp [enc, rx, mrs, nmb, fR2, fRR, fB, fP, h32, mid, twos, two_3, two_2, two_0]
  generalize hck : cod ⟨12, wd, r, b, i, 0, n⟩ = ck at CC PP HE NN
  generalize hrr : rxb wd r (inx i) b = rr at PP HE RX NN
  obtain ⟨m0, m1, m2, m3, m4, m5, m6⟩ := B0.cells
  have HB0 := hide B0
  clear B0 W0 hx
  go_enter Try.func30, Try.ntmps30
  go_wp2_with fail
  rw [← hW]
  refine (II.out _).mono ?_
  clear hW
  rintro e V ⟨rfl, hbV⟩
  have HV := hide hbV
  have HBV := hide (HB0.out.kept hbV)
  clear m0 m1 m2 m3 m4 m5 m6 hbV
  obtain ⟨m0, m1, m2, m3, m4, m5, m6⟩ := HBV.out.cells
  go_wp2_with fail
  go_region_held3 (fun X => X.cell? ⟨w.heap.size, 0, none⟩ = some (.int .i64 12) ∧ X.cell? ⟨w.heap.size, 1, none⟩ = some (.bool wd) ∧ X.cell? ⟨w.heap.size, 2, none⟩ = some (.int .i64 r) ∧ X.cell? ⟨w.heap.size, 3, none⟩ = some (.int .i64 b) ∧ X.cell? ⟨w.heap.size, 4, none⟩ = some (.int .i64 i) ∧ X.cell? ⟨w.heap.size, 5, none⟩ = some (.int .i64 0) ∧ X.cell? ⟨w.heap.size, 6, none⟩ = some (.int .i64 n)) (go_keep)
    (first | (go_at_call 48; refine (RX.out _).mono ?_; rintro e w' ⟨rfl, rfl⟩) | (go_at_call 50; refine (mr_any _ _ _ _ ?ha ?hb ?hc ?hd).mono ?_; (case ha => decide); (case hb => decide); (case hc => first | exact h1.1 | exact (inx_0 h3).1); (case hd => first | decide | exact h2.1); rintro e w' ⟨rfl, rfl⟩) | (go_at_call 49; refine (CC.out _).mono ?_; rintro e w2 ⟨rfl, hb2⟩; have K2 : Hid (Below V.heap.size V w2) := bel_draw hb2 ⟨rfl, rfl, rfl, Nat.le_refl _, fun _ _ => rfl⟩; obtain ⟨x0, x1, x2, x3, x4, x5, x6⟩ := (HBV.out.kept K2.out).cells) | (go_at_call 47; refine (PP.out V HV _ _ ?hk ?hU).mono ?_; (case hU => exact ⟨rfl, rfl, rfl, Nat.le_refl _, fun _ _ => rfl⟩); (case hk => assumption); rintro e w3 ⟨v3, rfl, T3⟩; obtain ⟨y0, y1, y2, y3, y4, y5, y6⟩ := T3.out.2.2.1.cells))
  go_wp2_with (first | (go_at_call 52; refine (has_any _ _).mono ?_; rintro e w' ⟨rfl, rfl⟩) | (go_at_call 46; refine (NN.out _ ?wq _ ?hT ?hU).mono ?_; (case hT => assumption); (case hU => exact Below.refl _ _); rintro e w4 ⟨v4, rfl, T4⟩))
  go_ret
  exact ⟨_, rfl, by rw [HE.out]; exact T4.out.1, T4.out.2.1⟩
set_option maxHeartbeats 8000000 in
theorem write_19 (B : Nat) (v : Value) (l : List UInt8) (n : Int) (w : World) (hB : B ≤ w.heap.size) (hr : BRow B v l w) (hl : l.length + 16 ≤ 140737488355328) (hx : rt ⟨19, false, 0, 0, 0, 0, n⟩ = true) (hs : s32 n = true) : WrIs B v l ⟨19, false, 0, 0, 0, 0, n⟩ w := by
  unfold WrIs
  simp only [xv]
  obtain ⟨W, hW⟩ : ∃ W, W = w.alloc (.cells #[.int .i64 19, .bool false, .int .i64 0, .int .i64 0, .int .i64 0, .int .i64 0, .int .i64 n] 49) := ⟨_, rfl⟩
  have B0 : Bx w.heap.size ⟨19, false, 0, 0, 0, 0, n⟩ W := by rw [hW]; exact Bx.made w ⟨19, false, 0, 0, 0, 0, n⟩
  have W0 : Below w.heap.size w W := by rw [hW]; exact bel_one _ _
  have CC := hide (code_is 19 false 0 0 0 0 n hx _ rfl)
  have RX := hide (fun U : World => rex_any false 0 0 0 U)
  have PP := hide (put_in B v l (rxb false 0 0 0) [cod ⟨19, false, 0, 0, 0, 0, n⟩] ⟨19, false, 0, 0, 0, 0, n⟩ w W #[.int .i64 (cod ⟨19, false, 0, 0, 0, 0, n⟩)] hB hr (by omega) B0 W0 (rxb_bd _ _ _ _).1 (rxb_bd _ _ _ _).2 rfl (in_1 (cod_bd hx)) (by simp))
  have NN := hide (numb_4 B (l ++ (pre (rxb false 0 0 0) ++ twos [cod ⟨19, false, 0, 0, 0, 0, n⟩])) n ⟨19, false, 0, 0, 0, 0, n⟩ w hB (by have := put_len l (rxb false 0 0 0) [cod ⟨19, false, 0, 0, 0, 0, n⟩] (by simp); omega) (s32_64 hs))
  have HE : Hid (l ++ enc ⟨19, false, 0, 0, 0, 0, n⟩ = (l ++ (pre (rxb false 0 0 0) ++ twos [cod ⟨19, false, 0, 0, 0, 0, n⟩])) ++ bys 4 n) := by show _ = _; simp [enc, rx, mrs, nmb, fR2, fRR, fB, fP, h32, mid, twos, two_3, two_2, two_0]
  generalize hck : cod ⟨19, false, 0, 0, 0, 0, n⟩ = ck at CC PP HE NN
  generalize hrr : rxb false 0 0 0 = rr at PP HE RX NN
  obtain ⟨m0, m1, m2, m3, m4, m5, m6⟩ := B0.cells
  have HB0 := hide B0
  clear B0 W0 hx
  go_enter Try.func30, Try.ntmps30
  go_wp2_with fail
  rw [← hW]
  clear hW
  go_region_held3 (fun X => X.cell? ⟨w.heap.size, 0, none⟩ = some (.int .i64 19) ∧ X.cell? ⟨w.heap.size, 1, none⟩ = some (.bool false) ∧ X.cell? ⟨w.heap.size, 2, none⟩ = some (.int .i64 0) ∧ X.cell? ⟨w.heap.size, 3, none⟩ = some (.int .i64 0) ∧ X.cell? ⟨w.heap.size, 4, none⟩ = some (.int .i64 0) ∧ X.cell? ⟨w.heap.size, 5, none⟩ = some (.int .i64 0) ∧ X.cell? ⟨w.heap.size, 6, none⟩ = some (.int .i64 n)) (go_keep)
    (first | (go_at_call 48; refine (RX.out _).mono ?_; rintro e w' ⟨rfl, rfl⟩) | (go_at_call 49; refine (CC.out _).mono ?_; rintro e w2 ⟨rfl, hb2⟩; have K2 : Hid (Below W.heap.size W w2) := bel_draw hb2 ⟨rfl, rfl, rfl, Nat.le_refl _, fun _ _ => rfl⟩; obtain ⟨x0, x1, x2, x3, x4, x5, x6⟩ := (HB0.out.kept K2.out).cells) | (go_at_call 47; refine (PP.out _ _ ?hk ?hU).mono ?_; (case hU => exact ⟨rfl, rfl, rfl, Nat.le_refl _, fun _ _ => rfl⟩); (case hk => assumption); rintro e w3 ⟨v3, rfl, T3⟩; obtain ⟨y0, y1, y2, y3, y4, y5, y6⟩ := T3.out.2.2.1.cells))
  go_wp2_with (first | (go_at_call 52; refine (has_any _ _).mono ?_; rintro e w' ⟨rfl, rfl⟩) | (go_at_call 46; refine (NN.out _ ?wq _ ?hT ?hU).mono ?_; (case hT => assumption); (case hU => exact Below.refl _ _); rintro e w4 ⟨v4, rfl, T4⟩))
  go_ret
  exact ⟨_, rfl, by rw [HE.out]; exact T4.out.1, T4.out.2.1⟩
set_option maxHeartbeats 8000000 in
theorem write_21 (B : Nat) (v : Value) (l : List UInt8)  (w : World) (hB : B ≤ w.heap.size) (hr : BRow B v l w) (hl : l.length + 16 ≤ 140737488355328) (hx : rt ⟨21, false, 0, 0, 0, 0, 0⟩ = true)  : WrIs B v l ⟨21, false, 0, 0, 0, 0, 0⟩ w := by
  unfold WrIs
  simp only [xv]
  obtain ⟨W, hW⟩ : ∃ W, W = w.alloc (.cells #[.int .i64 21, .bool false, .int .i64 0, .int .i64 0, .int .i64 0, .int .i64 0, .int .i64 0] 49) := ⟨_, rfl⟩
  have B0 : Bx w.heap.size ⟨21, false, 0, 0, 0, 0, 0⟩ W := by rw [hW]; exact Bx.made w ⟨21, false, 0, 0, 0, 0, 0⟩
  have W0 : Below w.heap.size w W := by rw [hW]; exact bel_one _ _
  have CC := hide (code_is 21 false 0 0 0 0 0 hx _ rfl)
  have RX := hide (fun U : World => rex_any false 0 0 0 U)
  have PP := hide (put_in B v l (rxb false 0 0 0) [cod ⟨21, false, 0, 0, 0, 0, 0⟩] ⟨21, false, 0, 0, 0, 0, 0⟩ w W #[.int .i64 (cod ⟨21, false, 0, 0, 0, 0, 0⟩)] hB hr (by omega) B0 W0 (rxb_bd _ _ _ _).1 (rxb_bd _ _ _ _).2 rfl (in_1 (cod_bd hx)) (by simp))
  have HE : Hid (l ++ enc ⟨21, false, 0, 0, 0, 0, 0⟩ = (l ++ (pre (rxb false 0 0 0) ++ twos [cod ⟨21, false, 0, 0, 0, 0, 0⟩]))) := by show _ = _; simp [enc, rx, mrs, nmb, fR2, fRR, fB, fP, h32, mid, twos, two_3, two_2, two_0]
  generalize hck : cod ⟨21, false, 0, 0, 0, 0, 0⟩ = ck at CC PP HE
  generalize hrr : rxb false 0 0 0 = rr at PP HE RX
  obtain ⟨m0, m1, m2, m3, m4, m5, m6⟩ := B0.cells
  have HB0 := hide B0
  clear B0 W0 hx
  go_enter Try.func30, Try.ntmps30
  go_wp2_with fail
  rw [← hW]
  clear hW
  go_region_held3 (fun X => X.cell? ⟨w.heap.size, 0, none⟩ = some (.int .i64 21) ∧ X.cell? ⟨w.heap.size, 1, none⟩ = some (.bool false) ∧ X.cell? ⟨w.heap.size, 2, none⟩ = some (.int .i64 0) ∧ X.cell? ⟨w.heap.size, 3, none⟩ = some (.int .i64 0) ∧ X.cell? ⟨w.heap.size, 4, none⟩ = some (.int .i64 0) ∧ X.cell? ⟨w.heap.size, 5, none⟩ = some (.int .i64 0) ∧ X.cell? ⟨w.heap.size, 6, none⟩ = some (.int .i64 0)) (go_keep)
    (first | (go_at_call 48; refine (RX.out _).mono ?_; rintro e w' ⟨rfl, rfl⟩) | (go_at_call 49; refine (CC.out _).mono ?_; rintro e w2 ⟨rfl, hb2⟩; have K2 : Hid (Below W.heap.size W w2) := bel_draw hb2 ⟨rfl, rfl, rfl, Nat.le_refl _, fun _ _ => rfl⟩; obtain ⟨x0, x1, x2, x3, x4, x5, x6⟩ := (HB0.out.kept K2.out).cells) | (go_at_call 47; refine (PP.out _ _ ?hk ?hU).mono ?_; (case hU => exact ⟨rfl, rfl, rfl, Nat.le_refl _, fun _ _ => rfl⟩); (case hk => assumption); rintro e w3 ⟨v3, rfl, T3⟩; obtain ⟨y0, y1, y2, y3, y4, y5, y6⟩ := T3.out.2.2.1.cells))
  go_wp2_with (go_at_call 52; refine (has_any _ _).mono ?_; rintro e w' ⟨rfl, rfl⟩)
  go_ret
  exact ⟨_, rfl, by rw [HE.out]; exact T3.out.1, T3.out.2.1⟩
set_option maxHeartbeats 8000000 in
theorem write_22 (B : Nat) (v : Value) (l : List UInt8)  (w : World) (hB : B ≤ w.heap.size) (hr : BRow B v l w) (hl : l.length + 16 ≤ 140737488355328) (hx : rt ⟨22, false, 0, 0, 0, 0, 0⟩ = true)  : WrIs B v l ⟨22, false, 0, 0, 0, 0, 0⟩ w := by
  unfold WrIs
  simp only [xv]
  obtain ⟨W, hW⟩ : ∃ W, W = w.alloc (.cells #[.int .i64 22, .bool false, .int .i64 0, .int .i64 0, .int .i64 0, .int .i64 0, .int .i64 0] 49) := ⟨_, rfl⟩
  have B0 : Bx w.heap.size ⟨22, false, 0, 0, 0, 0, 0⟩ W := by rw [hW]; exact Bx.made w ⟨22, false, 0, 0, 0, 0, 0⟩
  have W0 : Below w.heap.size w W := by rw [hW]; exact bel_one _ _
  have CC := hide (code_is 22 false 0 0 0 0 0 hx _ rfl)
  have RX := hide (fun U : World => rex_any false 0 0 0 U)
  have PP := hide (put_in B v l (rxb false 0 0 0) [cod ⟨22, false, 0, 0, 0, 0, 0⟩] ⟨22, false, 0, 0, 0, 0, 0⟩ w W #[.int .i64 (cod ⟨22, false, 0, 0, 0, 0, 0⟩)] hB hr (by omega) B0 W0 (rxb_bd _ _ _ _).1 (rxb_bd _ _ _ _).2 rfl (in_1 (cod_bd hx)) (by simp))
  have HE : Hid (l ++ enc ⟨22, false, 0, 0, 0, 0, 0⟩ = (l ++ (pre (rxb false 0 0 0) ++ twos [cod ⟨22, false, 0, 0, 0, 0, 0⟩]))) := by show _ = _; simp [enc, rx, mrs, nmb, fR2, fRR, fB, fP, h32, mid, twos, two_3, two_2, two_0]
  generalize hck : cod ⟨22, false, 0, 0, 0, 0, 0⟩ = ck at CC PP HE
  generalize hrr : rxb false 0 0 0 = rr at PP HE RX
  obtain ⟨m0, m1, m2, m3, m4, m5, m6⟩ := B0.cells
  have HB0 := hide B0
  clear B0 W0 hx
  go_enter Try.func30, Try.ntmps30
  go_wp2_with fail
  rw [← hW]
  clear hW
  go_region_held3 (fun X => X.cell? ⟨w.heap.size, 0, none⟩ = some (.int .i64 22) ∧ X.cell? ⟨w.heap.size, 1, none⟩ = some (.bool false) ∧ X.cell? ⟨w.heap.size, 2, none⟩ = some (.int .i64 0) ∧ X.cell? ⟨w.heap.size, 3, none⟩ = some (.int .i64 0) ∧ X.cell? ⟨w.heap.size, 4, none⟩ = some (.int .i64 0) ∧ X.cell? ⟨w.heap.size, 5, none⟩ = some (.int .i64 0) ∧ X.cell? ⟨w.heap.size, 6, none⟩ = some (.int .i64 0)) (go_keep)
    (first | (go_at_call 48; refine (RX.out _).mono ?_; rintro e w' ⟨rfl, rfl⟩) | (go_at_call 49; refine (CC.out _).mono ?_; rintro e w2 ⟨rfl, hb2⟩; have K2 : Hid (Below W.heap.size W w2) := bel_draw hb2 ⟨rfl, rfl, rfl, Nat.le_refl _, fun _ _ => rfl⟩; obtain ⟨x0, x1, x2, x3, x4, x5, x6⟩ := (HB0.out.kept K2.out).cells) | (go_at_call 47; refine (PP.out _ _ ?hk ?hU).mono ?_; (case hU => exact ⟨rfl, rfl, rfl, Nat.le_refl _, fun _ _ => rfl⟩); (case hk => assumption); rintro e w3 ⟨v3, rfl, T3⟩; obtain ⟨y0, y1, y2, y3, y4, y5, y6⟩ := T3.out.2.2.1.cells))
  go_wp2_with (go_at_call 52; refine (has_any _ _).mono ?_; rintro e w' ⟨rfl, rfl⟩)
  go_ret
  exact ⟨_, rfl, by rw [HE.out]; exact T3.out.1, T3.out.2.1⟩
end Go.Proofs.Ytielpebokbolbaa.Xc
/-
  The walks of the program's write: cmov, widen, host.
-/
namespace Go.Proofs.Ytielpebokbolbaa.Xc
open Go.RowKit
set_option linter.unusedSimpArgs false
set_option linter.unusedVariables false
attribute [local go_sem ↓] Go.wp_at_zero Go.wp_at_succ

set_option maxHeartbeats 8000000 in
theorem write_15 (B : Nat) (v : Value) (l : List UInt8) (wd : Bool) (r b c : Int) (w : World) (hB : B ≤ w.heap.size) (hr : BRow B v l w) (hl : l.length + 16 ≤ 140737488355328) (hx : rt ⟨15, wd, r, b, 0, c, 0⟩ = true) (h1 : 0 ≤ r ∧ r ≤ 15) (h2 : 0 ≤ b ∧ b ≤ 15) (hc : cnK c = true) : WrIs B v l ⟨15, wd, r, b, 0, c, 0⟩ w := by
  unfold WrIs
  simp only [xv]
  obtain ⟨W, hW⟩ : ∃ W, W = w.alloc (.cells #[.int .i64 15, .bool wd, .int .i64 r, .int .i64 b, .int .i64 0, .int .i64 c, .int .i64 0] 49) := ⟨_, rfl⟩
  have B0 : Bx w.heap.size ⟨15, wd, r, b, 0, c, 0⟩ W := by rw [hW]; exact Bx.made w ⟨15, wd, r, b, 0, c, 0⟩
  have W0 : Below w.heap.size w W := by rw [hW]; exact bel_one _ _
  have CC := hide (code_is 15 wd r b 0 c 0 hx _ rfl)
  have MM := hide (fun U : World => mr_any 3 r b U (by decide) (by decide) h1.1 h2.1)
  have RX := hide (fun U : World => rex_any wd r 0 b U)
  have PP := hide (put_in B v l (rxb wd r 0 b) [cod ⟨15, wd, r, b, 0, c, 0⟩, mri 3 r b] ⟨15, wd, r, b, 0, c, 0⟩ w W #[.int .i64 (cod ⟨15, wd, r, b, 0, c, 0⟩), .int .i64 (mri 3 r b)] hB hr (by omega) B0 W0 (rxb_bd _ _ _ _).1 (rxb_bd _ _ _ _).2 rfl (in_2 (cod_bd hx) (mri_4095 (by decide) (by decide))) (by simp))
  have HE : Hid (l ++ enc ⟨15, wd, r, b, 0, c, 0⟩ = (l ++ (pre (rxb wd r 0 b) ++ twos [cod ⟨15, wd, r, b, 0, c, 0⟩, mri 3 r b]))) := by show _ = _; simp [enc, rx, mrs, nmb, fR2, fRR, fB, fP, h32, mid, twos, two_3, two_2, two_0]
  generalize hck : cod ⟨15, wd, r, b, 0, c, 0⟩ = ck at CC PP HE
  generalize hrr : rxb wd r 0 b = rr at PP HE RX
  generalize hmm : mri 3 r b = mm at MM PP HE
  obtain ⟨m0, m1, m2, m3, m4, m5, m6⟩ := B0.cells
  have HB0 := hide B0
  clear B0 W0 hx
  go_enter Try.func30, Try.ntmps30
  go_wp2_with fail
  rw [← hW]
  clear hW
  go_region_held3 (fun X => X.cell? ⟨w.heap.size, 0, none⟩ = some (.int .i64 15) ∧ X.cell? ⟨w.heap.size, 1, none⟩ = some (.bool wd) ∧ X.cell? ⟨w.heap.size, 2, none⟩ = some (.int .i64 r) ∧ X.cell? ⟨w.heap.size, 3, none⟩ = some (.int .i64 b) ∧ X.cell? ⟨w.heap.size, 4, none⟩ = some (.int .i64 0) ∧ X.cell? ⟨w.heap.size, 5, none⟩ = some (.int .i64 c) ∧ X.cell? ⟨w.heap.size, 6, none⟩ = some (.int .i64 0)) (go_keep)
    (first | (go_at_call 48; refine (RX.out _).mono ?_; rintro e w' ⟨rfl, rfl⟩) | (go_at_call 50; refine (MM.out _).mono ?_; rintro e w' ⟨rfl, rfl⟩) | (go_at_call 49; refine (CC.out _).mono ?_; rintro e w2 ⟨rfl, hb2⟩; have K2 : Hid (Below W.heap.size W w2) := bel_draw hb2 ⟨rfl, rfl, rfl, Nat.le_refl _, fun _ _ => rfl⟩; obtain ⟨x0, x1, x2, x3, x4, x5, x6⟩ := (HB0.out.kept K2.out).cells) | (go_at_call 47; refine (PP.out _ _ ?hk ?hU).mono ?_; (case hU => exact ⟨rfl, rfl, rfl, Nat.le_refl _, fun _ _ => rfl⟩); (case hk => assumption); rintro e w3 ⟨v3, rfl, T3⟩; obtain ⟨y0, y1, y2, y3, y4, y5, y6⟩ := T3.out.2.2.1.cells))
  go_wp2_with (go_at_call 52; refine (has_any _ _).mono ?_; rintro e w' ⟨rfl, rfl⟩)
  go_ret
  exact ⟨_, rfl, by rw [HE.out]; exact T3.out.1, T3.out.2.1⟩
set_option maxHeartbeats 8000000 in
theorem write_16 (B : Nat) (v : Value) (l : List UInt8) (r b : Int) (w : World) (hB : B ≤ w.heap.size) (hr : BRow B v l w) (hl : l.length + 16 ≤ 140737488355328) (hx : rt ⟨16, true, r, b, 0, 0, 0⟩ = true) (h1 : 0 ≤ r ∧ r ≤ 15) (h2 : 0 ≤ b ∧ b ≤ 15) : WrIs B v l ⟨16, true, r, b, 0, 0, 0⟩ w := by
  unfold WrIs
  simp only [xv]
  obtain ⟨W, hW⟩ : ∃ W, W = w.alloc (.cells #[.int .i64 16, .bool true, .int .i64 r, .int .i64 b, .int .i64 0, .int .i64 0, .int .i64 0] 49) := ⟨_, rfl⟩
  have B0 : Bx w.heap.size ⟨16, true, r, b, 0, 0, 0⟩ W := by rw [hW]; exact Bx.made w ⟨16, true, r, b, 0, 0, 0⟩
  have W0 : Below w.heap.size w W := by rw [hW]; exact bel_one _ _
  have CC := hide (code_is 16 true r b 0 0 0 hx _ rfl)
  have MM := hide (fun U : World => mr_any 3 r b U (by decide) (by decide) h1.1 h2.1)
  have RX := hide (fun U : World => rex_any true r 0 b U)
  have PP := hide (put_in B v l (rxb true r 0 b) [cod ⟨16, true, r, b, 0, 0, 0⟩, mri 3 r b] ⟨16, true, r, b, 0, 0, 0⟩ w W #[.int .i64 (cod ⟨16, true, r, b, 0, 0, 0⟩), .int .i64 (mri 3 r b)] hB hr (by omega) B0 W0 (rxb_bd _ _ _ _).1 (rxb_bd _ _ _ _).2 rfl (in_2 (cod_bd hx) (mri_4095 (by decide) (by decide))) (by simp))
  have HE : Hid (l ++ enc ⟨16, true, r, b, 0, 0, 0⟩ = (l ++ (pre (rxb true r 0 b) ++ twos [cod ⟨16, true, r, b, 0, 0, 0⟩, mri 3 r b]))) := by show _ = _; simp [enc, rx, mrs, nmb, fR2, fRR, fB, fP, h32, mid, twos, two_3, two_2, two_0]
  generalize hck : cod ⟨16, true, r, b, 0, 0, 0⟩ = ck at CC PP HE
  generalize hrr : rxb true r 0 b = rr at PP HE RX
  generalize hmm : mri 3 r b = mm at MM PP HE
  obtain ⟨m0, m1, m2, m3, m4, m5, m6⟩ := B0.cells
  have HB0 := hide B0
  clear B0 W0 hx
  go_enter Try.func30, Try.ntmps30
  go_wp2_with fail
  rw [← hW]
  clear hW
  go_region_held3 (fun X => X.cell? ⟨w.heap.size, 0, none⟩ = some (.int .i64 16) ∧ X.cell? ⟨w.heap.size, 1, none⟩ = some (.bool true) ∧ X.cell? ⟨w.heap.size, 2, none⟩ = some (.int .i64 r) ∧ X.cell? ⟨w.heap.size, 3, none⟩ = some (.int .i64 b) ∧ X.cell? ⟨w.heap.size, 4, none⟩ = some (.int .i64 0) ∧ X.cell? ⟨w.heap.size, 5, none⟩ = some (.int .i64 0) ∧ X.cell? ⟨w.heap.size, 6, none⟩ = some (.int .i64 0)) (go_keep)
    (first | (go_at_call 48; refine (RX.out _).mono ?_; rintro e w' ⟨rfl, rfl⟩) | (go_at_call 50; refine (MM.out _).mono ?_; rintro e w' ⟨rfl, rfl⟩) | (go_at_call 49; refine (CC.out _).mono ?_; rintro e w2 ⟨rfl, hb2⟩; have K2 : Hid (Below W.heap.size W w2) := bel_draw hb2 ⟨rfl, rfl, rfl, Nat.le_refl _, fun _ _ => rfl⟩; obtain ⟨x0, x1, x2, x3, x4, x5, x6⟩ := (HB0.out.kept K2.out).cells) | (go_at_call 47; refine (PP.out _ _ ?hk ?hU).mono ?_; (case hU => exact ⟨rfl, rfl, rfl, Nat.le_refl _, fun _ _ => rfl⟩); (case hk => assumption); rintro e w3 ⟨v3, rfl, T3⟩; obtain ⟨y0, y1, y2, y3, y4, y5, y6⟩ := T3.out.2.2.1.cells))
  go_wp2_with (go_at_call 52; refine (has_any _ _).mono ?_; rintro e w' ⟨rfl, rfl⟩)
  go_ret
  exact ⟨_, rfl, by rw [HE.out]; exact T3.out.1, T3.out.2.1⟩
set_option maxHeartbeats 8000000 in
theorem write_23 (B : Nat) (v : Value) (l : List UInt8)  (w : World) (hB : B ≤ w.heap.size) (hr : BRow B v l w) (hl : l.length + 16 ≤ 140737488355328) (hx : rt ⟨23, false, 0, 0, 0, 0, 0⟩ = true)  : WrIs B v l ⟨23, false, 0, 0, 0, 0, 0⟩ w := by
  unfold WrIs
  simp only [xv]
  obtain ⟨W, hW⟩ : ∃ W, W = w.alloc (.cells #[.int .i64 23, .bool false, .int .i64 0, .int .i64 0, .int .i64 0, .int .i64 0, .int .i64 0] 49) := ⟨_, rfl⟩
  have B0 : Bx w.heap.size ⟨23, false, 0, 0, 0, 0, 0⟩ W := by rw [hW]; exact Bx.made w ⟨23, false, 0, 0, 0, 0, 0⟩
  have W0 : Below w.heap.size w W := by rw [hW]; exact bel_one _ _
  have CC := hide (code_is 23 false 0 0 0 0 0 hx _ rfl)
  have RX := hide (fun U : World => rex_any false 0 0 0 U)
  have PP := hide (put_in B v l (rxb false 0 0 0) [cod ⟨23, false, 0, 0, 0, 0, 0⟩] ⟨23, false, 0, 0, 0, 0, 0⟩ w W #[.int .i64 (cod ⟨23, false, 0, 0, 0, 0, 0⟩)] hB hr (by omega) B0 W0 (rxb_bd _ _ _ _).1 (rxb_bd _ _ _ _).2 rfl (in_1 (cod_bd hx)) (by simp))
  have HE : Hid (l ++ enc ⟨23, false, 0, 0, 0, 0, 0⟩ = (l ++ (pre (rxb false 0 0 0) ++ twos [cod ⟨23, false, 0, 0, 0, 0, 0⟩]))) := by show _ = _; simp [enc, rx, mrs, nmb, fR2, fRR, fB, fP, h32, mid, twos, two_3, two_2, two_0]
  generalize hck : cod ⟨23, false, 0, 0, 0, 0, 0⟩ = ck at CC PP HE
  generalize hrr : rxb false 0 0 0 = rr at PP HE RX
  obtain ⟨m0, m1, m2, m3, m4, m5, m6⟩ := B0.cells
  have HB0 := hide B0
  clear B0 W0 hx
  go_enter Try.func30, Try.ntmps30
  go_wp2_with fail
  rw [← hW]
  clear hW
  go_region_held3 (fun X => X.cell? ⟨w.heap.size, 0, none⟩ = some (.int .i64 23) ∧ X.cell? ⟨w.heap.size, 1, none⟩ = some (.bool false) ∧ X.cell? ⟨w.heap.size, 2, none⟩ = some (.int .i64 0) ∧ X.cell? ⟨w.heap.size, 3, none⟩ = some (.int .i64 0) ∧ X.cell? ⟨w.heap.size, 4, none⟩ = some (.int .i64 0) ∧ X.cell? ⟨w.heap.size, 5, none⟩ = some (.int .i64 0) ∧ X.cell? ⟨w.heap.size, 6, none⟩ = some (.int .i64 0)) (go_keep)
    (first | (go_at_call 48; refine (RX.out _).mono ?_; rintro e w' ⟨rfl, rfl⟩) | (go_at_call 49; refine (CC.out _).mono ?_; rintro e w2 ⟨rfl, hb2⟩; have K2 : Hid (Below W.heap.size W w2) := bel_draw hb2 ⟨rfl, rfl, rfl, Nat.le_refl _, fun _ _ => rfl⟩; obtain ⟨x0, x1, x2, x3, x4, x5, x6⟩ := (HB0.out.kept K2.out).cells) | (go_at_call 47; refine (PP.out _ _ ?hk ?hU).mono ?_; (case hU => exact ⟨rfl, rfl, rfl, Nat.le_refl _, fun _ _ => rfl⟩); (case hk => assumption); rintro e w3 ⟨v3, rfl, T3⟩; obtain ⟨y0, y1, y2, y3, y4, y5, y6⟩ := T3.out.2.2.1.cells))
  go_wp2_with (go_at_call 52; refine (has_any _ _).mono ?_; rintro e w' ⟨rfl, rfl⟩)
  go_ret
  exact ⟨_, rfl, by rw [HE.out]; exact T3.out.1, T3.out.2.1⟩
end Go.Proofs.Ytielpebokbolbaa.Xc
/-
  write lays an instruction's bytes behind what there is.
-/
namespace Go.Proofs.Ytielpebokbolbaa.Xc
open Go.RowKit
set_option linter.unusedSimpArgs false
set_option linter.unusedVariables false
theorem write_any (B : Nat) (v : Value) (l : List UInt8) (x : Xi) (w : World) (hB : B ≤ w.heap.size) (hr : BRow B v l w) (hl : l.length + 16 ≤ 140737488355328) (hx : rt x = true) (hn : I64 x.n) : WrIs B v l x w := by
  revert hx hn
  suffices h : rt x = true → rt x = true → I64 x.n → WrIs B v l x w from fun a b => h a a b
  intro h
  refine rt_elim (P := fun x => rt x = true → I64 x.n → WrIs B v l x w) h ?mov ?movi ?alu ?alui ?test ?mul ?shift ?div ?idiv ?sign ?load ?store ?set ?byte ?cmov ?widen ?jmp ?jcc ?call ?ret ?hlt ?stop ?host
  case mov => exact fun wd r b h1 h2 hx hn => write_1 B v l wd r b w hB hr hl hx h1 h2
  case movi => exact fun r n h1 hx hn => write_2 B v l r n w hB hr hl hx h1 hn
  case alu => exact fun wd r b c h1 h2 hc hx hn => write_3 B v l wd r b c w hB hr hl hx h1 h2 hc
  case alui => exact fun wd b c n h2 hc hs hx hn => write_4 B v l wd b c n w hB hr hl hx h2 hc hs
  case test => exact fun wd r b h1 h2 hx hn => write_5 B v l wd r b w hB hr hl hx h1 h2
  case mul => exact fun wd r b h1 h2 hx hn => write_6 B v l wd r b w hB hr hl hx h1 h2
  case shift => exact fun wd b c h2 hc hx hn => write_7 B v l wd b c w hB hr hl hx h2 hc
  case div => exact fun wd b h2 hx hn => write_8 B v l wd b w hB hr hl hx h2
  case idiv => exact fun wd b h2 hx hn => write_9 B v l wd b w hB hr hl hx h2
  case sign => exact fun wd hx hn => write_10 B v l wd w hB hr hl hx 
  case load => exact fun wd r b i n h1 h2 h3 hs hx hn => write_11 B v l wd r b i n w hB hr hl hx h1 h2 h3 hs
  case store => exact fun wd r b i n h1 h2 h3 hs hx hn => write_12 B v l wd r b i n w hB hr hl hx h1 h2 h3 hs
  case set => exact fun c hc hx hn => write_13 B v l c w hB hr hl hx hc
  case byte => exact fun hx hn => write_14 B v l w hB hr hl hx 
  case cmov => exact fun wd r b c h1 h2 hc hx hn => write_15 B v l wd r b c w hB hr hl hx h1 h2 hc
  case widen => exact fun r b h1 h2 hx hn => write_16 B v l r b w hB hr hl hx h1 h2
  case jmp => exact fun n hs hx hn => write_17 B v l n w hB hr hl hx hs
  case jcc => exact fun c n hc hs hx hn => write_18 B v l c n w hB hr hl hx hc hs
  case call => exact fun n hs hx hn => write_19 B v l n w hB hr hl hx hs
  case ret => exact fun hx hn => write_20 B v l w hB hr hl hx 
  case hlt => exact fun hx hn => write_21 B v l w hB hr hl hx 
  case stop => exact fun hx hn => write_22 B v l w hB hr hl hx 
  case host => exact fun hx hn => write_23 B v l w hB hr hl hx 
end Go.Proofs.Ytielpebokbolbaa.Xc
/-
  The program's Encode answers an instruction's bytes, or ErrArg.
-/
namespace Go.Proofs.Ytielpebokbolbaa.Xc
open Go.RowKit
set_option linter.unusedSimpArgs false
set_option linter.unusedVariables false
attribute [local go_sem ↓] Go.wp_at_zero Go.wp_at_succ

def str (l : List UInt8) : ByteArray := ⟨l.toArray⟩
/-- What Encode answers: bytes, and the error's number. -/
def enS (x : Xi) : List UInt8 := if rt x then enc x else []
def enE (x : Xi) : Int := if rt x then 0 else 4
theorem right_is (op : Int) (wd : Bool) (r b i c n : Int) (w : World) (hi : I64 i) {q : Bool} (h : rt ⟨op, wd, r, b, i, c, n⟩ = q) :
    Calls Try.prog 29 #[.agg #[.int .i64 op, .bool wd, .int .i64 r, .int .i64 b, .int .i64 i, .int .i64 c, .int .i64 n]] w fun e w' => e = .returned (.bool q) ∧ Below w.heap.size w w' := by subst h; exact right_any op wd r b i c n w hi
theorem two_pos (c : Int) : 0 < (two c).length := by unfold two; split <;> simp
theorem enc_pos (x : Xi) : 0 < (enc x).length := by have := two_pos (cod x); unfold enc; simp only [List.length_append]; omega
theorem bel_heap {W U : World} (h1 : U.os = W.os) (h2 : U.tape = W.tape) (h3 : U.output = W.output) (h4 : U.heap = W.heap) : Below W.heap.size W U := ⟨h1, h2, h3, by rw [h4]; exact Nat.le_refl _, fun _ _ => by rw [h4]⟩
theorem made16 : ∃ cs : Array Value, cs.size = 16 ∧ ∀ X : World, (Instr.makeSlice 50 (.int .i64 0) (.int .i64 16)).run Try.prog X = .ok (.slice (some ⟨X.heap.size, 0, none⟩) 0 16) (X.alloc (.cells cs 5)) := by
  obtain ⟨i0, hi, hz0, hz1, hz2⟩ := info_parts Try.info5
  refine ⟨madeCells (Value.int .u8 0).cells (16 * i0.size), by rw [size_madeCells, hz1], fun X => ?_⟩
  exact run_make X 50 5 i0 (.int .u8 0) Try.underlying50 hi hz0 .i64 .i64 0 16 (by decide) (by decide) (by rw [hz2]; decide) (by decide)
/-- write, of a row that was just made. -/
theorem write_at (x : Xi) (cs : Array Value) (hcs : cs.size = 16) (W U : World) (hx : rt x = true) (hn : I64 x.n) (hU : Below (W.alloc (.cells cs 5)).heap.size (W.alloc (.cells cs 5)) U) :
    Calls Try.prog 30 #[.slice (some ⟨W.heap.size, 0, none⟩) 0 16, xv x] U fun e w' => ∃ g cap, e = .returned (.slice (some ⟨g, 0, none⟩) (enc x).length cap) ∧ Hid (BRow W.heap.size (.slice (some ⟨g, 0, none⟩) (enc x).length cap) (enc x) w' ∧ Below W.heap.size W w') := by
  have h0 : BRow W.heap.size (.slice (some ⟨W.heap.size, 0, none⟩) 0 16) [] (W.alloc (.cells cs 5)) := World.ownsRow_made W cs 16 (Nat.le_refl _) (by decide) (by rw [hcs])
  have hb := bel_tr (bel_one W (.cells cs 5)) hU
  refine (write_any W.heap.size _ [] x U hb.size (h0.kept hU) (by simp) hx hn).mono ?_
  rintro e w' ⟨v', rfl, k1, k2⟩
  have k1' : BRow W.heap.size v' (enc x) w' := by simpa using k1
  rcases k1'.2 with ⟨_, hz⟩ | ⟨g, cap, cur, hv, _⟩
  · have := enc_pos x; omega
  · subst hv
    exact ⟨g, cap, rfl, k1', hb.trans k2⟩
set_option maxHeartbeats 2000000 in
theorem encode_f (op : Int) (wd : Bool) (r b i c n : Int) (w : World) (hi : I64 i) (hn : I64 n) :
    Calls Try.prog 17 #[.agg #[.int .i64 op, .bool wd, .int .i64 r, .int .i64 b, .int .i64 i, .int .i64 c, .int .i64 n]] w fun e w' => e = .returned (.tuple #[.string (str (enS ⟨op, wd, r, b, i, c, n⟩)), .int .i64 (enE ⟨op, wd, r, b, i, c, n⟩)]) ∧ Below w.heap.size w w' := by
  have HI := hide hi
  obtain ⟨W, hW⟩ : ∃ W, W = w.alloc (.cells #[.int .i64 op, .bool wd, .int .i64 r, .int .i64 b, .int .i64 i, .int .i64 c, .int .i64 n] 49) := ⟨_, rfl⟩
  have B0 : Bx w.heap.size ⟨op, wd, r, b, i, c, n⟩ W := by rw [hW]; exact Bx.made w ⟨op, wd, r, b, i, c, n⟩
  have W0 : Hid (Below w.heap.size w W) := by show Below _ _ _; rw [hW]; exact bel_one _ _
  have HB0 := hide B0
  clear B0
  cases hq : rt ⟨op, wd, r, b, i, c, n⟩
  · have e1 : enS ⟨op, wd, r, b, i, c, n⟩ = [] := by simp [enS, hq]
    have e2 : enE ⟨op, wd, r, b, i, c, n⟩ = 4 := by simp [enE, hq]
    rw [e1, e2]
    have Q := hide hq
    clear e1 e2 hi hn hq
    go_enter Try.func17, Try.ntmps17
    go_wp2_with fail
    rw [← hW]
    refine (right_is _ _ _ _ _ _ _ _ HI.out Q.out).mono ?_
    clear hW
    rintro e w1 ⟨rfl, hb1⟩
    go_wp2
    go_ret2
    exact ⟨rfl, bel_tr W0.out hb1⟩
  · have e1 : enS ⟨op, wd, r, b, i, c, n⟩ = enc ⟨op, wd, r, b, i, c, n⟩ := by simp [enS, hq]
    have e2 : enE ⟨op, wd, r, b, i, c, n⟩ = 0 := by simp [enE, hq]
    rw [e1, e2]
    have Q := hide hq
    have HN := hide hn
    clear e1 e2 hi hn hq
    go_enter Try.func17, Try.ntmps17
    go_wp2_with fail
    rw [← hW]
    refine (right_is _ _ _ _ _ _ _ _ HI.out Q.out).mono ?_
    clear hW
    rintro e w1 ⟨rfl, hb1⟩
    have W1 := hide (bel_tr W0.out hb1)
    have HB1 := hide (HB0.out.kept hb1)
    clear hb1 W0 HB0
    obtain ⟨m0, m1, m2, m3, m4, m5, m6⟩ := HB1.out.cells
    obtain ⟨cs, hcs, hmk⟩ := made16
    have WR := hide (fun U hU => write_at ⟨op, wd, r, b, i, c, n⟩ cs hcs w1 U Q.out HN.out hU)
    clear hcs
    obtain ⟨n0, n1, n2, n3, n4, n5, n6⟩ := (HB1.out.alloc (.cells cs 5)).cells
    go_wp2_with fail
    go_region_with (first | (go_at_call 30; refine (WR.out _ ?hU).mono ?_; (case hU => exact ⟨rfl, rfl, rfl, Nat.le_refl _, fun _ _ => rfl⟩); rintro e w3 ⟨g3, c3, rfl, T3⟩; have hcv := run_own T3.out.1 (enc_pos _)))
    all_goals (go_wp2_with fail; go_ret2; exact ⟨rfl, bel_tr W1.out T3.out.2⟩)
theorem encode_any (x : Xi) (w : World) (hi : I64 x.i) (hn : I64 x.n) : Calls Try.prog 17 #[xv x] w fun e w' => e = .returned (.tuple #[.string (str (enS x)), .int .i64 (enE x)]) ∧ Below w.heap.size w w' :=
  encode_f x.op x.wide x.r x.b x.i x.c x.n w hi hn
end Go.Proofs.Ytielpebokbolbaa.Xc
