/-
  Merged: CWr1 CWr2 CWr3.
-/
import Derived.Test.YtielpebokbolbaaCWriteP
import Derived.Deep.RegionHeld3
import Derived.Deep.DrawnRows
/-
  The walks of the program's write: mov, movi, alu, set.
-/
namespace Go.Proofs.Ytielpebokbolbaa.Xc
open Go.RowKit
set_option linter.unusedSimpArgs false
set_option linter.unusedVariables false
attribute [local go_sem ↓] Go.wp_at_zero Go.wp_at_succ

set_option maxHeartbeats 8000000 in
theorem write_1 (B : Nat) (v : Value) (l : List UInt8) (wd : Bool) (r b : Int) (w : World) (hB : B ≤ w.heap.size) (hr : BRow B v l w) (hl : l.length + 16 ≤ 140737488355328) (hx : rt ⟨1, wd, r, b, 0, 0, 0⟩ = true) (h1 : 0 ≤ r ∧ r ≤ 15) (h2 : 0 ≤ b ∧ b ≤ 15) : WrIs B v l ⟨1, wd, r, b, 0, 0, 0⟩ w := by
  unfold WrIs
  simp only [xv]
  obtain ⟨W, hW⟩ : ∃ W, W = w.alloc (.cells #[.int .i64 1, .bool wd, .int .i64 r, .int .i64 b, .int .i64 0, .int .i64 0, .int .i64 0] 49) := ⟨_, rfl⟩
  have B0 : Bx w.heap.size ⟨1, wd, r, b, 0, 0, 0⟩ W := by rw [hW]; exact Bx.made w ⟨1, wd, r, b, 0, 0, 0⟩
  have W0 : Below w.heap.size w W := by rw [hW]; exact bel_one _ _
  have CC := hide (code_is 1 wd r b 0 0 0 hx _ rfl)
  have MM := hide (fun U : World => mr_any 3 r b U (by decide) (by decide) h1.1 h2.1)
  have RX := hide (fun U : World => rex_any wd r 0 b U)
  have PP := hide (put_in B v l (rxb wd r 0 b) [cod ⟨1, wd, r, b, 0, 0, 0⟩, mri 3 r b] ⟨1, wd, r, b, 0, 0, 0⟩ w W #[.int .i64 (cod ⟨1, wd, r, b, 0, 0, 0⟩), .int .i64 (mri 3 r b)] hB hr (by omega) B0 W0 (rxb_bd _ _ _ _).1 (rxb_bd _ _ _ _).2 rfl (in_2 (cod_bd hx) (mri_4095 (by decide) (by decide))) (by simp))
  have HE : Hid (l ++ enc ⟨1, wd, r, b, 0, 0, 0⟩ = (l ++ (pre (rxb wd r 0 b) ++ twos [cod ⟨1, wd, r, b, 0, 0, 0⟩, mri 3 r b]))) := by show _ = _; simp [enc, rx, mrs, nmb, fR2, fRR, fB, fP, h32, mid, twos, two_3, two_2, two_0]
  generalize hck : cod ⟨1, wd, r, b, 0, 0, 0⟩ = ck at CC PP HE
  generalize hrr : rxb wd r 0 b = rr at PP HE RX
  generalize hmm : mri 3 r b = mm at MM PP HE
  obtain ⟨m0, m1, m2, m3, m4, m5, m6⟩ := B0.cells
  have HB0 := hide B0
  clear B0 W0 hx
  go_enter Try.func30, Try.ntmps30
  go_wp2_with fail
  rw [← hW]
  clear hW
  go_region_held3 (fun X => X.cell? ⟨w.heap.size, 0, none⟩ = some (.int .i64 1) ∧ X.cell? ⟨w.heap.size, 1, none⟩ = some (.bool wd) ∧ X.cell? ⟨w.heap.size, 2, none⟩ = some (.int .i64 r) ∧ X.cell? ⟨w.heap.size, 3, none⟩ = some (.int .i64 b) ∧ X.cell? ⟨w.heap.size, 4, none⟩ = some (.int .i64 0) ∧ X.cell? ⟨w.heap.size, 5, none⟩ = some (.int .i64 0) ∧ X.cell? ⟨w.heap.size, 6, none⟩ = some (.int .i64 0)) (go_keep)
    (first | (go_at_call 48; refine (RX.out _).mono ?_; rintro e w' ⟨rfl, rfl⟩) | (go_at_call 50; refine (MM.out _).mono ?_; rintro e w' ⟨rfl, rfl⟩) | (go_at_call 49; refine (CC.out _).mono ?_; rintro e w2 ⟨rfl, hb2⟩; have K2 : Hid (Below W.heap.size W w2) := bel_draw hb2 ⟨rfl, rfl, rfl, Nat.le_refl _, fun _ _ => rfl⟩; obtain ⟨x0, x1, x2, x3, x4, x5, x6⟩ := (HB0.out.kept K2.out).cells) | (go_at_call 47; refine (PP.out _ _ ?hk ?hU).mono ?_; (case hU => exact ⟨rfl, rfl, rfl, Nat.le_refl _, fun _ _ => rfl⟩); (case hk => assumption); rintro e w3 ⟨v3, rfl, T3⟩; obtain ⟨y0, y1, y2, y3, y4, y5, y6⟩ := T3.out.2.2.1.cells))
  go_wp2_with (go_at_call 52; refine (has_any _ _).mono ?_; rintro e w' ⟨rfl, rfl⟩)
  go_ret
  exact ⟨_, rfl, by rw [HE.out]; exact T3.out.1, T3.out.2.1⟩
set_option maxHeartbeats 8000000 in
theorem write_2 (B : Nat) (v : Value) (l : List UInt8) (r n : Int) (w : World) (hB : B ≤ w.heap.size) (hr : BRow B v l w) (hl : l.length + 16 ≤ 140737488355328) (hx : rt ⟨2, true, r, 0, 0, 0, n⟩ = true) (h1 : 0 ≤ r ∧ r ≤ 15) (hn : I64 n) : WrIs B v l ⟨2, true, r, 0, 0, 0, n⟩ w := by
  unfold WrIs
  simp only [xv]
  obtain ⟨W, hW⟩ : ∃ W, W = w.alloc (.cells #[.int .i64 2, .bool true, .int .i64 r, .int .i64 0, .int .i64 0, .int .i64 0, .int .i64 n] 49) := ⟨_, rfl⟩
  have B0 : Bx w.heap.size ⟨2, true, r, 0, 0, 0, n⟩ W := by rw [hW]; exact Bx.made w ⟨2, true, r, 0, 0, 0, n⟩
  have W0 : Below w.heap.size w W := by rw [hW]; exact bel_one _ _
  have CC := hide (code_is 2 true r 0 0 0 n hx _ rfl)
  have RX := hide (fun U : World => rex_any true 0 0 r U)
  have PP := hide (put_in B v l (rxb true 0 0 r) [cod ⟨2, true, r, 0, 0, 0, n⟩] ⟨2, true, r, 0, 0, 0, n⟩ w W #[.int .i64 (cod ⟨2, true, r, 0, 0, 0, n⟩)] hB hr (by omega) B0 W0 (rxb_bd _ _ _ _).1 (rxb_bd _ _ _ _).2 rfl (in_1 (cod_bd hx)) (by simp))
  have NN := hide (numb_8 B (l ++ (pre (rxb true 0 0 r) ++ twos [cod ⟨2, true, r, 0, 0, 0, n⟩])) n ⟨2, true, r, 0, 0, 0, n⟩ w hB (by have := put_len l (rxb true 0 0 r) [cod ⟨2, true, r, 0, 0, 0, n⟩] (by simp); omega) hn)
  have HE : Hid (l ++ enc ⟨2, true, r, 0, 0, 0, n⟩ = (l ++ (pre (rxb true 0 0 r) ++ twos [cod ⟨2, true, r, 0, 0, 0, n⟩])) ++ bys 8 n) := by show _ = _; simp [enc, rx, mrs, nmb, fR2, fRR, fB, fP, h32, mid, twos, two_3, two_2, two_0]
  generalize hck : cod ⟨2, true, r, 0, 0, 0, n⟩ = ck at CC PP HE NN
  generalize hrr : rxb true 0 0 r = rr at PP HE RX NN
  obtain ⟨m0, m1, m2, m3, m4, m5, m6⟩ := B0.cells
  have HB0 := hide B0
  clear B0 W0 hx
  go_enter Try.func30, Try.ntmps30
  go_wp2_with fail
  rw [← hW]
  clear hW
  go_region_held3 (fun X => X.cell? ⟨w.heap.size, 0, none⟩ = some (.int .i64 2) ∧ X.cell? ⟨w.heap.size, 1, none⟩ = some (.bool true) ∧ X.cell? ⟨w.heap.size, 2, none⟩ = some (.int .i64 r) ∧ X.cell? ⟨w.heap.size, 3, none⟩ = some (.int .i64 0) ∧ X.cell? ⟨w.heap.size, 4, none⟩ = some (.int .i64 0) ∧ X.cell? ⟨w.heap.size, 5, none⟩ = some (.int .i64 0) ∧ X.cell? ⟨w.heap.size, 6, none⟩ = some (.int .i64 n)) (go_keep)
    (first | (go_at_call 48; refine (RX.out _).mono ?_; rintro e w' ⟨rfl, rfl⟩) | (go_at_call 49; refine (CC.out _).mono ?_; rintro e w2 ⟨rfl, hb2⟩; have K2 : Hid (Below W.heap.size W w2) := bel_draw hb2 ⟨rfl, rfl, rfl, Nat.le_refl _, fun _ _ => rfl⟩; obtain ⟨x0, x1, x2, x3, x4, x5, x6⟩ := (HB0.out.kept K2.out).cells) | (go_at_call 47; refine (PP.out _ _ ?hk ?hU).mono ?_; (case hU => exact ⟨rfl, rfl, rfl, Nat.le_refl _, fun _ _ => rfl⟩); (case hk => assumption); rintro e w3 ⟨v3, rfl, T3⟩; obtain ⟨y0, y1, y2, y3, y4, y5, y6⟩ := T3.out.2.2.1.cells) | (go_at_call 46; refine (NN.out _ ?wq _ ?hT ?hU).mono ?_; (case hT => assumption); (case hU => exact ⟨rfl, rfl, rfl, Nat.le_refl _, fun _ _ => rfl⟩); rintro e w4 ⟨v4, rfl, T4⟩; obtain ⟨z0, z1, z2, z3, z4, z5, z6⟩ := T4.out.2.2.cells))
  go_wp2_with fail
  go_ret
  exact ⟨_, rfl, by rw [HE.out]; exact T4.out.1, T4.out.2.1⟩
set_option maxHeartbeats 8000000 in
theorem write_3 (B : Nat) (v : Value) (l : List UInt8) (wd : Bool) (r b c : Int) (w : World) (hB : B ≤ w.heap.size) (hr : BRow B v l w) (hl : l.length + 16 ≤ 140737488355328) (hx : rt ⟨3, wd, r, b, 0, c, 0⟩ = true) (h1 : 0 ≤ r ∧ r ≤ 15) (h2 : 0 ≤ b ∧ b ≤ 15) (hc : smK c = true) : WrIs B v l ⟨3, wd, r, b, 0, c, 0⟩ w := by
  unfold WrIs
  simp only [xv]
  obtain ⟨W, hW⟩ : ∃ W, W = w.alloc (.cells #[.int .i64 3, .bool wd, .int .i64 r, .int .i64 b, .int .i64 0, .int .i64 c, .int .i64 0] 49) := ⟨_, rfl⟩
  have B0 : Bx w.heap.size ⟨3, wd, r, b, 0, c, 0⟩ W := by rw [hW]; exact Bx.made w ⟨3, wd, r, b, 0, c, 0⟩
  have W0 : Below w.heap.size w W := by rw [hW]; exact bel_one _ _
  have CC := hide (code_is 3 wd r b 0 c 0 hx _ rfl)
  have MM := hide (fun U : World => mr_any 3 r b U (by decide) (by decide) h1.1 h2.1)
  have RX := hide (fun U : World => rex_any wd r 0 b U)
  have PP := hide (put_in B v l (rxb wd r 0 b) [cod ⟨3, wd, r, b, 0, c, 0⟩, mri 3 r b] ⟨3, wd, r, b, 0, c, 0⟩ w W #[.int .i64 (cod ⟨3, wd, r, b, 0, c, 0⟩), .int .i64 (mri 3 r b)] hB hr (by omega) B0 W0 (rxb_bd _ _ _ _).1 (rxb_bd _ _ _ _).2 rfl (in_2 (cod_bd hx) (mri_4095 (by decide) (by decide))) (by simp))
  have HE : Hid (l ++ enc ⟨3, wd, r, b, 0, c, 0⟩ = (l ++ (pre (rxb wd r 0 b) ++ twos [cod ⟨3, wd, r, b, 0, c, 0⟩, mri 3 r b]))) := by show _ = _; simp [enc, rx, mrs, nmb, fR2, fRR, fB, fP, h32, mid, twos, two_3, two_2, two_0]
  generalize hck : cod ⟨3, wd, r, b, 0, c, 0⟩ = ck at CC PP HE
  generalize hrr : rxb wd r 0 b = rr at PP HE RX
  generalize hmm : mri 3 r b = mm at MM PP HE
  obtain ⟨m0, m1, m2, m3, m4, m5, m6⟩ := B0.cells
  have HB0 := hide B0
  obtain ⟨hc0, hc1⟩ := sm_bd hc
  clear B0 W0 hx
  go_enter Try.func30, Try.ntmps30
  go_wp2_with fail
  rw [← hW]
  clear hW
  go_region_held3 (fun X => X.cell? ⟨w.heap.size, 0, none⟩ = some (.int .i64 3) ∧ X.cell? ⟨w.heap.size, 1, none⟩ = some (.bool wd) ∧ X.cell? ⟨w.heap.size, 2, none⟩ = some (.int .i64 r) ∧ X.cell? ⟨w.heap.size, 3, none⟩ = some (.int .i64 b) ∧ X.cell? ⟨w.heap.size, 4, none⟩ = some (.int .i64 0) ∧ X.cell? ⟨w.heap.size, 5, none⟩ = some (.int .i64 c) ∧ X.cell? ⟨w.heap.size, 6, none⟩ = some (.int .i64 0)) (go_keep)
    (first | (go_at_call 48; refine (RX.out _).mono ?_; rintro e w' ⟨rfl, rfl⟩) | (go_at_call 50; refine (MM.out _).mono ?_; rintro e w' ⟨rfl, rfl⟩) | (go_at_call 49; refine (CC.out _).mono ?_; rintro e w2 ⟨rfl, hb2⟩; have K2 : Hid (Below W.heap.size W w2) := bel_draw hb2 ⟨rfl, rfl, rfl, Nat.le_refl _, fun _ _ => rfl⟩; obtain ⟨x0, x1, x2, x3, x4, x5, x6⟩ := (HB0.out.kept K2.out).cells) | (go_at_call 47; refine (PP.out _ _ ?hk ?hU).mono ?_; (case hU => exact ⟨rfl, rfl, rfl, Nat.le_refl _, fun _ _ => rfl⟩); (case hk => assumption); rintro e w3 ⟨v3, rfl, T3⟩; obtain ⟨y0, y1, y2, y3, y4, y5, y6⟩ := T3.out.2.2.1.cells))
  go_wp2_with (go_at_call 52; refine (has_any _ _).mono ?_; rintro e w' ⟨rfl, rfl⟩)
  go_ret
  exact ⟨_, rfl, by rw [HE.out]; exact T3.out.1, T3.out.2.1⟩
set_option maxHeartbeats 8000000 in
theorem write_13 (B : Nat) (v : Value) (l : List UInt8) (c : Int) (w : World) (hB : B ≤ w.heap.size) (hr : BRow B v l w) (hl : l.length + 16 ≤ 140737488355328) (hx : rt ⟨13, false, 0, 0, 0, c, 0⟩ = true) (hc : cnK c = true) : WrIs B v l ⟨13, false, 0, 0, 0, c, 0⟩ w := by
  unfold WrIs
  simp only [xv]
  obtain ⟨W, hW⟩ : ∃ W, W = w.alloc (.cells #[.int .i64 13, .bool false, .int .i64 0, .int .i64 0, .int .i64 0, .int .i64 c, .int .i64 0] 49) := ⟨_, rfl⟩
  have B0 : Bx w.heap.size ⟨13, false, 0, 0, 0, c, 0⟩ W := by rw [hW]; exact Bx.made w ⟨13, false, 0, 0, 0, c, 0⟩
  have W0 : Below w.heap.size w W := by rw [hW]; exact bel_one _ _
  have CC := hide (code_is 13 false 0 0 0 c 0 hx _ rfl)
  have MM := hide (fun U : World => mr_any 3 0 0 U (by decide) (by decide) (by decide) (by decide))
  have RX := hide (fun U : World => rex_any false 0 0 0 U)
  have PP := hide (put_in B v l (rxb false 0 0 0) [cod ⟨13, false, 0, 0, 0, c, 0⟩, mri 3 0 0] ⟨13, false, 0, 0, 0, c, 0⟩ w W #[.int .i64 (cod ⟨13, false, 0, 0, 0, c, 0⟩), .int .i64 (mri 3 0 0)] hB hr (by omega) B0 W0 (rxb_bd _ _ _ _).1 (rxb_bd _ _ _ _).2 rfl (in_2 (cod_bd hx) (mri_4095 (by decide) (by decide))) (by simp))
  have HE : Hid (l ++ enc ⟨13, false, 0, 0, 0, c, 0⟩ = (l ++ (pre (rxb false 0 0 0) ++ twos [cod ⟨13, false, 0, 0, 0, c, 0⟩, mri 3 0 0]))) := by show _ = _; simp [enc, rx, mrs, nmb, fR2, fRR, fB, fP, h32, mid, twos, two_3, two_2, two_0]
  generalize hck : cod ⟨13, false, 0, 0, 0, c, 0⟩ = ck at CC PP HE
  generalize hrr : rxb false 0 0 0 = rr at PP HE RX
  generalize hmm : mri 3 0 0 = mm at MM PP HE
  obtain ⟨m0, m1, m2, m3, m4, m5, m6⟩ := B0.cells
  have HB0 := hide B0
  clear B0 W0 hx
  go_enter Try.func30, Try.ntmps30
  go_wp2_with fail
  rw [← hW]
  clear hW
  go_region_held3 (fun X => X.cell? ⟨w.heap.size, 0, none⟩ = some (.int .i64 13) ∧ X.cell? ⟨w.heap.size, 1, none⟩ = some (.bool false) ∧ X.cell? ⟨w.heap.size, 2, none⟩ = some (.int .i64 0) ∧ X.cell? ⟨w.heap.size, 3, none⟩ = some (.int .i64 0) ∧ X.cell? ⟨w.heap.size, 4, none⟩ = some (.int .i64 0) ∧ X.cell? ⟨w.heap.size, 5, none⟩ = some (.int .i64 c) ∧ X.cell? ⟨w.heap.size, 6, none⟩ = some (.int .i64 0)) (go_keep)
    (first | (go_at_call 48; refine (RX.out _).mono ?_; rintro e w' ⟨rfl, rfl⟩) | (go_at_call 50; refine (MM.out _).mono ?_; rintro e w' ⟨rfl, rfl⟩) | (go_at_call 49; refine (CC.out _).mono ?_; rintro e w2 ⟨rfl, hb2⟩; have K2 : Hid (Below W.heap.size W w2) := bel_draw hb2 ⟨rfl, rfl, rfl, Nat.le_refl _, fun _ _ => rfl⟩; obtain ⟨x0, x1, x2, x3, x4, x5, x6⟩ := (HB0.out.kept K2.out).cells) | (go_at_call 47; refine (PP.out _ _ ?hk ?hU).mono ?_; (case hU => exact ⟨rfl, rfl, rfl, Nat.le_refl _, fun _ _ => rfl⟩); (case hk => assumption); rintro e w3 ⟨v3, rfl, T3⟩; obtain ⟨y0, y1, y2, y3, y4, y5, y6⟩ := T3.out.2.2.1.cells))
  go_wp2_with (go_at_call 52; refine (has_any _ _).mono ?_; rintro e w' ⟨rfl, rfl⟩)
  go_ret
  exact ⟨_, rfl, by rw [HE.out]; exact T3.out.1, T3.out.2.1⟩
end Go.Proofs.Ytielpebokbolbaa.Xc
/-
  The walks of the program's write: alui, test, mul, byte.
-/
namespace Go.Proofs.Ytielpebokbolbaa.Xc
open Go.RowKit
set_option linter.unusedSimpArgs false
set_option linter.unusedVariables false
attribute [local go_sem ↓] Go.wp_at_zero Go.wp_at_succ

set_option maxHeartbeats 8000000 in
theorem write_4 (B : Nat) (v : Value) (l : List UInt8) (wd : Bool) (b c n : Int) (w : World) (hB : B ≤ w.heap.size) (hr : BRow B v l w) (hl : l.length + 16 ≤ 140737488355328) (hx : rt ⟨4, wd, 0, b, 0, c, n⟩ = true) (h2 : 0 ≤ b ∧ b ≤ 15) (hc : smK c = true) (hs : s32 n = true) : WrIs B v l ⟨4, wd, 0, b, 0, c, n⟩ w := by
  unfold WrIs
  simp only [xv]
  obtain ⟨W, hW⟩ : ∃ W, W = w.alloc (.cells #[.int .i64 4, .bool wd, .int .i64 0, .int .i64 b, .int .i64 0, .int .i64 c, .int .i64 n] 49) := ⟨_, rfl⟩
  have B0 : Bx w.heap.size ⟨4, wd, 0, b, 0, c, n⟩ W := by rw [hW]; exact Bx.made w ⟨4, wd, 0, b, 0, c, n⟩
  have W0 : Below w.heap.size w W := by rw [hW]; exact bel_one _ _
  have CC := hide (code_is 4 wd 0 b 0 c n hx _ rfl)
  have MM := hide (fun U : World => mr_any 3 c b U (by decide) (by decide) (sm_bd hc).1 h2.1)
  have RX := hide (fun U : World => rex_any wd c 0 b U)
  have PP := hide (put_in B v l (rxb wd c 0 b) [cod ⟨4, wd, 0, b, 0, c, n⟩, mri 3 c b] ⟨4, wd, 0, b, 0, c, n⟩ w W #[.int .i64 (cod ⟨4, wd, 0, b, 0, c, n⟩), .int .i64 (mri 3 c b)] hB hr (by omega) B0 W0 (rxb_bd _ _ _ _).1 (rxb_bd _ _ _ _).2 rfl (in_2 (cod_bd hx) (mri_4095 (by decide) (by decide))) (by simp))
  have NN := hide (numb_4 B (l ++ (pre (rxb wd c 0 b) ++ twos [cod ⟨4, wd, 0, b, 0, c, n⟩, mri 3 c b])) n ⟨4, wd, 0, b, 0, c, n⟩ w hB (by have := put_len l (rxb wd c 0 b) [cod ⟨4, wd, 0, b, 0, c, n⟩, mri 3 c b] (by simp); omega) (s32_64 hs))
  have HE : Hid (l ++ enc ⟨4, wd, 0, b, 0, c, n⟩ = (l ++ (pre (rxb wd c 0 b) ++ twos [cod ⟨4, wd, 0, b, 0, c, n⟩, mri 3 c b])) ++ bys 4 n) := by show _ = _; simp [enc, rx, mrs, nmb, fR2, fRR, fB, fP, h32, mid, twos, two_3, two_2, two_0]
  generalize hck : cod ⟨4, wd, 0, b, 0, c, n⟩ = ck at CC PP HE NN
  generalize hrr : rxb wd c 0 b = rr at PP HE RX NN
  generalize hmm : mri 3 c b = mm at MM PP HE NN
  obtain ⟨m0, m1, m2, m3, m4, m5, m6⟩ := B0.cells
  have HB0 := hide B0
  obtain ⟨hc0, hc1⟩ := sm_bd hc
  clear B0 W0 hx
  go_enter Try.func30, Try.ntmps30
  go_wp2_with fail
  rw [← hW]
  clear hW
  go_region_held3 (fun X => X.cell? ⟨w.heap.size, 0, none⟩ = some (.int .i64 4) ∧ X.cell? ⟨w.heap.size, 1, none⟩ = some (.bool wd) ∧ X.cell? ⟨w.heap.size, 2, none⟩ = some (.int .i64 0) ∧ X.cell? ⟨w.heap.size, 3, none⟩ = some (.int .i64 b) ∧ X.cell? ⟨w.heap.size, 4, none⟩ = some (.int .i64 0) ∧ X.cell? ⟨w.heap.size, 5, none⟩ = some (.int .i64 c) ∧ X.cell? ⟨w.heap.size, 6, none⟩ = some (.int .i64 n)) (go_keep)
    (first | (go_at_call 48; refine (RX.out _).mono ?_; rintro e w' ⟨rfl, rfl⟩) | (go_at_call 50; refine (MM.out _).mono ?_; rintro e w' ⟨rfl, rfl⟩) | (go_at_call 49; refine (CC.out _).mono ?_; rintro e w2 ⟨rfl, hb2⟩; have K2 : Hid (Below W.heap.size W w2) := bel_draw hb2 ⟨rfl, rfl, rfl, Nat.le_refl _, fun _ _ => rfl⟩; obtain ⟨x0, x1, x2, x3, x4, x5, x6⟩ := (HB0.out.kept K2.out).cells) | (go_at_call 47; refine (PP.out _ _ ?hk ?hU).mono ?_; (case hU => exact ⟨rfl, rfl, rfl, Nat.le_refl _, fun _ _ => rfl⟩); (case hk => assumption); rintro e w3 ⟨v3, rfl, T3⟩; obtain ⟨y0, y1, y2, y3, y4, y5, y6⟩ := T3.out.2.2.1.cells))
  go_wp2_with (first | (go_at_call 52; refine (has_any _ _).mono ?_; rintro e w' ⟨rfl, rfl⟩) | (go_at_call 46; refine (NN.out _ ?wq _ ?hT ?hU).mono ?_; (case hT => assumption); (case hU => exact Below.refl _ _); rintro e w4 ⟨v4, rfl, T4⟩))
  go_ret
  exact ⟨_, rfl, by rw [HE.out]; exact T4.out.1, T4.out.2.1⟩
set_option maxHeartbeats 8000000 in
theorem write_5 (B : Nat) (v : Value) (l : List UInt8) (wd : Bool) (r b : Int) (w : World) (hB : B ≤ w.heap.size) (hr : BRow B v l w) (hl : l.length + 16 ≤ 140737488355328) (hx : rt ⟨5, wd, r, b, 0, 0, 0⟩ = true) (h1 : 0 ≤ r ∧ r ≤ 15) (h2 : 0 ≤ b ∧ b ≤ 15) : WrIs B v l ⟨5, wd, r, b, 0, 0, 0⟩ w := by
  unfold WrIs
  simp only [xv]
  obtain ⟨W, hW⟩ : ∃ W, W = w.alloc (.cells #[.int .i64 5, .bool wd, .int .i64 r, .int .i64 b, .int .i64 0, .int .i64 0, .int .i64 0] 49) := ⟨_, rfl⟩
  have B0 : Bx w.heap.size ⟨5, wd, r, b, 0, 0, 0⟩ W := by rw [hW]; exact Bx.made w ⟨5, wd, r, b, 0, 0, 0⟩
  have W0 : Below w.heap.size w W := by rw [hW]; exact bel_one _ _
  have CC := hide (code_is 5 wd r b 0 0 0 hx _ rfl)
  have MM := hide (fun U : World => mr_any 3 r b U (by decide) (by decide) h1.1 h2.1)
  have RX := hide (fun U : World => rex_any wd r 0 b U)
  have PP := hide (put_in B v l (rxb wd r 0 b) [cod ⟨5, wd, r, b, 0, 0, 0⟩, mri 3 r b] ⟨5, wd, r, b, 0, 0, 0⟩ w W #[.int .i64 (cod ⟨5, wd, r, b, 0, 0, 0⟩), .int .i64 (mri 3 r b)] hB hr (by omega) B0 W0 (rxb_bd _ _ _ _).1 (rxb_bd _ _ _ _).2 rfl (in_2 (cod_bd hx) (mri_4095 (by decide) (by decide))) (by simp))
  have HE : Hid (l ++ enc ⟨5, wd, r, b, 0, 0, 0⟩ = (l ++ (pre (rxb wd r 0 b) ++ twos [cod ⟨5, wd, r, b, 0, 0, 0⟩, mri 3 r b]))) := by show _ = _; simp [enc, rx, mrs, nmb, fR2, fRR, fB, fP, h32, mid, twos, two_3, two_2, two_0]
  generalize hck : cod ⟨5, wd, r, b, 0, 0, 0⟩ = ck at CC PP HE
  generalize hrr : rxb wd r 0 b = rr at PP HE RX
  generalize hmm : mri 3 r b = mm at MM PP HE
  obtain ⟨m0, m1, m2, m3, m4, m5, m6⟩ := B0.cells
  have HB0 := hide B0
  clear B0 W0 hx
  go_enter Try.func30, Try.ntmps30
  go_wp2_with fail
  rw [← hW]
  clear hW
  go_region_held3 (fun X => X.cell? ⟨w.heap.size, 0, none⟩ = some (.int .i64 5) ∧ X.cell? ⟨w.heap.size, 1, none⟩ = some (.bool wd) ∧ X.cell? ⟨w.heap.size, 2, none⟩ = some (.int .i64 r) ∧ X.cell? ⟨w.heap.size, 3, none⟩ = some (.int .i64 b) ∧ X.cell? ⟨w.heap.size, 4, none⟩ = some (.int .i64 0) ∧ X.cell? ⟨w.heap.size, 5, none⟩ = some (.int .i64 0) ∧ X.cell? ⟨w.heap.size, 6, none⟩ = some (.int .i64 0)) (go_keep)
    (first | (go_at_call 48; refine (RX.out _).mono ?_; rintro e w' ⟨rfl, rfl⟩) | (go_at_call 50; refine (MM.out _).mono ?_; rintro e w' ⟨rfl, rfl⟩) | (go_at_call 49; refine (CC.out _).mono ?_; rintro e w2 ⟨rfl, hb2⟩; have K2 : Hid (Below W.heap.size W w2) := bel_draw hb2 ⟨rfl, rfl, rfl, Nat.le_refl _, fun _ _ => rfl⟩; obtain ⟨x0, x1, x2, x3, x4, x5, x6⟩ := (HB0.out.kept K2.out).cells) | (go_at_call 47; refine (PP.out _ _ ?hk ?hU).mono ?_; (case hU => exact ⟨rfl, rfl, rfl, Nat.le_refl _, fun _ _ => rfl⟩); (case hk => assumption); rintro e w3 ⟨v3, rfl, T3⟩; obtain ⟨y0, y1, y2, y3, y4, y5, y6⟩ := T3.out.2.2.1.cells))
  go_wp2_with (go_at_call 52; refine (has_any _ _).mono ?_; rintro e w' ⟨rfl, rfl⟩)
  go_ret
  exact ⟨_, rfl, by rw [HE.out]; exact T3.out.1, T3.out.2.1⟩
set_option maxHeartbeats 8000000 in
theorem write_6 (B : Nat) (v : Value) (l : List UInt8) (wd : Bool) (r b : Int) (w : World) (hB : B ≤ w.heap.size) (hr : BRow B v l w) (hl : l.length + 16 ≤ 140737488355328) (hx : rt ⟨6, wd, r, b, 0, 0, 0⟩ = true) (h1 : 0 ≤ r ∧ r ≤ 15) (h2 : 0 ≤ b ∧ b ≤ 15) : WrIs B v l ⟨6, wd, r, b, 0, 0, 0⟩ w := by
  unfold WrIs
  simp only [xv]
  obtain ⟨W, hW⟩ : ∃ W, W = w.alloc (.cells #[.int .i64 6, .bool wd, .int .i64 r, .int .i64 b, .int .i64 0, .int .i64 0, .int .i64 0] 49) := ⟨_, rfl⟩
  have B0 : Bx w.heap.size ⟨6, wd, r, b, 0, 0, 0⟩ W := by rw [hW]; exact Bx.made w ⟨6, wd, r, b, 0, 0, 0⟩
  have W0 : Below w.heap.size w W := by rw [hW]; exact bel_one _ _
  have CC := hide (code_is 6 wd r b 0 0 0 hx _ rfl)
  have MM := hide (fun U : World => mr_any 3 r b U (by decide) (by decide) h1.1 h2.1)
  have RX := hide (fun U : World => rex_any wd r 0 b U)
  have PP := hide (put_in B v l (rxb wd r 0 b) [cod ⟨6, wd, r, b, 0, 0, 0⟩, mri 3 r b] ⟨6, wd, r, b, 0, 0, 0⟩ w W #[.int .i64 (cod ⟨6, wd, r, b, 0, 0, 0⟩), .int .i64 (mri 3 r b)] hB hr (by omega) B0 W0 (rxb_bd _ _ _ _).1 (rxb_bd _ _ _ _).2 rfl (in_2 (cod_bd hx) (mri_4095 (by decide) (by decide))) (by simp))
  have HE : Hid (l ++ enc ⟨6, wd, r, b, 0, 0, 0⟩ = (l ++ (pre (rxb wd r 0 b) ++ twos [cod ⟨6, wd, r, b, 0, 0, 0⟩, mri 3 r b]))) := by show _ = _; simp [enc, rx, mrs, nmb, fR2, fRR, fB, fP, h32, mid, twos, two_3, two_2, two_0]
  generalize hck : cod ⟨6, wd, r, b, 0, 0, 0⟩ = ck at CC PP HE
  generalize hrr : rxb wd r 0 b = rr at PP HE RX
  generalize hmm : mri 3 r b = mm at MM PP HE
  obtain ⟨m0, m1, m2, m3, m4, m5, m6⟩ := B0.cells
  have HB0 := hide B0
  clear B0 W0 hx
  go_enter Try.func30, Try.ntmps30
  go_wp2_with fail
  rw [← hW]
  clear hW
  go_region_held3 (fun X => X.cell? ⟨w.heap.size, 0, none⟩ = some (.int .i64 6) ∧ X.cell? ⟨w.heap.size, 1, none⟩ = some (.bool wd) ∧ X.cell? ⟨w.heap.size, 2, none⟩ = some (.int .i64 r) ∧ X.cell? ⟨w.heap.size, 3, none⟩ = some (.int .i64 b) ∧ X.cell? ⟨w.heap.size, 4, none⟩ = some (.int .i64 0) ∧ X.cell? ⟨w.heap.size, 5, none⟩ = some (.int .i64 0) ∧ X.cell? ⟨w.heap.size, 6, none⟩ = some (.int .i64 0)) (go_keep)
    (first | (go_at_call 48; refine (RX.out _).mono ?_; rintro e w' ⟨rfl, rfl⟩) | (go_at_call 50; refine (MM.out _).mono ?_; rintro e w' ⟨rfl, rfl⟩) | (go_at_call 49; refine (CC.out _).mono ?_; rintro e w2 ⟨rfl, hb2⟩; have K2 : Hid (Below W.heap.size W w2) := bel_draw hb2 ⟨rfl, rfl, rfl, Nat.le_refl _, fun _ _ => rfl⟩; obtain ⟨x0, x1, x2, x3, x4, x5, x6⟩ := (HB0.out.kept K2.out).cells) | (go_at_call 47; refine (PP.out _ _ ?hk ?hU).mono ?_; (case hU => exact ⟨rfl, rfl, rfl, Nat.le_refl _, fun _ _ => rfl⟩); (case hk => assumption); rintro e w3 ⟨v3, rfl, T3⟩; obtain ⟨y0, y1, y2, y3, y4, y5, y6⟩ := T3.out.2.2.1.cells))
  go_wp2_with (go_at_call 52; refine (has_any _ _).mono ?_; rintro e w' ⟨rfl, rfl⟩)
  go_ret
  exact ⟨_, rfl, by rw [HE.out]; exact T3.out.1, T3.out.2.1⟩
set_option maxHeartbeats 8000000 in
theorem write_14 (B : Nat) (v : Value) (l : List UInt8)  (w : World) (hB : B ≤ w.heap.size) (hr : BRow B v l w) (hl : l.length + 16 ≤ 140737488355328) (hx : rt ⟨14, false, 0, 0, 0, 0, 0⟩ = true)  : WrIs B v l ⟨14, false, 0, 0, 0, 0, 0⟩ w := by
  unfold WrIs
  simp only [xv]
  obtain ⟨W, hW⟩ : ∃ W, W = w.alloc (.cells #[.int .i64 14, .bool false, .int .i64 0, .int .i64 0, .int .i64 0, .int .i64 0, .int .i64 0] 49) := ⟨_, rfl⟩
  have B0 : Bx w.heap.size ⟨14, false, 0, 0, 0, 0, 0⟩ W := by rw [hW]; exact Bx.made w ⟨14, false, 0, 0, 0, 0, 0⟩
  have W0 : Below w.heap.size w W := by rw [hW]; exact bel_one _ _
  have CC := hide (code_is 14 false 0 0 0 0 0 hx _ rfl)
  have MM := hide (fun U : World => mr_any 3 0 0 U (by decide) (by decide) (by decide) (by decide))
  have RX := hide (fun U : World => rex_any false 0 0 0 U)
  have PP := hide (put_in B v l (rxb false 0 0 0) [cod ⟨14, false, 0, 0, 0, 0, 0⟩, mri 3 0 0] ⟨14, false, 0, 0, 0, 0, 0⟩ w W #[.int .i64 (cod ⟨14, false, 0, 0, 0, 0, 0⟩), .int .i64 (mri 3 0 0)] hB hr (by omega) B0 W0 (rxb_bd _ _ _ _).1 (rxb_bd _ _ _ _).2 rfl (in_2 (cod_bd hx) (mri_4095 (by decide) (by decide))) (by simp))
  have HE : Hid (l ++ enc ⟨14, false, 0, 0, 0, 0, 0⟩ = (l ++ (pre (rxb false 0 0 0) ++ twos [cod ⟨14, false, 0, 0, 0, 0, 0⟩, mri 3 0 0]))) := by show _ = _; simp [enc, rx, mrs, nmb, fR2, fRR, fB, fP, h32, mid, twos, two_3, two_2, two_0]
  generalize hck : cod ⟨14, false, 0, 0, 0, 0, 0⟩ = ck at CC PP HE
  generalize hrr : rxb false 0 0 0 = rr at PP HE RX
  generalize hmm : mri 3 0 0 = mm at MM PP HE
  obtain ⟨m0, m1, m2, m3, m4, m5, m6⟩ := B0.cells
  have HB0 := hide B0
  clear B0 W0 hx
  go_enter Try.func30, Try.ntmps30
  go_wp2_with fail
  rw [← hW]
  clear hW
  go_region_held3 (fun X => X.cell? ⟨w.heap.size, 0, none⟩ = some (.int .i64 14) ∧ X.cell? ⟨w.heap.size, 1, none⟩ = some (.bool false) ∧ X.cell? ⟨w.heap.size, 2, none⟩ = some (.int .i64 0) ∧ X.cell? ⟨w.heap.size, 3, none⟩ = some (.int .i64 0) ∧ X.cell? ⟨w.heap.size, 4, none⟩ = some (.int .i64 0) ∧ X.cell? ⟨w.heap.size, 5, none⟩ = some (.int .i64 0) ∧ X.cell? ⟨w.heap.size, 6, none⟩ = some (.int .i64 0)) (go_keep)
    (first | (go_at_call 48; refine (RX.out _).mono ?_; rintro e w' ⟨rfl, rfl⟩) | (go_at_call 50; refine (MM.out _).mono ?_; rintro e w' ⟨rfl, rfl⟩) | (go_at_call 49; refine (CC.out _).mono ?_; rintro e w2 ⟨rfl, hb2⟩; have K2 : Hid (Below W.heap.size W w2) := bel_draw hb2 ⟨rfl, rfl, rfl, Nat.le_refl _, fun _ _ => rfl⟩; obtain ⟨x0, x1, x2, x3, x4, x5, x6⟩ := (HB0.out.kept K2.out).cells) | (go_at_call 47; refine (PP.out _ _ ?hk ?hU).mono ?_; (case hU => exact ⟨rfl, rfl, rfl, Nat.le_refl _, fun _ _ => rfl⟩); (case hk => assumption); rintro e w3 ⟨v3, rfl, T3⟩; obtain ⟨y0, y1, y2, y3, y4, y5, y6⟩ := T3.out.2.2.1.cells))
  go_wp2_with (go_at_call 52; refine (has_any _ _).mono ?_; rintro e w' ⟨rfl, rfl⟩)
  go_ret
  exact ⟨_, rfl, by rw [HE.out]; exact T3.out.1, T3.out.2.1⟩
end Go.Proofs.Ytielpebokbolbaa.Xc
/-
  The walks of the program's write: shift, div, idiv, sign.
-/
namespace Go.Proofs.Ytielpebokbolbaa.Xc
open Go.RowKit
set_option linter.unusedSimpArgs false
set_option linter.unusedVariables false
attribute [local go_sem ↓] Go.wp_at_zero Go.wp_at_succ

set_option maxHeartbeats 8000000 in
theorem write_7 (B : Nat) (v : Value) (l : List UInt8) (wd : Bool) (b c : Int) (w : World) (hB : B ≤ w.heap.size) (hr : BRow B v l w) (hl : l.length + 16 ≤ 140737488355328) (hx : rt ⟨7, wd, 0, b, 0, c, 0⟩ = true) (h2 : 0 ≤ b ∧ b ≤ 15) (hc : shK c = true) : WrIs B v l ⟨7, wd, 0, b, 0, c, 0⟩ w := by
  unfold WrIs
  simp only [xv]
  obtain ⟨W, hW⟩ : ∃ W, W = w.alloc (.cells #[.int .i64 7, .bool wd, .int .i64 0, .int .i64 b, .int .i64 0, .int .i64 c, .int .i64 0] 49) := ⟨_, rfl⟩
  have B0 : Bx w.heap.size ⟨7, wd, 0, b, 0, c, 0⟩ W := by rw [hW]; exact Bx.made w ⟨7, wd, 0, b, 0, c, 0⟩
  have W0 : Below w.heap.size w W := by rw [hW]; exact bel_one _ _
  have CC := hide (code_is 7 wd 0 b 0 c 0 hx _ rfl)
  have MM := hide (fun U : World => mr_any 3 c b U (by decide) (by decide) (sh_bd hc).1 h2.1)
  have RX := hide (fun U : World => rex_any wd c 0 b U)
  have PP := hide (put_in B v l (rxb wd c 0 b) [cod ⟨7, wd, 0, b, 0, c, 0⟩, mri 3 c b] ⟨7, wd, 0, b, 0, c, 0⟩ w W #[.int .i64 (cod ⟨7, wd, 0, b, 0, c, 0⟩), .int .i64 (mri 3 c b)] hB hr (by omega) B0 W0 (rxb_bd _ _ _ _).1 (rxb_bd _ _ _ _).2 rfl (in_2 (cod_bd hx) (mri_4095 (by decide) (by decide))) (by simp))
  have HE : Hid (l ++ enc ⟨7, wd, 0, b, 0, c, 0⟩ = (l ++ (pre (rxb wd c 0 b) ++ twos [cod ⟨7, wd, 0, b, 0, c, 0⟩, mri 3 c b]))) := by show _ = _; simp [enc, rx, mrs, nmb, fR2, fRR, fB, fP, h32, mid, twos, two_3, two_2, two_0]
  generalize hck : cod ⟨7, wd, 0, b, 0, c, 0⟩ = ck at CC PP HE
  generalize hrr : rxb wd c 0 b = rr at PP HE RX
  generalize hmm : mri 3 c b = mm at MM PP HE
  obtain ⟨m0, m1, m2, m3, m4, m5, m6⟩ := B0.cells
  have HB0 := hide B0
  obtain ⟨hc0, hc1⟩ := sh_bd hc
  clear B0 W0 hx
  go_enter Try.func30, Try.ntmps30
  go_wp2_with fail
  rw [← hW]
  clear hW
  go_region_held3 (fun X => X.cell? ⟨w.heap.size, 0, none⟩ = some (.int .i64 7) ∧ X.cell? ⟨w.heap.size, 1, none⟩ = some (.bool wd) ∧ X.cell? ⟨w.heap.size, 2, none⟩ = some (.int .i64 0) ∧ X.cell? ⟨w.heap.size, 3, none⟩ = some (.int .i64 b) ∧ X.cell? ⟨w.heap.size, 4, none⟩ = some (.int .i64 0) ∧ X.cell? ⟨w.heap.size, 5, none⟩ = some (.int .i64 c) ∧ X.cell? ⟨w.heap.size, 6, none⟩ = some (.int .i64 0)) (go_keep)
    (first | (go_at_call 48; refine (RX.out _).mono ?_; rintro e w' ⟨rfl, rfl⟩) | (go_at_call 50; refine (MM.out _).mono ?_; rintro e w' ⟨rfl, rfl⟩) | (go_at_call 49; refine (CC.out _).mono ?_; rintro e w2 ⟨rfl, hb2⟩; have K2 : Hid (Below W.heap.size W w2) := bel_draw hb2 ⟨rfl, rfl, rfl, Nat.le_refl _, fun _ _ => rfl⟩; obtain ⟨x0, x1, x2, x3, x4, x5, x6⟩ := (HB0.out.kept K2.out).cells) | (go_at_call 47; refine (PP.out _ _ ?hk ?hU).mono ?_; (case hU => exact ⟨rfl, rfl, rfl, Nat.le_refl _, fun _ _ => rfl⟩); (case hk => assumption); rintro e w3 ⟨v3, rfl, T3⟩; obtain ⟨y0, y1, y2, y3, y4, y5, y6⟩ := T3.out.2.2.1.cells))
  go_wp2_with (go_at_call 52; refine (has_any _ _).mono ?_; rintro e w' ⟨rfl, rfl⟩)
  go_ret
  exact ⟨_, rfl, by rw [HE.out]; exact T3.out.1, T3.out.2.1⟩
set_option maxHeartbeats 8000000 in
theorem write_8 (B : Nat) (v : Value) (l : List UInt8) (wd : Bool) (b : Int) (w : World) (hB : B ≤ w.heap.size) (hr : BRow B v l w) (hl : l.length + 16 ≤ 140737488355328) (hx : rt ⟨8, wd, 0, b, 0, 0, 0⟩ = true) (h2 : 0 ≤ b ∧ b ≤ 15) : WrIs B v l ⟨8, wd, 0, b, 0, 0, 0⟩ w := by
  unfold WrIs
  simp only [xv]
  obtain ⟨W, hW⟩ : ∃ W, W = w.alloc (.cells #[.int .i64 8, .bool wd, .int .i64 0, .int .i64 b, .int .i64 0, .int .i64 0, .int .i64 0] 49) := ⟨_, rfl⟩
  have B0 : Bx w.heap.size ⟨8, wd, 0, b, 0, 0, 0⟩ W := by rw [hW]; exact Bx.made w ⟨8, wd, 0, b, 0, 0, 0⟩
  have W0 : Below w.heap.size w W := by rw [hW]; exact bel_one _ _
  have CC := hide (code_is 8 wd 0 b 0 0 0 hx _ rfl)
  have MM := hide (fun U : World => mr_any 3 6 b U (by decide) (by decide) (by decide) h2.1)
  have RX := hide (fun U : World => rex_any wd 6 0 b U)
  have PP := hide (put_in B v l (rxb wd 6 0 b) [cod ⟨8, wd, 0, b, 0, 0, 0⟩, mri 3 6 b] ⟨8, wd, 0, b, 0, 0, 0⟩ w W #[.int .i64 (cod ⟨8, wd, 0, b, 0, 0, 0⟩), .int .i64 (mri 3 6 b)] hB hr (by omega) B0 W0 (rxb_bd _ _ _ _).1 (rxb_bd _ _ _ _).2 rfl (in_2 (cod_bd hx) (mri_4095 (by decide) (by decide))) (by simp))
  have HE : Hid (l ++ enc ⟨8, wd, 0, b, 0, 0, 0⟩ = (l ++ (pre (rxb wd 6 0 b) ++ twos [cod ⟨8, wd, 0, b, 0, 0, 0⟩, mri 3 6 b]))) := by show _ = _; simp [enc, rx, mrs, nmb, fR2, fRR, fB, fP, h32, mid, twos, two_3, two_2, two_0]
  generalize hck : cod ⟨8, wd, 0, b, 0, 0, 0⟩ = ck at CC PP HE
  generalize hrr : rxb wd 6 0 b = rr at PP HE RX
  generalize hmm : mri 3 6 b = mm at MM PP HE
  obtain ⟨m0, m1, m2, m3, m4, m5, m6⟩ := B0.cells
  have HB0 := hide B0
  clear B0 W0 hx
  go_enter Try.func30, Try.ntmps30
  go_wp2_with fail
  rw [← hW]
  clear hW
  go_region_held3 (fun X => X.cell? ⟨w.heap.size, 0, none⟩ = some (.int .i64 8) ∧ X.cell? ⟨w.heap.size, 1, none⟩ = some (.bool wd) ∧ X.cell? ⟨w.heap.size, 2, none⟩ = some (.int .i64 0) ∧ X.cell? ⟨w.heap.size, 3, none⟩ = some (.int .i64 b) ∧ X.cell? ⟨w.heap.size, 4, none⟩ = some (.int .i64 0) ∧ X.cell? ⟨w.heap.size, 5, none⟩ = some (.int .i64 0) ∧ X.cell? ⟨w.heap.size, 6, none⟩ = some (.int .i64 0)) (go_keep)
    (first | (go_at_call 48; refine (RX.out _).mono ?_; rintro e w' ⟨rfl, rfl⟩) | (go_at_call 50; refine (MM.out _).mono ?_; rintro e w' ⟨rfl, rfl⟩) | (go_at_call 49; refine (CC.out _).mono ?_; rintro e w2 ⟨rfl, hb2⟩; have K2 : Hid (Below W.heap.size W w2) := bel_draw hb2 ⟨rfl, rfl, rfl, Nat.le_refl _, fun _ _ => rfl⟩; obtain ⟨x0, x1, x2, x3, x4, x5, x6⟩ := (HB0.out.kept K2.out).cells) | (go_at_call 47; refine (PP.out _ _ ?hk ?hU).mono ?_; (case hU => exact ⟨rfl, rfl, rfl, Nat.le_refl _, fun _ _ => rfl⟩); (case hk => assumption); rintro e w3 ⟨v3, rfl, T3⟩; obtain ⟨y0, y1, y2, y3, y4, y5, y6⟩ := T3.out.2.2.1.cells))
  go_wp2_with (go_at_call 52; refine (has_any _ _).mono ?_; rintro e w' ⟨rfl, rfl⟩)
  go_ret
  exact ⟨_, rfl, by rw [HE.out]; exact T3.out.1, T3.out.2.1⟩
set_option maxHeartbeats 8000000 in
theorem write_9 (B : Nat) (v : Value) (l : List UInt8) (wd : Bool) (b : Int) (w : World) (hB : B ≤ w.heap.size) (hr : BRow B v l w) (hl : l.length + 16 ≤ 140737488355328) (hx : rt ⟨9, wd, 0, b, 0, 0, 0⟩ = true) (h2 : 0 ≤ b ∧ b ≤ 15) : WrIs B v l ⟨9, wd, 0, b, 0, 0, 0⟩ w := by
  unfold WrIs
  simp only [xv]
  obtain ⟨W, hW⟩ : ∃ W, W = w.alloc (.cells #[.int .i64 9, .bool wd, .int .i64 0, .int .i64 b, .int .i64 0, .int .i64 0, .int .i64 0] 49) := ⟨_, rfl⟩
  have B0 : Bx w.heap.size ⟨9, wd, 0, b, 0, 0, 0⟩ W := by rw [hW]; exact Bx.made w ⟨9, wd, 0, b, 0, 0, 0⟩
  have W0 : Below w.heap.size w W := by rw [hW]; exact bel_one _ _
  have CC := hide (code_is 9 wd 0 b 0 0 0 hx _ rfl)
  have MM := hide (fun U : World => mr_any 3 7 b U (by decide) (by decide) (by decide) h2.1)
  have RX := hide (fun U : World => rex_any wd 7 0 b U)
  have PP := hide (put_in B v l (rxb wd 7 0 b) [cod ⟨9, wd, 0, b, 0, 0, 0⟩, mri 3 7 b] ⟨9, wd, 0, b, 0, 0, 0⟩ w W #[.int .i64 (cod ⟨9, wd, 0, b, 0, 0, 0⟩), .int .i64 (mri 3 7 b)] hB hr (by omega) B0 W0 (rxb_bd _ _ _ _).1 (rxb_bd _ _ _ _).2 rfl (in_2 (cod_bd hx) (mri_4095 (by decide) (by decide))) (by simp))
  have HE : Hid (l ++ enc ⟨9, wd, 0, b, 0, 0, 0⟩ = (l ++ (pre (rxb wd 7 0 b) ++ twos [cod ⟨9, wd, 0, b, 0, 0, 0⟩, mri 3 7 b]))) := by show _ = _; simp [enc, rx, mrs, nmb, fR2, fRR, fB, fP, h32, mid, twos, two_3, two_2, two_0]
  generalize hck : cod ⟨9, wd, 0, b, 0, 0, 0⟩ = ck at CC PP HE
  generalize hrr : rxb wd 7 0 b = rr at PP HE RX
  generalize hmm : mri 3 7 b = mm at MM PP HE
  obtain ⟨m0, m1, m2, m3, m4, m5, m6⟩ := B0.cells
  have HB0 := hide B0
  clear B0 W0 hx
  go_enter Try.func30, Try.ntmps30
  go_wp2_with fail
  rw [← hW]
  clear hW
  go_region_held3 (fun X => X.cell? ⟨w.heap.size, 0, none⟩ = some (.int .i64 9) ∧ X.cell? ⟨w.heap.size, 1, none⟩ = some (.bool wd) ∧ X.cell? ⟨w.heap.size, 2, none⟩ = some (.int .i64 0) ∧ X.cell? ⟨w.heap.size, 3, none⟩ = some (.int .i64 b) ∧ X.cell? ⟨w.heap.size, 4, none⟩ = some (.int .i64 0) ∧ X.cell? ⟨w.heap.size, 5, none⟩ = some (.int .i64 0) ∧ X.cell? ⟨w.heap.size, 6, none⟩ = some (.int .i64 0)) (go_keep)
    (first | (go_at_call 48; refine (RX.out _).mono ?_; rintro e w' ⟨rfl, rfl⟩) | (go_at_call 50; refine (MM.out _).mono ?_; rintro e w' ⟨rfl, rfl⟩) | (go_at_call 49; refine (CC.out _).mono ?_; rintro e w2 ⟨rfl, hb2⟩; have K2 : Hid (Below W.heap.size W w2) := bel_draw hb2 ⟨rfl, rfl, rfl, Nat.le_refl _, fun _ _ => rfl⟩; obtain ⟨x0, x1, x2, x3, x4, x5, x6⟩ := (HB0.out.kept K2.out).cells) | (go_at_call 47; refine (PP.out _ _ ?hk ?hU).mono ?_; (case hU => exact ⟨rfl, rfl, rfl, Nat.le_refl _, fun _ _ => rfl⟩); (case hk => assumption); rintro e w3 ⟨v3, rfl, T3⟩; obtain ⟨y0, y1, y2, y3, y4, y5, y6⟩ := T3.out.2.2.1.cells))
  go_wp2_with (go_at_call 52; refine (has_any _ _).mono ?_; rintro e w' ⟨rfl, rfl⟩)
  go_ret
  exact ⟨_, rfl, by rw [HE.out]; exact T3.out.1, T3.out.2.1⟩
set_option maxHeartbeats 8000000 in
theorem write_10 (B : Nat) (v : Value) (l : List UInt8) (wd : Bool) (w : World) (hB : B ≤ w.heap.size) (hr : BRow B v l w) (hl : l.length + 16 ≤ 140737488355328) (hx : rt ⟨10, wd, 0, 0, 0, 0, 0⟩ = true)  : WrIs B v l ⟨10, wd, 0, 0, 0, 0, 0⟩ w := by
  unfold WrIs
  simp only [xv]
  obtain ⟨W, hW⟩ : ∃ W, W = w.alloc (.cells #[.int .i64 10, .bool wd, .int .i64 0, .int .i64 0, .int .i64 0, .int .i64 0, .int .i64 0] 49) := ⟨_, rfl⟩
  have B0 : Bx w.heap.size ⟨10, wd, 0, 0, 0, 0, 0⟩ W := by rw [hW]; exact Bx.made w ⟨10, wd, 0, 0, 0, 0, 0⟩
  have W0 : Below w.heap.size w W := by rw [hW]; exact bel_one _ _
  have CC := hide (code_is 10 wd 0 0 0 0 0 hx _ rfl)
  have RX := hide (fun U : World => rex_any wd 0 0 0 U)
  have PP := hide (put_in B v l (rxb wd 0 0 0) [cod ⟨10, wd, 0, 0, 0, 0, 0⟩] ⟨10, wd, 0, 0, 0, 0, 0⟩ w W #[.int .i64 (cod ⟨10, wd, 0, 0, 0, 0, 0⟩)] hB hr (by omega) B0 W0 (rxb_bd _ _ _ _).1 (rxb_bd _ _ _ _).2 rfl (in_1 (cod_bd hx)) (by simp))
  have HE : Hid (l ++ enc ⟨10, wd, 0, 0, 0, 0, 0⟩ = (l ++ (pre (rxb wd 0 0 0) ++ twos [cod ⟨10, wd, 0, 0, 0, 0, 0⟩]))) := by show _ = _; simp [enc, rx, mrs, nmb, fR2, fRR, fB, fP, h32, mid, twos, two_3, two_2, two_0]
  generalize hck : cod ⟨10, wd, 0, 0, 0, 0, 0⟩ = ck at CC PP HE
  generalize hrr : rxb wd 0 0 0 = rr at PP HE RX
  obtain ⟨m0, m1, m2, m3, m4, m5, m6⟩ := B0.cells
  have HB0 := hide B0
  clear B0 W0 hx
  go_enter Try.func30, Try.ntmps30
  go_wp2_with fail
  rw [← hW]
  clear hW
  go_region_held3 (fun X => X.cell? ⟨w.heap.size, 0, none⟩ = some (.int .i64 10) ∧ X.cell? ⟨w.heap.size, 1, none⟩ = some (.bool wd) ∧ X.cell? ⟨w.heap.size, 2, none⟩ = some (.int .i64 0) ∧ X.cell? ⟨w.heap.size, 3, none⟩ = some (.int .i64 0) ∧ X.cell? ⟨w.heap.size, 4, none⟩ = some (.int .i64 0) ∧ X.cell? ⟨w.heap.size, 5, none⟩ = some (.int .i64 0) ∧ X.cell? ⟨w.heap.size, 6, none⟩ = some (.int .i64 0)) (go_keep)
    (first | (go_at_call 48; refine (RX.out _).mono ?_; rintro e w' ⟨rfl, rfl⟩) | (go_at_call 49; refine (CC.out _).mono ?_; rintro e w2 ⟨rfl, hb2⟩; have K2 : Hid (Below W.heap.size W w2) := bel_draw hb2 ⟨rfl, rfl, rfl, Nat.le_refl _, fun _ _ => rfl⟩; obtain ⟨x0, x1, x2, x3, x4, x5, x6⟩ := (HB0.out.kept K2.out).cells) | (go_at_call 47; refine (PP.out _ _ ?hk ?hU).mono ?_; (case hU => exact ⟨rfl, rfl, rfl, Nat.le_refl _, fun _ _ => rfl⟩); (case hk => assumption); rintro e w3 ⟨v3, rfl, T3⟩; obtain ⟨y0, y1, y2, y3, y4, y5, y6⟩ := T3.out.2.2.1.cells))
  go_wp2_with (go_at_call 52; refine (has_any _ _).mono ?_; rintro e w' ⟨rfl, rfl⟩)
  go_ret
  exact ⟨_, rfl, by rw [HE.out]; exact T3.out.1, T3.out.2.1⟩
end Go.Proofs.Ytielpebokbolbaa.Xc
