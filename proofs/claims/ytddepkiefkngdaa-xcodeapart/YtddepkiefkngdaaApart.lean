/-
  Of two unlike instructions neither's bytes begin with the other's; cut off they are none: the walk of the statement XcodeApart.
-/
import Derived.Test.YtddepkiefkngdaaBack
namespace Go.Proofs.Ytddepkiefkngdaa
open Go.RowKit
set_option linter.unusedSimpArgs false
set_option linter.unusedVariables false

theorem cut_none {x : Xi} (h : rt x = true) (hn : I64 x.n) (m : Nat) (hm : m < (enc x).length) : dcX ((enc x).take m) = none := by
  cases hd : dcX ((enc x).take m) with
  | none => rfl
  | some y =>
    obtain ⟨h1, h2, h3, _⟩ := dc_some hd
    have hle := h2.length_le
    obtain ⟨s, hs⟩ := h2
    have e : enc y ++ (s ++ (enc x).drop m) = enc x := by rw [← List.append_assoc, hs, List.take_append_drop]
    have := enc_inj h1 h h3 hn e
    subst this
    simp at hle; omega
theorem apart_eq {x y : Xi} (hx : rt x = true) (hy : rt y = true) (nx : I64 x.n) (ny : I64 y.n) (k : Nat) (hk : k = min (enc x).length (enc y).length) : ((enc x).take k == (enc y).take k) = xeq x y := by
  rw [Bool.eq_iff_iff, xeq_iff, beq_iff_eq]
  constructor
  · intro h
    rcases Nat.le_total (enc x).length (enc y).length with hl | hl
    · rw [show k = (enc x).length by omega, List.take_length] at h
      exact enc_inj hx hy nx ny (s := (enc y).drop (enc x).length) (by rw [h, List.length_take, Nat.min_eq_left hl, List.take_append_drop])
    · rw [show k = (enc y).length by omega, List.take_length] at h
      exact (enc_inj hy hx ny nx (s := (enc x).drop (enc y).length) (by rw [← h, List.length_take, Nat.min_eq_left hl, List.take_append_drop])).symm
  · rintro rfl; rfl
def ApIs (x y : Xi) (cut : Int) (w : World) : Prop := Calls Try.prog 7 #[xv x, xv y, .int .i64 cut] w fun e w' => e = .returned (.bool true) ∧ Below w.heap.size w w'
theorem cut_nat (cut : Int) (L : Nat) (h0 : 0 ≤ cut) (hL : 1 ≤ L) : ∃ m : Nat, cut % (L : Int) = (m : Int) ∧ m < L := by
  have h1 := Int.emod_nonneg cut (show (L : Int) ≠ 0 by omega)
  have h2 := Int.emod_lt_of_pos cut (show (0 : Int) < (L : Int) by omega)
  exact ⟨(cut % (L : Int)).toNat, by omega, by omega⟩
set_option maxHeartbeats 4000000 in
theorem apart_x (op : Int) (wd : Bool) (r b i c n op2 : Int) (wd2 : Bool) (r2 b2 i2 c2 n2 cut : Int) (w : World) (hi : I64 i) (hn : I64 n) (hi2 : I64 i2) (hn2 : I64 n2) (hq : rt ⟨op, wd, r, b, i, c, n⟩ = false) : ApIs ⟨op, wd, r, b, i, c, n⟩ ⟨op2, wd2, r2, b2, i2, c2, n2⟩ cut w := by
  unfold ApIs
  simp only [xv]
  have s1 : enS ⟨op, wd, r, b, i, c, n⟩ = [] := by simp [enS, hq]
  have s2 : enE ⟨op, wd, r, b, i, c, n⟩ = 4 := by simp [enE, hq]
  have E1 := hide (fun U => enc_is op wd r b i c n U hi hn s1 s2)
  have E2 := hide (fun U => enc_is op2 wd2 r2 b2 i2 c2 n2 U hi2 hn2 rfl rfl)
  clear s1 s2
  generalize str (enS ⟨op2, wd2, r2, b2, i2, c2, n2⟩) = own2 at *
  generalize enE ⟨op2, wd2, r2, b2, i2, c2, n2⟩ = ee at *
  obtain ⟨W, hW⟩ : ∃ W, W = (w.alloc (.cells #[.int .i64 op, .bool wd, .int .i64 r, .int .i64 b, .int .i64 i, .int .i64 c, .int .i64 n] 23)).alloc (.cells #[.int .i64 op2, .bool wd2, .int .i64 r2, .int .i64 b2, .int .i64 i2, .int .i64 c2, .int .i64 n2] 23) := ⟨_, rfl⟩
  have B0 : Hid (Bx w.heap.size ⟨op, wd, r, b, i, c, n⟩ W) := by show Bx _ _ _; rw [hW]; exact (Bx.made w ⟨op, wd, r, b, i, c, n⟩).alloc _
  have Y0 : Hid (Bx (w.heap.size + 1) ⟨op2, wd2, r2, b2, i2, c2, n2⟩ W) := by show Bx _ _ _; rw [hW]; have T := Bx.made (w.alloc (.cells #[.int .i64 op, .bool wd, .int .i64 r, .int .i64 b, .int .i64 i, .int .i64 c, .int .i64 n] 23)) ⟨op2, wd2, r2, b2, i2, c2, n2⟩; simp only [World.alloc, Array.size_push] at T; exact T
  have W0 : Hid (Below w.heap.size w W) := by show Below _ _ _; rw [hW]; exact bel_al (bel_one _ _) _
  clear hi hn hi2 hn2 hq
  go_enter Try.func7, Try.ntmps7
  go_wp2_with fail
  rw [← hW]
  refine (examples_any _).mono ?_
  clear hW
  rintro e w1 ⟨rfl, hb1⟩
  have B1 : Hid (Bx w.heap.size ⟨op, wd, r, b, i, c, n⟩ w1) := B0.out.kept hb1
  have Y1 : Hid (Bx (w.heap.size + 1) ⟨op2, wd2, r2, b2, i2, c2, n2⟩ w1) := Y0.out.kept hb1
  have W1 := hide (bel_tr W0.out hb1)
  clear hb1 B0 W0 Y0
  obtain ⟨x0, x1, x2, x3, x4, x5, x6⟩ := B1.out.cells
  dsimp only at x0 x1 x2 x3 x4 x5 x6
  go_wp2_with fail
  refine (E1.out _).mono ?_
  rintro e w2 ⟨rfl, hb2⟩
  have B2 : Hid (Bx w.heap.size ⟨op, wd, r, b, i, c, n⟩ w2) := B1.out.kept hb2
  have Y2 : Hid (Bx (w.heap.size + 1) ⟨op2, wd2, r2, b2, i2, c2, n2⟩ w2) := Y1.out.kept hb2
  have W2 := hide (bel_tr W1.out hb2)
  clear hb2 B1 W1 Y1 x0 x1 x2 x3 x4 x5 x6
  obtain ⟨x0, x1, x2, x3, x4, x5, x6⟩ := Y2.out.cells
  dsimp only at x0 x1 x2 x3 x4 x5 x6
  go_wp2_with fail
  refine (E2.out _).mono ?_
  rintro e w3 ⟨rfl, hb3⟩
  have B3 : Hid (Bx w.heap.size ⟨op, wd, r, b, i, c, n⟩ w3) := B2.out.kept hb3
  have Y3 : Hid (Bx (w.heap.size + 1) ⟨op2, wd2, r2, b2, i2, c2, n2⟩ w3) := Y2.out.kept hb3
  have W3 := hide (bel_tr W2.out hb3)
  clear hb3 B2 W2 Y2 x0 x1 x2 x3 x4 x5 x6
  go_wp2_with fail
  go_ret
  exact ⟨rfl, W3.out⟩
set_option maxHeartbeats 4000000 in
theorem apart_y (op : Int) (wd : Bool) (r b i c n op2 : Int) (wd2 : Bool) (r2 b2 i2 c2 n2 cut : Int) (w : World) (hi : I64 i) (hn : I64 n) (hi2 : I64 i2) (hn2 : I64 n2) (hq : rt ⟨op, wd, r, b, i, c, n⟩ = true) (hp : rt ⟨op2, wd2, r2, b2, i2, c2, n2⟩ = false) : ApIs ⟨op, wd, r, b, i, c, n⟩ ⟨op2, wd2, r2, b2, i2, c2, n2⟩ cut w := by
  unfold ApIs
  simp only [xv]
  have s1 : enS ⟨op, wd, r, b, i, c, n⟩ = enc ⟨op, wd, r, b, i, c, n⟩ := by simp [enS, hq]
  have s2 : enE ⟨op, wd, r, b, i, c, n⟩ = 0 := by simp [enE, hq]
  have E1 := hide (fun U => enc_is op wd r b i c n U hi hn s1 s2)
  have t1 : enS ⟨op2, wd2, r2, b2, i2, c2, n2⟩ = [] := by simp [enS, hp]
  have t2 : enE ⟨op2, wd2, r2, b2, i2, c2, n2⟩ = 4 := by simp [enE, hp]
  have E2 := hide (fun U => enc_is op2 wd2 r2 b2 i2 c2 n2 U hi2 hn2 t1 t2)
  clear s1 s2 t1 t2
  generalize str (enc ⟨op, wd, r, b, i, c, n⟩) = own at *
  obtain ⟨W, hW⟩ : ∃ W, W = (w.alloc (.cells #[.int .i64 op, .bool wd, .int .i64 r, .int .i64 b, .int .i64 i, .int .i64 c, .int .i64 n] 23)).alloc (.cells #[.int .i64 op2, .bool wd2, .int .i64 r2, .int .i64 b2, .int .i64 i2, .int .i64 c2, .int .i64 n2] 23) := ⟨_, rfl⟩
  have B0 : Hid (Bx w.heap.size ⟨op, wd, r, b, i, c, n⟩ W) := by show Bx _ _ _; rw [hW]; exact (Bx.made w ⟨op, wd, r, b, i, c, n⟩).alloc _
  have Y0 : Hid (Bx (w.heap.size + 1) ⟨op2, wd2, r2, b2, i2, c2, n2⟩ W) := by show Bx _ _ _; rw [hW]; have T := Bx.made (w.alloc (.cells #[.int .i64 op, .bool wd, .int .i64 r, .int .i64 b, .int .i64 i, .int .i64 c, .int .i64 n] 23)) ⟨op2, wd2, r2, b2, i2, c2, n2⟩; simp only [World.alloc, Array.size_push] at T; exact T
  have W0 : Hid (Below w.heap.size w W) := by show Below _ _ _; rw [hW]; exact bel_al (bel_one _ _) _
  clear hi hn hi2 hn2 hq hp
  go_enter Try.func7, Try.ntmps7
  go_wp2_with fail
  rw [← hW]
  refine (examples_any _).mono ?_
  clear hW
  rintro e w1 ⟨rfl, hb1⟩
  have B1 : Hid (Bx w.heap.size ⟨op, wd, r, b, i, c, n⟩ w1) := B0.out.kept hb1
  have Y1 : Hid (Bx (w.heap.size + 1) ⟨op2, wd2, r2, b2, i2, c2, n2⟩ w1) := Y0.out.kept hb1
  have W1 := hide (bel_tr W0.out hb1)
  clear hb1 B0 W0 Y0
  obtain ⟨x0, x1, x2, x3, x4, x5, x6⟩ := B1.out.cells
  dsimp only at x0 x1 x2 x3 x4 x5 x6
  go_wp2_with fail
  refine (E1.out _).mono ?_
  rintro e w2 ⟨rfl, hb2⟩
  have B2 : Hid (Bx w.heap.size ⟨op, wd, r, b, i, c, n⟩ w2) := B1.out.kept hb2
  have Y2 : Hid (Bx (w.heap.size + 1) ⟨op2, wd2, r2, b2, i2, c2, n2⟩ w2) := Y1.out.kept hb2
  have W2 := hide (bel_tr W1.out hb2)
  clear hb2 B1 W1 Y1 x0 x1 x2 x3 x4 x5 x6
  obtain ⟨x0, x1, x2, x3, x4, x5, x6⟩ := Y2.out.cells
  dsimp only at x0 x1 x2 x3 x4 x5 x6
  go_wp2_with fail
  refine (E2.out _).mono ?_
  rintro e w3 ⟨rfl, hb3⟩
  have B3 : Hid (Bx w.heap.size ⟨op, wd, r, b, i, c, n⟩ w3) := B2.out.kept hb3
  have Y3 : Hid (Bx (w.heap.size + 1) ⟨op2, wd2, r2, b2, i2, c2, n2⟩ w3) := Y2.out.kept hb3
  have W3 := hide (bel_tr W2.out hb3)
  clear hb3 B2 W2 Y2 x0 x1 x2 x3 x4 x5 x6
  go_wp2_with fail
  go_ret
  exact ⟨rfl, W3.out⟩
set_option maxHeartbeats 4000000 in
theorem apart_p (op : Int) (wd : Bool) (r b i c n op2 : Int) (wd2 : Bool) (r2 b2 i2 c2 n2 cut : Int) (w : World) (hi : I64 i) (hn : I64 n) (hi2 : I64 i2) (hn2 : I64 n2) (hq : rt ⟨op, wd, r, b, i, c, n⟩ = true) (hp : rt ⟨op2, wd2, r2, b2, i2, c2, n2⟩ = true) (h0 : 0 ≤ cut) : ApIs ⟨op, wd, r, b, i, c, n⟩ ⟨op2, wd2, r2, b2, i2, c2, n2⟩ cut w := by
  unfold ApIs
  simp only [xv]
  have s1 : enS ⟨op, wd, r, b, i, c, n⟩ = enc ⟨op, wd, r, b, i, c, n⟩ := by simp [enS, hq]
  have s2 : enE ⟨op, wd, r, b, i, c, n⟩ = 0 := by simp [enE, hq]
  have E1 := hide (fun U => enc_is op wd r b i c n U hi hn s1 s2)
  have d0 : decide (cut < 0) = false := decide_eq_false (by omega)
  have hz0 := h0
  have t1 : enS ⟨op2, wd2, r2, b2, i2, c2, n2⟩ = enc ⟨op2, wd2, r2, b2, i2, c2, n2⟩ := by simp [enS, hp]
  have t2 : enE ⟨op2, wd2, r2, b2, i2, c2, n2⟩ = 0 := by simp [enE, hp]
  have E2 := hide (fun U => enc_is op2 wd2 r2 b2 i2 c2 n2 U hi2 hn2 t1 t2)
  have l1 := enc_len ⟨op, wd, r, b, i, c, n⟩
  have l2 := enc_len ⟨op2, wd2, r2, b2, i2, c2, n2⟩
  obtain ⟨m, hm, hmL⟩ := cut_nat cut (str (enc ⟨op, wd, r, b, i, c, n⟩)).size hz0 (by rw [str_size]; omega)
  obtain ⟨k1, k2, k3⟩ := dec_no (cut_none hq hn m (by rw [str_size] at hmL; exact hmL))
  have D := hide (fun U => dec_is ((str (enc ⟨op, wd, r, b, i, c, n⟩)).extract 0 m) U (x := ⟨0, false, 0, 0, 0, 0, 0⟩) (n := 0) (e0 := 6) (by rw [ext_take, str_data]; exact k1) (by rw [ext_take, str_data]; exact k2) (by rw [ext_take, str_data]; exact k3))
  obtain ⟨k, hk⟩ : ∃ k : Nat, k = min (str (enc ⟨op, wd, r, b, i, c, n⟩)).size (str (enc ⟨op2, wd2, r2, b2, i2, c2, n2⟩)).size := ⟨_, rfl⟩
  have QE : (((str (enc ⟨op, wd, r, b, i, c, n⟩)).extract 0 k).toList == ((str (enc ⟨op2, wd2, r2, b2, i2, c2, n2⟩)).extract 0 k).toList) = xeq ⟨op, wd, r, b, i, c, n⟩ ⟨op2, wd2, r2, b2, i2, c2, n2⟩ := by
    rw [ByteArray.toList_eq, ByteArray.toList_eq, ext_take, ext_take, str_data, str_data]
    exact apart_eq hq hp hn hn2 k (by rw [hk, str_size, str_size])
  have hkk : min ((str (enc ⟨op, wd, r, b, i, c, n⟩)).size : Int) ((str (enc ⟨op2, wd2, r2, b2, i2, c2, n2⟩)).size : Int) = (k : Int) := by rw [hk]; omega
  have ka : (k : Int) ≤ ((str (enc ⟨op, wd, r, b, i, c, n⟩)).size : Int) := by omega
  have kb : (k : Int) ≤ ((str (enc ⟨op2, wd2, r2, b2, i2, c2, n2⟩)).size : Int) := by omega
  have ma : (m : Int) ≤ ((str (enc ⟨op, wd, r, b, i, c, n⟩)).size : Int) := by omega
  have z1 : (1 : Int) ≤ ((str (enc ⟨op, wd, r, b, i, c, n⟩)).size : Int) := by rw [str_size]; omega
  have z2 : (1 : Int) ≤ ((str (enc ⟨op2, wd2, r2, b2, i2, c2, n2⟩)).size : Int) := by rw [str_size]; omega
  have z3 : ((str (enc ⟨op, wd, r, b, i, c, n⟩)).size : Int) ≤ 15 := by rw [str_size]; omega
  have n1 : (((str (enc ⟨op, wd, r, b, i, c, n⟩)).size : Int) == 0) = false := beq_eq_false_iff_ne.2 (by omega)
  have n2' : (((str (enc ⟨op2, wd2, r2, b2, i2, c2, n2⟩)).size : Int) == 0) = false := beq_eq_false_iff_ne.2 (by omega)
  have QX := eql_x op wd r b i c n op2 wd2 r2 b2 i2 c2 n2
  generalize xeq ⟨op, wd, r, b, i, c, n⟩ ⟨op2, wd2, r2, b2, i2, c2, n2⟩ = q at *
  clear s1 s2 t1 t2 l1 l2 k1 k2 k3 hmL hk
  generalize str (enc ⟨op, wd, r, b, i, c, n⟩) = own at *
  generalize str (enc ⟨op2, wd2, r2, b2, i2, c2, n2⟩) = own2 at *
  obtain ⟨W, hW⟩ : ∃ W, W = (w.alloc (.cells #[.int .i64 op, .bool wd, .int .i64 r, .int .i64 b, .int .i64 i, .int .i64 c, .int .i64 n] 23)).alloc (.cells #[.int .i64 op2, .bool wd2, .int .i64 r2, .int .i64 b2, .int .i64 i2, .int .i64 c2, .int .i64 n2] 23) := ⟨_, rfl⟩
  have B0 : Hid (Bx w.heap.size ⟨op, wd, r, b, i, c, n⟩ W) := by show Bx _ _ _; rw [hW]; exact (Bx.made w ⟨op, wd, r, b, i, c, n⟩).alloc _
  have Y0 : Hid (Bx (w.heap.size + 1) ⟨op2, wd2, r2, b2, i2, c2, n2⟩ W) := by show Bx _ _ _; rw [hW]; have T := Bx.made (w.alloc (.cells #[.int .i64 op, .bool wd, .int .i64 r, .int .i64 b, .int .i64 i, .int .i64 c, .int .i64 n] 23)) ⟨op2, wd2, r2, b2, i2, c2, n2⟩; simp only [World.alloc, Array.size_push] at T; exact T
  have W0 : Hid (Below w.heap.size w W) := by show Below _ _ _; rw [hW]; exact bel_al (bel_one _ _) _
  clear hi hn hi2 hn2 hq hp
  go_enter Try.func7, Try.ntmps7
  go_wp2_with fail
  rw [← hW]
  refine (examples_any _).mono ?_
  clear hW
  rintro e w1 ⟨rfl, hb1⟩
  have B1 : Hid (Bx w.heap.size ⟨op, wd, r, b, i, c, n⟩ w1) := B0.out.kept hb1
  have Y1 : Hid (Bx (w.heap.size + 1) ⟨op2, wd2, r2, b2, i2, c2, n2⟩ w1) := Y0.out.kept hb1
  have W1 := hide (bel_tr W0.out hb1)
  clear hb1 B0 W0 Y0
  obtain ⟨x0, x1, x2, x3, x4, x5, x6⟩ := B1.out.cells
  dsimp only at x0 x1 x2 x3 x4 x5 x6
  go_wp2_with fail
  refine (E1.out _).mono ?_
  rintro e w2 ⟨rfl, hb2⟩
  have B2 : Hid (Bx w.heap.size ⟨op, wd, r, b, i, c, n⟩ w2) := B1.out.kept hb2
  have Y2 : Hid (Bx (w.heap.size + 1) ⟨op2, wd2, r2, b2, i2, c2, n2⟩ w2) := Y1.out.kept hb2
  have W2 := hide (bel_tr W1.out hb2)
  clear hb2 B1 W1 Y1 x0 x1 x2 x3 x4 x5 x6
  obtain ⟨x0, x1, x2, x3, x4, x5, x6⟩ := Y2.out.cells
  dsimp only at x0 x1 x2 x3 x4 x5 x6
  go_wp2_with fail
  refine (E2.out _).mono ?_
  rintro e w3 ⟨rfl, hb3⟩
  have B3 : Hid (Bx w.heap.size ⟨op, wd, r, b, i, c, n⟩ w3) := B2.out.kept hb3
  have Y3 : Hid (Bx (w.heap.size + 1) ⟨op2, wd2, r2, b2, i2, c2, n2⟩ w3) := Y2.out.kept hb3
  have W3 := hide (bel_tr W2.out hb3)
  clear hb3 B2 W2 Y2 x0 x1 x2 x3 x4 x5 x6
  go_wp2_with fail
  refine (D.out _).mono ?_
  rintro e w4 ⟨rfl, hb4⟩
  have B4 : Hid (Bx w.heap.size ⟨op, wd, r, b, i, c, n⟩ w4) := B3.out.kept hb4
  have Y4 : Hid (Bx (w.heap.size + 1) ⟨op2, wd2, r2, b2, i2, c2, n2⟩ w4) := Y3.out.kept hb4
  have W4 := hide (bel_tr W3.out hb4)
  clear hb4 B3 W3 Y3
  obtain ⟨V, hV⟩ : ∃ V, V = w4.alloc (.cells #[.int .i64 0, .bool false, .int .i64 0, .int .i64 0, .int .i64 0, .int .i64 0, .int .i64 0] 23) := ⟨_, rfl⟩
  have B5 : Hid (Bx w.heap.size ⟨op, wd, r, b, i, c, n⟩ V) := by show Bx _ _ _; rw [hV]; exact B4.out.alloc _
  have Y5 : Hid (Bx (w.heap.size + 1) ⟨op2, wd2, r2, b2, i2, c2, n2⟩ V) := by show Bx _ _ _; rw [hV]; exact Y4.out.alloc _
  have W5 : Hid (Below w.heap.size w V) := by show Below _ _ _; rw [hV]; exact bel_al W4.out _
  go_wp2_with fail
  rw [← hV]
  clear hV B4 Y4 W4
  obtain ⟨x0, x1, x2, x3, x4, x5, x6⟩ := B5.out.cells
  obtain ⟨v0, v1, v2, v3, v4, v5, v6⟩ := Y5.out.cells
  dsimp only at x0 x1 x2 x3 x4 x5 x6 v0 v1 v2 v3 v4 v5 v6
  go_quiet (fail)
  go_wp2_with fail
  go_ret
  exact ⟨by simp [QE], below_drewN W5.out _⟩
set_option maxHeartbeats 4000000 in
theorem apart_n (op : Int) (wd : Bool) (r b i c n op2 : Int) (wd2 : Bool) (r2 b2 i2 c2 n2 cut : Int) (w : World) (hi : I64 i) (hn : I64 n) (hi2 : I64 i2) (hn2 : I64 n2) (hq : rt ⟨op, wd, r, b, i, c, n⟩ = true) (hp : rt ⟨op2, wd2, r2, b2, i2, c2, n2⟩ = true) (h0 : cut < 0) (hc : -9223372036854775808 ≤ cut) : ApIs ⟨op, wd, r, b, i, c, n⟩ ⟨op2, wd2, r2, b2, i2, c2, n2⟩ cut w := by
  unfold ApIs
  simp only [xv]
  have s1 : enS ⟨op, wd, r, b, i, c, n⟩ = enc ⟨op, wd, r, b, i, c, n⟩ := by simp [enS, hq]
  have s2 : enE ⟨op, wd, r, b, i, c, n⟩ = 0 := by simp [enE, hq]
  have E1 := hide (fun U => enc_is op wd r b i c n U hi hn s1 s2)
  have d0 : decide (cut < 0) = true := decide_eq_true h0
  obtain ⟨ct2, hct⟩ : ∃ z, z = -(cut + 1) := ⟨_, rfl⟩
  have hz0 : 0 ≤ ct2 := by omega
  have hz1 : ct2 ≤ 9223372036854775807 := by omega
  have HC := hide hct
  clear hct
  have t1 : enS ⟨op2, wd2, r2, b2, i2, c2, n2⟩ = enc ⟨op2, wd2, r2, b2, i2, c2, n2⟩ := by simp [enS, hp]
  have t2 : enE ⟨op2, wd2, r2, b2, i2, c2, n2⟩ = 0 := by simp [enE, hp]
  have E2 := hide (fun U => enc_is op2 wd2 r2 b2 i2 c2 n2 U hi2 hn2 t1 t2)
  have l1 := enc_len ⟨op, wd, r, b, i, c, n⟩
  have l2 := enc_len ⟨op2, wd2, r2, b2, i2, c2, n2⟩
  obtain ⟨m, hm, hmL⟩ := cut_nat ct2 (str (enc ⟨op, wd, r, b, i, c, n⟩)).size hz0 (by rw [str_size]; omega)
  obtain ⟨k1, k2, k3⟩ := dec_no (cut_none hq hn m (by rw [str_size] at hmL; exact hmL))
  have D := hide (fun U => dec_is ((str (enc ⟨op, wd, r, b, i, c, n⟩)).extract 0 m) U (x := ⟨0, false, 0, 0, 0, 0, 0⟩) (n := 0) (e0 := 6) (by rw [ext_take, str_data]; exact k1) (by rw [ext_take, str_data]; exact k2) (by rw [ext_take, str_data]; exact k3))
  obtain ⟨k, hk⟩ : ∃ k : Nat, k = min (str (enc ⟨op, wd, r, b, i, c, n⟩)).size (str (enc ⟨op2, wd2, r2, b2, i2, c2, n2⟩)).size := ⟨_, rfl⟩
  have QE : (((str (enc ⟨op, wd, r, b, i, c, n⟩)).extract 0 k).toList == ((str (enc ⟨op2, wd2, r2, b2, i2, c2, n2⟩)).extract 0 k).toList) = xeq ⟨op, wd, r, b, i, c, n⟩ ⟨op2, wd2, r2, b2, i2, c2, n2⟩ := by
    rw [ByteArray.toList_eq, ByteArray.toList_eq, ext_take, ext_take, str_data, str_data]
    exact apart_eq hq hp hn hn2 k (by rw [hk, str_size, str_size])
  have hkk : min ((str (enc ⟨op, wd, r, b, i, c, n⟩)).size : Int) ((str (enc ⟨op2, wd2, r2, b2, i2, c2, n2⟩)).size : Int) = (k : Int) := by rw [hk]; omega
  have ka : (k : Int) ≤ ((str (enc ⟨op, wd, r, b, i, c, n⟩)).size : Int) := by omega
  have kb : (k : Int) ≤ ((str (enc ⟨op2, wd2, r2, b2, i2, c2, n2⟩)).size : Int) := by omega
  have ma : (m : Int) ≤ ((str (enc ⟨op, wd, r, b, i, c, n⟩)).size : Int) := by omega
  have z1 : (1 : Int) ≤ ((str (enc ⟨op, wd, r, b, i, c, n⟩)).size : Int) := by rw [str_size]; omega
  have z2 : (1 : Int) ≤ ((str (enc ⟨op2, wd2, r2, b2, i2, c2, n2⟩)).size : Int) := by rw [str_size]; omega
  have z3 : ((str (enc ⟨op, wd, r, b, i, c, n⟩)).size : Int) ≤ 15 := by rw [str_size]; omega
  have n1 : (((str (enc ⟨op, wd, r, b, i, c, n⟩)).size : Int) == 0) = false := beq_eq_false_iff_ne.2 (by omega)
  have n2' : (((str (enc ⟨op2, wd2, r2, b2, i2, c2, n2⟩)).size : Int) == 0) = false := beq_eq_false_iff_ne.2 (by omega)
  have QX := eql_x op wd r b i c n op2 wd2 r2 b2 i2 c2 n2
  generalize xeq ⟨op, wd, r, b, i, c, n⟩ ⟨op2, wd2, r2, b2, i2, c2, n2⟩ = q at *
  clear s1 s2 t1 t2 l1 l2 k1 k2 k3 hmL hk
  generalize str (enc ⟨op, wd, r, b, i, c, n⟩) = own at *
  generalize str (enc ⟨op2, wd2, r2, b2, i2, c2, n2⟩) = own2 at *
  obtain ⟨W, hW⟩ : ∃ W, W = (w.alloc (.cells #[.int .i64 op, .bool wd, .int .i64 r, .int .i64 b, .int .i64 i, .int .i64 c, .int .i64 n] 23)).alloc (.cells #[.int .i64 op2, .bool wd2, .int .i64 r2, .int .i64 b2, .int .i64 i2, .int .i64 c2, .int .i64 n2] 23) := ⟨_, rfl⟩
  have B0 : Hid (Bx w.heap.size ⟨op, wd, r, b, i, c, n⟩ W) := by show Bx _ _ _; rw [hW]; exact (Bx.made w ⟨op, wd, r, b, i, c, n⟩).alloc _
  have Y0 : Hid (Bx (w.heap.size + 1) ⟨op2, wd2, r2, b2, i2, c2, n2⟩ W) := by show Bx _ _ _; rw [hW]; have T := Bx.made (w.alloc (.cells #[.int .i64 op, .bool wd, .int .i64 r, .int .i64 b, .int .i64 i, .int .i64 c, .int .i64 n] 23)) ⟨op2, wd2, r2, b2, i2, c2, n2⟩; simp only [World.alloc, Array.size_push] at T; exact T
  have W0 : Hid (Below w.heap.size w W) := by show Below _ _ _; rw [hW]; exact bel_al (bel_one _ _) _
  clear hi hn hi2 hn2 hq hp
  go_enter Try.func7, Try.ntmps7
  go_wp2_with fail
  rw [← hW]
  refine (examples_any _).mono ?_
  clear hW
  rintro e w1 ⟨rfl, hb1⟩
  have B1 : Hid (Bx w.heap.size ⟨op, wd, r, b, i, c, n⟩ w1) := B0.out.kept hb1
  have Y1 : Hid (Bx (w.heap.size + 1) ⟨op2, wd2, r2, b2, i2, c2, n2⟩ w1) := Y0.out.kept hb1
  have W1 := hide (bel_tr W0.out hb1)
  clear hb1 B0 W0 Y0
  obtain ⟨x0, x1, x2, x3, x4, x5, x6⟩ := B1.out.cells
  dsimp only at x0 x1 x2 x3 x4 x5 x6
  go_wp2_with fail
  refine (E1.out _).mono ?_
  rintro e w2 ⟨rfl, hb2⟩
  have B2 : Hid (Bx w.heap.size ⟨op, wd, r, b, i, c, n⟩ w2) := B1.out.kept hb2
  have Y2 : Hid (Bx (w.heap.size + 1) ⟨op2, wd2, r2, b2, i2, c2, n2⟩ w2) := Y1.out.kept hb2
  have W2 := hide (bel_tr W1.out hb2)
  clear hb2 B1 W1 Y1 x0 x1 x2 x3 x4 x5 x6
  obtain ⟨x0, x1, x2, x3, x4, x5, x6⟩ := Y2.out.cells
  dsimp only at x0 x1 x2 x3 x4 x5 x6
  go_wp2_with fail
  refine (E2.out _).mono ?_
  rintro e w3 ⟨rfl, hb3⟩
  have B3 : Hid (Bx w.heap.size ⟨op, wd, r, b, i, c, n⟩ w3) := B2.out.kept hb3
  have Y3 : Hid (Bx (w.heap.size + 1) ⟨op2, wd2, r2, b2, i2, c2, n2⟩ w3) := Y2.out.kept hb3
  have W3 := hide (bel_tr W2.out hb3)
  clear hb3 B2 W2 Y2 x0 x1 x2 x3 x4 x5 x6
  go_upto_region 10 with fail
  rw [← HC.out]
  go_wp2_with fail
  refine (D.out _).mono ?_
  rintro e w4 ⟨rfl, hb4⟩
  have B4 : Hid (Bx w.heap.size ⟨op, wd, r, b, i, c, n⟩ w4) := B3.out.kept hb4
  have Y4 : Hid (Bx (w.heap.size + 1) ⟨op2, wd2, r2, b2, i2, c2, n2⟩ w4) := Y3.out.kept hb4
  have W4 := hide (bel_tr W3.out hb4)
  clear hb4 B3 W3 Y3
  obtain ⟨V, hV⟩ : ∃ V, V = w4.alloc (.cells #[.int .i64 0, .bool false, .int .i64 0, .int .i64 0, .int .i64 0, .int .i64 0, .int .i64 0] 23) := ⟨_, rfl⟩
  have B5 : Hid (Bx w.heap.size ⟨op, wd, r, b, i, c, n⟩ V) := by show Bx _ _ _; rw [hV]; exact B4.out.alloc _
  have Y5 : Hid (Bx (w.heap.size + 1) ⟨op2, wd2, r2, b2, i2, c2, n2⟩ V) := by show Bx _ _ _; rw [hV]; exact Y4.out.alloc _
  have W5 : Hid (Below w.heap.size w V) := by show Below _ _ _; rw [hV]; exact bel_al W4.out _
  go_wp2_with fail
  rw [← hV]
  clear hV B4 Y4 W4
  obtain ⟨x0, x1, x2, x3, x4, x5, x6⟩ := B5.out.cells
  obtain ⟨v0, v1, v2, v3, v4, v5, v6⟩ := Y5.out.cells
  dsimp only at x0 x1 x2 x3 x4 x5 x6 v0 v1 v2 v3 v4 v5 v6
  go_quiet (fail)
  go_wp2_with fail
  go_ret
  exact ⟨by simp [QE], below_drewN W5.out _⟩
theorem apart_walk (x y : Xi) (cut : Int) (w : World) (hx : x.ok) (hy : y.ok) (hc : I64 cut) : ApIs x y cut w := by
  obtain ⟨op, wd, r, b, i, c, n⟩ := x
  obtain ⟨op2, wd2, r2, b2, i2, c2, n2⟩ := y
  have hi : I64 i := hx.2.2.2.1
  have hn : I64 n := hx.2.2.2.2.2
  have hi2 : I64 i2 := hy.2.2.2.1
  have hn2 : I64 n2 := hy.2.2.2.2.2
  cases hq : rt ⟨op, wd, r, b, i, c, n⟩
  · exact apart_x _ _ _ _ _ _ _ _ _ _ _ _ _ _ _ _ hi hn hi2 hn2 hq
  cases hp : rt ⟨op2, wd2, r2, b2, i2, c2, n2⟩
  · exact apart_y _ _ _ _ _ _ _ _ _ _ _ _ _ _ _ _ hi hn hi2 hn2 hq hp
  by_cases h0 : cut < 0
  · exact apart_n _ _ _ _ _ _ _ _ _ _ _ _ _ _ _ _ hi hn hi2 hn2 hq hp h0 hc.1
  · exact apart_p _ _ _ _ _ _ _ _ _ _ _ _ _ _ _ _ hi hn hi2 hn2 hq hp (by omega)
end Go.Proofs.Ytddepkiefkngdaa
