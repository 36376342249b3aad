/-
  What an instruction does not have must be nought: the walk of the statement XcodeFields.
-/
import Derived.Test.YtddepkiefkngdaaEx
namespace Go.Proofs.Ytddepkiefkngdaa
open Go.RowKit
set_option linter.unusedSimpArgs false
set_option linter.unusedVariables false

theorem bx_two {g : Nat} {x : Xi} {w w' : World} (h : Bx g x w) (k : Below w.heap.size w w') : Hid (Bx g x w') := h.kept k
theorem no_r {op : Int} {wd : Bool} {b i c n : Int} : rt ⟨op, wd, 16, b, i, c, n⟩ = false := by
  cases h : rt ⟨op, wd, 16, b, i, c, n⟩
  · rfl
  · have key : ∀ x : Xi, rt x = true → x.r ≠ 16 := fun x hx => by
      refine rt_elim (P := fun x => x.r ≠ 16) hx ?_ ?_ ?_ ?_ ?_ ?_ ?_ ?_ ?_ ?_ ?_ ?_ ?_ ?_ ?_ ?_ ?_ ?_ ?_ ?_ ?_ ?_ ?_ <;> intros <;> simp only [] <;> omega
    exact absurd rfl (key _ h)
theorem no_b {op : Int} {wd : Bool} {r i c n : Int} : rt ⟨op, wd, r, -1, i, c, n⟩ = false := by
  cases h : rt ⟨op, wd, r, -1, i, c, n⟩
  · rfl
  · have key : ∀ x : Xi, rt x = true → x.b ≠ -1 := fun x hx => by
      refine rt_elim (P := fun x => x.b ≠ -1) hx ?_ ?_ ?_ ?_ ?_ ?_ ?_ ?_ ?_ ?_ ?_ ?_ ?_ ?_ ?_ ?_ ?_ ?_ ?_ ?_ ?_ ?_ ?_ <;> intros <;> simp only [] <;> omega
    exact absurd rfl (key _ h)
theorem no_i {op : Int} {wd : Bool} {r b c n : Int} : rt ⟨op, wd, r, b, 5, c, n⟩ = false := by
  cases h : rt ⟨op, wd, r, b, 5, c, n⟩
  · rfl
  · have key : ∀ x : Xi, rt x = true → x.i ≠ 5 := fun x hx => by
      refine rt_elim (P := fun x => x.i ≠ 5) hx ?_ ?_ ?_ ?_ ?_ ?_ ?_ ?_ ?_ ?_ ?_ ?_ ?_ ?_ ?_ ?_ ?_ ?_ ?_ ?_ ?_ ?_ ?_ <;> intros <;> simp only [] <;> omega
    exact absurd rfl (key _ h)
theorem no_op {wd : Bool} {r b i c n : Int} : rt ⟨24, wd, r, b, i, c, n⟩ = false := rt_hi (by decide)
theorem five_I64 : I64 5 := by unfold I64; omega
def FiIs (x : Xi) (how : Int) (w : World) : Prop := Calls Try.prog 8 #[xv x, .int .i64 how] w fun e w' => e = .returned (.bool true) ∧ Below w.heap.size w w'
set_option maxHeartbeats 4000000 in
theorem fields_no (op : Int) (wd : Bool) (r b i c n how : Int) (w : World) (hi : I64 i) (hq : rt ⟨op, wd, r, b, i, c, n⟩ = false) : FiIs ⟨op, wd, r, b, i, c, n⟩ how w := by
  unfold FiIs
  simp only [xv]
  have RI := hide (fun U => right_is op wd r b i c n U hi hq)
  obtain ⟨W, hW⟩ : ∃ W, W = w.alloc (.cells #[.int .i64 op, .bool wd, .int .i64 r, .int .i64 b, .int .i64 i, .int .i64 c, .int .i64 n] 23) := ⟨_, rfl⟩
  have B0 : Hid (Bx w.heap.size ⟨op, wd, r, b, i, c, n⟩ W) := by show Bx _ _ _; rw [hW]; exact Bx.made w ⟨op, wd, r, b, i, c, n⟩
  have W0 : Hid (Below w.heap.size w W) := by show Below _ _ _; rw [hW]; exact bel_one _ _
  clear hi hq
  go_enter Try.func8, Try.ntmps8
  go_wp2_with fail
  rw [← hW]
  refine (examples_any _).mono ?_
  clear hW
  rintro e w1 ⟨rfl, hb1⟩
  have B1 := bx_two B0.out hb1
  obtain ⟨x0, x1, x2, x3, x4, x5, x6⟩ := B1.out.cells
  dsimp only at x0 x1 x2 x3 x4 x5 x6
  go_wp2_with fail
  refine (RI.out _).mono ?_
  rintro e w2 ⟨rfl, hb2⟩
  go_wp2_with fail
  go_ret
  exact ⟨rfl, bel_tr (bel_tr W0.out hb1) hb2⟩
set_option maxHeartbeats 4000000 in
theorem fields_p0 (op : Int) (wd : Bool) (r b i c n how : Int) (w : World) (hi : I64 i) (h0 : 0 ≤ how) (hk : how % 4 = 0) (hq : rt ⟨op, wd, r, b, i, c, n⟩ = true) : FiIs ⟨op, wd, r, b, i, c, n⟩ how w := by
  unfold FiIs
  simp only [xv]
  have RI := hide (fun U => right_is op wd r b i c n U hi hq)
  have RJ := hide (fun U => right_is op wd 16 b i c n U hi no_r)
  obtain ⟨W, hW⟩ : ∃ W, W = w.alloc (.cells #[.int .i64 op, .bool wd, .int .i64 r, .int .i64 b, .int .i64 i, .int .i64 c, .int .i64 n] 23) := ⟨_, rfl⟩
  have B0 : Hid (Bx w.heap.size ⟨op, wd, r, b, i, c, n⟩ W) := by show Bx _ _ _; rw [hW]; exact Bx.made w ⟨op, wd, r, b, i, c, n⟩
  have W0 : Hid (Below w.heap.size w W) := by show Below _ _ _; rw [hW]; exact bel_one _ _
  clear hi hq
  have d0 : decide (how < 0) = false := decide_eq_false (by omega)
  have k0 : (how % 4 == 0) = true := by rw [hk]; rfl
  clear hk
  go_enter Try.func8, Try.ntmps8
  go_wp2_with fail
  rw [← hW]
  refine (examples_any _).mono ?_
  clear hW
  rintro e w1 ⟨rfl, hb1⟩
  have B1 := bx_two B0.out hb1
  obtain ⟨x0, x1, x2, x3, x4, x5, x6⟩ := B1.out.cells
  dsimp only at x0 x1 x2 x3 x4 x5 x6
  go_wp2_with fail
  refine (RI.out _).mono ?_
  rintro e w2 ⟨rfl, hb2⟩
  have B2 := bx_two B1.out hb2
  have W2 := hide (bel_tr (bel_tr W0.out hb1) hb2)
  clear x0 x1 x2 x3 x4 x5 x6 hb1 hb2 W0 B0 B1
  obtain ⟨x0, x1, x2, x3, x4, x5, x6⟩ := B2.out.cells
  dsimp only at x0 x1 x2 x3 x4 x5 x6
  go_wp2_with fail
  refine (RJ.out _).mono ?_
  rintro e w3 ⟨rfl, hb3⟩
  go_wp2_with fail
  go_ret
  exact ⟨rfl, bel_tr (bel_al W2.out _) hb3⟩
set_option maxHeartbeats 4000000 in
theorem fields_p1 (op : Int) (wd : Bool) (r b i c n how : Int) (w : World) (hi : I64 i) (h0 : 0 ≤ how) (hk : how % 4 = 1) (hq : rt ⟨op, wd, r, b, i, c, n⟩ = true) : FiIs ⟨op, wd, r, b, i, c, n⟩ how w := by
  unfold FiIs
  simp only [xv]
  have RI := hide (fun U => right_is op wd r b i c n U hi hq)
  have RJ := hide (fun U => right_is op wd r (-1) i c n U hi no_b)
  obtain ⟨W, hW⟩ : ∃ W, W = w.alloc (.cells #[.int .i64 op, .bool wd, .int .i64 r, .int .i64 b, .int .i64 i, .int .i64 c, .int .i64 n] 23) := ⟨_, rfl⟩
  have B0 : Hid (Bx w.heap.size ⟨op, wd, r, b, i, c, n⟩ W) := by show Bx _ _ _; rw [hW]; exact Bx.made w ⟨op, wd, r, b, i, c, n⟩
  have W0 : Hid (Below w.heap.size w W) := by show Below _ _ _; rw [hW]; exact bel_one _ _
  clear hi hq
  have d0 : decide (how < 0) = false := decide_eq_false (by omega)
  have k0 : (how % 4 == 0) = false := by rw [hk]; rfl
  have k1 : (how % 4 == 1) = true := by rw [hk]; rfl
  clear hk
  go_enter Try.func8, Try.ntmps8
  go_wp2_with fail
  rw [← hW]
  refine (examples_any _).mono ?_
  clear hW
  rintro e w1 ⟨rfl, hb1⟩
  have B1 := bx_two B0.out hb1
  obtain ⟨x0, x1, x2, x3, x4, x5, x6⟩ := B1.out.cells
  dsimp only at x0 x1 x2 x3 x4 x5 x6
  go_wp2_with fail
  refine (RI.out _).mono ?_
  rintro e w2 ⟨rfl, hb2⟩
  have B2 := bx_two B1.out hb2
  have W2 := hide (bel_tr (bel_tr W0.out hb1) hb2)
  clear x0 x1 x2 x3 x4 x5 x6 hb1 hb2 W0 B0 B1
  obtain ⟨x0, x1, x2, x3, x4, x5, x6⟩ := B2.out.cells
  dsimp only at x0 x1 x2 x3 x4 x5 x6
  go_wp2_with fail
  refine (RJ.out _).mono ?_
  rintro e w3 ⟨rfl, hb3⟩
  go_wp2_with fail
  go_ret
  exact ⟨rfl, bel_tr (bel_al W2.out _) hb3⟩
set_option maxHeartbeats 4000000 in
theorem fields_p2 (op : Int) (wd : Bool) (r b i c n how : Int) (w : World) (hi : I64 i) (h0 : 0 ≤ how) (hk : how % 4 = 2) (hq : rt ⟨op, wd, r, b, i, c, n⟩ = true) : FiIs ⟨op, wd, r, b, i, c, n⟩ how w := by
  unfold FiIs
  simp only [xv]
  have RI := hide (fun U => right_is op wd r b i c n U hi hq)
  have RJ := hide (fun U => right_is op wd r b 5 c n U five_I64 no_i)
  obtain ⟨W, hW⟩ : ∃ W, W = w.alloc (.cells #[.int .i64 op, .bool wd, .int .i64 r, .int .i64 b, .int .i64 i, .int .i64 c, .int .i64 n] 23) := ⟨_, rfl⟩
  have B0 : Hid (Bx w.heap.size ⟨op, wd, r, b, i, c, n⟩ W) := by show Bx _ _ _; rw [hW]; exact Bx.made w ⟨op, wd, r, b, i, c, n⟩
  have W0 : Hid (Below w.heap.size w W) := by show Below _ _ _; rw [hW]; exact bel_one _ _
  clear hi hq
  have d0 : decide (how < 0) = false := decide_eq_false (by omega)
  have k0 : (how % 4 == 0) = false := by rw [hk]; rfl
  have k1 : (how % 4 == 1) = false := by rw [hk]; rfl
  have k2 : (how % 4 == 2) = true := by rw [hk]; rfl
  clear hk
  go_enter Try.func8, Try.ntmps8
  go_wp2_with fail
  rw [← hW]
  refine (examples_any _).mono ?_
  clear hW
  rintro e w1 ⟨rfl, hb1⟩
  have B1 := bx_two B0.out hb1
  obtain ⟨x0, x1, x2, x3, x4, x5, x6⟩ := B1.out.cells
  dsimp only at x0 x1 x2 x3 x4 x5 x6
  go_wp2_with fail
  refine (RI.out _).mono ?_
  rintro e w2 ⟨rfl, hb2⟩
  have B2 := bx_two B1.out hb2
  have W2 := hide (bel_tr (bel_tr W0.out hb1) hb2)
  clear x0 x1 x2 x3 x4 x5 x6 hb1 hb2 W0 B0 B1
  obtain ⟨x0, x1, x2, x3, x4, x5, x6⟩ := B2.out.cells
  dsimp only at x0 x1 x2 x3 x4 x5 x6
  go_wp2_with fail
  refine (RJ.out _).mono ?_
  rintro e w3 ⟨rfl, hb3⟩
  go_wp2_with fail
  go_ret
  exact ⟨rfl, bel_tr (bel_al W2.out _) hb3⟩
set_option maxHeartbeats 4000000 in
theorem fields_p3 (op : Int) (wd : Bool) (r b i c n how : Int) (w : World) (hi : I64 i) (h0 : 0 ≤ how) (hk : how % 4 = 3) (hq : rt ⟨op, wd, r, b, i, c, n⟩ = true) : FiIs ⟨op, wd, r, b, i, c, n⟩ how w := by
  unfold FiIs
  simp only [xv]
  have RI := hide (fun U => right_is op wd r b i c n U hi hq)
  have RJ := hide (fun U => right_is 24 wd r b i c n U hi no_op)
  obtain ⟨W, hW⟩ : ∃ W, W = w.alloc (.cells #[.int .i64 op, .bool wd, .int .i64 r, .int .i64 b, .int .i64 i, .int .i64 c, .int .i64 n] 23) := ⟨_, rfl⟩
  have B0 : Hid (Bx w.heap.size ⟨op, wd, r, b, i, c, n⟩ W) := by show Bx _ _ _; rw [hW]; exact Bx.made w ⟨op, wd, r, b, i, c, n⟩
  have W0 : Hid (Below w.heap.size w W) := by show Below _ _ _; rw [hW]; exact bel_one _ _
  clear hi hq
  have d0 : decide (how < 0) = false := decide_eq_false (by omega)
  have k0 : (how % 4 == 0) = false := by rw [hk]; rfl
  have k1 : (how % 4 == 1) = false := by rw [hk]; rfl
  have k2 : (how % 4 == 2) = false := by rw [hk]; rfl
  clear hk
  go_enter Try.func8, Try.ntmps8
  go_wp2_with fail
  rw [← hW]
  refine (examples_any _).mono ?_
  clear hW
  rintro e w1 ⟨rfl, hb1⟩
  have B1 := bx_two B0.out hb1
  obtain ⟨x0, x1, x2, x3, x4, x5, x6⟩ := B1.out.cells
  dsimp only at x0 x1 x2 x3 x4 x5 x6
  go_wp2_with fail
  refine (RI.out _).mono ?_
  rintro e w2 ⟨rfl, hb2⟩
  have B2 := bx_two B1.out hb2
  have W2 := hide (bel_tr (bel_tr W0.out hb1) hb2)
  clear x0 x1 x2 x3 x4 x5 x6 hb1 hb2 W0 B0 B1
  obtain ⟨x0, x1, x2, x3, x4, x5, x6⟩ := B2.out.cells
  dsimp only at x0 x1 x2 x3 x4 x5 x6
  go_wp2_with fail
  refine (RJ.out _).mono ?_
  rintro e w3 ⟨rfl, hb3⟩
  go_wp2_with fail
  go_ret
  exact ⟨rfl, bel_tr (bel_al W2.out _) hb3⟩
set_option maxHeartbeats 4000000 in
theorem fields_n0 (op : Int) (wd : Bool) (r b i c n how : Int) (w : World) (hi : I64 i) (h0 : how < 0) (hh : -9223372036854775808 ≤ how) (hk : (-(how + 1)) % 4 = 0) (hq : rt ⟨op, wd, r, b, i, c, n⟩ = true) : FiIs ⟨op, wd, r, b, i, c, n⟩ how w := by
  unfold FiIs
  simp only [xv]
  have RI := hide (fun U => right_is op wd r b i c n U hi hq)
  have RJ := hide (fun U => right_is op wd 16 b i c n U hi no_r)
  obtain ⟨W, hW⟩ : ∃ W, W = w.alloc (.cells #[.int .i64 op, .bool wd, .int .i64 r, .int .i64 b, .int .i64 i, .int .i64 c, .int .i64 n] 23) := ⟨_, rfl⟩
  have B0 : Hid (Bx w.heap.size ⟨op, wd, r, b, i, c, n⟩ W) := by show Bx _ _ _; rw [hW]; exact Bx.made w ⟨op, wd, r, b, i, c, n⟩
  have W0 : Hid (Below w.heap.size w W) := by show Below _ _ _; rw [hW]; exact bel_one _ _
  clear hi hq
  have d0 : decide (how < 0) = true := decide_eq_true h0
  obtain ⟨hw2, hhw⟩ : ∃ z, z = -(how + 1) := ⟨_, rfl⟩
  have hz0 : 0 ≤ hw2 := by omega
  have hz1 : hw2 ≤ 9223372036854775807 := by omega
  rw [← hhw] at hk
  have HW2 := hide hhw
  have k0 : (hw2 % 4 == 0) = true := by rw [hk]; rfl
  clear hk hhw
  go_enter Try.func8, Try.ntmps8
  go_wp2_with fail
  rw [← hW]
  refine (examples_any _).mono ?_
  clear hW
  rintro e w1 ⟨rfl, hb1⟩
  have B1 := bx_two B0.out hb1
  obtain ⟨x0, x1, x2, x3, x4, x5, x6⟩ := B1.out.cells
  dsimp only at x0 x1 x2 x3 x4 x5 x6
  go_wp2_with fail
  refine (RI.out _).mono ?_
  rintro e w2 ⟨rfl, hb2⟩
  have B2 := bx_two B1.out hb2
  have W2 := hide (bel_tr (bel_tr W0.out hb1) hb2)
  clear x0 x1 x2 x3 x4 x5 x6 hb1 hb2 W0 B0 B1
  obtain ⟨x0, x1, x2, x3, x4, x5, x6⟩ := B2.out.cells
  dsimp only at x0 x1 x2 x3 x4 x5 x6
  go_upto_region 6 with fail
  rw [← HW2.out]
  go_wp2_with fail
  refine (RJ.out _).mono ?_
  rintro e w3 ⟨rfl, hb3⟩
  go_wp2_with fail
  go_ret
  exact ⟨rfl, bel_tr (bel_al W2.out _) hb3⟩
set_option maxHeartbeats 4000000 in
theorem fields_n1 (op : Int) (wd : Bool) (r b i c n how : Int) (w : World) (hi : I64 i) (h0 : how < 0) (hh : -9223372036854775808 ≤ how) (hk : (-(how + 1)) % 4 = 1) (hq : rt ⟨op, wd, r, b, i, c, n⟩ = true) : FiIs ⟨op, wd, r, b, i, c, n⟩ how w := by
  unfold FiIs
  simp only [xv]
  have RI := hide (fun U => right_is op wd r b i c n U hi hq)
  have RJ := hide (fun U => right_is op wd r (-1) i c n U hi no_b)
  obtain ⟨W, hW⟩ : ∃ W, W = w.alloc (.cells #[.int .i64 op, .bool wd, .int .i64 r, .int .i64 b, .int .i64 i, .int .i64 c, .int .i64 n] 23) := ⟨_, rfl⟩
  have B0 : Hid (Bx w.heap.size ⟨op, wd, r, b, i, c, n⟩ W) := by show Bx _ _ _; rw [hW]; exact Bx.made w ⟨op, wd, r, b, i, c, n⟩
  have W0 : Hid (Below w.heap.size w W) := by show Below _ _ _; rw [hW]; exact bel_one _ _
  clear hi hq
  have d0 : decide (how < 0) = true := decide_eq_true h0
  obtain ⟨hw2, hhw⟩ : ∃ z, z = -(how + 1) := ⟨_, rfl⟩
  have hz0 : 0 ≤ hw2 := by omega
  have hz1 : hw2 ≤ 9223372036854775807 := by omega
  rw [← hhw] at hk
  have HW2 := hide hhw
  have k0 : (hw2 % 4 == 0) = false := by rw [hk]; rfl
  have k1 : (hw2 % 4 == 1) = true := by rw [hk]; rfl
  clear hk hhw
  go_enter Try.func8, Try.ntmps8
  go_wp2_with fail
  rw [← hW]
  refine (examples_any _).mono ?_
  clear hW
  rintro e w1 ⟨rfl, hb1⟩
  have B1 := bx_two B0.out hb1
  obtain ⟨x0, x1, x2, x3, x4, x5, x6⟩ := B1.out.cells
  dsimp only at x0 x1 x2 x3 x4 x5 x6
  go_wp2_with fail
  refine (RI.out _).mono ?_
  rintro e w2 ⟨rfl, hb2⟩
  have B2 := bx_two B1.out hb2
  have W2 := hide (bel_tr (bel_tr W0.out hb1) hb2)
  clear x0 x1 x2 x3 x4 x5 x6 hb1 hb2 W0 B0 B1
  obtain ⟨x0, x1, x2, x3, x4, x5, x6⟩ := B2.out.cells
  dsimp only at x0 x1 x2 x3 x4 x5 x6
  go_upto_region 6 with fail
  rw [← HW2.out]
  go_wp2_with fail
  refine (RJ.out _).mono ?_
  rintro e w3 ⟨rfl, hb3⟩
  go_wp2_with fail
  go_ret
  exact ⟨rfl, bel_tr (bel_al W2.out _) hb3⟩
set_option maxHeartbeats 4000000 in
theorem fields_n2 (op : Int) (wd : Bool) (r b i c n how : Int) (w : World) (hi : I64 i) (h0 : how < 0) (hh : -9223372036854775808 ≤ how) (hk : (-(how + 1)) % 4 = 2) (hq : rt ⟨op, wd, r, b, i, c, n⟩ = true) : FiIs ⟨op, wd, r, b, i, c, n⟩ how w := by
  unfold FiIs
  simp only [xv]
  have RI := hide (fun U => right_is op wd r b i c n U hi hq)
  have RJ := hide (fun U => right_is op wd r b 5 c n U five_I64 no_i)
  obtain ⟨W, hW⟩ : ∃ W, W = w.alloc (.cells #[.int .i64 op, .bool wd, .int .i64 r, .int .i64 b, .int .i64 i, .int .i64 c, .int .i64 n] 23) := ⟨_, rfl⟩
  have B0 : Hid (Bx w.heap.size ⟨op, wd, r, b, i, c, n⟩ W) := by show Bx _ _ _; rw [hW]; exact Bx.made w ⟨op, wd, r, b, i, c, n⟩
  have W0 : Hid (Below w.heap.size w W) := by show Below _ _ _; rw [hW]; exact bel_one _ _
  clear hi hq
  have d0 : decide (how < 0) = true := decide_eq_true h0
  obtain ⟨hw2, hhw⟩ : ∃ z, z = -(how + 1) := ⟨_, rfl⟩
  have hz0 : 0 ≤ hw2 := by omega
  have hz1 : hw2 ≤ 9223372036854775807 := by omega
  rw [← hhw] at hk
  have HW2 := hide hhw
  have k0 : (hw2 % 4 == 0) = false := by rw [hk]; rfl
  have k1 : (hw2 % 4 == 1) = false := by rw [hk]; rfl
  have k2 : (hw2 % 4 == 2) = true := by rw [hk]; rfl
  clear hk hhw
  go_enter Try.func8, Try.ntmps8
  go_wp2_with fail
  rw [← hW]
  refine (examples_any _).mono ?_
  clear hW
  rintro e w1 ⟨rfl, hb1⟩
  have B1 := bx_two B0.out hb1
  obtain ⟨x0, x1, x2, x3, x4, x5, x6⟩ := B1.out.cells
  dsimp only at x0 x1 x2 x3 x4 x5 x6
  go_wp2_with fail
  refine (RI.out _).mono ?_
  rintro e w2 ⟨rfl, hb2⟩
  have B2 := bx_two B1.out hb2
  have W2 := hide (bel_tr (bel_tr W0.out hb1) hb2)
  clear x0 x1 x2 x3 x4 x5 x6 hb1 hb2 W0 B0 B1
  obtain ⟨x0, x1, x2, x3, x4, x5, x6⟩ := B2.out.cells
  dsimp only at x0 x1 x2 x3 x4 x5 x6
  go_upto_region 6 with fail
  rw [← HW2.out]
  go_wp2_with fail
  refine (RJ.out _).mono ?_
  rintro e w3 ⟨rfl, hb3⟩
  go_wp2_with fail
  go_ret
  exact ⟨rfl, bel_tr (bel_al W2.out _) hb3⟩
set_option maxHeartbeats 4000000 in
theorem fields_n3 (op : Int) (wd : Bool) (r b i c n how : Int) (w : World) (hi : I64 i) (h0 : how < 0) (hh : -9223372036854775808 ≤ how) (hk : (-(how + 1)) % 4 = 3) (hq : rt ⟨op, wd, r, b, i, c, n⟩ = true) : FiIs ⟨op, wd, r, b, i, c, n⟩ how w := by
  unfold FiIs
  simp only [xv]
  have RI := hide (fun U => right_is op wd r b i c n U hi hq)
  have RJ := hide (fun U => right_is 24 wd r b i c n U hi no_op)
  obtain ⟨W, hW⟩ : ∃ W, W = w.alloc (.cells #[.int .i64 op, .bool wd, .int .i64 r, .int .i64 b, .int .i64 i, .int .i64 c, .int .i64 n] 23) := ⟨_, rfl⟩
  have B0 : Hid (Bx w.heap.size ⟨op, wd, r, b, i, c, n⟩ W) := by show Bx _ _ _; rw [hW]; exact Bx.made w ⟨op, wd, r, b, i, c, n⟩
  have W0 : Hid (Below w.heap.size w W) := by show Below _ _ _; rw [hW]; exact bel_one _ _
  clear hi hq
  have d0 : decide (how < 0) = true := decide_eq_true h0
  obtain ⟨hw2, hhw⟩ : ∃ z, z = -(how + 1) := ⟨_, rfl⟩
  have hz0 : 0 ≤ hw2 := by omega
  have hz1 : hw2 ≤ 9223372036854775807 := by omega
  rw [← hhw] at hk
  have HW2 := hide hhw
  have k0 : (hw2 % 4 == 0) = false := by rw [hk]; rfl
  have k1 : (hw2 % 4 == 1) = false := by rw [hk]; rfl
  have k2 : (hw2 % 4 == 2) = false := by rw [hk]; rfl
  clear hk hhw
  go_enter Try.func8, Try.ntmps8
  go_wp2_with fail
  rw [← hW]
  refine (examples_any _).mono ?_
  clear hW
  rintro e w1 ⟨rfl, hb1⟩
  have B1 := bx_two B0.out hb1
  obtain ⟨x0, x1, x2, x3, x4, x5, x6⟩ := B1.out.cells
  dsimp only at x0 x1 x2 x3 x4 x5 x6
  go_wp2_with fail
  refine (RI.out _).mono ?_
  rintro e w2 ⟨rfl, hb2⟩
  have B2 := bx_two B1.out hb2
  have W2 := hide (bel_tr (bel_tr W0.out hb1) hb2)
  clear x0 x1 x2 x3 x4 x5 x6 hb1 hb2 W0 B0 B1
  obtain ⟨x0, x1, x2, x3, x4, x5, x6⟩ := B2.out.cells
  dsimp only at x0 x1 x2 x3 x4 x5 x6
  go_upto_region 6 with fail
  rw [← HW2.out]
  go_wp2_with fail
  refine (RJ.out _).mono ?_
  rintro e w3 ⟨rfl, hb3⟩
  go_wp2_with fail
  go_ret
  exact ⟨rfl, bel_tr (bel_al W2.out _) hb3⟩
theorem fields_walk (x : Xi) (how : Int) (w : World) (hx : x.ok) (hh : I64 how) : FiIs x how w := by
  obtain ⟨op, wd, r, b, i, c, n⟩ := x
  have hi : I64 i := hx.2.2.2.1
  cases hq : rt ⟨op, wd, r, b, i, c, n⟩
  · exact fields_no op wd r b i c n how w hi hq
  by_cases h0 : how < 0
  · have : (-(how + 1)) % 4 = 0 ∨ (-(how + 1)) % 4 = 1 ∨ (-(how + 1)) % 4 = 2 ∨ (-(how + 1)) % 4 = 3 := by omega
    rcases this with h | h | h | h
    · exact fields_n0 op wd r b i c n how w hi h0 hh.1 h hq
    · exact fields_n1 op wd r b i c n how w hi h0 hh.1 h hq
    · exact fields_n2 op wd r b i c n how w hi h0 hh.1 h hq
    · exact fields_n3 op wd r b i c n how w hi h0 hh.1 h hq
  · have : how % 4 = 0 ∨ how % 4 = 1 ∨ how % 4 = 2 ∨ how % 4 = 3 := by omega
    rcases this with h | h | h | h
    · exact fields_p0 op wd r b i c n how w hi (by omega) h hq
    · exact fields_p1 op wd r b i c n how w hi (by omega) h hq
    · exact fields_p2 op wd r b i c n how w hi (by omega) h hq
    · exact fields_p3 op wd r b i c n how w hi (by omega) h hq
end Go.Proofs.Ytddepkiefkngdaa
