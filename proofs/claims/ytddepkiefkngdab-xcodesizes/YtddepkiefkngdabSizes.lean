/-
  How long an instruction is, and what its bytes begin with: the walk of the statement XcodeSizes.
-/
import Derived.Test.YtddepkiefkngdabEx
import Derived.Test.YtddepkiefkngdabSizesP
namespace Go.Proofs.Ytddepkiefkngdab
open Go.RowKit
set_option linter.unusedSimpArgs false
set_option linter.unusedVariables false

theorem str_0 (l : List UInt8) (h : 0 < (str l).size) : (((str l)[0]'h).toNat : Int) = ga l 0 := by
  rw [str_size] at h
  cases l with
  | nil => simp at h
  | cons a l => rfl
def SzIs (x : Xi) (w : World) : Prop := Calls Try.prog 3 #[xv x] w fun e w' => e = .returned (.bool true) ∧ Below w.heap.size w w'
set_option maxHeartbeats 4000000 in
theorem sizes_no (op : Int) (wd : Bool) (r b i c n : Int) (w : World) (hi : I64 i) (hn : I64 n) (hq : rt ⟨op, wd, r, b, i, c, n⟩ = false)  : SzIs ⟨op, wd, r, b, i, c, n⟩ w := by
  unfold SzIs
  simp only [xv]
  have s1 : enS ⟨op, wd, r, b, i, c, n⟩ = [] := by simp [enS, hq]
  have s2 : enE ⟨op, wd, r, b, i, c, n⟩ = 4 := by simp [enE, hq]
  have E1 := hide (fun U => enc_is op wd r b i c n U hi hn s1 s2)
  have q0 : (str []).toList.isEmpty = true := by decide +kernel
  clear s1 s2
  generalize str [] = own at *
  obtain ⟨W, hW⟩ : ∃ W, W = w.alloc (.cells #[.int .i64 op, .bool wd, .int .i64 r, .int .i64 b, .int .i64 i, .int .i64 c, .int .i64 n] 23) := ⟨_, rfl⟩
  have B0 : Hid (Bx w.heap.size ⟨op, wd, r, b, i, c, n⟩ W) := by show Bx _ _ _; rw [hW]; exact Bx.made w ⟨op, wd, r, b, i, c, n⟩
  have W0 : Hid (Below w.heap.size w W) := by show Below _ _ _; rw [hW]; exact bel_one _ _
  clear hi hn hq
  go_enter Try.func3, Try.ntmps3
  go_wp2_with fail
  rw [← hW]
  refine (examples_any _).mono ?_
  clear hW
  rintro e w1 ⟨rfl, hb1⟩
  have B1 : Hid (Bx w.heap.size ⟨op, wd, r, b, i, c, n⟩ w1) := B0.out.kept hb1
  have W1 := hide (bel_tr W0.out hb1)
  clear hb1 B0 W0
  obtain ⟨x0, x1, x2, x3, x4, x5, x6⟩ := B1.out.cells
  dsimp only at x0 x1 x2 x3 x4 x5 x6
  go_wp2_with fail
  refine (E1.out _).mono ?_
  rintro e w2 ⟨rfl, hb2⟩
  have B2 : Hid (Bx w.heap.size ⟨op, wd, r, b, i, c, n⟩ w2) := B1.out.kept hb2
  have W2 := hide (bel_tr W1.out hb2)
  clear hb2 B1 W1 x0 x1 x2 x3 x4 x5 x6
  obtain ⟨x0, x1, x2, x3, x4, x5, x6⟩ := B2.out.cells
  dsimp only at x0 x1 x2 x3 x4 x5 x6
  go_wp2_with fail
  go_ret
  exact ⟨rfl, W2.out⟩
set_option maxHeartbeats 4000000 in
theorem sizes_r (op : Int) (wd : Bool) (r b i c n : Int) (w : World) (hi : I64 i) (hn : I64 n) (hq : rt ⟨op, wd, r, b, i, c, n⟩ = true) (ho1 : op ≠ 17) (ho2 : op ≠ 19) (ho3 : op ≠ 18) (h1 : 7 < r) : SzIs ⟨op, wd, r, b, i, c, n⟩ w := by
  unfold SzIs
  simp only [xv]
  have s1 : enS ⟨op, wd, r, b, i, c, n⟩ = enc ⟨op, wd, r, b, i, c, n⟩ := by simp [enS, hq]
  have s2 : enE ⟨op, wd, r, b, i, c, n⟩ = 0 := by simp [enE, hq]
  have E1 := hide (fun U => enc_is op wd r b i c n U hi hn s1 s2)
  have z1 : (1 : Int) ≤ ((str (enc ⟨op, wd, r, b, i, c, n⟩)).size : Int) := by rw [str_size]; have := enc_len ⟨op, wd, r, b, i, c, n⟩; omega
  have z2 : ((str (enc ⟨op, wd, r, b, i, c, n⟩)).size : Int) ≤ 10 := by rw [str_size]; have := len_10 hq; omega
  have hpos : 0 < (str (enc ⟨op, wd, r, b, i, c, n⟩)).size := by omega
  have HH : hiX ⟨op, wd, r, b, i, c, n⟩ := Or.inl h1
  have v1 : (64 : Int) ≤ (((str (enc ⟨op, wd, r, b, i, c, n⟩))[0]'hpos).toNat : Int) := by rw [str_0]; exact (first_hi hq HH).1
  have v2 : (((str (enc ⟨op, wd, r, b, i, c, n⟩))[0]'hpos).toNat : Int) < 80 := by rw [str_0]; exact (first_hi hq HH).2
  clear HH
  have o1 : (op != 17) = true := by simpa using ho1
  have o2 : (op != 19) = true := by simpa using ho2
  have o3 : (op != 18) = true := by simpa using ho3
  clear ho1 ho2 ho3
  clear s1 s2
  generalize str (enc ⟨op, wd, r, b, i, c, n⟩) = own at *
  obtain ⟨W, hW⟩ : ∃ W, W = w.alloc (.cells #[.int .i64 op, .bool wd, .int .i64 r, .int .i64 b, .int .i64 i, .int .i64 c, .int .i64 n] 23) := ⟨_, rfl⟩
  have B0 : Hid (Bx w.heap.size ⟨op, wd, r, b, i, c, n⟩ W) := by show Bx _ _ _; rw [hW]; exact Bx.made w ⟨op, wd, r, b, i, c, n⟩
  have W0 : Hid (Below w.heap.size w W) := by show Below _ _ _; rw [hW]; exact bel_one _ _
  clear hi hn hq
  go_enter Try.func3, Try.ntmps3
  go_wp2_with fail
  rw [← hW]
  refine (examples_any _).mono ?_
  clear hW
  rintro e w1 ⟨rfl, hb1⟩
  have B1 : Hid (Bx w.heap.size ⟨op, wd, r, b, i, c, n⟩ w1) := B0.out.kept hb1
  have W1 := hide (bel_tr W0.out hb1)
  clear hb1 B0 W0
  obtain ⟨x0, x1, x2, x3, x4, x5, x6⟩ := B1.out.cells
  dsimp only at x0 x1 x2 x3 x4 x5 x6
  go_wp2_with fail
  refine (E1.out _).mono ?_
  rintro e w2 ⟨rfl, hb2⟩
  have B2 : Hid (Bx w.heap.size ⟨op, wd, r, b, i, c, n⟩ w2) := B1.out.kept hb2
  have W2 := hide (bel_tr W1.out hb2)
  clear hb2 B1 W1 x0 x1 x2 x3 x4 x5 x6
  obtain ⟨x0, x1, x2, x3, x4, x5, x6⟩ := B2.out.cells
  dsimp only at x0 x1 x2 x3 x4 x5 x6
  go_wp2_with fail
  go_ret
  exact ⟨rfl, W2.out⟩
set_option maxHeartbeats 4000000 in
theorem sizes_b (op : Int) (wd : Bool) (r b i c n : Int) (w : World) (hi : I64 i) (hn : I64 n) (hq : rt ⟨op, wd, r, b, i, c, n⟩ = true) (ho1 : op ≠ 17) (ho2 : op ≠ 19) (ho3 : op ≠ 18) (h1 : ¬ 7 < r) (h2 : 7 < b) : SzIs ⟨op, wd, r, b, i, c, n⟩ w := by
  unfold SzIs
  simp only [xv]
  have s1 : enS ⟨op, wd, r, b, i, c, n⟩ = enc ⟨op, wd, r, b, i, c, n⟩ := by simp [enS, hq]
  have s2 : enE ⟨op, wd, r, b, i, c, n⟩ = 0 := by simp [enE, hq]
  have E1 := hide (fun U => enc_is op wd r b i c n U hi hn s1 s2)
  have z1 : (1 : Int) ≤ ((str (enc ⟨op, wd, r, b, i, c, n⟩)).size : Int) := by rw [str_size]; have := enc_len ⟨op, wd, r, b, i, c, n⟩; omega
  have z2 : ((str (enc ⟨op, wd, r, b, i, c, n⟩)).size : Int) ≤ 10 := by rw [str_size]; have := len_10 hq; omega
  have hpos : 0 < (str (enc ⟨op, wd, r, b, i, c, n⟩)).size := by omega
  have HH : hiX ⟨op, wd, r, b, i, c, n⟩ := Or.inr (Or.inl h2)
  have v1 : (64 : Int) ≤ (((str (enc ⟨op, wd, r, b, i, c, n⟩))[0]'hpos).toNat : Int) := by rw [str_0]; exact (first_hi hq HH).1
  have v2 : (((str (enc ⟨op, wd, r, b, i, c, n⟩))[0]'hpos).toNat : Int) < 80 := by rw [str_0]; exact (first_hi hq HH).2
  clear HH
  have o1 : (op != 17) = true := by simpa using ho1
  have o2 : (op != 19) = true := by simpa using ho2
  have o3 : (op != 18) = true := by simpa using ho3
  clear ho1 ho2 ho3
  clear s1 s2
  generalize str (enc ⟨op, wd, r, b, i, c, n⟩) = own at *
  have d1 := decide_eq_false h1
  obtain ⟨W, hW⟩ : ∃ W, W = w.alloc (.cells #[.int .i64 op, .bool wd, .int .i64 r, .int .i64 b, .int .i64 i, .int .i64 c, .int .i64 n] 23) := ⟨_, rfl⟩
  have B0 : Hid (Bx w.heap.size ⟨op, wd, r, b, i, c, n⟩ W) := by show Bx _ _ _; rw [hW]; exact Bx.made w ⟨op, wd, r, b, i, c, n⟩
  have W0 : Hid (Below w.heap.size w W) := by show Below _ _ _; rw [hW]; exact bel_one _ _
  clear hi hn hq
  go_enter Try.func3, Try.ntmps3
  go_wp2_with fail
  rw [← hW]
  refine (examples_any _).mono ?_
  clear hW
  rintro e w1 ⟨rfl, hb1⟩
  have B1 : Hid (Bx w.heap.size ⟨op, wd, r, b, i, c, n⟩ w1) := B0.out.kept hb1
  have W1 := hide (bel_tr W0.out hb1)
  clear hb1 B0 W0
  obtain ⟨x0, x1, x2, x3, x4, x5, x6⟩ := B1.out.cells
  dsimp only at x0 x1 x2 x3 x4 x5 x6
  go_wp2_with fail
  refine (E1.out _).mono ?_
  rintro e w2 ⟨rfl, hb2⟩
  have B2 : Hid (Bx w.heap.size ⟨op, wd, r, b, i, c, n⟩ w2) := B1.out.kept hb2
  have W2 := hide (bel_tr W1.out hb2)
  clear hb2 B1 W1 x0 x1 x2 x3 x4 x5 x6
  obtain ⟨x0, x1, x2, x3, x4, x5, x6⟩ := B2.out.cells
  dsimp only at x0 x1 x2 x3 x4 x5 x6
  go_wp2_with fail
  go_ret
  exact ⟨rfl, W2.out⟩
set_option maxHeartbeats 4000000 in
theorem sizes_i (op : Int) (wd : Bool) (r b i c n : Int) (w : World) (hi : I64 i) (hn : I64 n) (hq : rt ⟨op, wd, r, b, i, c, n⟩ = true) (ho1 : op ≠ 17) (ho2 : op ≠ 19) (ho3 : op ≠ 18) (h1 : ¬ 7 < r) (h2 : ¬ 7 < b) (h3 : 8 < i) : SzIs ⟨op, wd, r, b, i, c, n⟩ w := by
  unfold SzIs
  simp only [xv]
  have s1 : enS ⟨op, wd, r, b, i, c, n⟩ = enc ⟨op, wd, r, b, i, c, n⟩ := by simp [enS, hq]
  have s2 : enE ⟨op, wd, r, b, i, c, n⟩ = 0 := by simp [enE, hq]
  have E1 := hide (fun U => enc_is op wd r b i c n U hi hn s1 s2)
  have z1 : (1 : Int) ≤ ((str (enc ⟨op, wd, r, b, i, c, n⟩)).size : Int) := by rw [str_size]; have := enc_len ⟨op, wd, r, b, i, c, n⟩; omega
  have z2 : ((str (enc ⟨op, wd, r, b, i, c, n⟩)).size : Int) ≤ 10 := by rw [str_size]; have := len_10 hq; omega
  have hpos : 0 < (str (enc ⟨op, wd, r, b, i, c, n⟩)).size := by omega
  have HH : hiX ⟨op, wd, r, b, i, c, n⟩ := Or.inr (Or.inr (Or.inl h3))
  have v1 : (64 : Int) ≤ (((str (enc ⟨op, wd, r, b, i, c, n⟩))[0]'hpos).toNat : Int) := by rw [str_0]; exact (first_hi hq HH).1
  have v2 : (((str (enc ⟨op, wd, r, b, i, c, n⟩))[0]'hpos).toNat : Int) < 80 := by rw [str_0]; exact (first_hi hq HH).2
  clear HH
  have o1 : (op != 17) = true := by simpa using ho1
  have o2 : (op != 19) = true := by simpa using ho2
  have o3 : (op != 18) = true := by simpa using ho3
  clear ho1 ho2 ho3
  clear s1 s2
  generalize str (enc ⟨op, wd, r, b, i, c, n⟩) = own at *
  have d1 := decide_eq_false h1
  have d2 := decide_eq_false h2
  obtain ⟨W, hW⟩ : ∃ W, W = w.alloc (.cells #[.int .i64 op, .bool wd, .int .i64 r, .int .i64 b, .int .i64 i, .int .i64 c, .int .i64 n] 23) := ⟨_, rfl⟩
  have B0 : Hid (Bx w.heap.size ⟨op, wd, r, b, i, c, n⟩ W) := by show Bx _ _ _; rw [hW]; exact Bx.made w ⟨op, wd, r, b, i, c, n⟩
  have W0 : Hid (Below w.heap.size w W) := by show Below _ _ _; rw [hW]; exact bel_one _ _
  clear hi hn hq
  go_enter Try.func3, Try.ntmps3
  go_wp2_with fail
  rw [← hW]
  refine (examples_any _).mono ?_
  clear hW
  rintro e w1 ⟨rfl, hb1⟩
  have B1 : Hid (Bx w.heap.size ⟨op, wd, r, b, i, c, n⟩ w1) := B0.out.kept hb1
  have W1 := hide (bel_tr W0.out hb1)
  clear hb1 B0 W0
  obtain ⟨x0, x1, x2, x3, x4, x5, x6⟩ := B1.out.cells
  dsimp only at x0 x1 x2 x3 x4 x5 x6
  go_wp2_with fail
  refine (E1.out _).mono ?_
  rintro e w2 ⟨rfl, hb2⟩
  have B2 : Hid (Bx w.heap.size ⟨op, wd, r, b, i, c, n⟩ w2) := B1.out.kept hb2
  have W2 := hide (bel_tr W1.out hb2)
  clear hb2 B1 W1 x0 x1 x2 x3 x4 x5 x6
  obtain ⟨x0, x1, x2, x3, x4, x5, x6⟩ := B2.out.cells
  dsimp only at x0 x1 x2 x3 x4 x5 x6
  go_wp2_with fail
  go_ret
  exact ⟨rfl, W2.out⟩
set_option maxHeartbeats 4000000 in
theorem sizes_w (op : Int) (wd : Bool) (r b i c n : Int) (w : World) (hi : I64 i) (hn : I64 n) (hq : rt ⟨op, wd, r, b, i, c, n⟩ = true) (ho1 : op ≠ 17) (ho2 : op ≠ 19) (ho3 : op ≠ 18) (h1 : ¬ 7 < r) (h2 : ¬ 7 < b) (h3 : ¬ 8 < i) (h4 : wd = true) : SzIs ⟨op, wd, r, b, i, c, n⟩ w := by
  unfold SzIs
  simp only [xv]
  have s1 : enS ⟨op, wd, r, b, i, c, n⟩ = enc ⟨op, wd, r, b, i, c, n⟩ := by simp [enS, hq]
  have s2 : enE ⟨op, wd, r, b, i, c, n⟩ = 0 := by simp [enE, hq]
  have E1 := hide (fun U => enc_is op wd r b i c n U hi hn s1 s2)
  have z1 : (1 : Int) ≤ ((str (enc ⟨op, wd, r, b, i, c, n⟩)).size : Int) := by rw [str_size]; have := enc_len ⟨op, wd, r, b, i, c, n⟩; omega
  have z2 : ((str (enc ⟨op, wd, r, b, i, c, n⟩)).size : Int) ≤ 10 := by rw [str_size]; have := len_10 hq; omega
  have hpos : 0 < (str (enc ⟨op, wd, r, b, i, c, n⟩)).size := by omega
  have HH : hiX ⟨op, wd, r, b, i, c, n⟩ := Or.inr (Or.inr (Or.inr h4))
  have v1 : (64 : Int) ≤ (((str (enc ⟨op, wd, r, b, i, c, n⟩))[0]'hpos).toNat : Int) := by rw [str_0]; exact (first_hi hq HH).1
  have v2 : (((str (enc ⟨op, wd, r, b, i, c, n⟩))[0]'hpos).toNat : Int) < 80 := by rw [str_0]; exact (first_hi hq HH).2
  clear HH
  have o1 : (op != 17) = true := by simpa using ho1
  have o2 : (op != 19) = true := by simpa using ho2
  have o3 : (op != 18) = true := by simpa using ho3
  clear ho1 ho2 ho3
  clear s1 s2
  generalize str (enc ⟨op, wd, r, b, i, c, n⟩) = own at *
  have d1 := decide_eq_false h1
  have d2 := decide_eq_false h2
  have d3 := decide_eq_false h3
  subst h4
  obtain ⟨W, hW⟩ : ∃ W, W = w.alloc (.cells #[.int .i64 op, .bool true, .int .i64 r, .int .i64 b, .int .i64 i, .int .i64 c, .int .i64 n] 23) := ⟨_, rfl⟩
  have B0 : Hid (Bx w.heap.size ⟨op, true, r, b, i, c, n⟩ W) := by show Bx _ _ _; rw [hW]; exact Bx.made w ⟨op, true, r, b, i, c, n⟩
  have W0 : Hid (Below w.heap.size w W) := by show Below _ _ _; rw [hW]; exact bel_one _ _
  clear hi hn hq
  go_enter Try.func3, Try.ntmps3
  go_wp2_with fail
  rw [← hW]
  refine (examples_any _).mono ?_
  clear hW
  rintro e w1 ⟨rfl, hb1⟩
  have B1 : Hid (Bx w.heap.size ⟨op, true, r, b, i, c, n⟩ w1) := B0.out.kept hb1
  have W1 := hide (bel_tr W0.out hb1)
  clear hb1 B0 W0
  obtain ⟨x0, x1, x2, x3, x4, x5, x6⟩ := B1.out.cells
  dsimp only at x0 x1 x2 x3 x4 x5 x6
  go_wp2_with fail
  refine (E1.out _).mono ?_
  rintro e w2 ⟨rfl, hb2⟩
  have B2 : Hid (Bx w.heap.size ⟨op, true, r, b, i, c, n⟩ w2) := B1.out.kept hb2
  have W2 := hide (bel_tr W1.out hb2)
  clear hb2 B1 W1 x0 x1 x2 x3 x4 x5 x6
  obtain ⟨x0, x1, x2, x3, x4, x5, x6⟩ := B2.out.cells
  dsimp only at x0 x1 x2 x3 x4 x5 x6
  go_wp2_with fail
  go_ret
  exact ⟨rfl, W2.out⟩
set_option maxHeartbeats 4000000 in
theorem sizes_a (op : Int) (wd : Bool) (r b i c n : Int) (w : World) (hi : I64 i) (hn : I64 n) (hq : rt ⟨op, wd, r, b, i, c, n⟩ = true) (ho1 : op ≠ 17) (ho2 : op ≠ 19) (ho3 : op ≠ 18) (h1 : ¬ 7 < r) (h2 : ¬ 7 < b) (h3 : ¬ 8 < i) (h4 : wd = false) (hv0 : ga (enc ⟨op, wd, r, b, i, c, n⟩) 0 < 64) : SzIs ⟨op, wd, r, b, i, c, n⟩ w := by
  unfold SzIs
  simp only [xv]
  have s1 : enS ⟨op, wd, r, b, i, c, n⟩ = enc ⟨op, wd, r, b, i, c, n⟩ := by simp [enS, hq]
  have s2 : enE ⟨op, wd, r, b, i, c, n⟩ = 0 := by simp [enE, hq]
  have E1 := hide (fun U => enc_is op wd r b i c n U hi hn s1 s2)
  have z1 : (1 : Int) ≤ ((str (enc ⟨op, wd, r, b, i, c, n⟩)).size : Int) := by rw [str_size]; have := enc_len ⟨op, wd, r, b, i, c, n⟩; omega
  have z2 : ((str (enc ⟨op, wd, r, b, i, c, n⟩)).size : Int) ≤ 10 := by rw [str_size]; have := len_10 hq; omega
  have hpos : 0 < (str (enc ⟨op, wd, r, b, i, c, n⟩)).size := by omega
  have v1 : (((str (enc ⟨op, wd, r, b, i, c, n⟩))[0]'hpos).toNat : Int) < 64 := by rw [str_0]; exact hv0
  clear hv0
  have o1 : (op != 17) = true := by simpa using ho1
  have o2 : (op != 19) = true := by simpa using ho2
  have o3 : (op != 18) = true := by simpa using ho3
  clear ho1 ho2 ho3
  clear s1 s2
  generalize str (enc ⟨op, wd, r, b, i, c, n⟩) = own at *
  have d1 := decide_eq_false h1
  have d2 := decide_eq_false h2
  have d3 := decide_eq_false h3
  have dv : decide ((64 : Int) ≤ ((own[0]'hpos).toNat : Int)) = false := decide_eq_false (by omega)
  subst h4
  obtain ⟨W, hW⟩ : ∃ W, W = w.alloc (.cells #[.int .i64 op, .bool false, .int .i64 r, .int .i64 b, .int .i64 i, .int .i64 c, .int .i64 n] 23) := ⟨_, rfl⟩
  have B0 : Hid (Bx w.heap.size ⟨op, false, r, b, i, c, n⟩ W) := by show Bx _ _ _; rw [hW]; exact Bx.made w ⟨op, false, r, b, i, c, n⟩
  have W0 : Hid (Below w.heap.size w W) := by show Below _ _ _; rw [hW]; exact bel_one _ _
  clear hi hn hq
  go_enter Try.func3, Try.ntmps3
  go_wp2_with fail
  rw [← hW]
  refine (examples_any _).mono ?_
  clear hW
  rintro e w1 ⟨rfl, hb1⟩
  have B1 : Hid (Bx w.heap.size ⟨op, false, r, b, i, c, n⟩ w1) := B0.out.kept hb1
  have W1 := hide (bel_tr W0.out hb1)
  clear hb1 B0 W0
  obtain ⟨x0, x1, x2, x3, x4, x5, x6⟩ := B1.out.cells
  dsimp only at x0 x1 x2 x3 x4 x5 x6
  go_wp2_with fail
  refine (E1.out _).mono ?_
  rintro e w2 ⟨rfl, hb2⟩
  have B2 : Hid (Bx w.heap.size ⟨op, false, r, b, i, c, n⟩ w2) := B1.out.kept hb2
  have W2 := hide (bel_tr W1.out hb2)
  clear hb2 B1 W1 x0 x1 x2 x3 x4 x5 x6
  obtain ⟨x0, x1, x2, x3, x4, x5, x6⟩ := B2.out.cells
  dsimp only at x0 x1 x2 x3 x4 x5 x6
  go_wp2_with fail
  go_ret
  exact ⟨rfl, W2.out⟩
set_option maxHeartbeats 4000000 in
theorem sizes_c (op : Int) (wd : Bool) (r b i c n : Int) (w : World) (hi : I64 i) (hn : I64 n) (hq : rt ⟨op, wd, r, b, i, c, n⟩ = true) (ho1 : op ≠ 17) (ho2 : op ≠ 19) (ho3 : op ≠ 18) (h1 : ¬ 7 < r) (h2 : ¬ 7 < b) (h3 : ¬ 8 < i) (h4 : wd = false) (hv0 : 80 ≤ ga (enc ⟨op, wd, r, b, i, c, n⟩) 0) : SzIs ⟨op, wd, r, b, i, c, n⟩ w := by
  unfold SzIs
  simp only [xv]
  have s1 : enS ⟨op, wd, r, b, i, c, n⟩ = enc ⟨op, wd, r, b, i, c, n⟩ := by simp [enS, hq]
  have s2 : enE ⟨op, wd, r, b, i, c, n⟩ = 0 := by simp [enE, hq]
  have E1 := hide (fun U => enc_is op wd r b i c n U hi hn s1 s2)
  have z1 : (1 : Int) ≤ ((str (enc ⟨op, wd, r, b, i, c, n⟩)).size : Int) := by rw [str_size]; have := enc_len ⟨op, wd, r, b, i, c, n⟩; omega
  have z2 : ((str (enc ⟨op, wd, r, b, i, c, n⟩)).size : Int) ≤ 10 := by rw [str_size]; have := len_10 hq; omega
  have hpos : 0 < (str (enc ⟨op, wd, r, b, i, c, n⟩)).size := by omega
  have v1 : (80 : Int) ≤ (((str (enc ⟨op, wd, r, b, i, c, n⟩))[0]'hpos).toNat : Int) := by rw [str_0]; exact hv0
  clear hv0
  have o1 : (op != 17) = true := by simpa using ho1
  have o2 : (op != 19) = true := by simpa using ho2
  have o3 : (op != 18) = true := by simpa using ho3
  clear ho1 ho2 ho3
  clear s1 s2
  generalize str (enc ⟨op, wd, r, b, i, c, n⟩) = own at *
  have d1 := decide_eq_false h1
  have d2 := decide_eq_false h2
  have d3 := decide_eq_false h3
  have dv : decide (((own[0]'hpos).toNat : Int) < (80 : Int)) = false := decide_eq_false (by omega)
  subst h4
  obtain ⟨W, hW⟩ : ∃ W, W = w.alloc (.cells #[.int .i64 op, .bool false, .int .i64 r, .int .i64 b, .int .i64 i, .int .i64 c, .int .i64 n] 23) := ⟨_, rfl⟩
  have B0 : Hid (Bx w.heap.size ⟨op, false, r, b, i, c, n⟩ W) := by show Bx _ _ _; rw [hW]; exact Bx.made w ⟨op, false, r, b, i, c, n⟩
  have W0 : Hid (Below w.heap.size w W) := by show Below _ _ _; rw [hW]; exact bel_one _ _
  clear hi hn hq
  go_enter Try.func3, Try.ntmps3
  go_wp2_with fail
  rw [← hW]
  refine (examples_any _).mono ?_
  clear hW
  rintro e w1 ⟨rfl, hb1⟩
  have B1 : Hid (Bx w.heap.size ⟨op, false, r, b, i, c, n⟩ w1) := B0.out.kept hb1
  have W1 := hide (bel_tr W0.out hb1)
  clear hb1 B0 W0
  obtain ⟨x0, x1, x2, x3, x4, x5, x6⟩ := B1.out.cells
  dsimp only at x0 x1 x2 x3 x4 x5 x6
  go_wp2_with fail
  refine (E1.out _).mono ?_
  rintro e w2 ⟨rfl, hb2⟩
  have B2 : Hid (Bx w.heap.size ⟨op, false, r, b, i, c, n⟩ w2) := B1.out.kept hb2
  have W2 := hide (bel_tr W1.out hb2)
  clear hb2 B1 W1 x0 x1 x2 x3 x4 x5 x6
  obtain ⟨x0, x1, x2, x3, x4, x5, x6⟩ := B2.out.cells
  dsimp only at x0 x1 x2 x3 x4 x5 x6
  go_wp2_with fail
  go_ret
  exact ⟨rfl, W2.out⟩
set_option maxHeartbeats 4000000 in
theorem sizes_17x (op : Int) (wd : Bool) (r b i c n : Int) (w : World) (hi : I64 i) (hn : I64 n) (hq : rt ⟨op, wd, r, b, i, c, n⟩ = true) (h1 : ¬ 7 < r) (h2 : ¬ 7 < b) (h3 : ¬ 8 < i) (h4 : wd = false) (hv0 : ga (enc ⟨op, wd, r, b, i, c, n⟩) 0 < 64) (hl : (enc ⟨op, wd, r, b, i, c, n⟩).length = 5) (ho : op = 17) : SzIs ⟨op, wd, r, b, i, c, n⟩ w := by
  unfold SzIs
  simp only [xv]
  have s1 : enS ⟨op, wd, r, b, i, c, n⟩ = enc ⟨op, wd, r, b, i, c, n⟩ := by simp [enS, hq]
  have s2 : enE ⟨op, wd, r, b, i, c, n⟩ = 0 := by simp [enE, hq]
  have E1 := hide (fun U => enc_is op wd r b i c n U hi hn s1 s2)
  have z1 : (1 : Int) ≤ ((str (enc ⟨op, wd, r, b, i, c, n⟩)).size : Int) := by rw [str_size]; have := enc_len ⟨op, wd, r, b, i, c, n⟩; omega
  have z2 : ((str (enc ⟨op, wd, r, b, i, c, n⟩)).size : Int) ≤ 10 := by rw [str_size]; have := len_10 hq; omega
  have hpos : 0 < (str (enc ⟨op, wd, r, b, i, c, n⟩)).size := by omega
  have v1 : (((str (enc ⟨op, wd, r, b, i, c, n⟩))[0]'hpos).toNat : Int) < 64 := by rw [str_0]; exact hv0
  have hl2 : ((str (enc ⟨op, wd, r, b, i, c, n⟩)).size : Int) = 5 := by rw [str_size, hl]; rfl
  have hl3 : (((str (enc ⟨op, wd, r, b, i, c, n⟩)).size : Int) == 5) = true := by rw [hl2]; rfl
  clear hv0 hl hl2
  clear s1 s2
  generalize str (enc ⟨op, wd, r, b, i, c, n⟩) = own at *
  have d1 := decide_eq_false h1
  have d2 := decide_eq_false h2
  have d3 := decide_eq_false h3
  have dv : decide ((64 : Int) ≤ ((own[0]'hpos).toNat : Int)) = false := decide_eq_false (by omega)
  subst ho
  subst h4
  obtain ⟨W, hW⟩ : ∃ W, W = w.alloc (.cells #[.int .i64 17, .bool false, .int .i64 r, .int .i64 b, .int .i64 i, .int .i64 c, .int .i64 n] 23) := ⟨_, rfl⟩
  have B0 : Hid (Bx w.heap.size ⟨17, false, r, b, i, c, n⟩ W) := by show Bx _ _ _; rw [hW]; exact Bx.made w ⟨17, false, r, b, i, c, n⟩
  have W0 : Hid (Below w.heap.size w W) := by show Below _ _ _; rw [hW]; exact bel_one _ _
  clear hi hn hq
  go_enter Try.func3, Try.ntmps3
  go_wp2_with fail
  rw [← hW]
  refine (examples_any _).mono ?_
  clear hW
  rintro e w1 ⟨rfl, hb1⟩
  have B1 : Hid (Bx w.heap.size ⟨17, false, r, b, i, c, n⟩ w1) := B0.out.kept hb1
  have W1 := hide (bel_tr W0.out hb1)
  clear hb1 B0 W0
  obtain ⟨x0, x1, x2, x3, x4, x5, x6⟩ := B1.out.cells
  dsimp only at x0 x1 x2 x3 x4 x5 x6
  go_wp2_with fail
  refine (E1.out _).mono ?_
  rintro e w2 ⟨rfl, hb2⟩
  have B2 : Hid (Bx w.heap.size ⟨17, false, r, b, i, c, n⟩ w2) := B1.out.kept hb2
  have W2 := hide (bel_tr W1.out hb2)
  clear hb2 B1 W1 x0 x1 x2 x3 x4 x5 x6
  obtain ⟨x0, x1, x2, x3, x4, x5, x6⟩ := B2.out.cells
  dsimp only at x0 x1 x2 x3 x4 x5 x6
  go_wp2_with fail
  go_ret
  exact ⟨rfl, W2.out⟩
set_option maxHeartbeats 4000000 in
theorem sizes_17y (op : Int) (wd : Bool) (r b i c n : Int) (w : World) (hi : I64 i) (hn : I64 n) (hq : rt ⟨op, wd, r, b, i, c, n⟩ = true) (h1 : ¬ 7 < r) (h2 : ¬ 7 < b) (h3 : ¬ 8 < i) (h4 : wd = false) (hv0 : 80 ≤ ga (enc ⟨op, wd, r, b, i, c, n⟩) 0) (hl : (enc ⟨op, wd, r, b, i, c, n⟩).length = 5) (ho : op = 17) : SzIs ⟨op, wd, r, b, i, c, n⟩ w := by
  unfold SzIs
  simp only [xv]
  have s1 : enS ⟨op, wd, r, b, i, c, n⟩ = enc ⟨op, wd, r, b, i, c, n⟩ := by simp [enS, hq]
  have s2 : enE ⟨op, wd, r, b, i, c, n⟩ = 0 := by simp [enE, hq]
  have E1 := hide (fun U => enc_is op wd r b i c n U hi hn s1 s2)
  have z1 : (1 : Int) ≤ ((str (enc ⟨op, wd, r, b, i, c, n⟩)).size : Int) := by rw [str_size]; have := enc_len ⟨op, wd, r, b, i, c, n⟩; omega
  have z2 : ((str (enc ⟨op, wd, r, b, i, c, n⟩)).size : Int) ≤ 10 := by rw [str_size]; have := len_10 hq; omega
  have hpos : 0 < (str (enc ⟨op, wd, r, b, i, c, n⟩)).size := by omega
  have v1 : (80 : Int) ≤ (((str (enc ⟨op, wd, r, b, i, c, n⟩))[0]'hpos).toNat : Int) := by rw [str_0]; exact hv0
  have hl2 : ((str (enc ⟨op, wd, r, b, i, c, n⟩)).size : Int) = 5 := by rw [str_size, hl]; rfl
  have hl3 : (((str (enc ⟨op, wd, r, b, i, c, n⟩)).size : Int) == 5) = true := by rw [hl2]; rfl
  clear hv0 hl hl2
  clear s1 s2
  generalize str (enc ⟨op, wd, r, b, i, c, n⟩) = own at *
  have d1 := decide_eq_false h1
  have d2 := decide_eq_false h2
  have d3 := decide_eq_false h3
  have dv : decide (((own[0]'hpos).toNat : Int) < (80 : Int)) = false := decide_eq_false (by omega)
  subst ho
  subst h4
  obtain ⟨W, hW⟩ : ∃ W, W = w.alloc (.cells #[.int .i64 17, .bool false, .int .i64 r, .int .i64 b, .int .i64 i, .int .i64 c, .int .i64 n] 23) := ⟨_, rfl⟩
  have B0 : Hid (Bx w.heap.size ⟨17, false, r, b, i, c, n⟩ W) := by show Bx _ _ _; rw [hW]; exact Bx.made w ⟨17, false, r, b, i, c, n⟩
  have W0 : Hid (Below w.heap.size w W) := by show Below _ _ _; rw [hW]; exact bel_one _ _
  clear hi hn hq
  go_enter Try.func3, Try.ntmps3
  go_wp2_with fail
  rw [← hW]
  refine (examples_any _).mono ?_
  clear hW
  rintro e w1 ⟨rfl, hb1⟩
  have B1 : Hid (Bx w.heap.size ⟨17, false, r, b, i, c, n⟩ w1) := B0.out.kept hb1
  have W1 := hide (bel_tr W0.out hb1)
  clear hb1 B0 W0
  obtain ⟨x0, x1, x2, x3, x4, x5, x6⟩ := B1.out.cells
  dsimp only at x0 x1 x2 x3 x4 x5 x6
  go_wp2_with fail
  refine (E1.out _).mono ?_
  rintro e w2 ⟨rfl, hb2⟩
  have B2 : Hid (Bx w.heap.size ⟨17, false, r, b, i, c, n⟩ w2) := B1.out.kept hb2
  have W2 := hide (bel_tr W1.out hb2)
  clear hb2 B1 W1 x0 x1 x2 x3 x4 x5 x6
  obtain ⟨x0, x1, x2, x3, x4, x5, x6⟩ := B2.out.cells
  dsimp only at x0 x1 x2 x3 x4 x5 x6
  go_wp2_with fail
  go_ret
  exact ⟨rfl, W2.out⟩
set_option maxHeartbeats 4000000 in
theorem sizes_19x (op : Int) (wd : Bool) (r b i c n : Int) (w : World) (hi : I64 i) (hn : I64 n) (hq : rt ⟨op, wd, r, b, i, c, n⟩ = true) (h1 : ¬ 7 < r) (h2 : ¬ 7 < b) (h3 : ¬ 8 < i) (h4 : wd = false) (hv0 : ga (enc ⟨op, wd, r, b, i, c, n⟩) 0 < 64) (hl : (enc ⟨op, wd, r, b, i, c, n⟩).length = 5) (ho : op = 19) : SzIs ⟨op, wd, r, b, i, c, n⟩ w := by
  unfold SzIs
  simp only [xv]
  have s1 : enS ⟨op, wd, r, b, i, c, n⟩ = enc ⟨op, wd, r, b, i, c, n⟩ := by simp [enS, hq]
  have s2 : enE ⟨op, wd, r, b, i, c, n⟩ = 0 := by simp [enE, hq]
  have E1 := hide (fun U => enc_is op wd r b i c n U hi hn s1 s2)
  have z1 : (1 : Int) ≤ ((str (enc ⟨op, wd, r, b, i, c, n⟩)).size : Int) := by rw [str_size]; have := enc_len ⟨op, wd, r, b, i, c, n⟩; omega
  have z2 : ((str (enc ⟨op, wd, r, b, i, c, n⟩)).size : Int) ≤ 10 := by rw [str_size]; have := len_10 hq; omega
  have hpos : 0 < (str (enc ⟨op, wd, r, b, i, c, n⟩)).size := by omega
  have v1 : (((str (enc ⟨op, wd, r, b, i, c, n⟩))[0]'hpos).toNat : Int) < 64 := by rw [str_0]; exact hv0
  have hl2 : ((str (enc ⟨op, wd, r, b, i, c, n⟩)).size : Int) = 5 := by rw [str_size, hl]; rfl
  have hl3 : (((str (enc ⟨op, wd, r, b, i, c, n⟩)).size : Int) == 5) = true := by rw [hl2]; rfl
  clear hv0 hl hl2
  clear s1 s2
  generalize str (enc ⟨op, wd, r, b, i, c, n⟩) = own at *
  have d1 := decide_eq_false h1
  have d2 := decide_eq_false h2
  have d3 := decide_eq_false h3
  have dv : decide ((64 : Int) ≤ ((own[0]'hpos).toNat : Int)) = false := decide_eq_false (by omega)
  subst ho
  subst h4
  obtain ⟨W, hW⟩ : ∃ W, W = w.alloc (.cells #[.int .i64 19, .bool false, .int .i64 r, .int .i64 b, .int .i64 i, .int .i64 c, .int .i64 n] 23) := ⟨_, rfl⟩
  have B0 : Hid (Bx w.heap.size ⟨19, false, r, b, i, c, n⟩ W) := by show Bx _ _ _; rw [hW]; exact Bx.made w ⟨19, false, r, b, i, c, n⟩
  have W0 : Hid (Below w.heap.size w W) := by show Below _ _ _; rw [hW]; exact bel_one _ _
  clear hi hn hq
  go_enter Try.func3, Try.ntmps3
  go_wp2_with fail
  rw [← hW]
  refine (examples_any _).mono ?_
  clear hW
  rintro e w1 ⟨rfl, hb1⟩
  have B1 : Hid (Bx w.heap.size ⟨19, false, r, b, i, c, n⟩ w1) := B0.out.kept hb1
  have W1 := hide (bel_tr W0.out hb1)
  clear hb1 B0 W0
  obtain ⟨x0, x1, x2, x3, x4, x5, x6⟩ := B1.out.cells
  dsimp only at x0 x1 x2 x3 x4 x5 x6
  go_wp2_with fail
  refine (E1.out _).mono ?_
  rintro e w2 ⟨rfl, hb2⟩
  have B2 : Hid (Bx w.heap.size ⟨19, false, r, b, i, c, n⟩ w2) := B1.out.kept hb2
  have W2 := hide (bel_tr W1.out hb2)
  clear hb2 B1 W1 x0 x1 x2 x3 x4 x5 x6
  obtain ⟨x0, x1, x2, x3, x4, x5, x6⟩ := B2.out.cells
  dsimp only at x0 x1 x2 x3 x4 x5 x6
  go_wp2_with fail
  go_ret
  exact ⟨rfl, W2.out⟩
set_option maxHeartbeats 4000000 in
theorem sizes_19y (op : Int) (wd : Bool) (r b i c n : Int) (w : World) (hi : I64 i) (hn : I64 n) (hq : rt ⟨op, wd, r, b, i, c, n⟩ = true) (h1 : ¬ 7 < r) (h2 : ¬ 7 < b) (h3 : ¬ 8 < i) (h4 : wd = false) (hv0 : 80 ≤ ga (enc ⟨op, wd, r, b, i, c, n⟩) 0) (hl : (enc ⟨op, wd, r, b, i, c, n⟩).length = 5) (ho : op = 19) : SzIs ⟨op, wd, r, b, i, c, n⟩ w := by
  unfold SzIs
  simp only [xv]
  have s1 : enS ⟨op, wd, r, b, i, c, n⟩ = enc ⟨op, wd, r, b, i, c, n⟩ := by simp [enS, hq]
  have s2 : enE ⟨op, wd, r, b, i, c, n⟩ = 0 := by simp [enE, hq]
  have E1 := hide (fun U => enc_is op wd r b i c n U hi hn s1 s2)
  have z1 : (1 : Int) ≤ ((str (enc ⟨op, wd, r, b, i, c, n⟩)).size : Int) := by rw [str_size]; have := enc_len ⟨op, wd, r, b, i, c, n⟩; omega
  have z2 : ((str (enc ⟨op, wd, r, b, i, c, n⟩)).size : Int) ≤ 10 := by rw [str_size]; have := len_10 hq; omega
  have hpos : 0 < (str (enc ⟨op, wd, r, b, i, c, n⟩)).size := by omega
  have v1 : (80 : Int) ≤ (((str (enc ⟨op, wd, r, b, i, c, n⟩))[0]'hpos).toNat : Int) := by rw [str_0]; exact hv0
  have hl2 : ((str (enc ⟨op, wd, r, b, i, c, n⟩)).size : Int) = 5 := by rw [str_size, hl]; rfl
  have hl3 : (((str (enc ⟨op, wd, r, b, i, c, n⟩)).size : Int) == 5) = true := by rw [hl2]; rfl
  clear hv0 hl hl2
  clear s1 s2
  generalize str (enc ⟨op, wd, r, b, i, c, n⟩) = own at *
  have d1 := decide_eq_false h1
  have d2 := decide_eq_false h2
  have d3 := decide_eq_false h3
  have dv : decide (((own[0]'hpos).toNat : Int) < (80 : Int)) = false := decide_eq_false (by omega)
  subst ho
  subst h4
  obtain ⟨W, hW⟩ : ∃ W, W = w.alloc (.cells #[.int .i64 19, .bool false, .int .i64 r, .int .i64 b, .int .i64 i, .int .i64 c, .int .i64 n] 23) := ⟨_, rfl⟩
  have B0 : Hid (Bx w.heap.size ⟨19, false, r, b, i, c, n⟩ W) := by show Bx _ _ _; rw [hW]; exact Bx.made w ⟨19, false, r, b, i, c, n⟩
  have W0 : Hid (Below w.heap.size w W) := by show Below _ _ _; rw [hW]; exact bel_one _ _
  clear hi hn hq
  go_enter Try.func3, Try.ntmps3
  go_wp2_with fail
  rw [← hW]
  refine (examples_any _).mono ?_
  clear hW
  rintro e w1 ⟨rfl, hb1⟩
  have B1 : Hid (Bx w.heap.size ⟨19, false, r, b, i, c, n⟩ w1) := B0.out.kept hb1
  have W1 := hide (bel_tr W0.out hb1)
  clear hb1 B0 W0
  obtain ⟨x0, x1, x2, x3, x4, x5, x6⟩ := B1.out.cells
  dsimp only at x0 x1 x2 x3 x4 x5 x6
  go_wp2_with fail
  refine (E1.out _).mono ?_
  rintro e w2 ⟨rfl, hb2⟩
  have B2 : Hid (Bx w.heap.size ⟨19, false, r, b, i, c, n⟩ w2) := B1.out.kept hb2
  have W2 := hide (bel_tr W1.out hb2)
  clear hb2 B1 W1 x0 x1 x2 x3 x4 x5 x6
  obtain ⟨x0, x1, x2, x3, x4, x5, x6⟩ := B2.out.cells
  dsimp only at x0 x1 x2 x3 x4 x5 x6
  go_wp2_with fail
  go_ret
  exact ⟨rfl, W2.out⟩
set_option maxHeartbeats 4000000 in
theorem sizes_18x (op : Int) (wd : Bool) (r b i c n : Int) (w : World) (hi : I64 i) (hn : I64 n) (hq : rt ⟨op, wd, r, b, i, c, n⟩ = true) (h1 : ¬ 7 < r) (h2 : ¬ 7 < b) (h3 : ¬ 8 < i) (h4 : wd = false) (hv0 : ga (enc ⟨op, wd, r, b, i, c, n⟩) 0 < 64) (hl : (enc ⟨op, wd, r, b, i, c, n⟩).length = 6) (ho : op = 18) : SzIs ⟨op, wd, r, b, i, c, n⟩ w := by
  unfold SzIs
  simp only [xv]
  have s1 : enS ⟨op, wd, r, b, i, c, n⟩ = enc ⟨op, wd, r, b, i, c, n⟩ := by simp [enS, hq]
  have s2 : enE ⟨op, wd, r, b, i, c, n⟩ = 0 := by simp [enE, hq]
  have E1 := hide (fun U => enc_is op wd r b i c n U hi hn s1 s2)
  have z1 : (1 : Int) ≤ ((str (enc ⟨op, wd, r, b, i, c, n⟩)).size : Int) := by rw [str_size]; have := enc_len ⟨op, wd, r, b, i, c, n⟩; omega
  have z2 : ((str (enc ⟨op, wd, r, b, i, c, n⟩)).size : Int) ≤ 10 := by rw [str_size]; have := len_10 hq; omega
  have hpos : 0 < (str (enc ⟨op, wd, r, b, i, c, n⟩)).size := by omega
  have v1 : (((str (enc ⟨op, wd, r, b, i, c, n⟩))[0]'hpos).toNat : Int) < 64 := by rw [str_0]; exact hv0
  have hl2 : ((str (enc ⟨op, wd, r, b, i, c, n⟩)).size : Int) = 6 := by rw [str_size, hl]; rfl
  have hl3 : (((str (enc ⟨op, wd, r, b, i, c, n⟩)).size : Int) == 6) = true := by rw [hl2]; rfl
  clear hv0 hl hl2
  clear s1 s2
  generalize str (enc ⟨op, wd, r, b, i, c, n⟩) = own at *
  have d1 := decide_eq_false h1
  have d2 := decide_eq_false h2
  have d3 := decide_eq_false h3
  have dv : decide ((64 : Int) ≤ ((own[0]'hpos).toNat : Int)) = false := decide_eq_false (by omega)
  subst ho
  subst h4
  obtain ⟨W, hW⟩ : ∃ W, W = w.alloc (.cells #[.int .i64 18, .bool false, .int .i64 r, .int .i64 b, .int .i64 i, .int .i64 c, .int .i64 n] 23) := ⟨_, rfl⟩
  have B0 : Hid (Bx w.heap.size ⟨18, false, r, b, i, c, n⟩ W) := by show Bx _ _ _; rw [hW]; exact Bx.made w ⟨18, false, r, b, i, c, n⟩
  have W0 : Hid (Below w.heap.size w W) := by show Below _ _ _; rw [hW]; exact bel_one _ _
  clear hi hn hq
  go_enter Try.func3, Try.ntmps3
  go_wp2_with fail
  rw [← hW]
  refine (examples_any _).mono ?_
  clear hW
  rintro e w1 ⟨rfl, hb1⟩
  have B1 : Hid (Bx w.heap.size ⟨18, false, r, b, i, c, n⟩ w1) := B0.out.kept hb1
  have W1 := hide (bel_tr W0.out hb1)
  clear hb1 B0 W0
  obtain ⟨x0, x1, x2, x3, x4, x5, x6⟩ := B1.out.cells
  dsimp only at x0 x1 x2 x3 x4 x5 x6
  go_wp2_with fail
  refine (E1.out _).mono ?_
  rintro e w2 ⟨rfl, hb2⟩
  have B2 : Hid (Bx w.heap.size ⟨18, false, r, b, i, c, n⟩ w2) := B1.out.kept hb2
  have W2 := hide (bel_tr W1.out hb2)
  clear hb2 B1 W1 x0 x1 x2 x3 x4 x5 x6
  obtain ⟨x0, x1, x2, x3, x4, x5, x6⟩ := B2.out.cells
  dsimp only at x0 x1 x2 x3 x4 x5 x6
  go_wp2_with fail
  go_ret
  exact ⟨rfl, W2.out⟩
set_option maxHeartbeats 4000000 in
theorem sizes_18y (op : Int) (wd : Bool) (r b i c n : Int) (w : World) (hi : I64 i) (hn : I64 n) (hq : rt ⟨op, wd, r, b, i, c, n⟩ = true) (h1 : ¬ 7 < r) (h2 : ¬ 7 < b) (h3 : ¬ 8 < i) (h4 : wd = false) (hv0 : 80 ≤ ga (enc ⟨op, wd, r, b, i, c, n⟩) 0) (hl : (enc ⟨op, wd, r, b, i, c, n⟩).length = 6) (ho : op = 18) : SzIs ⟨op, wd, r, b, i, c, n⟩ w := by
  unfold SzIs
  simp only [xv]
  have s1 : enS ⟨op, wd, r, b, i, c, n⟩ = enc ⟨op, wd, r, b, i, c, n⟩ := by simp [enS, hq]
  have s2 : enE ⟨op, wd, r, b, i, c, n⟩ = 0 := by simp [enE, hq]
  have E1 := hide (fun U => enc_is op wd r b i c n U hi hn s1 s2)
  have z1 : (1 : Int) ≤ ((str (enc ⟨op, wd, r, b, i, c, n⟩)).size : Int) := by rw [str_size]; have := enc_len ⟨op, wd, r, b, i, c, n⟩; omega
  have z2 : ((str (enc ⟨op, wd, r, b, i, c, n⟩)).size : Int) ≤ 10 := by rw [str_size]; have := len_10 hq; omega
  have hpos : 0 < (str (enc ⟨op, wd, r, b, i, c, n⟩)).size := by omega
  have v1 : (80 : Int) ≤ (((str (enc ⟨op, wd, r, b, i, c, n⟩))[0]'hpos).toNat : Int) := by rw [str_0]; exact hv0
  have hl2 : ((str (enc ⟨op, wd, r, b, i, c, n⟩)).size : Int) = 6 := by rw [str_size, hl]; rfl
  have hl3 : (((str (enc ⟨op, wd, r, b, i, c, n⟩)).size : Int) == 6) = true := by rw [hl2]; rfl
  clear hv0 hl hl2
  clear s1 s2
  generalize str (enc ⟨op, wd, r, b, i, c, n⟩) = own at *
  have d1 := decide_eq_false h1
  have d2 := decide_eq_false h2
  have d3 := decide_eq_false h3
  have dv : decide (((own[0]'hpos).toNat : Int) < (80 : Int)) = false := decide_eq_false (by omega)
  subst ho
  subst h4
  obtain ⟨W, hW⟩ : ∃ W, W = w.alloc (.cells #[.int .i64 18, .bool false, .int .i64 r, .int .i64 b, .int .i64 i, .int .i64 c, .int .i64 n] 23) := ⟨_, rfl⟩
  have B0 : Hid (Bx w.heap.size ⟨18, false, r, b, i, c, n⟩ W) := by show Bx _ _ _; rw [hW]; exact Bx.made w ⟨18, false, r, b, i, c, n⟩
  have W0 : Hid (Below w.heap.size w W) := by show Below _ _ _; rw [hW]; exact bel_one _ _
  clear hi hn hq
  go_enter Try.func3, Try.ntmps3
  go_wp2_with fail
  rw [← hW]
  refine (examples_any _).mono ?_
  clear hW
  rintro e w1 ⟨rfl, hb1⟩
  have B1 : Hid (Bx w.heap.size ⟨18, false, r, b, i, c, n⟩ w1) := B0.out.kept hb1
  have W1 := hide (bel_tr W0.out hb1)
  clear hb1 B0 W0
  obtain ⟨x0, x1, x2, x3, x4, x5, x6⟩ := B1.out.cells
  dsimp only at x0 x1 x2 x3 x4 x5 x6
  go_wp2_with fail
  refine (E1.out _).mono ?_
  rintro e w2 ⟨rfl, hb2⟩
  have B2 : Hid (Bx w.heap.size ⟨18, false, r, b, i, c, n⟩ w2) := B1.out.kept hb2
  have W2 := hide (bel_tr W1.out hb2)
  clear hb2 B1 W1 x0 x1 x2 x3 x4 x5 x6
  obtain ⟨x0, x1, x2, x3, x4, x5, x6⟩ := B2.out.cells
  dsimp only at x0 x1 x2 x3 x4 x5 x6
  go_wp2_with fail
  go_ret
  exact ⟨rfl, W2.out⟩
theorem sizes_walk (x : Xi) (w : World) (hx : x.ok) : SzIs x w := by
  obtain ⟨op, wd, r, b, i, c, n⟩ := x
  have hi : I64 i := hx.2.2.2.1
  have hn : I64 n := hx.2.2.2.2.2
  cases hq : rt ⟨op, wd, r, b, i, c, n⟩
  · exact sizes_no _ _ _ _ _ _ _ _ hi hn hq
  have hj := len_jmp hq
  simp only [] at hj
  by_cases h : hiX ⟨op, wd, r, b, i, c, n⟩
  · have n1 : op ≠ 17 := fun e => (hj.1 (Or.inl e)).2 h
    have n2 : op ≠ 19 := fun e => (hj.1 (Or.inr e)).2 h
    have n3 : op ≠ 18 := fun e => (hj.2 e).2 h
    by_cases h1 : 7 < r
    · exact sizes_r _ _ _ _ _ _ _ _ hi hn hq n1 n2 n3 h1
    by_cases h2 : 7 < b
    · exact sizes_b _ _ _ _ _ _ _ _ hi hn hq n1 n2 n3 h1 h2
    by_cases h3 : 8 < i
    · exact sizes_i _ _ _ _ _ _ _ _ hi hn hq n1 n2 n3 h1 h2 h3
    · exact sizes_w _ _ _ _ _ _ _ _ hi hn hq n1 n2 n3 h1 h2 h3 (by rcases h with h | h | h | h; exact absurd h h1; exact absurd h h2; exact absurd h h3; exact h)
  · have hl := first_lo hq h
    simp only [hiX, not_or, Bool.not_eq_true] at h
    obtain ⟨h1, h2, h3, h4⟩ := h
    by_cases a1 : op = 17
    · rcases hl with hl | hl
      · exact sizes_17x _ _ _ _ _ _ _ _ hi hn hq h1 h2 h3 h4 hl (hj.1 (Or.inl a1)).1 a1
      · exact sizes_17y _ _ _ _ _ _ _ _ hi hn hq h1 h2 h3 h4 hl (hj.1 (Or.inl a1)).1 a1
    by_cases a2 : op = 19
    · rcases hl with hl | hl
      · exact sizes_19x _ _ _ _ _ _ _ _ hi hn hq h1 h2 h3 h4 hl (hj.1 (Or.inr a2)).1 a2
      · exact sizes_19y _ _ _ _ _ _ _ _ hi hn hq h1 h2 h3 h4 hl (hj.1 (Or.inr a2)).1 a2
    by_cases a3 : op = 18
    · rcases hl with hl | hl
      · exact sizes_18x _ _ _ _ _ _ _ _ hi hn hq h1 h2 h3 h4 hl (hj.2 a3).1 a3
      · exact sizes_18y _ _ _ _ _ _ _ _ hi hn hq h1 h2 h3 h4 hl (hj.2 a3).1 a3
    rcases hl with hl | hl
    · exact sizes_a _ _ _ _ _ _ _ _ hi hn hq a1 a2 a3 h1 h2 h3 h4 hl
    · exact sizes_c _ _ _ _ _ _ _ _ hi hn hq a1 a2 a3 h1 h2 h3 h4 hl
end Go.Proofs.Ytddepkiefkngdab
