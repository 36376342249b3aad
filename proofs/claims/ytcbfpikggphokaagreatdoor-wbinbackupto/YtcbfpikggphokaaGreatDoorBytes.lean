/-
  The program's function Bytes writes an instruction as the plain function iby says, or refuses it, just where it is not right; memory that was there stays as it was.
-/
import Derived.Test.YtcbfpikggphokaaGreatDoorBox
namespace Go.Proofs.YtcbfpikggphokaaGreatDoor
open Go.RowKit

/-- The byte for what a block brings. -/
def bb (m : Int) : Int := if m = 0 then 64 else 128 - m
/-- What stands behind an instruction's first byte. -/
def tl (op n m : Int) : List UInt8 :=
  if kd op = 2 then [byI (bb m)] else if kd op = 3 then enc n (szU n) else if kd op = 4 then enc m (szU m) ++ enc n (szU n) else if kd op = 5 ∨ kd op = 6 then enc n (szS n) else []
/-- An instruction's bytes. -/
def iby (op n m : Int) : List UInt8 := byI op :: tl op n m

theorem str_size (l : List UInt8) : (str l).size = l.length := by simp [str, ByteArray.size]
theorem below_next {w a b : World} (h : Below w.heap.size w a) (k : Below a.heap.size a b) : Below w.heap.size w b := h.trans (k.mono h.size)
theorem unsigned_any (n : Int) (w : World) (h : 0 ≤ n) :
    Calls Tryz.prog 139 #[.int .i64 n] w fun e w' => e = .returned (.string (str (enc n (szU n)))) ∧ Below w.heap.size w w' := by
  go_enter Tryz.func139, Tryz.ntmps139
  go_wp2_with fail
  refine (U_any n _ h).mono ?_
  rintro e w1 ⟨rfl, hb⟩
  go_wp2_with fail
  go_ret
  exact ⟨rfl, hb⟩
theorem brings_0 (w : World) : Calls Tryz.prog 138 #[.int .i64 0] w fun e w' => e = .returned (.int .u8 64) ∧ w' = w := by
  go_enter Tryz.func138, Tryz.ntmps138
  go_wp2
  go_ret
  exact ⟨rfl, rfl⟩
theorem brings_1 (w : World) : Calls Tryz.prog 138 #[.int .i64 1] w fun e w' => e = .returned (.int .u8 127) ∧ w' = w := by
  go_enter Tryz.func138, Tryz.ntmps138
  go_wp2
  go_ret
  exact ⟨rfl, rfl⟩
theorem brings_2 (w : World) : Calls Tryz.prog 138 #[.int .i64 2] w fun e w' => e = .returned (.int .u8 126) ∧ w' = w := by
  go_enter Tryz.func138, Tryz.ntmps138
  go_wp2
  go_ret
  exact ⟨rfl, rfl⟩
theorem brings_3 (w : World) : Calls Tryz.prog 138 #[.int .i64 3] w fun e w' => e = .returned (.int .u8 125) ∧ w' = w := by
  go_enter Tryz.func138, Tryz.ntmps138
  go_wp2
  go_ret
  exact ⟨rfl, rfl⟩
theorem brings_4 (w : World) : Calls Tryz.prog 138 #[.int .i64 4] w fun e w' => e = .returned (.int .u8 124) ∧ w' = w := by
  go_enter Tryz.func138, Tryz.ntmps138
  go_wp2
  go_ret
  exact ⟨rfl, rfl⟩
theorem brings_any (m : Int) (w : World) (h : 0 ≤ m ∧ m ≤ 4) : Calls Tryz.prog 138 #[.int .i64 m] w fun e w' => e = .returned (.int .u8 (bb m)) ∧ w' = w := by
  have : m = 0 ∨ m = 1 ∨ m = 2 ∨ m = 3 ∨ m = 4 := by omega
  rcases this with rfl | rfl | rfl | rfl | rfl
  · exact brings_0 w
  · exact brings_1 w
  · exact brings_2 w
  · exact brings_3 w
  · exact brings_4 w
theorem bytes_no (op n m : Int) (w : World) (hn : I64 n) (hm : I64 m) (h : rt op n m = false) :
    Calls Tryz.prog 117 #[ins op n m] w fun e w' => e = .returned (.tuple #[.string (str []), .int .i64 4]) ∧ Below w.heap.size w w' := by
  have RT := hide (fun w => right_as op n m false w hn hm h)
  clear hn hm h
  unfold ins at RT ⊢
  go_enter Tryz.func117, Tryz.ntmps117
  go_wp2_with fail
  refine (RT.out _).mono ?_
  rintro e w1 ⟨rfl, b1⟩
  go_wp2_with fail
  go_ret2
  exact ⟨rfl, below_next (bel_one _ _) b1⟩
set_option maxHeartbeats 400000 in
theorem bytes_1 (op n m : Int) (w : World) (hn : I64 n) (hm : I64 m) (hk : kd op = 1) (h : rt op n m = true) :
    Calls Tryz.prog 117 #[ins op n m] w fun e w' => e = .returned (.tuple #[.string (str (byI op :: [])), .int .i64 0]) ∧ Below w.heap.size w w' := by
  have ho := hide (kd_byte (op := op) (by omega))
  have hk' := hide hk
  have RT := hide (fun w => right_as op n m true w hn hm h)
  clear hk hn hm h
  unfold ins at RT ⊢
  go_enter Tryz.func117, Tryz.ntmps117
  go_wp2_with fail
  refine (RT.out _).mono ?_
  rintro e w1 ⟨rfl, b1⟩
  have x1 := (Box.made w op n m).kept b1
  have l1 := x1.lt
  have B1 := below_next (bel_one w _) b1
  clear b1
  have y0 : ∀ o, (w1.alloc o).cell? ⟨w.heap.size, 0, none⟩ = some (.int .i64 op) := fun o => (x1.alloc o).c0
  go_wp2_with fail
  refine (b_byte w1.heap.size w1.heap.size (Lib.byteCells []) _ _ (builder_fresh w1) (by decide) (by simp)).mono ?_
  rintro e w2 ⟨rfl, a2, b2⟩
  rw [Int.emod_eq_of_lt ho.out.1 (by have := ho.out.2; omega)] at a2
  have h2 := hide (at_byte a2 rfl ho.out.1 ho.out.2)
  have t2 := (bel_one w1 _).trans b2
  have x2 := x1.below t2 l1
  have q2 := t2.size
  clear a2 b2 y0
  have z0 := x2.c0
  have z1 := x2.c1
  have z2 := x2.c2
  go_wp2_with fail
  refine (kind_is op 1 _ hk'.out).mono ?_
  rintro e w3 ⟨rfl, rfl⟩
  go_wp2_with fail
  refine (b_string w1.heap.size w1.heap.size ([] ++ [byI op]) _ h2.out q2).mono ?_
  rintro e w4 ⟨rfl, b4⟩
  have t4 := t2.trans b4
  go_wp2_with fail
  go_ret2
  exact ⟨rfl, below_next B1 t4⟩
set_option maxHeartbeats 400000 in
theorem bytes_2 (op n m : Int) (w : World) (hn : I64 n) (hm : I64 m) (hk : kd op = 2) (h : rt op n m = true) :
    Calls Tryz.prog 117 #[ins op n m] w fun e w' => e = .returned (.tuple #[.string (str (byI op :: [byI (bb m)])), .int .i64 0]) ∧ Below w.heap.size w w' := by
  have ho := hide (kd_byte (op := op) (by omega))
  have hk' := hide hk
  have RT := hide (fun w => right_as op n m true w hn hm h)
  have hm4 := hide (show 0 ≤ m ∧ m ≤ 4 by rw [rt_2 n m hk] at h; simp at h; omega)
  have hbb := hide (show 0 ≤ bb m ∧ bb m ≤ 255 by have := hm4.out; unfold bb; split <;> omega)
  clear hk hn hm h
  unfold ins at RT ⊢
  go_enter Tryz.func117, Tryz.ntmps117
  go_wp2_with fail
  refine (RT.out _).mono ?_
  rintro e w1 ⟨rfl, b1⟩
  have x1 := (Box.made w op n m).kept b1
  have l1 := x1.lt
  have B1 := below_next (bel_one w _) b1
  clear b1
  have y0 : ∀ o, (w1.alloc o).cell? ⟨w.heap.size, 0, none⟩ = some (.int .i64 op) := fun o => (x1.alloc o).c0
  go_wp2_with fail
  refine (b_byte w1.heap.size w1.heap.size (Lib.byteCells []) _ _ (builder_fresh w1) (by decide) (by simp)).mono ?_
  rintro e w2 ⟨rfl, a2, b2⟩
  rw [Int.emod_eq_of_lt ho.out.1 (by have := ho.out.2; omega)] at a2
  have h2 := hide (at_byte a2 rfl ho.out.1 ho.out.2)
  have t2 := (bel_one w1 _).trans b2
  have x2 := x1.below t2 l1
  have q2 := t2.size
  clear a2 b2 y0
  have z0 := x2.c0
  have z1 := x2.c1
  have z2 := x2.c2
  go_wp2_with fail
  refine (kind_is op 2 _ hk'.out).mono ?_
  rintro e w3 ⟨rfl, rfl⟩
  go_wp2_with fail
  refine (brings_any m _ hm4.out).mono ?_
  rintro e w4 ⟨rfl, rfl⟩
  go_wp2_with fail
  refine (b_byte w1.heap.size w1.heap.size (Lib.byteCells ([] ++ [byI op])) _ _ h2.out (by rw [Lib.byteCells_length]; simp) q2).mono ?_
  rintro e w5 ⟨rfl, a5, b5⟩
  have h5 := hide (at_byte a5 rfl hbb.out.1 hbb.out.2)
  have t5 := t2.trans b5
  have q5 := t5.size
  clear a5 b5
  go_wp2_with fail
  refine (b_string w1.heap.size w1.heap.size (([] ++ [byI op]) ++ [byI (bb m)]) _ h5.out q5).mono ?_
  rintro e w6 ⟨rfl, b6⟩
  have t6 := t5.trans b6
  go_wp2_with fail
  go_ret2
  exact ⟨rfl, below_next B1 t6⟩
set_option maxHeartbeats 400000 in
theorem bytes_3 (op n m : Int) (w : World) (hn : I64 n) (hm : I64 m) (hk : kd op = 3) (h : rt op n m = true) :
    Calls Tryz.prog 117 #[ins op n m] w fun e w' => e = .returned (.tuple #[.string (str (byI op :: enc n (szU n))), .int .i64 0]) ∧ Below w.heap.size w w' := by
  have ho := hide (kd_byte (op := op) (by omega))
  have hk' := hide hk
  have RT := hide (fun w => right_as op n m true w hn hm h)
  have hn0 := hide (show 0 ≤ n by rw [rt_3 n m hk] at h; simp at h; omega)
  clear hk hn hm h
  unfold ins at RT ⊢
  go_enter Tryz.func117, Tryz.ntmps117
  go_wp2_with fail
  refine (RT.out _).mono ?_
  rintro e w1 ⟨rfl, b1⟩
  have x1 := (Box.made w op n m).kept b1
  have l1 := x1.lt
  have B1 := below_next (bel_one w _) b1
  clear b1
  have y0 : ∀ o, (w1.alloc o).cell? ⟨w.heap.size, 0, none⟩ = some (.int .i64 op) := fun o => (x1.alloc o).c0
  go_wp2_with fail
  refine (b_byte w1.heap.size w1.heap.size (Lib.byteCells []) _ _ (builder_fresh w1) (by decide) (by simp)).mono ?_
  rintro e w2 ⟨rfl, a2, b2⟩
  rw [Int.emod_eq_of_lt ho.out.1 (by have := ho.out.2; omega)] at a2
  have h2 := hide (at_byte a2 rfl ho.out.1 ho.out.2)
  have t2 := (bel_one w1 _).trans b2
  have x2 := x1.below t2 l1
  have q2 := t2.size
  clear a2 b2 y0
  have z0 := x2.c0
  have z1 := x2.c1
  have z2 := x2.c2
  go_wp2_with fail
  refine (kind_is op 3 _ hk'.out).mono ?_
  rintro e w3 ⟨rfl, rfl⟩
  go_wp2_with fail
  refine (unsigned_any n _ hn0.out).mono ?_
  rintro e w4 ⟨rfl, b4⟩
  have h4 := hide (builder_kept h2.out b4)
  have t4 := t2.trans (b4.mono q2)
  have q4 := t4.size
  clear b4
  go_wp2_with fail
  refine (b_text w1.heap.size w1.heap.size (Lib.byteCells ([] ++ [byI op])) (str (enc n (szU n))) _ h4.out (by rw [Lib.byteCells_length, str_size]; simp only [List.length_append, List.length_cons, List.length_nil, enc_length]; have := szU_bd n; omega) q4).mono ?_
  rintro e w5 ⟨rfl, a5, b5⟩
  have h5 := hide (at_text a5 rfl)
  have t5 := t4.trans b5
  have q5 := t5.size
  clear a5 b5
  go_wp2_with fail
  refine (b_string w1.heap.size w1.heap.size (([] ++ [byI op]) ++ enc n (szU n)) _ h5.out q5).mono ?_
  rintro e w6 ⟨rfl, b6⟩
  have t6 := t5.trans b6
  go_wp2_with fail
  go_ret2
  exact ⟨rfl, below_next B1 t6⟩
set_option maxHeartbeats 400000 in
theorem bytes_4 (op n m : Int) (w : World) (hn : I64 n) (hm : I64 m) (hk : kd op = 4) (h : rt op n m = true) :
    Calls Tryz.prog 117 #[ins op n m] w fun e w' => e = .returned (.tuple #[.string (str (byI op :: (enc m (szU m) ++ enc n (szU n)))), .int .i64 0]) ∧ Below w.heap.size w w' := by
  have ho := hide (kd_byte (op := op) (by omega))
  have hk' := hide hk
  have RT := hide (fun w => right_as op n m true w hn hm h)
  have hn0 := hide (show 0 ≤ n ∧ 0 ≤ m by rw [rt_4 n m hk] at h; simp at h; omega)
  clear hk hn hm h
  unfold ins at RT ⊢
  go_enter Tryz.func117, Tryz.ntmps117
  go_wp2_with fail
  refine (RT.out _).mono ?_
  rintro e w1 ⟨rfl, b1⟩
  have x1 := (Box.made w op n m).kept b1
  have l1 := x1.lt
  have B1 := below_next (bel_one w _) b1
  clear b1
  have y0 : ∀ o, (w1.alloc o).cell? ⟨w.heap.size, 0, none⟩ = some (.int .i64 op) := fun o => (x1.alloc o).c0
  go_wp2_with fail
  refine (b_byte w1.heap.size w1.heap.size (Lib.byteCells []) _ _ (builder_fresh w1) (by decide) (by simp)).mono ?_
  rintro e w2 ⟨rfl, a2, b2⟩
  rw [Int.emod_eq_of_lt ho.out.1 (by have := ho.out.2; omega)] at a2
  have h2 := hide (at_byte a2 rfl ho.out.1 ho.out.2)
  have t2 := (bel_one w1 _).trans b2
  have x2 := x1.below t2 l1
  have q2 := t2.size
  clear a2 b2 y0
  have z0 := x2.c0
  have z1 := x2.c1
  have z2 := x2.c2
  go_wp2_with fail
  refine (kind_is op 4 _ hk'.out).mono ?_
  rintro e w3 ⟨rfl, rfl⟩
  go_wp2_with fail
  refine (unsigned_any m _ hn0.out.2).mono ?_
  rintro e w4 ⟨rfl, b4⟩
  have h4 := hide (builder_kept h2.out b4)
  have t4 := t2.trans (b4.mono q2)
  have q4 := t4.size
  clear b4
  go_wp2_with fail
  refine (b_text w1.heap.size w1.heap.size (Lib.byteCells ([] ++ [byI op])) (str (enc m (szU m))) _ h4.out (by rw [Lib.byteCells_length, str_size]; simp only [List.length_append, List.length_cons, List.length_nil, enc_length]; have := szU_bd m; omega) q4).mono ?_
  rintro e w5 ⟨rfl, a5, b5⟩
  have h5 := hide (at_text a5 rfl)
  have t5 := t4.trans b5
  have q5 := t5.size
  clear a5 b5
  have x5 := x1.below t5 l1
  have c05 := x5.c0
  have c15 := x5.c1
  have c25 := x5.c2
  go_wp2_with fail
  refine (unsigned_any n _ hn0.out.1).mono ?_
  rintro e w6 ⟨rfl, b6⟩
  have h6 := hide (builder_kept h5.out b6)
  have t6 := t5.trans (b6.mono q5)
  have q6 := t6.size
  clear b6
  go_wp2_with fail
  refine (b_text w1.heap.size w1.heap.size (Lib.byteCells (([] ++ [byI op]) ++ enc m (szU m))) (str (enc n (szU n))) _ h6.out (by rw [Lib.byteCells_length, str_size]; simp only [List.length_append, List.length_cons, List.length_nil, enc_length]; have := szU_bd m; have := szU_bd n; omega) q6).mono ?_
  rintro e w7 ⟨rfl, a7, b7⟩
  have h7 := hide (at_text a7 rfl)
  have t7 := t6.trans b7
  have q7 := t7.size
  clear a7 b7
  go_wp2_with fail
  refine (b_string w1.heap.size w1.heap.size ((([] ++ [byI op]) ++ enc m (szU m)) ++ enc n (szU n)) _ h7.out q7).mono ?_
  rintro e w8 ⟨rfl, b8⟩
  have t8 := t7.trans b8
  go_wp2_with fail
  go_ret2
  exact ⟨rfl, below_next B1 t8⟩
set_option maxHeartbeats 400000 in
theorem bytes_5 (op n m : Int) (w : World) (hn : I64 n) (hm : I64 m) (hk : kd op = 5) (h : rt op n m = true) :
    Calls Tryz.prog 117 #[ins op n m] w fun e w' => e = .returned (.tuple #[.string (str (byI op :: enc n (szS n))), .int .i64 0]) ∧ Below w.heap.size w w' := by
  have ho := hide (kd_byte (op := op) (by omega))
  have hk' := hide hk
  have RT := hide (fun w => right_as op n m true w hn hm h)
  clear hk hn hm h
  unfold ins at RT ⊢
  go_enter Tryz.func117, Tryz.ntmps117
  go_wp2_with fail
  refine (RT.out _).mono ?_
  rintro e w1 ⟨rfl, b1⟩
  have x1 := (Box.made w op n m).kept b1
  have l1 := x1.lt
  have B1 := below_next (bel_one w _) b1
  clear b1
  have y0 : ∀ o, (w1.alloc o).cell? ⟨w.heap.size, 0, none⟩ = some (.int .i64 op) := fun o => (x1.alloc o).c0
  go_wp2_with fail
  refine (b_byte w1.heap.size w1.heap.size (Lib.byteCells []) _ _ (builder_fresh w1) (by decide) (by simp)).mono ?_
  rintro e w2 ⟨rfl, a2, b2⟩
  rw [Int.emod_eq_of_lt ho.out.1 (by have := ho.out.2; omega)] at a2
  have h2 := hide (at_byte a2 rfl ho.out.1 ho.out.2)
  have t2 := (bel_one w1 _).trans b2
  have x2 := x1.below t2 l1
  have q2 := t2.size
  clear a2 b2 y0
  have z0 := x2.c0
  have z1 := x2.c1
  have z2 := x2.c2
  go_wp2_with fail
  refine (kind_is op 5 _ hk'.out).mono ?_
  rintro e w3 ⟨rfl, rfl⟩
  go_wp2_with fail
  refine (S_any n _).mono ?_
  rintro e w4 ⟨rfl, b4⟩
  have h4 := hide (builder_kept h2.out b4)
  have t4 := t2.trans (b4.mono q2)
  have q4 := t4.size
  clear b4
  go_wp2_with fail
  refine (b_text w1.heap.size w1.heap.size (Lib.byteCells ([] ++ [byI op])) (str (enc n (szS n))) _ h4.out (by rw [Lib.byteCells_length, str_size]; simp only [List.length_append, List.length_cons, List.length_nil, enc_length]; have := szS_bd n; omega) q4).mono ?_
  rintro e w5 ⟨rfl, a5, b5⟩
  have h5 := hide (at_text a5 rfl)
  have t5 := t4.trans b5
  have q5 := t5.size
  clear a5 b5
  go_wp2_with fail
  refine (b_string w1.heap.size w1.heap.size (([] ++ [byI op]) ++ enc n (szS n)) _ h5.out q5).mono ?_
  rintro e w6 ⟨rfl, b6⟩
  have t6 := t5.trans b6
  go_wp2_with fail
  go_ret2
  exact ⟨rfl, below_next B1 t6⟩
set_option maxHeartbeats 400000 in
theorem bytes_6 (op n m : Int) (w : World) (hn : I64 n) (hm : I64 m) (hk : kd op = 6) (h : rt op n m = true) :
    Calls Tryz.prog 117 #[ins op n m] w fun e w' => e = .returned (.tuple #[.string (str (byI op :: enc n (szS n))), .int .i64 0]) ∧ Below w.heap.size w w' := by
  have ho := hide (kd_byte (op := op) (by omega))
  have hk' := hide hk
  have RT := hide (fun w => right_as op n m true w hn hm h)
  clear hk hn hm h
  unfold ins at RT ⊢
  go_enter Tryz.func117, Tryz.ntmps117
  go_wp2_with fail
  refine (RT.out _).mono ?_
  rintro e w1 ⟨rfl, b1⟩
  have x1 := (Box.made w op n m).kept b1
  have l1 := x1.lt
  have B1 := below_next (bel_one w _) b1
  clear b1
  have y0 : ∀ o, (w1.alloc o).cell? ⟨w.heap.size, 0, none⟩ = some (.int .i64 op) := fun o => (x1.alloc o).c0
  go_wp2_with fail
  refine (b_byte w1.heap.size w1.heap.size (Lib.byteCells []) _ _ (builder_fresh w1) (by decide) (by simp)).mono ?_
  rintro e w2 ⟨rfl, a2, b2⟩
  rw [Int.emod_eq_of_lt ho.out.1 (by have := ho.out.2; omega)] at a2
  have h2 := hide (at_byte a2 rfl ho.out.1 ho.out.2)
  have t2 := (bel_one w1 _).trans b2
  have x2 := x1.below t2 l1
  have q2 := t2.size
  clear a2 b2 y0
  have z0 := x2.c0
  have z1 := x2.c1
  have z2 := x2.c2
  go_wp2_with fail
  refine (kind_is op 6 _ hk'.out).mono ?_
  rintro e w3 ⟨rfl, rfl⟩
  go_wp2_with fail
  refine (S_any n _).mono ?_
  rintro e w4 ⟨rfl, b4⟩
  have h4 := hide (builder_kept h2.out b4)
  have t4 := t2.trans (b4.mono q2)
  have q4 := t4.size
  clear b4
  go_wp2_with fail
  refine (b_text w1.heap.size w1.heap.size (Lib.byteCells ([] ++ [byI op])) (str (enc n (szS n))) _ h4.out (by rw [Lib.byteCells_length, str_size]; simp only [List.length_append, List.length_cons, List.length_nil, enc_length]; have := szS_bd n; omega) q4).mono ?_
  rintro e w5 ⟨rfl, a5, b5⟩
  have h5 := hide (at_text a5 rfl)
  have t5 := t4.trans b5
  have q5 := t5.size
  clear a5 b5
  go_wp2_with fail
  refine (b_string w1.heap.size w1.heap.size (([] ++ [byI op]) ++ enc n (szS n)) _ h5.out q5).mono ?_
  rintro e w6 ⟨rfl, b6⟩
  have t6 := t5.trans b6
  go_wp2_with fail
  go_ret2
  exact ⟨rfl, below_next B1 t6⟩
theorem tl_1 {op : Int} (n m : Int) (hk : kd op = 1) : tl op n m = [] := by
  simp [tl, hk]
theorem tl_2 {op : Int} (n m : Int) (hk : kd op = 2) : tl op n m = [byI (bb m)] := by
  simp [tl, hk]
theorem tl_3 {op : Int} (n m : Int) (hk : kd op = 3) : tl op n m = enc n (szU n) := by
  simp [tl, hk]
theorem tl_4 {op : Int} (n m : Int) (hk : kd op = 4) : tl op n m = enc m (szU m) ++ enc n (szU n) := by
  simp [tl, hk]
theorem tl_5 {op : Int} (n m : Int) (hk : kd op = 5) : tl op n m = enc n (szS n) := by
  simp [tl, hk]
theorem tl_6 {op : Int} (n m : Int) (hk : kd op = 6) : tl op n m = enc n (szS n) := by
  simp [tl, hk]
theorem rt_kd {op n m : Int} (h : rt op n m = true) : kd op ≠ 0 := by
  intro k; rw [rt_0 n m k] at h; simp at h
theorem bytes_yes (op n m : Int) (w : World) (hn : I64 n) (hm : I64 m) (h : rt op n m = true) :
    Calls Tryz.prog 117 #[ins op n m] w fun e w' => e = .returned (.tuple #[.string (str (iby op n m)), .int .i64 0]) ∧ Below w.heap.size w w' := by
  unfold iby
  rcases kd_bd op with k | k | k | k | k | k | k
  · exact absurd k (rt_kd h)
  · rw [tl_1 n m k]; exact bytes_1 op n m w hn hm k h
  · rw [tl_2 n m k]; exact bytes_2 op n m w hn hm k h
  · rw [tl_3 n m k]; exact bytes_3 op n m w hn hm k h
  · rw [tl_4 n m k]; exact bytes_4 op n m w hn hm k h
  · rw [tl_5 n m k]; exact bytes_5 op n m w hn hm k h
  · rw [tl_6 n m k]; exact bytes_6 op n m w hn hm k h
/-- What Bytes answers: the bytes and no error, or none and an error. -/
def byr (op n m : Int) : List UInt8 × Int := if rt op n m = true then (iby op n m, 0) else ([], 4)
theorem bytes_is (op n m : Int) (l : List UInt8) (e : Int) (w : World) (hn : I64 n) (hm : I64 m) (h : byr op n m = (l, e)) :
    Calls Tryz.prog 117 #[ins op n m] w fun r w' => r = .returned (.tuple #[.string (str l), .int .i64 e]) ∧ Below w.heap.size w w' := by
  unfold byr at h
  split at h
  · cases h; exact bytes_yes op n m w hn hm (by assumption)
  · cases h; exact bytes_no op n m w hn hm (by simpa using ‹¬ rt op n m = true›)
end Go.Proofs.YtcbfpikggphokaaGreatDoor
