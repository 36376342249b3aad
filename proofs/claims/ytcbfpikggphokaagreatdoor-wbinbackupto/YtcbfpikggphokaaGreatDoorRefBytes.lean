/-
  The document's own function Bytes writes an instruction as the plain function iby says, or refuses it, just where it is not right; memory that was there stays as it was.
-/
import Derived.Test.YtcbfpikggphokaaGreatDoorBytes
import Derived.Test.YtcbfpikggphokaaGreatDoorRefS
namespace Go.Proofs.YtcbfpikggphokaaGreatDoor
open Go.RowKit

/-- A number without a sign, or none. -/
def ru (n : Int) : List UInt8 × Bool := if 0 ≤ n then (enc n (szU n), true) else ([], false)
theorem refU_is (n : Int) (l : List UInt8) (b : Bool) (w : World) (hn : I64 n) (h : ru n = (l, b)) :
    Calls Tryz.prog 51 #[.int .i64 n] w fun e w' => e = .returned (.tuple #[.string (str l), .bool b]) ∧ Below w.heap.size w w' := by
  unfold ru at h
  split at h
  · cases h; exact refU_any n w (by assumption) hn.2
  · cases h
    refine (refU_no n w (by omega)).mono ?_
    rintro e w' ⟨rfl, rfl⟩
    exact ⟨rfl, Below.refl _ _⟩
theorem one_str (w : World) (x c : Int) (hx : x = c) (h0 : 0 ≤ c) (h1 : c ≤ 255) :
    (convert 55 9 (.slice (some ⟨w.heap.size, 0, none⟩) 1 1)).run Tryz.prog (w.alloc (.cells #[.int .u8 x] 5)) = .ok (.string (str [byI c])) (w.alloc (.cells #[.int .u8 x] 5)) := by
  subst hx
  refine run_convert_bytes_back (P := Tryz.prog) _ 55 9 5 ⟨w.heap.size, 0, none⟩ 1 [byI x] Tryz.underlying55 Tryz.underlying5 Tryz.underlying9 ?_
  intro j hj
  have e : j = 0 := by simp at hj; omega
  subst e
  simp [Addr.add, byI_val h0 h1]
theorem str_append (a b : List UInt8) : str a ++ str b = str (a ++ b) := by
  apply ByteArray.ext
  simp [str]
theorem ru_len {n : Int} {l : List UInt8} {b : Bool} (h : Hid (ru n = (l, b))) : l.length ≤ 9 := by
  have h := h.out
  unfold ru at h
  split at h
  · cases h; rw [enc_length]; exact (szU_bd n).2
  · cases h; decide
theorem ret_sb {a b : ByteArray} {c : Bool} (h : a = b) : Ending.returned (.tuple #[.string a, .bool c]) = .returned (.tuple #[.string b, .bool c]) := by rw [h]
theorem r_bytes_no (op n m : Int) (w : World) (h : rt op n m = false) :
    Calls Tryz.prog 52 #[ins op n m] w fun e w' => e = .returned (.tuple #[.string (str []), .bool false]) ∧ Below w.heap.size w w' := by
  have RT := hide (fun w => r_right_as op n m false w h)
  clear h
  unfold ins at RT ⊢
  go_enter Tryz.func52, Tryz.ntmps52
  go_wp2_with fail
  refine (RT.out _).mono ?_
  rintro e w1 ⟨rfl, b1⟩
  go_wp2_with fail
  go_ret2
  exact ⟨rfl, below_next (bel_one _ _) b1⟩
set_option maxHeartbeats 400000 in
theorem r_bytes_1 (op n m : Int) (w : World) (hn : I64 n) (hm : I64 m) (hk : kd op = 1) (h : rt op n m = true) :
    Calls Tryz.prog 52 #[ins op n m] w fun e w' => e = .returned (.tuple #[.string (str (byI op :: [])), .bool true]) ∧ Below w.heap.size w w' := by
  have ho := hide (kd_byte (op := op) (by omega))
  have hk' := hide hk
  have RT := hide (fun w => r_right_as op n m true w h)
  have U1 := hide (fun l b w => refU_is n l b w hn)
  have U2 := hide (fun l b w => refU_is m l b w hm)
  obtain ⟨ln, bn, en⟩ : ∃ l b, Hid (ru n = (l, b)) := ⟨_, _, hide rfl⟩
  obtain ⟨lm, bm, em⟩ : ∃ l b, Hid (ru m = (l, b)) := ⟨_, _, hide rfl⟩
  clear hk hn hm h
  unfold ins at RT ⊢
  go_enter Tryz.func52, Tryz.ntmps52
  go_wp2_with fail
  refine (RT.out _).mono ?_
  rintro e w1 ⟨rfl, b1⟩
  have x1 := (Box.made w op n m).kept b1
  have B1 := below_next (bel_one w _) b1
  clear b1
  have z0 := x1.c0
  have y1 : ∀ o, (w1.alloc o).cell? ⟨w.heap.size, 1, none⟩ = some (.int .i64 n) := fun o => (x1.alloc o).c1
  have hcv := one_str w1 (op % 256) op (by have := ho.out; omega) ho.out.1 ho.out.2
  go_wp2_with fail
  refine (U1.out ln bn _ en.out).mono ?_
  rintro e w2 ⟨rfl, b2⟩
  have x2 := (x1.alloc _).kept b2
  have B2 := below_next (below_next B1 (bel_one w1 _)) b2
  clear b2 z0 y1 hcv
  have c2 := x2.c2
  go_wp2_with fail
  refine (U2.out lm bm _ em.out).mono ?_
  rintro e w3 ⟨rfl, b3⟩
  have x3 := x2.kept b3
  have B3 := below_next B2 b3
  clear b3 c2
  have d0 := x3.c0
  have d1 := x3.c1
  have d2 := x3.c2
  go_wp2_with fail
  refine (r_kind_is op 1 _ hk'.out).mono ?_
  rintro e w4 ⟨rfl, rfl⟩
  go_wp2_with fail
  go_ret2
  exact ⟨rfl, B3⟩
set_option maxHeartbeats 400000 in
theorem r_bytes_20 (op n : Int) (w : World) (hn : I64 n) (hm : I64 0) (hk : kd op = 2) (h : rt op n 0 = true) :
    Calls Tryz.prog 52 #[ins op n 0] w fun e w' => e = .returned (.tuple #[.string (str (byI op :: [byI 64])), .bool true]) ∧ Below w.heap.size w w' := by
  have ho := hide (kd_byte (op := op) (by omega))
  have hk' := hide hk
  have RT := hide (fun w => r_right_as op n 0 true w h)
  have U1 := hide (fun l b w => refU_is n l b w hn)
  have U2 := hide (fun l b w => refU_is 0 l b w hm)
  obtain ⟨ln, bn, en⟩ : ∃ l b, Hid (ru n = (l, b)) := ⟨_, _, hide rfl⟩
  obtain ⟨lm, bm, em⟩ : ∃ l b, Hid (ru 0 = (l, b)) := ⟨_, _, hide rfl⟩
  clear hk hn hm h
  unfold ins at RT ⊢
  go_enter Tryz.func52, Tryz.ntmps52
  go_wp2_with fail
  refine (RT.out _).mono ?_
  rintro e w1 ⟨rfl, b1⟩
  have x1 := (Box.made w op n 0).kept b1
  have B1 := below_next (bel_one w _) b1
  clear b1
  have z0 := x1.c0
  have y1 : ∀ o, (w1.alloc o).cell? ⟨w.heap.size, 1, none⟩ = some (.int .i64 n) := fun o => (x1.alloc o).c1
  have hcv := one_str w1 (op % 256) op (by have := ho.out; omega) ho.out.1 ho.out.2
  go_wp2_with fail
  refine (U1.out ln bn _ en.out).mono ?_
  rintro e w2 ⟨rfl, b2⟩
  have x2 := (x1.alloc _).kept b2
  have B2 := below_next (below_next B1 (bel_one w1 _)) b2
  clear b2 z0 y1 hcv
  have c2 := x2.c2
  go_wp2_with fail
  refine (U2.out lm bm _ em.out).mono ?_
  rintro e w3 ⟨rfl, b3⟩
  have x3 := x2.kept b3
  have B3 := below_next B2 b3
  clear b3 c2
  have d0 := x3.c0
  have d1 := x3.c1
  have d2 := x3.c2
  go_wp2_with fail
  refine (r_kind_is op 2 _ hk'.out).mono ?_
  rintro e w4 ⟨rfl, rfl⟩
  go_wp2_with fail
  go_ret2
  exact ⟨ret_sb (str_append _ [byI 64]), B3⟩
set_option maxHeartbeats 400000 in
theorem r_bytes_21 (op n : Int) (w : World) (hn : I64 n) (hm : I64 1) (hk : kd op = 2) (h : rt op n 1 = true) :
    Calls Tryz.prog 52 #[ins op n 1] w fun e w' => e = .returned (.tuple #[.string (str (byI op :: [byI 127])), .bool true]) ∧ Below w.heap.size w w' := by
  have ho := hide (kd_byte (op := op) (by omega))
  have hk' := hide hk
  have RT := hide (fun w => r_right_as op n 1 true w h)
  have U1 := hide (fun l b w => refU_is n l b w hn)
  have U2 := hide (fun l b w => refU_is 1 l b w hm)
  obtain ⟨ln, bn, en⟩ : ∃ l b, Hid (ru n = (l, b)) := ⟨_, _, hide rfl⟩
  obtain ⟨lm, bm, em⟩ : ∃ l b, Hid (ru 1 = (l, b)) := ⟨_, _, hide rfl⟩
  clear hk hn hm h
  unfold ins at RT ⊢
  go_enter Tryz.func52, Tryz.ntmps52
  go_wp2_with fail
  refine (RT.out _).mono ?_
  rintro e w1 ⟨rfl, b1⟩
  have x1 := (Box.made w op n 1).kept b1
  have B1 := below_next (bel_one w _) b1
  clear b1
  have z0 := x1.c0
  have y1 : ∀ o, (w1.alloc o).cell? ⟨w.heap.size, 1, none⟩ = some (.int .i64 n) := fun o => (x1.alloc o).c1
  have hcv := one_str w1 (op % 256) op (by have := ho.out; omega) ho.out.1 ho.out.2
  go_wp2_with fail
  refine (U1.out ln bn _ en.out).mono ?_
  rintro e w2 ⟨rfl, b2⟩
  have x2 := (x1.alloc _).kept b2
  have B2 := below_next (below_next B1 (bel_one w1 _)) b2
  clear b2 z0 y1 hcv
  have c2 := x2.c2
  go_wp2_with fail
  refine (U2.out lm bm _ em.out).mono ?_
  rintro e w3 ⟨rfl, b3⟩
  have x3 := x2.kept b3
  have B3 := below_next B2 b3
  clear b3 c2
  have d0 := x3.c0
  have d1 := x3.c1
  have d2 := x3.c2
  go_wp2_with fail
  refine (r_kind_is op 2 _ hk'.out).mono ?_
  rintro e w4 ⟨rfl, rfl⟩
  have hcv2 := fun w => one_str w 127 127 rfl (by decide) (by decide)
  go_wp2_with fail
  go_ret2
  exact ⟨ret_sb (str_append _ [byI 127]), below_next B3 (bel_one _ _)⟩
set_option maxHeartbeats 400000 in
theorem r_bytes_22 (op n : Int) (w : World) (hn : I64 n) (hm : I64 2) (hk : kd op = 2) (h : rt op n 2 = true) :
    Calls Tryz.prog 52 #[ins op n 2] w fun e w' => e = .returned (.tuple #[.string (str (byI op :: [byI 126])), .bool true]) ∧ Below w.heap.size w w' := by
  have ho := hide (kd_byte (op := op) (by omega))
  have hk' := hide hk
  have RT := hide (fun w => r_right_as op n 2 true w h)
  have U1 := hide (fun l b w => refU_is n l b w hn)
  have U2 := hide (fun l b w => refU_is 2 l b w hm)
  obtain ⟨ln, bn, en⟩ : ∃ l b, Hid (ru n = (l, b)) := ⟨_, _, hide rfl⟩
  obtain ⟨lm, bm, em⟩ : ∃ l b, Hid (ru 2 = (l, b)) := ⟨_, _, hide rfl⟩
  clear hk hn hm h
  unfold ins at RT ⊢
  go_enter Tryz.func52, Tryz.ntmps52
  go_wp2_with fail
  refine (RT.out _).mono ?_
  rintro e w1 ⟨rfl, b1⟩
  have x1 := (Box.made w op n 2).kept b1
  have B1 := below_next (bel_one w _) b1
  clear b1
  have z0 := x1.c0
  have y1 : ∀ o, (w1.alloc o).cell? ⟨w.heap.size, 1, none⟩ = some (.int .i64 n) := fun o => (x1.alloc o).c1
  have hcv := one_str w1 (op % 256) op (by have := ho.out; omega) ho.out.1 ho.out.2
  go_wp2_with fail
  refine (U1.out ln bn _ en.out).mono ?_
  rintro e w2 ⟨rfl, b2⟩
  have x2 := (x1.alloc _).kept b2
  have B2 := below_next (below_next B1 (bel_one w1 _)) b2
  clear b2 z0 y1 hcv
  have c2 := x2.c2
  go_wp2_with fail
  refine (U2.out lm bm _ em.out).mono ?_
  rintro e w3 ⟨rfl, b3⟩
  have x3 := x2.kept b3
  have B3 := below_next B2 b3
  clear b3 c2
  have d0 := x3.c0
  have d1 := x3.c1
  have d2 := x3.c2
  go_wp2_with fail
  refine (r_kind_is op 2 _ hk'.out).mono ?_
  rintro e w4 ⟨rfl, rfl⟩
  have hcv2 := fun w => one_str w 126 126 rfl (by decide) (by decide)
  go_wp2_with fail
  go_ret2
  exact ⟨ret_sb (str_append _ [byI 126]), below_next B3 (bel_one _ _)⟩
set_option maxHeartbeats 400000 in
theorem r_bytes_23 (op n : Int) (w : World) (hn : I64 n) (hm : I64 3) (hk : kd op = 2) (h : rt op n 3 = true) :
    Calls Tryz.prog 52 #[ins op n 3] w fun e w' => e = .returned (.tuple #[.string (str (byI op :: [byI 125])), .bool true]) ∧ Below w.heap.size w w' := by
  have ho := hide (kd_byte (op := op) (by omega))
  have hk' := hide hk
  have RT := hide (fun w => r_right_as op n 3 true w h)
  have U1 := hide (fun l b w => refU_is n l b w hn)
  have U2 := hide (fun l b w => refU_is 3 l b w hm)
  obtain ⟨ln, bn, en⟩ : ∃ l b, Hid (ru n = (l, b)) := ⟨_, _, hide rfl⟩
  obtain ⟨lm, bm, em⟩ : ∃ l b, Hid (ru 3 = (l, b)) := ⟨_, _, hide rfl⟩
  clear hk hn hm h
  unfold ins at RT ⊢
  go_enter Tryz.func52, Tryz.ntmps52
  go_wp2_with fail
  refine (RT.out _).mono ?_
  rintro e w1 ⟨rfl, b1⟩
  have x1 := (Box.made w op n 3).kept b1
  have B1 := below_next (bel_one w _) b1
  clear b1
  have z0 := x1.c0
  have y1 : ∀ o, (w1.alloc o).cell? ⟨w.heap.size, 1, none⟩ = some (.int .i64 n) := fun o => (x1.alloc o).c1
  have hcv := one_str w1 (op % 256) op (by have := ho.out; omega) ho.out.1 ho.out.2
  go_wp2_with fail
  refine (U1.out ln bn _ en.out).mono ?_
  rintro e w2 ⟨rfl, b2⟩
  have x2 := (x1.alloc _).kept b2
  have B2 := below_next (below_next B1 (bel_one w1 _)) b2
  clear b2 z0 y1 hcv
  have c2 := x2.c2
  go_wp2_with fail
  refine (U2.out lm bm _ em.out).mono ?_
  rintro e w3 ⟨rfl, b3⟩
  have x3 := x2.kept b3
  have B3 := below_next B2 b3
  clear b3 c2
  have d0 := x3.c0
  have d1 := x3.c1
  have d2 := x3.c2
  go_wp2_with fail
  refine (r_kind_is op 2 _ hk'.out).mono ?_
  rintro e w4 ⟨rfl, rfl⟩
  have hcv2 := fun w => one_str w 125 125 rfl (by decide) (by decide)
  go_wp2_with fail
  go_ret2
  exact ⟨ret_sb (str_append _ [byI 125]), below_next B3 (bel_one _ _)⟩
set_option maxHeartbeats 400000 in
theorem r_bytes_24 (op n : Int) (w : World) (hn : I64 n) (hm : I64 4) (hk : kd op = 2) (h : rt op n 4 = true) :
    Calls Tryz.prog 52 #[ins op n 4] w fun e w' => e = .returned (.tuple #[.string (str (byI op :: [byI 124])), .bool true]) ∧ Below w.heap.size w w' := by
  have ho := hide (kd_byte (op := op) (by omega))
  have hk' := hide hk
  have RT := hide (fun w => r_right_as op n 4 true w h)
  have U1 := hide (fun l b w => refU_is n l b w hn)
  have U2 := hide (fun l b w => refU_is 4 l b w hm)
  obtain ⟨ln, bn, en⟩ : ∃ l b, Hid (ru n = (l, b)) := ⟨_, _, hide rfl⟩
  obtain ⟨lm, bm, em⟩ : ∃ l b, Hid (ru 4 = (l, b)) := ⟨_, _, hide rfl⟩
  clear hk hn hm h
  unfold ins at RT ⊢
  go_enter Tryz.func52, Tryz.ntmps52
  go_wp2_with fail
  refine (RT.out _).mono ?_
  rintro e w1 ⟨rfl, b1⟩
  have x1 := (Box.made w op n 4).kept b1
  have B1 := below_next (bel_one w _) b1
  clear b1
  have z0 := x1.c0
  have y1 : ∀ o, (w1.alloc o).cell? ⟨w.heap.size, 1, none⟩ = some (.int .i64 n) := fun o => (x1.alloc o).c1
  have hcv := one_str w1 (op % 256) op (by have := ho.out; omega) ho.out.1 ho.out.2
  go_wp2_with fail
  refine (U1.out ln bn _ en.out).mono ?_
  rintro e w2 ⟨rfl, b2⟩
  have x2 := (x1.alloc _).kept b2
  have B2 := below_next (below_next B1 (bel_one w1 _)) b2
  clear b2 z0 y1 hcv
  have c2 := x2.c2
  go_wp2_with fail
  refine (U2.out lm bm _ em.out).mono ?_
  rintro e w3 ⟨rfl, b3⟩
  have x3 := x2.kept b3
  have B3 := below_next B2 b3
  clear b3 c2
  have d0 := x3.c0
  have d1 := x3.c1
  have d2 := x3.c2
  go_wp2_with fail
  refine (r_kind_is op 2 _ hk'.out).mono ?_
  rintro e w4 ⟨rfl, rfl⟩
  have hcv2 := fun w => one_str w 124 124 rfl (by decide) (by decide)
  go_wp2_with fail
  go_ret2
  exact ⟨ret_sb (str_append _ [byI 124]), below_next B3 (bel_one _ _)⟩
set_option maxHeartbeats 400000 in
theorem r_bytes_3 (op n m : Int) (w : World) (hn : I64 n) (hm : I64 m) (hk : kd op = 3) (h : rt op n m = true) :
    Calls Tryz.prog 52 #[ins op n m] w fun e w' => e = .returned (.tuple #[.string (str (byI op :: enc n (szU n))), .bool true]) ∧ Below w.heap.size w w' := by
  have ho := hide (kd_byte (op := op) (by omega))
  have hk' := hide hk
  have RT := hide (fun w => r_right_as op n m true w h)
  have U1 := hide (fun l b w => refU_is n l b w hn)
  have U2 := hide (fun l b w => refU_is m l b w hm)
  have en2 := hide (fun l b (q : Hid (ru n = (l, b))) => (show l = enc n (szU n) by have := q.out; rw [rt_3 n m hk] at h; simp at h; unfold ru at this; rw [if_pos h.1.1] at this; cases this; rfl))
  obtain ⟨ln, bn, en⟩ : ∃ l b, Hid (ru n = (l, b)) := ⟨_, _, hide rfl⟩
  obtain ⟨lm, bm, em⟩ : ∃ l b, Hid (ru m = (l, b)) := ⟨_, _, hide rfl⟩
  clear hk hn hm h
  unfold ins at RT ⊢
  go_enter Tryz.func52, Tryz.ntmps52
  go_wp2_with fail
  refine (RT.out _).mono ?_
  rintro e w1 ⟨rfl, b1⟩
  have x1 := (Box.made w op n m).kept b1
  have B1 := below_next (bel_one w _) b1
  clear b1
  have z0 := x1.c0
  have y1 : ∀ o, (w1.alloc o).cell? ⟨w.heap.size, 1, none⟩ = some (.int .i64 n) := fun o => (x1.alloc o).c1
  have hcv := one_str w1 (op % 256) op (by have := ho.out; omega) ho.out.1 ho.out.2
  go_wp2_with fail
  refine (U1.out ln bn _ en.out).mono ?_
  rintro e w2 ⟨rfl, b2⟩
  have x2 := (x1.alloc _).kept b2
  have B2 := below_next (below_next B1 (bel_one w1 _)) b2
  clear b2 z0 y1 hcv
  have c2 := x2.c2
  go_wp2_with fail
  refine (U2.out lm bm _ em.out).mono ?_
  rintro e w3 ⟨rfl, b3⟩
  have x3 := x2.kept b3
  have B3 := below_next B2 b3
  clear b3 c2
  have d0 := x3.c0
  have d1 := x3.c1
  have d2 := x3.c2
  go_wp2_with fail
  refine (r_kind_is op 3 _ hk'.out).mono ?_
  rintro e w4 ⟨rfl, rfl⟩
  have hz : ¬ 9223372036854775807 < (str [byI op]).size + (str ln).size := by rw [str_size, str_size]; have := ru_len en; simp; omega
  go_wp2_with fail
  go_ret2
  exact ⟨ret_sb ((str_append _ _).trans (by rw [en2.out _ _ en]; rfl)), B3⟩
set_option maxHeartbeats 400000 in
theorem r_bytes_4 (op n m : Int) (w : World) (hn : I64 n) (hm : I64 m) (hk : kd op = 4) (h : rt op n m = true) :
    Calls Tryz.prog 52 #[ins op n m] w fun e w' => e = .returned (.tuple #[.string (str (byI op :: (enc m (szU m) ++ enc n (szU n)))), .bool true]) ∧ Below w.heap.size w w' := by
  have ho := hide (kd_byte (op := op) (by omega))
  have hk' := hide hk
  have RT := hide (fun w => r_right_as op n m true w h)
  have U1 := hide (fun l b w => refU_is n l b w hn)
  have U2 := hide (fun l b w => refU_is m l b w hm)
  have h0 : 0 ≤ n ∧ 0 ≤ m := by rw [rt_4 n m hk] at h; simp at h; omega
  have en2 := hide (And.intro (fun l b (q : Hid (ru n = (l, b))) => (show l = enc n (szU n) by have := q.out; unfold ru at this; rw [if_pos h0.1] at this; cases this; rfl)) (fun l b (q : Hid (ru m = (l, b))) => (show l = enc m (szU m) by have := q.out; unfold ru at this; rw [if_pos h0.2] at this; cases this; rfl)))
  clear h0
  obtain ⟨ln, bn, en⟩ : ∃ l b, Hid (ru n = (l, b)) := ⟨_, _, hide rfl⟩
  obtain ⟨lm, bm, em⟩ : ∃ l b, Hid (ru m = (l, b)) := ⟨_, _, hide rfl⟩
  clear hk hn hm h
  unfold ins at RT ⊢
  go_enter Tryz.func52, Tryz.ntmps52
  go_wp2_with fail
  refine (RT.out _).mono ?_
  rintro e w1 ⟨rfl, b1⟩
  have x1 := (Box.made w op n m).kept b1
  have B1 := below_next (bel_one w _) b1
  clear b1
  have z0 := x1.c0
  have y1 : ∀ o, (w1.alloc o).cell? ⟨w.heap.size, 1, none⟩ = some (.int .i64 n) := fun o => (x1.alloc o).c1
  have hcv := one_str w1 (op % 256) op (by have := ho.out; omega) ho.out.1 ho.out.2
  go_wp2_with fail
  refine (U1.out ln bn _ en.out).mono ?_
  rintro e w2 ⟨rfl, b2⟩
  have x2 := (x1.alloc _).kept b2
  have B2 := below_next (below_next B1 (bel_one w1 _)) b2
  clear b2 z0 y1 hcv
  have c2 := x2.c2
  go_wp2_with fail
  refine (U2.out lm bm _ em.out).mono ?_
  rintro e w3 ⟨rfl, b3⟩
  have x3 := x2.kept b3
  have B3 := below_next B2 b3
  clear b3 c2
  have d0 := x3.c0
  have d1 := x3.c1
  have d2 := x3.c2
  go_wp2_with fail
  refine (r_kind_is op 4 _ hk'.out).mono ?_
  rintro e w4 ⟨rfl, rfl⟩
  have hz : ¬ 9223372036854775807 < (str [byI op]).size + (str lm).size := by rw [str_size, str_size]; have := ru_len em; simp; omega
  have hz2 : ¬ 9223372036854775807 < (str [byI op]).size + (str lm).size + (str ln).size := by rw [str_size, str_size, str_size]; have := ru_len em; have := ru_len en; simp; omega
  have hz3 : ¬ 9223372036854775807 < (str [byI op] ++ str lm).size + (str ln).size := by rw [str_append, str_size, str_size]; have := ru_len em; have := ru_len en; simp; omega
  go_wp2_with fail
  go_ret2
  exact ⟨ret_sb (by rw [en2.out.1 _ _ en, en2.out.2 _ _ em, str_append, str_append]; rfl), B3⟩
set_option maxHeartbeats 400000 in
theorem r_bytes_5 (op n m : Int) (w : World) (hn : I64 n) (hm : I64 m) (hk : kd op = 5) (h : rt op n m = true) :
    Calls Tryz.prog 52 #[ins op n m] w fun e w' => e = .returned (.tuple #[.string (str (byI op :: enc n (szS n))), .bool true]) ∧ Below w.heap.size w w' := by
  have ho := hide (kd_byte (op := op) (by omega))
  have hk' := hide hk
  have RT := hide (fun w => r_right_as op n m true w h)
  have U1 := hide (fun l b w => refU_is n l b w hn)
  have U2 := hide (fun l b w => refU_is m l b w hm)
  have US := hide (fun w => refS_any n w hn)
  obtain ⟨ln, bn, en⟩ : ∃ l b, Hid (ru n = (l, b)) := ⟨_, _, hide rfl⟩
  obtain ⟨lm, bm, em⟩ : ∃ l b, Hid (ru m = (l, b)) := ⟨_, _, hide rfl⟩
  clear hk hn hm h
  unfold ins at RT ⊢
  go_enter Tryz.func52, Tryz.ntmps52
  go_wp2_with fail
  refine (RT.out _).mono ?_
  rintro e w1 ⟨rfl, b1⟩
  have x1 := (Box.made w op n m).kept b1
  have B1 := below_next (bel_one w _) b1
  clear b1
  have z0 := x1.c0
  have y1 : ∀ o, (w1.alloc o).cell? ⟨w.heap.size, 1, none⟩ = some (.int .i64 n) := fun o => (x1.alloc o).c1
  have hcv := one_str w1 (op % 256) op (by have := ho.out; omega) ho.out.1 ho.out.2
  go_wp2_with fail
  refine (U1.out ln bn _ en.out).mono ?_
  rintro e w2 ⟨rfl, b2⟩
  have x2 := (x1.alloc _).kept b2
  have B2 := below_next (below_next B1 (bel_one w1 _)) b2
  clear b2 z0 y1 hcv
  have c2 := x2.c2
  go_wp2_with fail
  refine (U2.out lm bm _ em.out).mono ?_
  rintro e w3 ⟨rfl, b3⟩
  have x3 := x2.kept b3
  have B3 := below_next B2 b3
  clear b3 c2
  have d0 := x3.c0
  have d1 := x3.c1
  have d2 := x3.c2
  go_wp2_with fail
  refine (r_kind_is op 5 _ hk'.out).mono ?_
  rintro e w4 ⟨rfl, rfl⟩
  go_wp2_with fail
  refine (US.out _).mono ?_
  rintro e w5 ⟨rfl, b5⟩
  have hz : ¬ 9223372036854775807 < (str [byI op]).size + (str (enc n (szS n))).size := by rw [str_size, str_size, enc_length]; have := szS_bd n; simp; omega
  go_wp2_with fail
  go_ret2
  exact ⟨ret_sb (str_append _ _), below_next B3 b5⟩
set_option maxHeartbeats 400000 in
theorem r_bytes_6 (op n m : Int) (w : World) (hn : I64 n) (hm : I64 m) (hk : kd op = 6) (h : rt op n m = true) :
    Calls Tryz.prog 52 #[ins op n m] w fun e w' => e = .returned (.tuple #[.string (str (byI op :: enc n (szS n))), .bool true]) ∧ Below w.heap.size w w' := by
  have ho := hide (kd_byte (op := op) (by omega))
  have hk' := hide hk
  have RT := hide (fun w => r_right_as op n m true w h)
  have U1 := hide (fun l b w => refU_is n l b w hn)
  have U2 := hide (fun l b w => refU_is m l b w hm)
  have US := hide (fun w => refS_any n w hn)
  obtain ⟨ln, bn, en⟩ : ∃ l b, Hid (ru n = (l, b)) := ⟨_, _, hide rfl⟩
  obtain ⟨lm, bm, em⟩ : ∃ l b, Hid (ru m = (l, b)) := ⟨_, _, hide rfl⟩
  clear hk hn hm h
  unfold ins at RT ⊢
  go_enter Tryz.func52, Tryz.ntmps52
  go_wp2_with fail
  refine (RT.out _).mono ?_
  rintro e w1 ⟨rfl, b1⟩
  have x1 := (Box.made w op n m).kept b1
  have B1 := below_next (bel_one w _) b1
  clear b1
  have z0 := x1.c0
  have y1 : ∀ o, (w1.alloc o).cell? ⟨w.heap.size, 1, none⟩ = some (.int .i64 n) := fun o => (x1.alloc o).c1
  have hcv := one_str w1 (op % 256) op (by have := ho.out; omega) ho.out.1 ho.out.2
  go_wp2_with fail
  refine (U1.out ln bn _ en.out).mono ?_
  rintro e w2 ⟨rfl, b2⟩
  have x2 := (x1.alloc _).kept b2
  have B2 := below_next (below_next B1 (bel_one w1 _)) b2
  clear b2 z0 y1 hcv
  have c2 := x2.c2
  go_wp2_with fail
  refine (U2.out lm bm _ em.out).mono ?_
  rintro e w3 ⟨rfl, b3⟩
  have x3 := x2.kept b3
  have B3 := below_next B2 b3
  clear b3 c2
  have d0 := x3.c0
  have d1 := x3.c1
  have d2 := x3.c2
  go_wp2_with fail
  refine (r_kind_is op 6 _ hk'.out).mono ?_
  rintro e w4 ⟨rfl, rfl⟩
  go_wp2_with fail
  refine (US.out _).mono ?_
  rintro e w5 ⟨rfl, b5⟩
  have hz : ¬ 9223372036854775807 < (str [byI op]).size + (str (enc n (szS n))).size := by rw [str_size, str_size, enc_length]; have := szS_bd n; simp; omega
  go_wp2_with fail
  go_ret2
  exact ⟨ret_sb (str_append _ _), below_next B3 b5⟩
theorem r_bytes_2 (op n m : Int) (w : World) (hn : I64 n) (hm : I64 m) (hk : kd op = 2) (h : rt op n m = true) :
    Calls Tryz.prog 52 #[ins op n m] w fun e w' => e = .returned (.tuple #[.string (str (byI op :: [byI (bb m)])), .bool true]) ∧ Below w.heap.size w w' := by
  have : m = 0 ∨ m = 1 ∨ m = 2 ∨ m = 3 ∨ m = 4 := by rw [rt_2 n m hk] at h; simp at h; omega
  rcases this with rfl | rfl | rfl | rfl | rfl
  · exact r_bytes_20 op n w hn hm hk h
  · exact r_bytes_21 op n w hn hm hk h
  · exact r_bytes_22 op n w hn hm hk h
  · exact r_bytes_23 op n w hn hm hk h
  · exact r_bytes_24 op n w hn hm hk h
theorem r_bytes_yes (op n m : Int) (w : World) (hn : I64 n) (hm : I64 m) (h : rt op n m = true) :
    Calls Tryz.prog 52 #[ins op n m] w fun e w' => e = .returned (.tuple #[.string (str (iby op n m)), .bool true]) ∧ Below w.heap.size w w' := by
  unfold iby
  rcases kd_bd op with k | k | k | k | k | k | k
  · exact absurd k (rt_kd h)
  · rw [tl_1 n m k]; exact r_bytes_1 op n m w hn hm k h
  · rw [tl_2 n m k]; exact r_bytes_2 op n m w hn hm k h
  · rw [tl_3 n m k]; exact r_bytes_3 op n m w hn hm k h
  · rw [tl_4 n m k]; exact r_bytes_4 op n m w hn hm k h
  · rw [tl_5 n m k]; exact r_bytes_5 op n m w hn hm k h
  · rw [tl_6 n m k]; exact r_bytes_6 op n m w hn hm k h
end Go.Proofs.YtcbfpikggphokaaGreatDoor
