/-
  An instruction's bytes begin with its first byte; two unlike ones have bytes of which none is the other's beginning: the walk of the statement InstFirst, for every two instructions.
-/
import Derived.Test.YtcipbnbeoacenaaBack
namespace Go.Proofs.Ytcipbnbeoacenaa
open Go.RowKit

theorem two_boxes (w : World) (a b c x y z : Int) : Box w.heap.size a b c ((w.alloc (.cells #[.int .i64 a, .int .i64 b, .int .i64 c] 23)).alloc (.cells #[.int .i64 x, .int .i64 y, .int .i64 z] 23)) ∧
    Box (w.heap.size + 1) x y z ((w.alloc (.cells #[.int .i64 a, .int .i64 b, .int .i64 c] 23)).alloc (.cells #[.int .i64 x, .int .i64 y, .int .i64 z] 23)) := by
  refine ⟨(Box.made w a b c).alloc _, ?_⟩
  have := Box.made (w.alloc (.cells #[.int .i64 a, .int .i64 b, .int .i64 c] 23)) x y z
  rw [show (w.alloc (.cells #[.int .i64 a, .int .i64 b, .int .i64 c] 23)).heap.size = w.heap.size + 1 by simp] at this
  exact this
theorem bel_two' (w : World) (o p : Obj) : Below w.heap.size w ((w.alloc o).alloc p) := (bel_one w o).alloc (by simp) p
theorem ext_str (l : List UInt8) (k : Nat) : ((str l).extract 0 k).toList = l.take k := by
  rw [ByteArray.toList_eq, ext_take, str_list]
theorem cut_no {a b : List UInt8} {k : Nat} (h : ¬ a.take k = b.take k) : (((str a).extract 0 k).toList == ((str b).extract 0 k).toList) = false := by
  rw [beq_eq_false_iff_ne, ext_str, ext_str]; exact h
/-- Two instructions whose bytes begin alike are one. -/
theorem iby_apart {op n m o2 n2 m2 : Int} (hn : I64 n) (h : rt op n m = true) (hn2 : I64 n2) (h2 : rt o2 n2 m2 = true) {k : Nat} (hk : k = min (iby op n m).length (iby o2 n2 m2).length)
    (e : (iby op n m).take k = (iby o2 n2 m2).take k) : op = o2 ∧ n = n2 ∧ m = m2 := by
  have e1 := back_1 op n m [] hn h
  have e2 := back_1 o2 n2 m2 [] hn2 h2
  rw [List.append_nil] at e1 e2
  rcases Nat.le_total (iby op n m).length (iby o2 n2 m2).length with c | c
  · have e3 := split_at (a := iby op n m) (b := iby o2 n2 m2) (by omega) e
    have e4 := back_1 op n m ((iby o2 n2 m2).drop k) hn h
    rw [← e3, e2] at e4
    simp at e4
    exact ⟨e4.1.1.symm, e4.1.2.1.symm, e4.1.2.2.symm⟩
  · have e3 := split_at (a := iby o2 n2 m2) (b := iby op n m) (by omega) e.symm
    have e4 := back_1 o2 n2 m2 ((iby op n m).drop k) hn2 h2
    rw [← e3, e1] at e4
    simp at e4
    exact ⟨e4.1.1, e4.1.2.1, e4.1.2.2⟩
set_option maxRecDepth 100000 in
set_option maxHeartbeats 1600000 in
theorem first_no1 (op n m o2 n2 m2 : Int) (lb : List UInt8) (eb : Int) (w : World) (hn : I64 n) (hm : I64 m) (hn2 : I64 n2) (hm2 : I64 m2) (h : rt op n m = false) (hb : byr o2 n2 m2 = (lb, eb)) :
    Calls Try.prog 8 #[ins op n m, ins o2 n2 m2] w fun e w' => e = .returned (.bool true) ∧ Below w.heap.size w w' := by
  have BX := hide (bytes_no op n m · hn hm h)
  have BY := hide (bytes_is o2 n2 m2 lb eb · hn2 hm2 hb)
  clear hn hm hn2 hm2 h hb
  unfold ins at *
  go_enter Try.func8, Try.ntmps8
  go_wp2_with fail
  refine (examples_any _).mono ?_
  rintro e w1 ⟨rfl, b1⟩
  have x1 := (two_boxes w op n m o2 n2 m2).1.kept b1
  have y1 := (two_boxes w op n m o2 n2 m2).2.kept b1
  have D1 := below_next (bel_two' w _ _) b1
  clear b1
  have c0 := x1.c0
  have c1 := x1.c1
  have c2 := x1.c2
  go_wp2_with fail
  refine (BX.out _).mono ?_
  rintro e w2 ⟨rfl, b2⟩
  have x2 := x1.kept b2
  have y2 := y1.kept b2
  have D2 := below_next D1 b2
  clear b2 c0 c1 c2
  have d0 := y2.c0
  have d1 := y2.c1
  have d2 := y2.c2
  go_wp2_with fail
  refine (BY.out _).mono ?_
  rintro e w3 ⟨rfl, b3⟩
  have x3 := x2.kept b3
  have y3 := y2.kept b3
  have D3 := below_next D2 b3
  clear b3 d0 d1 d2
  have e0 := x3.c0
  have e1 := x3.c1
  have e2 := x3.c2
  have f0 := y3.c0
  have f1 := y3.c1
  have f2 := y3.c2
  clear x1 x2 x3 y1 y2 y3
  go_wp2_with fail
  go_ret
  exact ⟨rfl, D3⟩
set_option maxRecDepth 100000 in
set_option maxHeartbeats 1600000 in
theorem first_no2 (op n m o2 n2 m2 : Int) (w : World) (hn : I64 n) (hm : I64 m) (hn2 : I64 n2) (hm2 : I64 m2) (h : rt op n m = true) (h2 : rt o2 n2 m2 = false) :
    Calls Try.prog 8 #[ins op n m, ins o2 n2 m2] w fun e w' => e = .returned (.bool true) ∧ Below w.heap.size w w' := by
  have BX := hide (bytes_yes op n m · hn hm h)
  have BY := hide (bytes_no o2 n2 m2 · hn2 hm2 h2)
  clear hn hm hn2 hm2 h h2
  unfold ins at *
  go_enter Try.func8, Try.ntmps8
  go_wp2_with fail
  refine (examples_any _).mono ?_
  rintro e w1 ⟨rfl, b1⟩
  have x1 := (two_boxes w op n m o2 n2 m2).1.kept b1
  have y1 := (two_boxes w op n m o2 n2 m2).2.kept b1
  have D1 := below_next (bel_two' w _ _) b1
  clear b1
  have c0 := x1.c0
  have c1 := x1.c1
  have c2 := x1.c2
  go_wp2_with fail
  refine (BX.out _).mono ?_
  rintro e w2 ⟨rfl, b2⟩
  have x2 := x1.kept b2
  have y2 := y1.kept b2
  have D2 := below_next D1 b2
  clear b2 c0 c1 c2
  have d0 := y2.c0
  have d1 := y2.c1
  have d2 := y2.c2
  go_wp2_with fail
  refine (BY.out _).mono ?_
  rintro e w3 ⟨rfl, b3⟩
  have x3 := x2.kept b3
  have y3 := y2.kept b3
  have D3 := below_next D2 b3
  clear b3 d0 d1 d2
  have e0 := x3.c0
  have e1 := x3.c1
  have e2 := x3.c2
  have f0 := y3.c0
  have f1 := y3.c1
  have f2 := y3.c2
  clear x1 x2 x3 y1 y2 y3
  go_wp2_with fail
  go_ret
  exact ⟨rfl, D3⟩
set_option maxRecDepth 100000 in
set_option maxHeartbeats 1600000 in
theorem first_same (op n m : Int) (w : World) (hn : I64 n) (hm : I64 m) (h : rt op n m = true) :
    Calls Try.prog 8 #[ins op n m, ins op n m] w fun e w' => e = .returned (.bool true) ∧ Below w.heap.size w w' := by
  have BX := hide (bytes_yes op n m · hn hm h)
  have l1 : (str (iby op n m)).size = (iby op n m).length := str_size _
  have p1 := iby_len op n m
  have p0 : 1 ≤ (iby op n m).length := by unfold iby; simp
  have hb := kd_byte (rt_kd h)
  have H := head_of (byI op) (tl op n m)
  rw [byI_val hb.1 hb.2] at H
  obtain ⟨h0, _, hc, _, _, hw⟩ := H
  change 0 < (str (iby op n m)).size at h0
  change ((str (iby op n m))[0].toNat : Int) = op at hc
  obtain ⟨kx, hk⟩ : ∃ k, Hid (kd op = k) := ⟨_, hide rfl⟩
  have hk1 : 0 < kx := by have := hk.out; have := rt_kd h; rcases kd_bd op with k | k | k | k | k | k | k <;> omega
  have z1 : (((iby op n m).length : Int) == 0) = false := by rw [beq_eq_false_iff_ne]; omega
  have hk2 : kx < 7 := by have := hk.out; rcases kd_bd op with k | k | k | k | k | k | k <;> omega
  have BY := BX
  generalize iby op n m = la at *
  clear hn hm h hb
  unfold ins at *
  go_enter Try.func8, Try.ntmps8
  go_wp2_with fail
  refine (examples_any _).mono ?_
  rintro e w1 ⟨rfl, b1⟩
  have x1 := (two_boxes w op n m op n m).1.kept b1
  have y1 := (two_boxes w op n m op n m).2.kept b1
  have D1 := below_next (bel_two' w _ _) b1
  clear b1
  have c0 := x1.c0
  have c1 := x1.c1
  have c2 := x1.c2
  go_wp2_with fail
  refine (BX.out _).mono ?_
  rintro e w2 ⟨rfl, b2⟩
  have x2 := x1.kept b2
  have y2 := y1.kept b2
  have D2 := below_next D1 b2
  clear b2 c0 c1 c2
  have d0 := y2.c0
  have d1 := y2.c1
  have d2 := y2.c2
  go_wp2_with fail
  refine (BY.out _).mono ?_
  rintro e w3 ⟨rfl, b3⟩
  have x3 := x2.kept b3
  have y3 := y2.kept b3
  have D3 := below_next D2 b3
  clear b3 d0 d1 d2
  have e0 := x3.c0
  have e1 := x3.c1
  have e2 := x3.c2
  have f0 := y3.c0
  have f1 := y3.c1
  have f2 := y3.c2
  clear x1 x2 x3 y1 y2 y3
  go_wp2_with fail
  go_quiet (fail)
  go_wp2_with fail
  all_goals
    obtain ⟨wr, hwr⟩ : ∃ wr, Hid (wr = w3.drewN nq) := ⟨_, hide rfl⟩
    rw [← hwr.out]
    have e0' := (show wr.cell? ⟨w.heap.size, 0, none⟩ = w3.cell? ⟨w.heap.size, 0, none⟩ by rw [hwr.out]; rfl).trans e0
    have e1' := (show wr.cell? ⟨w.heap.size, 1, none⟩ = w3.cell? ⟨w.heap.size, 1, none⟩ by rw [hwr.out]; rfl).trans e1
    have e2' := (show wr.cell? ⟨w.heap.size, 2, none⟩ = w3.cell? ⟨w.heap.size, 2, none⟩ by rw [hwr.out]; rfl).trans e2
    have f0' := (show wr.cell? ⟨w.heap.size + 1, 0, none⟩ = w3.cell? ⟨w.heap.size + 1, 0, none⟩ by rw [hwr.out]; rfl).trans f0
    have f1' := (show wr.cell? ⟨w.heap.size + 1, 1, none⟩ = w3.cell? ⟨w.heap.size + 1, 1, none⟩ by rw [hwr.out]; rfl).trans f1
    have f2' := (show wr.cell? ⟨w.heap.size + 1, 2, none⟩ = w3.cell? ⟨w.heap.size + 1, 2, none⟩ by rw [hwr.out]; rfl).trans f2
    have D4 : Below w.heap.size w wr := by rw [hwr.out]; exact below_drewN D3 _
    go_quiet (first | (go_at_call 12; refine Calls.quiet_of_same (kind_is op kx _ hk.out)))
    go_wp2_with fail
    go_ret
    exact ⟨rfl, below_drewN D4 _⟩
set_option maxRecDepth 100000 in
set_option maxHeartbeats 1600000 in
theorem first_op (op n m o2 n2 m2 : Int) (w : World) (hn : I64 n) (hm : I64 m) (h : rt op n m = true) (hn2 : I64 n2) (hm2 : I64 m2) (h2 : rt o2 n2 m2 = true) (hne : ¬ op = o2) :
    Calls Try.prog 8 #[ins op n m, ins o2 n2 m2] w fun e w' => e = .returned (.bool true) ∧ Below w.heap.size w w' := by
  have ho : (op == o2) = false := by simpa using hne
  have BX := hide (bytes_yes op n m · hn hm h)
  have l1 : (str (iby op n m)).size = (iby op n m).length := str_size _
  have p1 := iby_len op n m
  have p0 : 1 ≤ (iby op n m).length := by unfold iby; simp
  have hb := kd_byte (rt_kd h)
  have H := head_of (byI op) (tl op n m)
  rw [byI_val hb.1 hb.2] at H
  obtain ⟨h0, _, hc, _, _, hw⟩ := H
  change 0 < (str (iby op n m)).size at h0
  change ((str (iby op n m))[0].toNat : Int) = op at hc
  obtain ⟨kx, hk⟩ : ∃ k, Hid (kd op = k) := ⟨_, hide rfl⟩
  have hk1 : 0 < kx := by have := hk.out; have := rt_kd h; rcases kd_bd op with k | k | k | k | k | k | k <;> omega
  have z1 : (((iby op n m).length : Int) == 0) = false := by rw [beq_eq_false_iff_ne]; omega
  have hk2 : kx < 7 := by have := hk.out; rcases kd_bd op with k | k | k | k | k | k | k <;> omega
  have BY := hide (bytes_yes o2 n2 m2 · hn2 hm2 h2)
  have l2 : (str (iby o2 n2 m2)).size = (iby o2 n2 m2).length := str_size _
  have p2 := iby_len o2 n2 m2
  have p3 : 1 ≤ (iby o2 n2 m2).length := by unfold iby; simp
  have z2 : (((iby o2 n2 m2).length : Int) == 0) = false := by rw [beq_eq_false_iff_ne]; omega
  obtain ⟨k, ka, kb, hmin, hq⟩ : ∃ k : Nat, k ≤ (iby op n m).length ∧ k ≤ (iby o2 n2 m2).length ∧ min ((iby op n m).length : Int) ((iby o2 n2 m2).length : Int) = k ∧
      (((str (iby op n m)).extract 0 k).toList == ((str (iby o2 n2 m2)).extract 0 k).toList) = false := by
    refine ⟨min (iby op n m).length (iby o2 n2 m2).length, Nat.min_le_left _ _, Nat.min_le_right _ _, by omega, cut_no fun e => ?_⟩
    have := iby_apart hn h hn2 h2 rfl e
    omega
  generalize iby op n m = la at *
  generalize iby o2 n2 m2 = lb at *
  clear hn hm h hb hn2 hm2 h2 hne
  unfold ins at *
  go_enter Try.func8, Try.ntmps8
  go_wp2_with fail
  refine (examples_any _).mono ?_
  rintro e w1 ⟨rfl, b1⟩
  have x1 := (two_boxes w op n m o2 n2 m2).1.kept b1
  have y1 := (two_boxes w op n m o2 n2 m2).2.kept b1
  have D1 := below_next (bel_two' w _ _) b1
  clear b1
  have c0 := x1.c0
  have c1 := x1.c1
  have c2 := x1.c2
  go_wp2_with fail
  refine (BX.out _).mono ?_
  rintro e w2 ⟨rfl, b2⟩
  have x2 := x1.kept b2
  have y2 := y1.kept b2
  have D2 := below_next D1 b2
  clear b2 c0 c1 c2
  have d0 := y2.c0
  have d1 := y2.c1
  have d2 := y2.c2
  go_wp2_with fail
  refine (BY.out _).mono ?_
  rintro e w3 ⟨rfl, b3⟩
  have x3 := x2.kept b3
  have y3 := y2.kept b3
  have D3 := below_next D2 b3
  clear b3 d0 d1 d2
  have e0 := x3.c0
  have e1 := x3.c1
  have e2 := x3.c2
  have f0 := y3.c0
  have f1 := y3.c1
  have f2 := y3.c2
  clear x1 x2 x3 y1 y2 y3
  go_wp2_with fail
  go_quiet (fail)
  go_wp2_with fail
  all_goals
    obtain ⟨wr, hwr⟩ : ∃ wr, Hid (wr = w3.drewN nq) := ⟨_, hide rfl⟩
    rw [← hwr.out]
    have e0' := (show wr.cell? ⟨w.heap.size, 0, none⟩ = w3.cell? ⟨w.heap.size, 0, none⟩ by rw [hwr.out]; rfl).trans e0
    have e1' := (show wr.cell? ⟨w.heap.size, 1, none⟩ = w3.cell? ⟨w.heap.size, 1, none⟩ by rw [hwr.out]; rfl).trans e1
    have e2' := (show wr.cell? ⟨w.heap.size, 2, none⟩ = w3.cell? ⟨w.heap.size, 2, none⟩ by rw [hwr.out]; rfl).trans e2
    have f0' := (show wr.cell? ⟨w.heap.size + 1, 0, none⟩ = w3.cell? ⟨w.heap.size + 1, 0, none⟩ by rw [hwr.out]; rfl).trans f0
    have f1' := (show wr.cell? ⟨w.heap.size + 1, 1, none⟩ = w3.cell? ⟨w.heap.size + 1, 1, none⟩ by rw [hwr.out]; rfl).trans f1
    have f2' := (show wr.cell? ⟨w.heap.size + 1, 2, none⟩ = w3.cell? ⟨w.heap.size + 1, 2, none⟩ by rw [hwr.out]; rfl).trans f2
    have D4 : Below w.heap.size w wr := by rw [hwr.out]; exact below_drewN D3 _
    go_quiet (first | (go_at_call 12; refine Calls.quiet_of_same (kind_is op kx _ hk.out)))
    go_wp2_with fail
    go_ret
    exact ⟨rfl, below_drewN D4 _⟩
set_option maxRecDepth 100000 in
set_option maxHeartbeats 1600000 in
theorem first_n (op n m n2 m2 : Int) (w : World) (hn : I64 n) (hm : I64 m) (h : rt op n m = true) (hn2 : I64 n2) (hm2 : I64 m2) (h2 : rt op n2 m2 = true) (hne : ¬ n = n2) :
    Calls Try.prog 8 #[ins op n m, ins op n2 m2] w fun e w' => e = .returned (.bool true) ∧ Below w.heap.size w w' := by
  have ho : (n == n2) = false := by simpa using hne
  have BX := hide (bytes_yes op n m · hn hm h)
  have l1 : (str (iby op n m)).size = (iby op n m).length := str_size _
  have p1 := iby_len op n m
  have p0 : 1 ≤ (iby op n m).length := by unfold iby; simp
  have hb := kd_byte (rt_kd h)
  have H := head_of (byI op) (tl op n m)
  rw [byI_val hb.1 hb.2] at H
  obtain ⟨h0, _, hc, _, _, hw⟩ := H
  change 0 < (str (iby op n m)).size at h0
  change ((str (iby op n m))[0].toNat : Int) = op at hc
  obtain ⟨kx, hk⟩ : ∃ k, Hid (kd op = k) := ⟨_, hide rfl⟩
  have hk1 : 0 < kx := by have := hk.out; have := rt_kd h; rcases kd_bd op with k | k | k | k | k | k | k <;> omega
  have z1 : (((iby op n m).length : Int) == 0) = false := by rw [beq_eq_false_iff_ne]; omega
  have hk2 : kx < 7 := by have := hk.out; rcases kd_bd op with k | k | k | k | k | k | k <;> omega
  have BY := hide (bytes_yes op n2 m2 · hn2 hm2 h2)
  have l2 : (str (iby op n2 m2)).size = (iby op n2 m2).length := str_size _
  have p2 := iby_len op n2 m2
  have p3 : 1 ≤ (iby op n2 m2).length := by unfold iby; simp
  have z2 : (((iby op n2 m2).length : Int) == 0) = false := by rw [beq_eq_false_iff_ne]; omega
  obtain ⟨k, ka, kb, hmin, hq⟩ : ∃ k : Nat, k ≤ (iby op n m).length ∧ k ≤ (iby op n2 m2).length ∧ min ((iby op n m).length : Int) ((iby op n2 m2).length : Int) = k ∧
      (((str (iby op n m)).extract 0 k).toList == ((str (iby op n2 m2)).extract 0 k).toList) = false := by
    refine ⟨min (iby op n m).length (iby op n2 m2).length, Nat.min_le_left _ _, Nat.min_le_right _ _, by omega, cut_no fun e => ?_⟩
    have := iby_apart hn h hn2 h2 rfl e
    omega
  generalize iby op n m = la at *
  generalize iby op n2 m2 = lb at *
  clear hn hm h hb hn2 hm2 h2 hne
  unfold ins at *
  go_enter Try.func8, Try.ntmps8
  go_wp2_with fail
  refine (examples_any _).mono ?_
  rintro e w1 ⟨rfl, b1⟩
  have x1 := (two_boxes w op n m op n2 m2).1.kept b1
  have y1 := (two_boxes w op n m op n2 m2).2.kept b1
  have D1 := below_next (bel_two' w _ _) b1
  clear b1
  have c0 := x1.c0
  have c1 := x1.c1
  have c2 := x1.c2
  go_wp2_with fail
  refine (BX.out _).mono ?_
  rintro e w2 ⟨rfl, b2⟩
  have x2 := x1.kept b2
  have y2 := y1.kept b2
  have D2 := below_next D1 b2
  clear b2 c0 c1 c2
  have d0 := y2.c0
  have d1 := y2.c1
  have d2 := y2.c2
  go_wp2_with fail
  refine (BY.out _).mono ?_
  rintro e w3 ⟨rfl, b3⟩
  have x3 := x2.kept b3
  have y3 := y2.kept b3
  have D3 := below_next D2 b3
  clear b3 d0 d1 d2
  have e0 := x3.c0
  have e1 := x3.c1
  have e2 := x3.c2
  have f0 := y3.c0
  have f1 := y3.c1
  have f2 := y3.c2
  clear x1 x2 x3 y1 y2 y3
  go_wp2_with fail
  go_quiet (fail)
  go_wp2_with fail
  all_goals
    obtain ⟨wr, hwr⟩ : ∃ wr, Hid (wr = w3.drewN nq) := ⟨_, hide rfl⟩
    rw [← hwr.out]
    have e0' := (show wr.cell? ⟨w.heap.size, 0, none⟩ = w3.cell? ⟨w.heap.size, 0, none⟩ by rw [hwr.out]; rfl).trans e0
    have e1' := (show wr.cell? ⟨w.heap.size, 1, none⟩ = w3.cell? ⟨w.heap.size, 1, none⟩ by rw [hwr.out]; rfl).trans e1
    have e2' := (show wr.cell? ⟨w.heap.size, 2, none⟩ = w3.cell? ⟨w.heap.size, 2, none⟩ by rw [hwr.out]; rfl).trans e2
    have f0' := (show wr.cell? ⟨w.heap.size + 1, 0, none⟩ = w3.cell? ⟨w.heap.size + 1, 0, none⟩ by rw [hwr.out]; rfl).trans f0
    have f1' := (show wr.cell? ⟨w.heap.size + 1, 1, none⟩ = w3.cell? ⟨w.heap.size + 1, 1, none⟩ by rw [hwr.out]; rfl).trans f1
    have f2' := (show wr.cell? ⟨w.heap.size + 1, 2, none⟩ = w3.cell? ⟨w.heap.size + 1, 2, none⟩ by rw [hwr.out]; rfl).trans f2
    have D4 : Below w.heap.size w wr := by rw [hwr.out]; exact below_drewN D3 _
    go_quiet (first | (go_at_call 12; refine Calls.quiet_of_same (kind_is op kx _ hk.out)))
    go_wp2_with fail
    go_ret
    exact ⟨rfl, below_drewN D4 _⟩
set_option maxRecDepth 100000 in
set_option maxHeartbeats 1600000 in
theorem first_m (op n m m2 : Int) (w : World) (hn : I64 n) (hm : I64 m) (h : rt op n m = true) (hn2 : I64 n) (hm2 : I64 m2) (h2 : rt op n m2 = true) (hne : ¬ m = m2) :
    Calls Try.prog 8 #[ins op n m, ins op n m2] w fun e w' => e = .returned (.bool true) ∧ Below w.heap.size w w' := by
  have ho : (m == m2) = false := by simpa using hne
  have BX := hide (bytes_yes op n m · hn hm h)
  have l1 : (str (iby op n m)).size = (iby op n m).length := str_size _
  have p1 := iby_len op n m
  have p0 : 1 ≤ (iby op n m).length := by unfold iby; simp
  have hb := kd_byte (rt_kd h)
  have H := head_of (byI op) (tl op n m)
  rw [byI_val hb.1 hb.2] at H
  obtain ⟨h0, _, hc, _, _, hw⟩ := H
  change 0 < (str (iby op n m)).size at h0
  change ((str (iby op n m))[0].toNat : Int) = op at hc
  obtain ⟨kx, hk⟩ : ∃ k, Hid (kd op = k) := ⟨_, hide rfl⟩
  have hk1 : 0 < kx := by have := hk.out; have := rt_kd h; rcases kd_bd op with k | k | k | k | k | k | k <;> omega
  have z1 : (((iby op n m).length : Int) == 0) = false := by rw [beq_eq_false_iff_ne]; omega
  have hk2 : kx < 7 := by have := hk.out; rcases kd_bd op with k | k | k | k | k | k | k <;> omega
  have BY := hide (bytes_yes op n m2 · hn2 hm2 h2)
  have l2 : (str (iby op n m2)).size = (iby op n m2).length := str_size _
  have p2 := iby_len op n m2
  have p3 : 1 ≤ (iby op n m2).length := by unfold iby; simp
  have z2 : (((iby op n m2).length : Int) == 0) = false := by rw [beq_eq_false_iff_ne]; omega
  obtain ⟨k, ka, kb, hmin, hq⟩ : ∃ k : Nat, k ≤ (iby op n m).length ∧ k ≤ (iby op n m2).length ∧ min ((iby op n m).length : Int) ((iby op n m2).length : Int) = k ∧
      (((str (iby op n m)).extract 0 k).toList == ((str (iby op n m2)).extract 0 k).toList) = false := by
    refine ⟨min (iby op n m).length (iby op n m2).length, Nat.min_le_left _ _, Nat.min_le_right _ _, by omega, cut_no fun e => ?_⟩
    have := iby_apart hn h hn2 h2 rfl e
    omega
  generalize iby op n m = la at *
  generalize iby op n m2 = lb at *
  clear hn hm h hb hn2 hm2 h2 hne
  unfold ins at *
  go_enter Try.func8, Try.ntmps8
  go_wp2_with fail
  refine (examples_any _).mono ?_
  rintro e w1 ⟨rfl, b1⟩
  have x1 := (two_boxes w op n m op n m2).1.kept b1
  have y1 := (two_boxes w op n m op n m2).2.kept b1
  have D1 := below_next (bel_two' w _ _) b1
  clear b1
  have c0 := x1.c0
  have c1 := x1.c1
  have c2 := x1.c2
  go_wp2_with fail
  refine (BX.out _).mono ?_
  rintro e w2 ⟨rfl, b2⟩
  have x2 := x1.kept b2
  have y2 := y1.kept b2
  have D2 := below_next D1 b2
  clear b2 c0 c1 c2
  have d0 := y2.c0
  have d1 := y2.c1
  have d2 := y2.c2
  go_wp2_with fail
  refine (BY.out _).mono ?_
  rintro e w3 ⟨rfl, b3⟩
  have x3 := x2.kept b3
  have y3 := y2.kept b3
  have D3 := below_next D2 b3
  clear b3 d0 d1 d2
  have e0 := x3.c0
  have e1 := x3.c1
  have e2 := x3.c2
  have f0 := y3.c0
  have f1 := y3.c1
  have f2 := y3.c2
  clear x1 x2 x3 y1 y2 y3
  go_wp2_with fail
  go_quiet (fail)
  go_wp2_with fail
  all_goals
    obtain ⟨wr, hwr⟩ : ∃ wr, Hid (wr = w3.drewN nq) := ⟨_, hide rfl⟩
    rw [← hwr.out]
    have e0' := (show wr.cell? ⟨w.heap.size, 0, none⟩ = w3.cell? ⟨w.heap.size, 0, none⟩ by rw [hwr.out]; rfl).trans e0
    have e1' := (show wr.cell? ⟨w.heap.size, 1, none⟩ = w3.cell? ⟨w.heap.size, 1, none⟩ by rw [hwr.out]; rfl).trans e1
    have e2' := (show wr.cell? ⟨w.heap.size, 2, none⟩ = w3.cell? ⟨w.heap.size, 2, none⟩ by rw [hwr.out]; rfl).trans e2
    have f0' := (show wr.cell? ⟨w.heap.size + 1, 0, none⟩ = w3.cell? ⟨w.heap.size + 1, 0, none⟩ by rw [hwr.out]; rfl).trans f0
    have f1' := (show wr.cell? ⟨w.heap.size + 1, 1, none⟩ = w3.cell? ⟨w.heap.size + 1, 1, none⟩ by rw [hwr.out]; rfl).trans f1
    have f2' := (show wr.cell? ⟨w.heap.size + 1, 2, none⟩ = w3.cell? ⟨w.heap.size + 1, 2, none⟩ by rw [hwr.out]; rfl).trans f2
    have D4 : Below w.heap.size w wr := by rw [hwr.out]; exact below_drewN D3 _
    go_quiet (first | (go_at_call 12; refine Calls.quiet_of_same (kind_is op kx _ hk.out)))
    go_wp2_with fail
    go_ret
    exact ⟨rfl, below_drewN D4 _⟩
theorem first_walk (op n m o2 n2 m2 : Int) (w : World) (hn : I64 n) (hm : I64 m) (hn2 : I64 n2) (hm2 : I64 m2) :
    Calls Try.prog 8 #[ins op n m, ins o2 n2 m2] w fun e w' => e = .returned (.bool true) ∧ Below w.heap.size w w' := by
  cases h : rt op n m with
  | false => exact first_no1 op n m o2 n2 m2 _ _ w hn hm hn2 hm2 h rfl
  | true =>
    cases h2 : rt o2 n2 m2 with
    | false => exact first_no2 op n m o2 n2 m2 w hn hm hn2 hm2 h h2
    | true =>
      by_cases e0 : op = o2
      · subst e0
        by_cases e1 : n = n2
        · subst e1
          by_cases e2 : m = m2
          · subst e2; exact first_same op n m w hn hm h
          · exact first_m op n m m2 w hn hm h hn2 hm2 h2 e2
        · exact first_n op n m n2 m2 w hn hm h hn2 hm2 h2 e1
      · exact first_op op n m o2 n2 m2 w hn hm h hn2 hm2 h2 e0
end Go.Proofs.Ytcipbnbeoacenaa
