/-
  The document's own function Take reads what the plain function tkI reads, of any string; memory that was there stays as it was.
-/
import Derived.Test.YtcipbnbeoacenaaTake
import Derived.Test.YtcipbnbeoacenaaRefTakes
namespace Go.Proofs.Ytcipbnbeoacenaa
open Go.RowKit

theorem r_takeU_is (r : List UInt8) (b a : Int) (l : List UInt8) (e : Int) (w : World) (hs : r.length ≤ 9223372036854775807) (h : tkU r b = (a, l, e)) :
    Calls Try.prog 35 #[.string (str r), .int .i64 b] w fun x w' => x = .returned (.tuple #[.int .i64 a, .string (str l), .int .i64 e]) ∧ Below w.heap.size w w' := by
  have T := refTakeU_any (str r) b w (by rw [str_size]; exact hs)
  rw [str_list, h] at T; exact T
theorem r_takeS_is (r : List UInt8) (b a : Int) (l : List UInt8) (e : Int) (w : World) (hs : r.length ≤ 9223372036854775807) (h : tkS r b = (a, l, e)) :
    Calls Try.prog 36 #[.string (str r), .int .i64 b] w fun x w' => x = .returned (.tuple #[.int .i64 a, .string (str l), .int .i64 e]) ∧ Below w.heap.size w w' := by
  have T := refTakeS_any (str r) b w (by rw [str_size]; exact hs)
  rw [str_list, h] at T; exact T
/-- Two boxes, one behind the other. -/
theorem two_new (w : World) (a b c x y z : Int) : Box (w.heap.size + 1) x y z ((w.alloc (.cells #[.int .i64 a, .int .i64 b, .int .i64 c] 23)).alloc (.cells #[.int .i64 x, .int .i64 y, .int .i64 z] 23)) := by
  have := Box.made (w.alloc (.cells #[.int .i64 a, .int .i64 b, .int .i64 c] 23)) x y z
  rw [show (w.alloc (.cells #[.int .i64 a, .int .i64 b, .int .i64 c] 23)).heap.size = w.heap.size + 1 by simp] at this
  exact this
theorem two_old (w : World) (a b c : Int) (o : Obj) : Box w.heap.size a b c ((w.alloc (.cells #[.int .i64 a, .int .i64 b, .int .i64 c] 23)).alloc o) := (Box.made w a b c).alloc o
theorem bel_two (w : World) (o p : Obj) : Below w.heap.size w ((w.alloc o).alloc p) := (bel_one w o).alloc (by simp) p
theorem r_take_empty (w : World) :
    Calls Try.prog 17 #[.string (str [])] w fun e w' => e = .returned (.tuple #[ins 0 0 0, .string (str []), .bool false]) ∧ Below w.heap.size w w' := by
  have he : (str []).toList.isEmpty = true := by unfold str; simp
  go_enter Try.func17, Try.ntmps17
  go_wp2_with fail
  refine bodyPost_ret (results_box rfl _ _ w.heap.size 0 0 0 rfl (Box.made _ _ _ _)) rfl ?_
  exact ⟨rfl, bel_one _ _⟩
set_option maxRecDepth 100000 in
set_option maxHeartbeats 800000 in
theorem r_take_0 (s : ByteArray) (c : Int) (r : List UInt8) (w : World) (H : Head s c r) (hk : kd c = 0) :
    Calls Try.prog 17 #[.string s] w fun e w' => e = .returned (.tuple #[ins 0 0 0, .string (str []), .bool false]) ∧ Below w.heap.size w w' := by
  obtain ⟨h0, he, hc, hb, hx, hw⟩ := H
  have hk' := hide hk
  clear hk hb
  go_enter Try.func17, Try.ntmps17
  go_wp2_with fail
  refine (r_kind_is c 0 _ hk'.out).mono ?_
  rintro e w1 ⟨rfl, rfl⟩
  go_wp2_with fail
  refine bodyPost_ret (results_box rfl _ _ w.heap.size 0 0 0 rfl (two_old _ _ _ _ _)) rfl ?_
  exact ⟨rfl, bel_two _ _ _⟩
set_option maxRecDepth 100000 in
set_option maxHeartbeats 800000 in
theorem r_take_1 (s : ByteArray) (c : Int) (r : List UInt8) (w : World) (H : Head s c r) (hk : kd c = 1) :
    Calls Try.prog 17 #[.string s] w fun e w' => e = .returned (.tuple #[ins c 0 0, .string (str r), .bool true]) ∧ Below w.heap.size w w' := by
  obtain ⟨h0, he, hc, hb, hx, hw⟩ := H
  have hk' := hide hk
  clear hk hb
  go_enter Try.func17, Try.ntmps17
  go_wp2_with fail
  refine (r_kind_is c 1 _ hk'.out).mono ?_
  rintro e w1 ⟨rfl, rfl⟩
  go_wp2_with fail
  refine bodyPost_ret (results_box rfl _ _ w.heap.size c 0 0 rfl (two_old _ _ _ _ _)) rfl ?_
  exact ⟨rfl, bel_two _ _ _⟩
set_option maxRecDepth 100000 in
set_option maxHeartbeats 800000 in
theorem r_take_2e (s : ByteArray) (c : Int) (r : List UInt8) (w : World) (H : Head s c r) (hk : kd c = 2) (ht : r = []) :
    Calls Try.prog 17 #[.string s] w fun e w' => e = .returned (.tuple #[ins 0 0 0, .string (str []), .bool false]) ∧ Below w.heap.size w w' := by
  obtain ⟨h0, he, hc, hb, hx, hw⟩ := H
  have hk' := hide hk
  have he2 : (str r).toList.isEmpty = true := by subst ht; unfold str; simp
  clear ht
  clear hk hb
  go_enter Try.func17, Try.ntmps17
  go_wp2_with fail
  refine (r_kind_is c 2 _ hk'.out).mono ?_
  rintro e w1 ⟨rfl, rfl⟩
  go_wp2_with fail
  refine bodyPost_ret (results_box rfl _ _ w.heap.size 0 0 0 rfl (two_old _ _ _ _ _)) rfl ?_
  exact ⟨rfl, bel_two _ _ _⟩
set_option maxRecDepth 100000 in
set_option maxHeartbeats 800000 in
theorem r_take_2z (s : ByteArray) (c : Int) (r : List UInt8) (q : List UInt8) (w : World) (H : Head s c r) (hk : kd c = 2) (H2 : Head (str r) 64 q) :
    Calls Try.prog 17 #[.string s] w fun e w' => e = .returned (.tuple #[ins c 0 0, .string (str q), .bool true]) ∧ Below w.heap.size w w' := by
  obtain ⟨h0, he, hc, hb, hx, hw⟩ := H
  have hk' := hide hk
  obtain ⟨h0', he', hc', hb', hx', hw'⟩ := H2
  clear hk hb
  go_enter Try.func17, Try.ntmps17
  go_wp2_with fail
  refine (r_kind_is c 2 _ hk'.out).mono ?_
  rintro e w1 ⟨rfl, rfl⟩
  go_wp2_with fail
  refine bodyPost_ret (results_box rfl _ _ w.heap.size c 0 0 rfl (two_old _ _ _ _ _)) rfl ?_
  exact ⟨rfl, bel_two _ _ _⟩
set_option maxRecDepth 100000 in
set_option maxHeartbeats 800000 in
theorem r_take_2y (s : ByteArray) (c : Int) (r : List UInt8) (d : Int) (q : List UInt8) (w : World) (H : Head s c r) (hk : kd c = 2) (H2 : Head (str r) d q) (hd : 124 ≤ d ∧ d ≤ 127) :
    Calls Try.prog 17 #[.string s] w fun e w' => e = .returned (.tuple #[ins c 0 (128 - d), .string (str q), .bool true]) ∧ Below w.heap.size w w' := by
  obtain ⟨h0, he, hc, hb, hx, hw⟩ := H
  have hk' := hide hk
  obtain ⟨h0', he', hc', hb', hx', hw'⟩ := H2
  have h64 : (d != 64) = true := by simp; omega
  have hw2 : wrap64 (127 - d) = 127 - d := by unfold wrap64; omega
  have hw3 : wrap64 (127 - d + 1) = 128 - d := by unfold wrap64; omega
  have hw4 : decide (128 - d < 1) = false := by simp; omega
  have hw5 : decide (4 < 128 - d) = false := by simp; omega
  clear hb' hd
  clear hk hb
  go_enter Try.func17, Try.ntmps17
  go_wp2_with fail
  refine (r_kind_is c 2 _ hk'.out).mono ?_
  rintro e w1 ⟨rfl, rfl⟩
  go_wp2_with fail
  refine bodyPost_ret (results_box rfl _ _ w.heap.size c 0 (128 - d) rfl (two_old _ _ _ _ _)) rfl ?_
  exact ⟨rfl, bel_two _ _ _⟩
set_option maxRecDepth 100000 in
set_option maxHeartbeats 800000 in
theorem r_take_2n (s : ByteArray) (c : Int) (r : List UInt8) (d : Int) (q : List UInt8) (w : World) (H : Head s c r) (hk : kd c = 2) (H2 : Head (str r) d q) (h6 : ¬ d = 64) (hd : 127 < d) :
    Calls Try.prog 17 #[.string s] w fun e w' => e = .returned (.tuple #[ins 0 0 0, .string (str []), .bool false]) ∧ Below w.heap.size w w' := by
  obtain ⟨h0, he, hc, hb, hx, hw⟩ := H
  have hk' := hide hk
  obtain ⟨h0', he', hc', hb', hx', hw'⟩ := H2
  have h64 : (d != 64) = true := by simp; omega
  have hw2 : wrap64 (127 - d) = 127 - d := by unfold wrap64; omega
  have hw3 : wrap64 (127 - d + 1) = 128 - d := by unfold wrap64; omega
  have hw4 : decide (128 - d < 1) = true := by simp; omega
  clear hb' hd h6
  clear hk hb
  go_enter Try.func17, Try.ntmps17
  go_wp2_with fail
  refine (r_kind_is c 2 _ hk'.out).mono ?_
  rintro e w1 ⟨rfl, rfl⟩
  go_wp2_with fail
  refine bodyPost_ret (results_box rfl _ _ w.heap.size 0 0 0 rfl (two_old _ _ _ _ _)) rfl ?_
  exact ⟨rfl, bel_two _ _ _⟩
set_option maxRecDepth 100000 in
set_option maxHeartbeats 800000 in
theorem r_take_2m (s : ByteArray) (c : Int) (r : List UInt8) (d : Int) (q : List UInt8) (w : World) (H : Head s c r) (hk : kd c = 2) (H2 : Head (str r) d q) (h6 : ¬ d = 64) (hd : d < 124) :
    Calls Try.prog 17 #[.string s] w fun e w' => e = .returned (.tuple #[ins 0 0 0, .string (str []), .bool false]) ∧ Below w.heap.size w w' := by
  obtain ⟨h0, he, hc, hb, hx, hw⟩ := H
  have hk' := hide hk
  obtain ⟨h0', he', hc', hb', hx', hw'⟩ := H2
  have h64 : (d != 64) = true := by simp; omega
  have hw2 : wrap64 (127 - d) = 127 - d := by unfold wrap64; omega
  have hw3 : wrap64 (127 - d + 1) = 128 - d := by unfold wrap64; omega
  have hw4 : decide (128 - d < 1) = false := by simp; omega
  have hw5 : decide (4 < 128 - d) = true := by simp; omega
  clear hb' hd h6
  clear hk hb
  go_enter Try.func17, Try.ntmps17
  go_wp2_with fail
  refine (r_kind_is c 2 _ hk'.out).mono ?_
  rintro e w1 ⟨rfl, rfl⟩
  go_wp2_with fail
  refine bodyPost_ret (results_box rfl _ _ w.heap.size 0 0 0 rfl (two_old _ _ _ _ _)) rfl ?_
  exact ⟨rfl, bel_two _ _ _⟩
theorem r_take_2b (s : ByteArray) (c : Int) (r : List UInt8) (m : Int) (l : List UInt8) (w : World) (H : Head s c r) (hk : kd c = 2) (ht : tb r = some (m, l)) :
    Calls Try.prog 17 #[.string s] w fun e w' => e = .returned (.tuple #[ins c 0 m, .string (str l), .bool true]) ∧ Below w.heap.size w w' := by
  cases r with
  | nil => simp [tb] at ht
  | cons d r =>
    have H2 := head_of d r
    simp only [tb] at ht
    split at ht
    · cases ht
      rename_i h6
      rw [h6] at H2
      exact r_take_2z _ _ _ _ w H hk H2
    · split at ht
      · cases ht; exact r_take_2y _ _ _ _ _ w H hk H2 (by assumption)
      · cases ht
theorem r_take_2a (s : ByteArray) (c : Int) (r : List UInt8) (w : World) (H : Head s c r) (hk : kd c = 2) (ht : tb r = none) :
    Calls Try.prog 17 #[.string s] w fun e w' => e = .returned (.tuple #[ins 0 0 0, .string (str []), .bool false]) ∧ Below w.heap.size w w' := by
  cases r with
  | nil => exact r_take_2e _ _ _ w H hk rfl
  | cons d r =>
    have H2 := head_of d r
    simp only [tb] at ht
    split at ht
    · cases ht
    · split at ht
      · cases ht
      · rename_i h6 h7
        by_cases h8 : 127 < (d.toNat : Int)
        · exact r_take_2n _ _ _ _ _ w H hk H2 h6 h8
        · exact r_take_2m _ _ _ _ _ w H hk H2 h6 (by omega)
set_option maxRecDepth 100000 in
set_option maxHeartbeats 800000 in
theorem r_take_3a (s : ByteArray) (c : Int) (r : List UInt8) (w : World) (H : Head s c r) (hk : kd c = 3) (hs : r.length ≤ 9223372036854775807) (ht : tkU r 32 = (0, [], 6)) :
    Calls Try.prog 17 #[.string s] w fun e w' => e = .returned (.tuple #[ins 0 0 0, .string (str []), .bool false]) ∧ Below w.heap.size w w' := by
  obtain ⟨h0, he, hc, hb, hx, hw⟩ := H
  have hk' := hide hk
  have T := hide (r_takeU_is r 32 0 [] 6 · hs ht)
  clear ht hs
  clear hk hb
  go_enter Try.func17, Try.ntmps17
  go_wp2_with fail
  refine (r_kind_is c 3 _ hk'.out).mono ?_
  rintro e w1 ⟨rfl, rfl⟩
  go_wp2_with fail
  refine (T.out _).mono ?_
  rintro e w1 ⟨rfl, b1⟩
  have x1 := (two_new w 0 0 0 c 0 0).kept b1
  have o1 := (two_old w 0 0 0 _).kept b1
  have B1 := below_next (bel_two w _ _) b1
  clear b1
  have c01 := x1.c0
  have c11 := x1.c1
  have c21 := x1.c2
  have f01 := x1.fr 0
  have f11 := x1.fr 1
  have f21 := x1.fr 2
  have d01 := o1.c0
  have d11 := o1.c1
  have d21 := o1.c2
  have g01 := o1.fr 0
  have g11 := o1.fr 1
  have g21 := o1.fr 2
  go_wp2_with fail
  refine bodyPost_ret (results_box rfl _ _ w.heap.size 0 0 0 rfl ((o1.other 1 _ (Nat.ne_of_lt (Nat.lt_succ_self _))).all _ _ _)) rfl ?_
  exact ⟨rfl, bel_all (B1.setCell (p := ⟨w.heap.size + 1, 1, none⟩) (Nat.le_succ _) _) (Nat.le_refl _) _ _ _⟩
set_option maxRecDepth 100000 in
set_option maxHeartbeats 800000 in
theorem r_take_3b (s : ByteArray) (c : Int) (r : List UInt8) (n : Int) (l : List UInt8) (w : World) (H : Head s c r) (hk : kd c = 3) (hs : r.length ≤ 9223372036854775807) (ht : tkU r 32 = (n, l, 0)) :
    Calls Try.prog 17 #[.string s] w fun e w' => e = .returned (.tuple #[ins c n 0, .string (str l), .bool true]) ∧ Below w.heap.size w w' := by
  obtain ⟨h0, he, hc, hb, hx, hw⟩ := H
  have hk' := hide hk
  have T := hide (r_takeU_is r 32 n l 0 · hs ht)
  clear ht hs
  clear hk hb
  go_enter Try.func17, Try.ntmps17
  go_wp2_with fail
  refine (r_kind_is c 3 _ hk'.out).mono ?_
  rintro e w1 ⟨rfl, rfl⟩
  go_wp2_with fail
  refine (T.out _).mono ?_
  rintro e w1 ⟨rfl, b1⟩
  have x1 := (two_new w 0 0 0 c 0 0).kept b1
  have o1 := (two_old w 0 0 0 _).kept b1
  have B1 := below_next (bel_two w _ _) b1
  clear b1
  have c01 := x1.c0
  have c11 := x1.c1
  have c21 := x1.c2
  have f01 := x1.fr 0
  have f11 := x1.fr 1
  have f21 := x1.fr 2
  have d01 := o1.c0
  have d11 := o1.c1
  have d21 := o1.c2
  have g01 := o1.fr 0
  have g11 := o1.fr 1
  have g21 := o1.fr 2
  go_wp2_with fail
  refine bodyPost_ret (results_box rfl _ _ w.heap.size c n 0 rfl ((o1.other 1 _ (Nat.ne_of_lt (Nat.lt_succ_self _))).all _ _ _)) rfl ?_
  exact ⟨rfl, bel_all (B1.setCell (p := ⟨w.heap.size + 1, 1, none⟩) (Nat.le_succ _) _) (Nat.le_refl _) _ _ _⟩
set_option maxRecDepth 100000 in
set_option maxHeartbeats 800000 in
theorem r_take_5a (s : ByteArray) (c : Int) (r : List UInt8) (w : World) (H : Head s c r) (hk : kd c = 5) (hs : r.length ≤ 9223372036854775807) (ht : tkS r 32 = (0, [], 6)) :
    Calls Try.prog 17 #[.string s] w fun e w' => e = .returned (.tuple #[ins 0 0 0, .string (str []), .bool false]) ∧ Below w.heap.size w w' := by
  obtain ⟨h0, he, hc, hb, hx, hw⟩ := H
  have hk' := hide hk
  have T := hide (r_takeS_is r 32 0 [] 6 · hs ht)
  clear ht hs
  clear hk hb
  go_enter Try.func17, Try.ntmps17
  go_wp2_with fail
  refine (r_kind_is c 5 _ hk'.out).mono ?_
  rintro e w1 ⟨rfl, rfl⟩
  go_wp2_with fail
  refine (T.out _).mono ?_
  rintro e w1 ⟨rfl, b1⟩
  have x1 := (two_new w 0 0 0 c 0 0).kept b1
  have o1 := (two_old w 0 0 0 _).kept b1
  have B1 := below_next (bel_two w _ _) b1
  clear b1
  have c01 := x1.c0
  have c11 := x1.c1
  have c21 := x1.c2
  have f01 := x1.fr 0
  have f11 := x1.fr 1
  have f21 := x1.fr 2
  have d01 := o1.c0
  have d11 := o1.c1
  have d21 := o1.c2
  have g01 := o1.fr 0
  have g11 := o1.fr 1
  have g21 := o1.fr 2
  go_wp2_with fail
  refine bodyPost_ret (results_box rfl _ _ w.heap.size 0 0 0 rfl ((o1.other 1 _ (Nat.ne_of_lt (Nat.lt_succ_self _))).all _ _ _)) rfl ?_
  exact ⟨rfl, bel_all (B1.setCell (p := ⟨w.heap.size + 1, 1, none⟩) (Nat.le_succ _) _) (Nat.le_refl _) _ _ _⟩
set_option maxRecDepth 100000 in
set_option maxHeartbeats 800000 in
theorem r_take_5b (s : ByteArray) (c : Int) (r : List UInt8) (n : Int) (l : List UInt8) (w : World) (H : Head s c r) (hk : kd c = 5) (hs : r.length ≤ 9223372036854775807) (ht : tkS r 32 = (n, l, 0)) :
    Calls Try.prog 17 #[.string s] w fun e w' => e = .returned (.tuple #[ins c n 0, .string (str l), .bool true]) ∧ Below w.heap.size w w' := by
  obtain ⟨h0, he, hc, hb, hx, hw⟩ := H
  have hk' := hide hk
  have T := hide (r_takeS_is r 32 n l 0 · hs ht)
  clear ht hs
  clear hk hb
  go_enter Try.func17, Try.ntmps17
  go_wp2_with fail
  refine (r_kind_is c 5 _ hk'.out).mono ?_
  rintro e w1 ⟨rfl, rfl⟩
  go_wp2_with fail
  refine (T.out _).mono ?_
  rintro e w1 ⟨rfl, b1⟩
  have x1 := (two_new w 0 0 0 c 0 0).kept b1
  have o1 := (two_old w 0 0 0 _).kept b1
  have B1 := below_next (bel_two w _ _) b1
  clear b1
  have c01 := x1.c0
  have c11 := x1.c1
  have c21 := x1.c2
  have f01 := x1.fr 0
  have f11 := x1.fr 1
  have f21 := x1.fr 2
  have d01 := o1.c0
  have d11 := o1.c1
  have d21 := o1.c2
  have g01 := o1.fr 0
  have g11 := o1.fr 1
  have g21 := o1.fr 2
  go_wp2_with fail
  refine bodyPost_ret (results_box rfl _ _ w.heap.size c n 0 rfl ((o1.other 1 _ (Nat.ne_of_lt (Nat.lt_succ_self _))).all _ _ _)) rfl ?_
  exact ⟨rfl, bel_all (B1.setCell (p := ⟨w.heap.size + 1, 1, none⟩) (Nat.le_succ _) _) (Nat.le_refl _) _ _ _⟩
set_option maxRecDepth 100000 in
set_option maxHeartbeats 800000 in
theorem r_take_6a (s : ByteArray) (c : Int) (r : List UInt8) (w : World) (H : Head s c r) (hk : kd c = 6) (hs : r.length ≤ 9223372036854775807) (ht : tkS r 64 = (0, [], 6)) :
    Calls Try.prog 17 #[.string s] w fun e w' => e = .returned (.tuple #[ins 0 0 0, .string (str []), .bool false]) ∧ Below w.heap.size w w' := by
  obtain ⟨h0, he, hc, hb, hx, hw⟩ := H
  have hk' := hide hk
  have T := hide (r_takeS_is r 64 0 [] 6 · hs ht)
  clear ht hs
  clear hk hb
  go_enter Try.func17, Try.ntmps17
  go_wp2_with fail
  refine (r_kind_is c 6 _ hk'.out).mono ?_
  rintro e w1 ⟨rfl, rfl⟩
  go_wp2_with fail
  refine (T.out _).mono ?_
  rintro e w1 ⟨rfl, b1⟩
  have x1 := (two_new w 0 0 0 c 0 0).kept b1
  have o1 := (two_old w 0 0 0 _).kept b1
  have B1 := below_next (bel_two w _ _) b1
  clear b1
  have c01 := x1.c0
  have c11 := x1.c1
  have c21 := x1.c2
  have f01 := x1.fr 0
  have f11 := x1.fr 1
  have f21 := x1.fr 2
  have d01 := o1.c0
  have d11 := o1.c1
  have d21 := o1.c2
  have g01 := o1.fr 0
  have g11 := o1.fr 1
  have g21 := o1.fr 2
  go_wp2_with fail
  refine bodyPost_ret (results_box rfl _ _ w.heap.size 0 0 0 rfl ((o1.other 1 _ (Nat.ne_of_lt (Nat.lt_succ_self _))).all _ _ _)) rfl ?_
  exact ⟨rfl, bel_all (B1.setCell (p := ⟨w.heap.size + 1, 1, none⟩) (Nat.le_succ _) _) (Nat.le_refl _) _ _ _⟩
set_option maxRecDepth 100000 in
set_option maxHeartbeats 800000 in
theorem r_take_6b (s : ByteArray) (c : Int) (r : List UInt8) (n : Int) (l : List UInt8) (w : World) (H : Head s c r) (hk : kd c = 6) (hs : r.length ≤ 9223372036854775807) (ht : tkS r 64 = (n, l, 0)) :
    Calls Try.prog 17 #[.string s] w fun e w' => e = .returned (.tuple #[ins c n 0, .string (str l), .bool true]) ∧ Below w.heap.size w w' := by
  obtain ⟨h0, he, hc, hb, hx, hw⟩ := H
  have hk' := hide hk
  have T := hide (r_takeS_is r 64 n l 0 · hs ht)
  clear ht hs
  clear hk hb
  go_enter Try.func17, Try.ntmps17
  go_wp2_with fail
  refine (r_kind_is c 6 _ hk'.out).mono ?_
  rintro e w1 ⟨rfl, rfl⟩
  go_wp2_with fail
  refine (T.out _).mono ?_
  rintro e w1 ⟨rfl, b1⟩
  have x1 := (two_new w 0 0 0 c 0 0).kept b1
  have o1 := (two_old w 0 0 0 _).kept b1
  have B1 := below_next (bel_two w _ _) b1
  clear b1
  have c01 := x1.c0
  have c11 := x1.c1
  have c21 := x1.c2
  have f01 := x1.fr 0
  have f11 := x1.fr 1
  have f21 := x1.fr 2
  have d01 := o1.c0
  have d11 := o1.c1
  have d21 := o1.c2
  have g01 := o1.fr 0
  have g11 := o1.fr 1
  have g21 := o1.fr 2
  go_wp2_with fail
  refine bodyPost_ret (results_box rfl _ _ w.heap.size c n 0 rfl ((o1.other 1 _ (Nat.ne_of_lt (Nat.lt_succ_self _))).all _ _ _)) rfl ?_
  exact ⟨rfl, bel_all (B1.setCell (p := ⟨w.heap.size + 1, 1, none⟩) (Nat.le_succ _) _) (Nat.le_refl _) _ _ _⟩
set_option maxRecDepth 100000 in
set_option maxHeartbeats 800000 in
theorem r_take_4a (s : ByteArray) (c : Int) (r : List UInt8) (w : World) (H : Head s c r) (hk : kd c = 4) (hs : r.length ≤ 9223372036854775807) (ht : tkU r 1 = (0, [], 6)) :
    Calls Try.prog 17 #[.string s] w fun e w' => e = .returned (.tuple #[ins 0 0 0, .string (str []), .bool false]) ∧ Below w.heap.size w w' := by
  obtain ⟨h0, he, hc, hb, hx, hw⟩ := H
  have hk' := hide hk
  have T := hide (r_takeU_is r 1 0 [] 6 · hs ht)
  clear ht hs
  clear hk hb
  go_enter Try.func17, Try.ntmps17
  go_wp2_with fail
  refine (r_kind_is c 4 _ hk'.out).mono ?_
  rintro e w1 ⟨rfl, rfl⟩
  go_wp2_with fail
  refine (T.out _).mono ?_
  rintro e w1 ⟨rfl, b1⟩
  have x1 := (two_new w 0 0 0 c 0 0).kept b1
  have o1 := (two_old w 0 0 0 _).kept b1
  have B1 := below_next (bel_two w _ _) b1
  clear b1
  have c01 := x1.c0
  have c11 := x1.c1
  have c21 := x1.c2
  have f01 := x1.fr 0
  have f11 := x1.fr 1
  have f21 := x1.fr 2
  have d01 := o1.c0
  have d11 := o1.c1
  have d21 := o1.c2
  have g01 := o1.fr 0
  have g11 := o1.fr 1
  have g21 := o1.fr 2
  go_wp2_with fail
  refine bodyPost_ret (results_box rfl _ _ w.heap.size 0 0 0 rfl ((o1.other 2 _ (Nat.ne_of_lt (Nat.lt_succ_self _))).all _ _ _)) rfl ?_
  exact ⟨rfl, bel_all (B1.setCell (p := ⟨w.heap.size + 1, 2, none⟩) (Nat.le_succ _) _) (Nat.le_refl _) _ _ _⟩
set_option maxRecDepth 100000 in
set_option maxHeartbeats 800000 in
theorem r_take_4b (s : ByteArray) (c : Int) (r : List UInt8) (m : Int) (l : List UInt8) (w : World) (H : Head s c r) (hk : kd c = 4) (hs : r.length ≤ 9223372036854775807) (ht : tkU r 1 = (m, l, 0)) (hs2 : l.length ≤ 9223372036854775807) (ht2 : tkU l 32 = (0, [], 6)) :
    Calls Try.prog 17 #[.string s] w fun e w' => e = .returned (.tuple #[ins 0 0 0, .string (str []), .bool false]) ∧ Below w.heap.size w w' := by
  obtain ⟨h0, he, hc, hb, hx, hw⟩ := H
  have hk' := hide hk
  have T := hide (r_takeU_is r 1 m l 0 · hs ht)
  have T2 := hide (r_takeU_is l 32 0 [] 6 · hs2 ht2)
  clear ht hs ht2 hs2
  clear hk hb
  go_enter Try.func17, Try.ntmps17
  go_wp2_with fail
  refine (r_kind_is c 4 _ hk'.out).mono ?_
  rintro e w1 ⟨rfl, rfl⟩
  go_wp2_with fail
  refine (T.out _).mono ?_
  rintro e w1 ⟨rfl, b1⟩
  have x1 := (two_new w 0 0 0 c 0 0).kept b1
  have o1 := (two_old w 0 0 0 _).kept b1
  have B1 := below_next (bel_two w _ _) b1
  clear b1
  have c01 := x1.c0
  have c11 := x1.c1
  have c21 := x1.c2
  have f01 := x1.fr 0
  have f11 := x1.fr 1
  have f21 := x1.fr 2
  have d01 := o1.c0
  have d11 := o1.c1
  have d21 := o1.c2
  have g01 := o1.fr 0
  have g11 := o1.fr 1
  have g21 := o1.fr 2
  go_wp2_with fail
  refine (T2.out _).mono ?_
  rintro e w2 ⟨rfl, b2⟩
  have x2 := (x1.set2 _).kept b2
  have o2 := (o1.other 2 _ (Nat.ne_of_lt (Nat.lt_succ_self _))).kept b2
  have B2 := below_next (B1.setCell (p := ⟨w.heap.size + 1, 2, none⟩) (Nat.le_succ _) _) b2
  clear b2
  have c02 := x2.c0
  have c12 := x2.c1
  have c22 := x2.c2
  have f02 := x2.fr 0
  have f12 := x2.fr 1
  have f22 := x2.fr 2
  have d02 := o2.c0
  have d12 := o2.c1
  have d22 := o2.c2
  have g02 := o2.fr 0
  have g12 := o2.fr 1
  have g22 := o2.fr 2
  go_wp2_with fail
  refine bodyPost_ret (results_box rfl _ _ w.heap.size 0 0 0 rfl ((o2.other 1 _ (Nat.ne_of_lt (Nat.lt_succ_self _))).all _ _ _)) rfl ?_
  exact ⟨rfl, bel_all (B2.setCell (p := ⟨w.heap.size + 1, 1, none⟩) (Nat.le_succ _) _) (Nat.le_refl _) _ _ _⟩
set_option maxRecDepth 100000 in
set_option maxHeartbeats 800000 in
theorem r_take_4c (s : ByteArray) (c : Int) (r : List UInt8) (m : Int) (l : List UInt8) (n : Int) (q : List UInt8) (w : World) (H : Head s c r) (hk : kd c = 4) (hs : r.length ≤ 9223372036854775807) (ht : tkU r 1 = (m, l, 0)) (hs2 : l.length ≤ 9223372036854775807) (ht2 : tkU l 32 = (n, q, 0)) :
    Calls Try.prog 17 #[.string s] w fun e w' => e = .returned (.tuple #[ins c n m, .string (str q), .bool true]) ∧ Below w.heap.size w w' := by
  obtain ⟨h0, he, hc, hb, hx, hw⟩ := H
  have hk' := hide hk
  have T := hide (r_takeU_is r 1 m l 0 · hs ht)
  have T2 := hide (r_takeU_is l 32 n q 0 · hs2 ht2)
  clear ht hs ht2 hs2
  clear hk hb
  go_enter Try.func17, Try.ntmps17
  go_wp2_with fail
  refine (r_kind_is c 4 _ hk'.out).mono ?_
  rintro e w1 ⟨rfl, rfl⟩
  go_wp2_with fail
  refine (T.out _).mono ?_
  rintro e w1 ⟨rfl, b1⟩
  have x1 := (two_new w 0 0 0 c 0 0).kept b1
  have o1 := (two_old w 0 0 0 _).kept b1
  have B1 := below_next (bel_two w _ _) b1
  clear b1
  have c01 := x1.c0
  have c11 := x1.c1
  have c21 := x1.c2
  have f01 := x1.fr 0
  have f11 := x1.fr 1
  have f21 := x1.fr 2
  have d01 := o1.c0
  have d11 := o1.c1
  have d21 := o1.c2
  have g01 := o1.fr 0
  have g11 := o1.fr 1
  have g21 := o1.fr 2
  go_wp2_with fail
  refine (T2.out _).mono ?_
  rintro e w2 ⟨rfl, b2⟩
  have x2 := (x1.set2 _).kept b2
  have o2 := (o1.other 2 _ (Nat.ne_of_lt (Nat.lt_succ_self _))).kept b2
  have B2 := below_next (B1.setCell (p := ⟨w.heap.size + 1, 2, none⟩) (Nat.le_succ _) _) b2
  clear b2
  have c02 := x2.c0
  have c12 := x2.c1
  have c22 := x2.c2
  have f02 := x2.fr 0
  have f12 := x2.fr 1
  have f22 := x2.fr 2
  have d02 := o2.c0
  have d12 := o2.c1
  have d22 := o2.c2
  have g02 := o2.fr 0
  have g12 := o2.fr 1
  have g22 := o2.fr 2
  go_wp2_with fail
  refine bodyPost_ret (results_box rfl _ _ w.heap.size c n m rfl ((o2.other 1 _ (Nat.ne_of_lt (Nat.lt_succ_self _))).all _ _ _)) rfl ?_
  exact ⟨rfl, bel_all (B2.setCell (p := ⟨w.heap.size + 1, 1, none⟩) (Nat.le_succ _) _) (Nat.le_refl _) _ _ _⟩
/-- What r_Take's call ends with. -/
theorem r_take_some (l : List UInt8) (op n m : Int) (q : List UInt8) (w : World) (hl : l.length ≤ 9223372036854775807) (h : tkI l = some ((op, n, m), q)) :
    Calls Try.prog 17 #[.string (str l)] w fun e w' => e = .returned (.tuple #[ins op n m, .string (str q), .bool true]) ∧ Below w.heap.size w w' := by
  cases l with
  | nil => simp [tkI] at h
  | cons d r =>
    have H := head_of d r
    have hr : r.length ≤ 9223372036854775807 := by simp at hl; omega
    simp only [tkI] at h
    generalize (d.toNat : Int) = c at *
    rcases kd_bd c with k | k | k | k | k | k | k
    · simp [tkR, k] at h
    · simp [tkR, k] at h; obtain ⟨⟨rfl, rfl, rfl⟩, rfl⟩ := h; exact r_take_1 _ _ _ w H k
    · cases e : tb r with
      | none => simp [tkR, k, e] at h
      | some x =>
        obtain ⟨a, b⟩ := x
        simp [tkR, k, e] at h; obtain ⟨⟨rfl, rfl, rfl⟩, rfl⟩ := h; exact r_take_2b _ _ _ _ _ w H k e
    · rcases tkU_two r 32 (by omega) with e | ⟨a, b, e⟩
      · simp [tkR, k, e, ok3] at h
      · simp [tkR, k, e, ok3] at h; obtain ⟨⟨rfl, rfl, rfl⟩, rfl⟩ := h; exact r_take_3b _ _ _ _ _ w H k hr e
    · rcases tkU_two r 1 (by omega) with e | ⟨a, b, e⟩
      · simp [tkR, k, e, ok3] at h
      · have hb := tkU_len e hr
        rcases tkU_two b 32 (by omega) with e2 | ⟨a2, b2, e2⟩
        · simp [tkR, k, e, e2, ok3] at h
        · simp [tkR, k, e, e2, ok3] at h; obtain ⟨⟨rfl, rfl, rfl⟩, rfl⟩ := h; exact r_take_4c _ _ _ _ _ _ _ w H k hr e hb e2
    · rcases tkS_two r 32 (by omega) with e | ⟨a, b, e⟩
      · simp [tkR, k, e, ok3] at h
      · simp [tkR, k, e, ok3] at h; obtain ⟨⟨rfl, rfl, rfl⟩, rfl⟩ := h; exact r_take_5b _ _ _ _ _ w H k hr e
    · rcases tkS_two r 64 (by omega) with e | ⟨a, b, e⟩
      · simp [tkR, k, e, ok3] at h
      · simp [tkR, k, e, ok3] at h; obtain ⟨⟨rfl, rfl, rfl⟩, rfl⟩ := h; exact r_take_6b _ _ _ _ _ w H k hr e
theorem r_take_none (l : List UInt8) (w : World) (hl : l.length ≤ 9223372036854775807) (h : tkI l = none) :
    Calls Try.prog 17 #[.string (str l)] w fun e w' => e = .returned (.tuple #[ins 0 0 0, .string (str []), .bool false]) ∧ Below w.heap.size w w' := by
  cases l with
  | nil => exact r_take_empty w
  | cons d r =>
    have H := head_of d r
    have hr : r.length ≤ 9223372036854775807 := by simp at hl; omega
    simp only [tkI] at h
    generalize (d.toNat : Int) = c at *
    rcases kd_bd c with k | k | k | k | k | k | k
    · exact r_take_0 _ _ _ w H k
    · simp [tkR, k] at h
    · simp [tkR, k] at h; exact r_take_2a _ _ _ w H k h
    · rcases tkU_two r 32 (by omega) with e | ⟨a, b, e⟩
      · exact r_take_3a _ _ _ w H k hr e
      · simp [tkR, k, e, ok3] at h
    · rcases tkU_two r 1 (by omega) with e | ⟨a, b, e⟩
      · exact r_take_4a _ _ _ w H k hr e
      · have hb := tkU_len e hr
        rcases tkU_two b 32 (by omega) with e2 | ⟨a2, b2, e2⟩
        · exact r_take_4b _ _ _ _ _ w H k hr e hb e2
        · simp [tkR, k, e, e2, ok3] at h
    · rcases tkS_two r 32 (by omega) with e | ⟨a, b, e⟩
      · exact r_take_5a _ _ _ w H k hr e
      · simp [tkR, k, e, ok3] at h
    · rcases tkS_two r 64 (by omega) with e | ⟨a, b, e⟩
      · exact r_take_6a _ _ _ w H k hr e
      · simp [tkR, k, e, ok3] at h
end Go.Proofs.Ytcipbnbeoacenaa
