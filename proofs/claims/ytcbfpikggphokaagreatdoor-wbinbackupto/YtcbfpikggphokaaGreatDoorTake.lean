/-
  The program's function Take reads what the plain function tkI reads, of any string; memory that was there stays as it was.
-/
import Derived.Test.YtcbfpikggphokaaGreatDoorBytes
namespace Go.Proofs.YtcbfpikggphokaaGreatDoor
open Go.RowKit

/-- What a block brings, read. -/
def tb : List UInt8 → Option (Int × List UInt8)
  | [] => none
  | d :: r => if (d.toNat : Int) = 64 then some (0, r) else if 124 ≤ (d.toNat : Int) ∧ (d.toNat : Int) ≤ 127 then some (128 - d.toNat, r) else none
/-- A number that was read without an error. -/
def ok3 (t : Int × List UInt8 × Int) : Option (Int × List UInt8) := if t.2.2 = 0 then some (t.1, t.2.1) else none
/-- What stands behind a first byte c. -/
def tkR (c : Int) (r : List UInt8) : Option ((Int × Int) × List UInt8) :=
  if kd c = 1 then some ((0, 0), r)
  else if kd c = 2 then (tb r).map fun x => ((0, x.1), x.2)
  else if kd c = 3 then (ok3 (tkU r 32)).map fun x => ((x.1, 0), x.2)
  else if kd c = 4 then (ok3 (tkU r 1)).bind fun y => (ok3 (tkU y.2 32)).map fun x => ((x.1, y.1), x.2)
  else if kd c = 5 then (ok3 (tkS r 32)).map fun x => ((x.1, 0), x.2)
  else if kd c = 6 then (ok3 (tkS r 64)).map fun x => ((x.1, 0), x.2)
  else none
/-- The instruction that bytes begin with. -/
def tkI : List UInt8 → Option ((Int × Int × Int) × List UInt8)
  | [] => none
  | d :: r => (tkR d.toNat r).map fun x => ((d.toNat, x.1.1, x.1.2), x.2)

theorem str_list (l : List UInt8) : (str l).data.toList = l := by simp [str]
theorem results_box {fn : Func} {p t u : Tmp} (h : fn.results = #[.cell p 52, .tmp t, .tmp u]) (tmps : Array Value) (w : World) (g : Nat) (op n m : Int) (hp : tmps.getD p undef = .pointer (some ⟨g, 0, none⟩)) (hb : Box g op n m w) :
    (results fn tmps).run Tryz.prog w = .ok (.tuple #[ins op n m, tmps.getD t undef, tmps.getD u undef]) w := by
  have hl := run_loadVar_row (P := Tryz.prog) w g 52 52 _ _ _ hb Tryz.underlying52 rfl (by kernel_rfl)
  have hp' : tmps[p]?.getD undef = .pointer (some ⟨g, 0, none⟩) := by simpa using hp
  simp [results, h, hp', asAddr, hl, ins]
theorem Box.set0 {b : Nat} {op n m : Int} {w : World} (h : Box b op n m w) (x : Int) : Box b x n m (w.setCell ⟨b, 0, none⟩ (.int .i64 x)) := by
  unfold Box at *; simp [World.setCell, Array.getElem?_modify, h]
theorem Box.all {b : Nat} {op n m : Int} {w : World} (h : Box b op n m w) (x y z : Int) :
    Box b x y z (((w.setCell ⟨b, 0, none⟩ (.int .i64 x)).setCell ⟨b, 1, none⟩ (.int .i64 y)).setCell ⟨b, 2, none⟩ (.int .i64 z)) := ((h.set0 x).set1 y).set2 z
theorem bel_all {B b : Nat} {a w : World} (h : Below B a w) (hb : B ≤ b) (x y z : Value) :
    Below B a (((w.setCell ⟨b, 0, none⟩ x).setCell ⟨b, 1, none⟩ y).setCell ⟨b, 2, none⟩ z) := ((h.setCell hb x).setCell hb y).setCell hb z
theorem size_set (w : World) (a : Addr) (v : Value) : (w.setCell a v).heap.size = w.heap.size := by simp [World.setCell]

theorem takeU_is (r : List UInt8) (b a : Int) (l : List UInt8) (e : Int) (w : World) (hs : r.length ≤ 9223372036854775807) (h : tkU r b = (a, l, e)) :
    Calls Tryz.prog 140 #[.string (str r), .int .i64 b] w fun x w' => x = .returned (.tuple #[.int .i64 a, .string (str l), .int .i64 e]) ∧ Below w.heap.size w w' := by
  have T := takeU_any (str r) b w (by rw [str_size]; exact hs)
  rw [str_list, h] at T; exact T
theorem takeS_is (r : List UInt8) (b a : Int) (l : List UInt8) (e : Int) (w : World) (hs : r.length ≤ 9223372036854775807) (h : tkS r b = (a, l, e)) :
    Calls Tryz.prog 155 #[.string (str r), .int .i64 b] w fun x w' => x = .returned (.tuple #[.int .i64 a, .string (str l), .int .i64 e]) ∧ Below w.heap.size w w' := by
  have T := takeS_any (str r) b w (by rw [str_size]; exact hs)
  rw [str_list, h] at T; exact T
theorem tkU_two (l : List UInt8) (b : Int) (h : 1 ≤ b ∧ b ≤ 63) : tkU l b = (0, [], 6) ∨ ∃ a r, tkU l b = (a, r, 0) := by
  unfold tkU
  rw [if_neg (by omega)]
  split
  · exact Or.inr ⟨_, _, rfl⟩
  · exact Or.inl rfl
theorem tkU_len {l : List UInt8} {b a e : Int} {r : List UInt8} (h : tkU l b = (a, r, e)) (hl : l.length ≤ 9223372036854775807) : r.length ≤ 9223372036854775807 := by
  unfold tkU at h
  split at h
  · cases h; simp
  · split at h
    · cases h; simp; omega
    · cases h; simp
theorem tkS_two (l : List UInt8) (b : Int) (h : 1 ≤ b ∧ b ≤ 64) : tkS l b = (0, [], 6) ∨ ∃ a r, tkS l b = (a, r, 0) := by
  unfold tkS
  rw [if_neg (by omega)]
  split
  · exact Or.inr ⟨_, _, rfl⟩
  · exact Or.inl rfl

/-- A string's first byte and the rest. -/
structure Head (s : ByteArray) (c : Int) (r : List UInt8) : Prop where
  pos : 0 < s.size
  empty : s.toList.isEmpty = false
  first : (s[0].toNat : Int) = c
  byte : 0 ≤ c ∧ c ≤ 255
  rest : s.extract 1 s.size = str r
  whole : wrap64 c = c
theorem head_of (d : UInt8) (r : List UInt8) : Head (str (d :: r)) d.toNat r := by
  have hd := d.toNat_lt
  refine ⟨by simp [str, ByteArray.size], by unfold str; simp, by simp [str, ByteArray.getElem_eq_getElem_data], by omega, ?_, by unfold wrap64; omega⟩
  rw [ext_drop, str_list]; rfl
theorem str_back (s : ByteArray) : s = str s.data.toList := by
  apply ByteArray.ext; simp [str]

theorem tb_empty (w : World) :
    Calls Tryz.prog 160 #[.string (str [])] w fun e w' => e = .returned (.tuple #[.int .i64 0, .string (str []), .int .i64 6]) ∧ w' = w := by
  have he : (str []).toList.isEmpty = true := by unfold str; simp
  go_enter Tryz.func160, Tryz.ntmps160
  go_wp2_with fail
  go_ret3
  exact ⟨rfl, rfl⟩
theorem tb_64 (s : ByteArray) (r : List UInt8) (w : World) (H : Head s 64 r) :
    Calls Tryz.prog 160 #[.string s] w fun e w' => e = .returned (.tuple #[.int .i64 0, .string (str r), .int .i64 0]) ∧ Below w.heap.size w w' := by
  obtain ⟨h0, he, hc, hb, hx, hw⟩ := H
  go_enter Tryz.func160, Tryz.ntmps160
  go_wp2_with fail
  go_quiet (fail)
  go_wp2_with fail
  go_ret3
  exact ⟨rfl, below_drewN (Below.refl _ _) _⟩
theorem tb_yes (s : ByteArray) (c : Int) (r : List UInt8) (w : World) (H : Head s c r) (h : 124 ≤ c ∧ c ≤ 127) :
    Calls Tryz.prog 160 #[.string s] w fun e w' => e = .returned (.tuple #[.int .i64 (128 - c), .string (str r), .int .i64 0]) ∧ Below w.heap.size w w' := by
  obtain ⟨h0, he, hc, hb, hx, hw⟩ := H
  have h64 : (c == 64) = false := by simp; omega
  have hw2 : wrap64 (127 - c) = 127 - c := by unfold wrap64; omega
  have hw3 : wrap64 (127 - c + 1) = 128 - c := by unfold wrap64; omega
  have HR := hide (right_is (127 - c) true · (by unfold I64; omega) (by rw [ri_iff]; omega))
  clear hb h
  go_enter Tryz.func160, Tryz.ntmps160
  go_wp2_with fail
  refine (HR.out _).mono ?_
  rintro e w1 ⟨rfl, rfl⟩
  go_wp2_with fail
  go_quiet (fail)
  go_wp2_with fail
  go_ret3
  exact ⟨ret3 hw3 rfl rfl, below_drewN (Below.refl _ _) _⟩
theorem tb_no (s : ByteArray) (c : Int) (r : List UInt8) (w : World) (H : Head s c r) (h : ¬ (124 ≤ c ∧ c ≤ 127)) (h6 : c ≠ 64) :
    Calls Tryz.prog 160 #[.string s] w fun e w' => e = .returned (.tuple #[.int .i64 0, .string (str []), .int .i64 6]) ∧ w' = w := by
  obtain ⟨h0, he, hc, hb, hx, hw⟩ := H
  have h64 : (c == 64) = false := by simpa using h6
  have hw2 : wrap64 (127 - c) = 127 - c := by unfold wrap64; omega
  have HR := hide (right_is (127 - c) false · (by unfold I64; omega) (by rw [← Bool.not_eq_true, ri_iff]; omega))
  clear hb h h6
  go_enter Tryz.func160, Tryz.ntmps160
  go_wp2_with fail
  refine (HR.out _).mono ?_
  rintro e w1 ⟨rfl, rfl⟩
  go_wp2_with fail
  go_ret3
  exact ⟨rfl, rfl⟩
theorem tb_some (r l : List UInt8) (m : Int) (w : World) (h : tb r = some (m, l)) :
    Calls Tryz.prog 160 #[.string (str r)] w fun e w' => e = .returned (.tuple #[.int .i64 m, .string (str l), .int .i64 0]) ∧ Below w.heap.size w w' := by
  cases r with
  | nil => simp [tb] at h
  | cons d r =>
    have H := head_of d r
    simp only [tb] at h
    split at h
    · cases h
      rename_i h6
      rw [h6] at H
      exact tb_64 _ _ w H
    · split at h
      · cases h; exact tb_yes _ _ _ w H (by assumption)
      · cases h
theorem tb_none (r : List UInt8) (w : World) (h : tb r = none) :
    Calls Tryz.prog 160 #[.string (str r)] w fun e w' => e = .returned (.tuple #[.int .i64 0, .string (str []), .int .i64 6]) ∧ Below w.heap.size w w' := by
  cases r with
  | nil =>
    refine (tb_empty w).mono ?_
    rintro e w' ⟨rfl, rfl⟩
    exact ⟨rfl, Below.refl _ _⟩
  | cons d r =>
    have H := head_of d r
    simp only [tb] at h
    split at h
    · cases h
    · split at h
      · cases h
      · refine (tb_no _ _ _ w H (by assumption) (by assumption)).mono ?_
        rintro e w' ⟨rfl, rfl⟩
        exact ⟨rfl, Below.refl _ _⟩

theorem take_empty (w : World) :
    Calls Tryz.prog 156 #[.string (str [])] w fun e w' => e = .returned (.tuple #[ins 0 0 0, .string (str []), .int .i64 6]) ∧ Below w.heap.size w w' := by
  have he : (str []).toList.isEmpty = true := by unfold str; simp
  go_enter Tryz.func156, Tryz.ntmps156
  go_wp2_with fail
  refine bodyPost_ret (results_box rfl _ _ w.heap.size 0 0 0 rfl (Box.made _ _ _ _)) rfl ?_
  exact ⟨rfl, bel_one _ _⟩
set_option maxRecDepth 100000 in
set_option maxHeartbeats 800000 in
theorem take_0 (s : ByteArray) (c : Int) (r : List UInt8) (w : World) (H : Head s c r) (hk : kd c = 0) :
    Calls Tryz.prog 156 #[.string s] w fun e w' => e = .returned (.tuple #[ins 0 0 0, .string (str []), .int .i64 6]) ∧ Below w.heap.size w w' := by
  obtain ⟨h0, he, hc, hb, hx, hw⟩ := H
  have hk' := hide hk
  clear hk hb
  go_enter Tryz.func156, Tryz.ntmps156
  go_wp2_with fail
  go_region
  go_wp2_with fail
  refine (kind_is c 0 _ hk'.out).mono ?_
  rintro e w1 ⟨rfl, rfl⟩
  go_wp2_with fail
  refine bodyPost_ret (results_box rfl _ _ w.heap.size 0 0 0 rfl (Box.made _ _ _ _)) rfl ?_
  exact ⟨rfl, (bel_one _ _).drew⟩
set_option maxRecDepth 100000 in
set_option maxHeartbeats 800000 in
theorem take_1 (s : ByteArray) (c : Int) (r : List UInt8) (w : World) (H : Head s c r) (hk : kd c = 1) :
    Calls Tryz.prog 156 #[.string s] w fun e w' => e = .returned (.tuple #[ins c 0 0, .string (str r), .int .i64 0]) ∧ Below w.heap.size w w' := by
  obtain ⟨h0, he, hc, hb, hx, hw⟩ := H
  have hk' := hide hk
  clear hk hb
  go_enter Tryz.func156, Tryz.ntmps156
  go_wp2_with fail
  go_region
  go_wp2_with fail
  refine (kind_is c 1 _ hk'.out).mono ?_
  rintro e w1 ⟨rfl, rfl⟩
  go_wp2_with fail
  refine bodyPost_ret (results_box rfl _ _ w.heap.size c 0 0 rfl (Box.made _ _ _ _)) rfl ?_
  exact ⟨rfl, (bel_one _ _).drew⟩
set_option maxRecDepth 100000 in
set_option maxHeartbeats 800000 in
theorem take_2a (s : ByteArray) (c : Int) (r : List UInt8) (w : World) (H : Head s c r) (hk : kd c = 2) (ht : tb r = none) :
    Calls Tryz.prog 156 #[.string s] w fun e w' => e = .returned (.tuple #[ins 0 0 0, .string (str []), .int .i64 6]) ∧ Below w.heap.size w w' := by
  obtain ⟨h0, he, hc, hb, hx, hw⟩ := H
  have hk' := hide hk
  have T := hide (tb_none r · ht)
  clear ht
  clear hk hb
  go_enter Tryz.func156, Tryz.ntmps156
  go_wp2_with fail
  go_region
  go_wp2_with fail
  refine (kind_is c 2 _ hk'.out).mono ?_
  rintro e w1 ⟨rfl, rfl⟩
  go_wp2_with fail
  refine (T.out _).mono ?_
  rintro e w1 ⟨rfl, b1⟩
  have x1 := ((Box.made w c 0 0).drewN 1).kept b1
  have B1 := below_next ((bel_one w _).drew) b1
  clear b1
  have c01 := x1.c0
  have c11 := x1.c1
  have c21 := x1.c2
  have f01 := x1.fr 0
  have f11 := x1.fr 1
  have f21 := x1.fr 2
  go_wp2_with fail
  refine bodyPost_ret (results_box rfl _ _ w.heap.size 0 0 0 rfl ((x1.set2 _).all _ _ _)) rfl ?_
  exact ⟨rfl, bel_all (B1.setCell (p := ⟨w.heap.size, 2, none⟩) (Nat.le_refl _) _) (Nat.le_refl _) _ _ _⟩
set_option maxRecDepth 100000 in
set_option maxHeartbeats 800000 in
theorem take_2b (s : ByteArray) (c : Int) (r : List UInt8) (m : Int) (l : List UInt8) (w : World) (H : Head s c r) (hk : kd c = 2) (ht : tb r = some (m, l)) :
    Calls Tryz.prog 156 #[.string s] w fun e w' => e = .returned (.tuple #[ins c 0 m, .string (str l), .int .i64 0]) ∧ Below w.heap.size w w' := by
  obtain ⟨h0, he, hc, hb, hx, hw⟩ := H
  have hk' := hide hk
  have T := hide (tb_some r l m · ht)
  clear ht
  clear hk hb
  go_enter Tryz.func156, Tryz.ntmps156
  go_wp2_with fail
  go_region
  go_wp2_with fail
  refine (kind_is c 2 _ hk'.out).mono ?_
  rintro e w1 ⟨rfl, rfl⟩
  go_wp2_with fail
  refine (T.out _).mono ?_
  rintro e w1 ⟨rfl, b1⟩
  have x1 := ((Box.made w c 0 0).drewN 1).kept b1
  have B1 := below_next ((bel_one w _).drew) b1
  clear b1
  have c01 := x1.c0
  have c11 := x1.c1
  have c21 := x1.c2
  have f01 := x1.fr 0
  have f11 := x1.fr 1
  have f21 := x1.fr 2
  go_wp2_with fail
  refine bodyPost_ret (results_box rfl _ _ w.heap.size c 0 m rfl ((x1.set2 _).all _ _ _)) rfl ?_
  exact ⟨rfl, bel_all (B1.setCell (p := ⟨w.heap.size, 2, none⟩) (Nat.le_refl _) _) (Nat.le_refl _) _ _ _⟩
set_option maxRecDepth 100000 in
set_option maxHeartbeats 800000 in
theorem take_3a (s : ByteArray) (c : Int) (r : List UInt8) (w : World) (H : Head s c r) (hk : kd c = 3) (hs : r.length ≤ 9223372036854775807) (ht : tkU r 32 = (0, [], 6)) :
    Calls Tryz.prog 156 #[.string s] w fun e w' => e = .returned (.tuple #[ins 0 0 0, .string (str []), .int .i64 6]) ∧ Below w.heap.size w w' := by
  obtain ⟨h0, he, hc, hb, hx, hw⟩ := H
  have hk' := hide hk
  have T := hide (takeU_is r 32 0 [] 6 · hs ht)
  clear ht hs
  clear hk hb
  go_enter Tryz.func156, Tryz.ntmps156
  go_wp2_with fail
  go_region
  go_wp2_with fail
  refine (kind_is c 3 _ hk'.out).mono ?_
  rintro e w1 ⟨rfl, rfl⟩
  go_wp2_with fail
  refine (T.out _).mono ?_
  rintro e w1 ⟨rfl, b1⟩
  have x1 := ((Box.made w c 0 0).drewN 1).kept b1
  have B1 := below_next ((bel_one w _).drew) b1
  clear b1
  have c01 := x1.c0
  have c11 := x1.c1
  have c21 := x1.c2
  have f01 := x1.fr 0
  have f11 := x1.fr 1
  have f21 := x1.fr 2
  go_wp2_with fail
  refine bodyPost_ret (results_box rfl _ _ w.heap.size 0 0 0 rfl ((x1.set1 _).all _ _ _)) rfl ?_
  exact ⟨rfl, bel_all (B1.setCell (p := ⟨w.heap.size, 1, none⟩) (Nat.le_refl _) _) (Nat.le_refl _) _ _ _⟩
set_option maxRecDepth 100000 in
set_option maxHeartbeats 800000 in
theorem take_3b (s : ByteArray) (c : Int) (r : List UInt8) (n : Int) (l : List UInt8) (w : World) (H : Head s c r) (hk : kd c = 3) (hs : r.length ≤ 9223372036854775807) (ht : tkU r 32 = (n, l, 0)) :
    Calls Tryz.prog 156 #[.string s] w fun e w' => e = .returned (.tuple #[ins c n 0, .string (str l), .int .i64 0]) ∧ Below w.heap.size w w' := by
  obtain ⟨h0, he, hc, hb, hx, hw⟩ := H
  have hk' := hide hk
  have T := hide (takeU_is r 32 n l 0 · hs ht)
  clear ht hs
  clear hk hb
  go_enter Tryz.func156, Tryz.ntmps156
  go_wp2_with fail
  go_region
  go_wp2_with fail
  refine (kind_is c 3 _ hk'.out).mono ?_
  rintro e w1 ⟨rfl, rfl⟩
  go_wp2_with fail
  refine (T.out _).mono ?_
  rintro e w1 ⟨rfl, b1⟩
  have x1 := ((Box.made w c 0 0).drewN 1).kept b1
  have B1 := below_next ((bel_one w _).drew) b1
  clear b1
  have c01 := x1.c0
  have c11 := x1.c1
  have c21 := x1.c2
  have f01 := x1.fr 0
  have f11 := x1.fr 1
  have f21 := x1.fr 2
  go_wp2_with fail
  refine bodyPost_ret (results_box rfl _ _ w.heap.size c n 0 rfl ((x1.set1 _).all _ _ _)) rfl ?_
  exact ⟨rfl, bel_all (B1.setCell (p := ⟨w.heap.size, 1, none⟩) (Nat.le_refl _) _) (Nat.le_refl _) _ _ _⟩
set_option maxRecDepth 100000 in
set_option maxHeartbeats 800000 in
theorem take_5a (s : ByteArray) (c : Int) (r : List UInt8) (w : World) (H : Head s c r) (hk : kd c = 5) (hs : r.length ≤ 9223372036854775807) (ht : tkS r 32 = (0, [], 6)) :
    Calls Tryz.prog 156 #[.string s] w fun e w' => e = .returned (.tuple #[ins 0 0 0, .string (str []), .int .i64 6]) ∧ Below w.heap.size w w' := by
  obtain ⟨h0, he, hc, hb, hx, hw⟩ := H
  have hk' := hide hk
  have T := hide (takeS_is r 32 0 [] 6 · hs ht)
  clear ht hs
  clear hk hb
  go_enter Tryz.func156, Tryz.ntmps156
  go_wp2_with fail
  go_region
  go_wp2_with fail
  refine (kind_is c 5 _ hk'.out).mono ?_
  rintro e w1 ⟨rfl, rfl⟩
  go_wp2_with fail
  refine (T.out _).mono ?_
  rintro e w1 ⟨rfl, b1⟩
  have x1 := ((Box.made w c 0 0).drewN 1).kept b1
  have B1 := below_next ((bel_one w _).drew) b1
  clear b1
  have c01 := x1.c0
  have c11 := x1.c1
  have c21 := x1.c2
  have f01 := x1.fr 0
  have f11 := x1.fr 1
  have f21 := x1.fr 2
  go_wp2_with fail
  refine bodyPost_ret (results_box rfl _ _ w.heap.size 0 0 0 rfl ((x1.set1 _).all _ _ _)) rfl ?_
  exact ⟨rfl, bel_all (B1.setCell (p := ⟨w.heap.size, 1, none⟩) (Nat.le_refl _) _) (Nat.le_refl _) _ _ _⟩
set_option maxRecDepth 100000 in
set_option maxHeartbeats 800000 in
theorem take_5b (s : ByteArray) (c : Int) (r : List UInt8) (n : Int) (l : List UInt8) (w : World) (H : Head s c r) (hk : kd c = 5) (hs : r.length ≤ 9223372036854775807) (ht : tkS r 32 = (n, l, 0)) :
    Calls Tryz.prog 156 #[.string s] w fun e w' => e = .returned (.tuple #[ins c n 0, .string (str l), .int .i64 0]) ∧ Below w.heap.size w w' := by
  obtain ⟨h0, he, hc, hb, hx, hw⟩ := H
  have hk' := hide hk
  have T := hide (takeS_is r 32 n l 0 · hs ht)
  clear ht hs
  clear hk hb
  go_enter Tryz.func156, Tryz.ntmps156
  go_wp2_with fail
  go_region
  go_wp2_with fail
  refine (kind_is c 5 _ hk'.out).mono ?_
  rintro e w1 ⟨rfl, rfl⟩
  go_wp2_with fail
  refine (T.out _).mono ?_
  rintro e w1 ⟨rfl, b1⟩
  have x1 := ((Box.made w c 0 0).drewN 1).kept b1
  have B1 := below_next ((bel_one w _).drew) b1
  clear b1
  have c01 := x1.c0
  have c11 := x1.c1
  have c21 := x1.c2
  have f01 := x1.fr 0
  have f11 := x1.fr 1
  have f21 := x1.fr 2
  go_wp2_with fail
  refine bodyPost_ret (results_box rfl _ _ w.heap.size c n 0 rfl ((x1.set1 _).all _ _ _)) rfl ?_
  exact ⟨rfl, bel_all (B1.setCell (p := ⟨w.heap.size, 1, none⟩) (Nat.le_refl _) _) (Nat.le_refl _) _ _ _⟩
set_option maxRecDepth 100000 in
set_option maxHeartbeats 800000 in
theorem take_6a (s : ByteArray) (c : Int) (r : List UInt8) (w : World) (H : Head s c r) (hk : kd c = 6) (hs : r.length ≤ 9223372036854775807) (ht : tkS r 64 = (0, [], 6)) :
    Calls Tryz.prog 156 #[.string s] w fun e w' => e = .returned (.tuple #[ins 0 0 0, .string (str []), .int .i64 6]) ∧ Below w.heap.size w w' := by
  obtain ⟨h0, he, hc, hb, hx, hw⟩ := H
  have hk' := hide hk
  have T := hide (takeS_is r 64 0 [] 6 · hs ht)
  clear ht hs
  clear hk hb
  go_enter Tryz.func156, Tryz.ntmps156
  go_wp2_with fail
  go_region
  go_wp2_with fail
  refine (kind_is c 6 _ hk'.out).mono ?_
  rintro e w1 ⟨rfl, rfl⟩
  go_wp2_with fail
  refine (T.out _).mono ?_
  rintro e w1 ⟨rfl, b1⟩
  have x1 := ((Box.made w c 0 0).drewN 1).kept b1
  have B1 := below_next ((bel_one w _).drew) b1
  clear b1
  have c01 := x1.c0
  have c11 := x1.c1
  have c21 := x1.c2
  have f01 := x1.fr 0
  have f11 := x1.fr 1
  have f21 := x1.fr 2
  go_wp2_with fail
  refine bodyPost_ret (results_box rfl _ _ w.heap.size 0 0 0 rfl ((x1.set1 _).all _ _ _)) rfl ?_
  exact ⟨rfl, bel_all (B1.setCell (p := ⟨w.heap.size, 1, none⟩) (Nat.le_refl _) _) (Nat.le_refl _) _ _ _⟩
set_option maxRecDepth 100000 in
set_option maxHeartbeats 800000 in
theorem take_6b (s : ByteArray) (c : Int) (r : List UInt8) (n : Int) (l : List UInt8) (w : World) (H : Head s c r) (hk : kd c = 6) (hs : r.length ≤ 9223372036854775807) (ht : tkS r 64 = (n, l, 0)) :
    Calls Tryz.prog 156 #[.string s] w fun e w' => e = .returned (.tuple #[ins c n 0, .string (str l), .int .i64 0]) ∧ Below w.heap.size w w' := by
  obtain ⟨h0, he, hc, hb, hx, hw⟩ := H
  have hk' := hide hk
  have T := hide (takeS_is r 64 n l 0 · hs ht)
  clear ht hs
  clear hk hb
  go_enter Tryz.func156, Tryz.ntmps156
  go_wp2_with fail
  go_region
  go_wp2_with fail
  refine (kind_is c 6 _ hk'.out).mono ?_
  rintro e w1 ⟨rfl, rfl⟩
  go_wp2_with fail
  refine (T.out _).mono ?_
  rintro e w1 ⟨rfl, b1⟩
  have x1 := ((Box.made w c 0 0).drewN 1).kept b1
  have B1 := below_next ((bel_one w _).drew) b1
  clear b1
  have c01 := x1.c0
  have c11 := x1.c1
  have c21 := x1.c2
  have f01 := x1.fr 0
  have f11 := x1.fr 1
  have f21 := x1.fr 2
  go_wp2_with fail
  refine bodyPost_ret (results_box rfl _ _ w.heap.size c n 0 rfl ((x1.set1 _).all _ _ _)) rfl ?_
  exact ⟨rfl, bel_all (B1.setCell (p := ⟨w.heap.size, 1, none⟩) (Nat.le_refl _) _) (Nat.le_refl _) _ _ _⟩
set_option maxRecDepth 100000 in
set_option maxHeartbeats 800000 in
theorem take_4a (s : ByteArray) (c : Int) (r : List UInt8) (w : World) (H : Head s c r) (hk : kd c = 4) (hs : r.length ≤ 9223372036854775807) (ht : tkU r 1 = (0, [], 6)) :
    Calls Tryz.prog 156 #[.string s] w fun e w' => e = .returned (.tuple #[ins 0 0 0, .string (str []), .int .i64 6]) ∧ Below w.heap.size w w' := by
  obtain ⟨h0, he, hc, hb, hx, hw⟩ := H
  have hk' := hide hk
  have T := hide (takeU_is r 1 0 [] 6 · hs ht)
  clear ht hs
  clear hk hb
  go_enter Tryz.func156, Tryz.ntmps156
  go_wp2_with fail
  go_region
  go_wp2_with fail
  refine (kind_is c 4 _ hk'.out).mono ?_
  rintro e w1 ⟨rfl, rfl⟩
  go_wp2_with fail
  refine (T.out _).mono ?_
  rintro e w1 ⟨rfl, b1⟩
  have x1 := ((Box.made w c 0 0).drewN 1).kept b1
  have B1 := below_next ((bel_one w _).drew) b1
  clear b1
  have c01 := x1.c0
  have c11 := x1.c1
  have c21 := x1.c2
  have f01 := x1.fr 0
  have f11 := x1.fr 1
  have f21 := x1.fr 2
  go_wp2_with fail
  refine bodyPost_ret (results_box rfl _ _ w.heap.size 0 0 0 rfl ((x1.set2 _).all _ _ _)) rfl ?_
  exact ⟨rfl, bel_all (B1.setCell (p := ⟨w.heap.size, 2, none⟩) (Nat.le_refl _) _) (Nat.le_refl _) _ _ _⟩
set_option maxRecDepth 100000 in
set_option maxHeartbeats 800000 in
theorem take_4b (s : ByteArray) (c : Int) (r : List UInt8) (m : Int) (l : List UInt8) (w : World) (H : Head s c r) (hk : kd c = 4) (hs : r.length ≤ 9223372036854775807) (ht : tkU r 1 = (m, l, 0)) (hs2 : l.length ≤ 9223372036854775807) (ht2 : tkU l 32 = (0, [], 6)) :
    Calls Tryz.prog 156 #[.string s] w fun e w' => e = .returned (.tuple #[ins 0 0 0, .string (str []), .int .i64 6]) ∧ Below w.heap.size w w' := by
  obtain ⟨h0, he, hc, hb, hx, hw⟩ := H
  have hk' := hide hk
  have T := hide (takeU_is r 1 m l 0 · hs ht)
  have T2 := hide (takeU_is l 32 0 [] 6 · hs2 ht2)
  clear ht hs ht2 hs2
  clear hk hb
  go_enter Tryz.func156, Tryz.ntmps156
  go_wp2_with fail
  go_region
  go_wp2_with fail
  refine (kind_is c 4 _ hk'.out).mono ?_
  rintro e w1 ⟨rfl, rfl⟩
  go_wp2_with fail
  refine (T.out _).mono ?_
  rintro e w1 ⟨rfl, b1⟩
  have x1 := ((Box.made w c 0 0).drewN 1).kept b1
  have B1 := below_next ((bel_one w _).drew) b1
  clear b1
  have c01 := x1.c0
  have c11 := x1.c1
  have c21 := x1.c2
  have f01 := x1.fr 0
  have f11 := x1.fr 1
  have f21 := x1.fr 2
  go_wp2_with fail
  refine (T2.out _).mono ?_
  rintro e w2 ⟨rfl, b2⟩
  have x2 := (x1.set2 _).kept b2
  have B2 := below_next (B1.setCell (p := ⟨w.heap.size, 2, none⟩) (Nat.le_refl _) _) b2
  clear b2
  have c02 := x2.c0
  have c12 := x2.c1
  have c22 := x2.c2
  have f02 := x2.fr 0
  have f12 := x2.fr 1
  have f22 := x2.fr 2
  go_wp2_with fail
  refine bodyPost_ret (results_box rfl _ _ w.heap.size 0 0 0 rfl ((x2.set1 _).all _ _ _)) rfl ?_
  exact ⟨rfl, bel_all (B2.setCell (p := ⟨w.heap.size, 1, none⟩) (Nat.le_refl _) _) (Nat.le_refl _) _ _ _⟩
set_option maxRecDepth 100000 in
set_option maxHeartbeats 800000 in
theorem take_4c (s : ByteArray) (c : Int) (r : List UInt8) (m : Int) (l : List UInt8) (n : Int) (q : List UInt8) (w : World) (H : Head s c r) (hk : kd c = 4) (hs : r.length ≤ 9223372036854775807) (ht : tkU r 1 = (m, l, 0)) (hs2 : l.length ≤ 9223372036854775807) (ht2 : tkU l 32 = (n, q, 0)) :
    Calls Tryz.prog 156 #[.string s] w fun e w' => e = .returned (.tuple #[ins c n m, .string (str q), .int .i64 0]) ∧ Below w.heap.size w w' := by
  obtain ⟨h0, he, hc, hb, hx, hw⟩ := H
  have hk' := hide hk
  have T := hide (takeU_is r 1 m l 0 · hs ht)
  have T2 := hide (takeU_is l 32 n q 0 · hs2 ht2)
  clear ht hs ht2 hs2
  clear hk hb
  go_enter Tryz.func156, Tryz.ntmps156
  go_wp2_with fail
  go_region
  go_wp2_with fail
  refine (kind_is c 4 _ hk'.out).mono ?_
  rintro e w1 ⟨rfl, rfl⟩
  go_wp2_with fail
  refine (T.out _).mono ?_
  rintro e w1 ⟨rfl, b1⟩
  have x1 := ((Box.made w c 0 0).drewN 1).kept b1
  have B1 := below_next ((bel_one w _).drew) b1
  clear b1
  have c01 := x1.c0
  have c11 := x1.c1
  have c21 := x1.c2
  have f01 := x1.fr 0
  have f11 := x1.fr 1
  have f21 := x1.fr 2
  go_wp2_with fail
  refine (T2.out _).mono ?_
  rintro e w2 ⟨rfl, b2⟩
  have x2 := (x1.set2 _).kept b2
  have B2 := below_next (B1.setCell (p := ⟨w.heap.size, 2, none⟩) (Nat.le_refl _) _) b2
  clear b2
  have c02 := x2.c0
  have c12 := x2.c1
  have c22 := x2.c2
  have f02 := x2.fr 0
  have f12 := x2.fr 1
  have f22 := x2.fr 2
  go_wp2_with fail
  refine bodyPost_ret (results_box rfl _ _ w.heap.size c n m rfl ((x2.set1 _).all _ _ _)) rfl ?_
  exact ⟨rfl, bel_all (B2.setCell (p := ⟨w.heap.size, 1, none⟩) (Nat.le_refl _) _) (Nat.le_refl _) _ _ _⟩
/-- What Take's call ends with. -/
theorem take_some (l : List UInt8) (op n m : Int) (q : List UInt8) (w : World) (hl : l.length ≤ 9223372036854775807) (h : tkI l = some ((op, n, m), q)) :
    Calls Tryz.prog 156 #[.string (str l)] w fun e w' => e = .returned (.tuple #[ins op n m, .string (str q), .int .i64 0]) ∧ Below w.heap.size w w' := by
  cases l with
  | nil => simp [tkI] at h
  | cons d r =>
    have H := head_of d r
    have hr : r.length ≤ 9223372036854775807 := by simp at hl; omega
    simp only [tkI] at h
    generalize (d.toNat : Int) = c at *
    rcases kd_bd c with k | k | k | k | k | k | k
    · simp [tkR, k] at h
    · simp [tkR, k] at h; obtain ⟨⟨rfl, rfl, rfl⟩, rfl⟩ := h; exact take_1 _ _ _ w H k
    · cases e : tb r with
      | none => simp [tkR, k, e] at h
      | some x =>
        obtain ⟨a, b⟩ := x
        simp [tkR, k, e] at h; obtain ⟨⟨rfl, rfl, rfl⟩, rfl⟩ := h; exact take_2b _ _ _ _ _ w H k e
    · rcases tkU_two r 32 (by omega) with e | ⟨a, b, e⟩
      · simp [tkR, k, e, ok3] at h
      · simp [tkR, k, e, ok3] at h; obtain ⟨⟨rfl, rfl, rfl⟩, rfl⟩ := h; exact take_3b _ _ _ _ _ w H k hr e
    · rcases tkU_two r 1 (by omega) with e | ⟨a, b, e⟩
      · simp [tkR, k, e, ok3] at h
      · have hb := tkU_len e hr
        rcases tkU_two b 32 (by omega) with e2 | ⟨a2, b2, e2⟩
        · simp [tkR, k, e, e2, ok3] at h
        · simp [tkR, k, e, e2, ok3] at h; obtain ⟨⟨rfl, rfl, rfl⟩, rfl⟩ := h; exact take_4c _ _ _ _ _ _ _ w H k hr e hb e2
    · rcases tkS_two r 32 (by omega) with e | ⟨a, b, e⟩
      · simp [tkR, k, e, ok3] at h
      · simp [tkR, k, e, ok3] at h; obtain ⟨⟨rfl, rfl, rfl⟩, rfl⟩ := h; exact take_5b _ _ _ _ _ w H k hr e
    · rcases tkS_two r 64 (by omega) with e | ⟨a, b, e⟩
      · simp [tkR, k, e, ok3] at h
      · simp [tkR, k, e, ok3] at h; obtain ⟨⟨rfl, rfl, rfl⟩, rfl⟩ := h; exact take_6b _ _ _ _ _ w H k hr e
theorem take_none (l : List UInt8) (w : World) (hl : l.length ≤ 9223372036854775807) (h : tkI l = none) :
    Calls Tryz.prog 156 #[.string (str l)] w fun e w' => e = .returned (.tuple #[ins 0 0 0, .string (str []), .int .i64 6]) ∧ Below w.heap.size w w' := by
  cases l with
  | nil => exact take_empty w
  | cons d r =>
    have H := head_of d r
    have hr : r.length ≤ 9223372036854775807 := by simp at hl; omega
    simp only [tkI] at h
    generalize (d.toNat : Int) = c at *
    rcases kd_bd c with k | k | k | k | k | k | k
    · exact take_0 _ _ _ w H k
    · simp [tkR, k] at h
    · simp [tkR, k] at h; exact take_2a _ _ _ w H k h
    · rcases tkU_two r 32 (by omega) with e | ⟨a, b, e⟩
      · exact take_3a _ _ _ w H k hr e
      · simp [tkR, k, e, ok3] at h
    · rcases tkU_two r 1 (by omega) with e | ⟨a, b, e⟩
      · exact take_4a _ _ _ w H k hr e
      · have hb := tkU_len e hr
        rcases tkU_two b 32 (by omega) with e2 | ⟨a2, b2, e2⟩
        · exact take_4b _ _ _ _ _ w H k hr e hb e2
        · simp [tkR, k, e, e2, ok3] at h
    · rcases tkS_two r 32 (by omega) with e | ⟨a, b, e⟩
      · exact take_5a _ _ _ w H k hr e
      · simp [tkR, k, e, ok3] at h
    · rcases tkS_two r 64 (by omega) with e | ⟨a, b, e⟩
      · exact take_6a _ _ _ w H k hr e
      · simp [tkR, k, e, ok3] at h
end Go.Proofs.YtcbfpikggphokaaGreatDoor
