/-
  Merged: Ex Back.
-/
import Derived.Test.YtddepkiefkngdaaDec
import Derived.Laws.StructEq
/-
  The statements' examples are so; two instructions compared.
-/
namespace Go.Proofs.Ytddepkiefkngdaa
open Go.RowKit
set_option linter.unusedSimpArgs false
set_option linter.unusedVariables false

theorem p_0 (a b c d e f g : Value) (w : World) : (part 3 #[a, b, c, d, e, f, g] 0).run Try.prog w = .ok a w := by kernel_rfl
theorem p_1 (a b c d e f g : Value) (w : World) : (part 4 #[a, b, c, d, e, f, g] 1).run Try.prog w = .ok b w := by kernel_rfl
theorem p_2 (a b c d e f g : Value) (w : World) : (part 3 #[a, b, c, d, e, f, g] 2).run Try.prog w = .ok c w := by kernel_rfl
theorem p_3 (a b c d e f g : Value) (w : World) : (part 3 #[a, b, c, d, e, f, g] 3).run Try.prog w = .ok d w := by kernel_rfl
theorem p_4 (a b c d e f g : Value) (w : World) : (part 3 #[a, b, c, d, e, f, g] 4).run Try.prog w = .ok e w := by kernel_rfl
theorem p_5 (a b c d e f g : Value) (w : World) : (part 3 #[a, b, c, d, e, f, g] 5).run Try.prog w = .ok f w := by kernel_rfl
theorem p_6 (a b c d e f g : Value) (w : World) : (part 3 #[a, b, c, d, e, f, g] 6).run Try.prog w = .ok g w := by kernel_rfl
theorem eql_bool (x y : Bool) (w : World) : (Op.equalIn 9999 4 (.bool x) (.bool y)).run Try.prog w = .ok (x == y) w := run_equalIn_bool w 9998 4 x y Try.underlying4
theorem eql_int (x y : Int) (w : World) : (Op.equalIn 9999 3 (.int .i64 x) (.int .i64 y)).run Try.prog w = .ok (x == y) w := run_equalIn_int w 9998 3 .i64 .i64 x y Try.underlying3
def xeq (x y : Xi) : Bool := x.op == y.op && (x.wide == y.wide && (x.r == y.r && (x.b == y.b && (x.i == y.i && (x.c == y.c && x.n == y.n)))))
theorem xeq_iff {x y : Xi} : xeq x y = true ↔ x = y := by
  obtain ⟨a, b, c, d, e, f, g⟩ := x
  obtain ⟨a', b', c', d', e', f', g'⟩ := y
  simp [xeq]
theorem eql_x (a : Int) (b : Bool) (c d e f g a' : Int) (b' : Bool) (c' d' e' f' g' : Int) (w : World) :
    (Op.equalIn 10000 23 (.agg #[.int .i64 a, .bool b, .int .i64 c, .int .i64 d, .int .i64 e, .int .i64 f, .int .i64 g]) (.agg #[.int .i64 a', .bool b', .int .i64 c', .int .i64 d', .int .i64 e', .int .i64 f', .int .i64 g'])).run Try.prog w = .ok (xeq ⟨a, b, c, d, e, f, g⟩ ⟨a', b', c', d', e', f', g'⟩) w := by
  rw [show (10000 : Nat) = 9999 + 1 from rfl, run_equalIn_struct w 9999 23 _ _ (by rw [Try.underlying23]; kernel_rfl) (by kernel_rfl)]
  simp [Program.fieldsOf, Try.underlying23, Op.eqFields, Sem.run_bind, p_0, p_1, p_2, p_3, p_4, p_5, p_6, eql_bool, eql_int, xeq]
  repeat' split
  all_goals simp_all
theorem dec_is (t : ByteArray) (w : World) {x : Xi} {n e0 : Int} (h1 : dX t.data.toList = x) (h2 : dN t.data.toList = n) (h3 : dE t.data.toList = e0) :
    Calls Try.prog 14 #[.string t] w fun e w' => e = .returned (.tuple #[.agg #[.int .i64 x.op, .bool x.wide, .int .i64 x.r, .int .i64 x.b, .int .i64 x.i, .int .i64 x.c, .int .i64 x.n], .int .i64 n, .int .i64 e0]) ∧ Below w.heap.size w w' := by
  subst h1 h2 h3; exact decode_any t w
theorem ex1 : enS ⟨1, true, 0, 3, 0, 0, 0⟩ = [72, 137, 195] := by decide +kernel
theorem ex2 : enS ⟨4, true, 0, 4, 0, 5, 16⟩ = [72, 129, 236, 16, 0, 0, 0] := by decide +kernel
theorem ex3 : enS ⟨11, false, 0, 15, 0, 0, 8⟩ = [65, 139, 132, 39, 8, 0, 0, 0] := by decide +kernel
theorem rt_ret : rt ⟨20, false, 0, 0, 0, 0, 0⟩ = true := by decide +kernel
theorem enc_ret : enc ⟨20, false, 0, 0, 0, 0, 0⟩ = [195] := by decide +kernel
theorem ex4 : dcX [195, 195] = some ⟨20, false, 0, 0, 0, 0, 0⟩ := dc_is rt_ret zero_I64 (by rw [enc_ret]; exact ⟨[195], rfl⟩)
theorem c_int (a : Int) (h : -100 ≤ a ∧ a ≤ 100) : I64 a := by unfold I64; omega
set_option maxHeartbeats 2000000 in
theorem examples_any (w : World) : Calls Try.prog 9 #[] w fun e w' => e = .returned (.bool true) ∧ Below w.heap.size w w' := by
  have E1 := hide (fun U => enc_is 1 true 0 3 0 0 0 U zero_I64 zero_I64 ex1 (e0 := 0) (by decide +kernel))
  have E2 := hide (fun U => enc_is 4 true 0 4 0 5 16 U zero_I64 (c_int 16 (by decide)) ex2 (e0 := 0) (by decide +kernel))
  have E3 := hide (fun U => enc_is 11 false 0 15 0 0 8 U zero_I64 (c_int 8 (by decide)) ex3 (e0 := 0) (by decide +kernel))
  have E4 : Hid (∀ U, Calls Try.prog 14 #[.string ⟨#[195, 195]⟩] U fun e w' => e = .returned (.tuple #[.agg #[.int .i64 20, .bool false, .int .i64 0, .int .i64 0, .int .i64 0, .int .i64 0, .int .i64 0], .int .i64 1, .int .i64 0]) ∧ Below U.heap.size U w') :=
    fun U => dec_is ⟨#[195, 195]⟩ U (x := ⟨20, false, 0, 0, 0, 0, 0⟩) (by show dX [195, 195] = _; unfold dX; rw [ex4]; rfl) (by show dN [195, 195] = _; unfold dN; rw [ex4]; show ((enc ⟨20, false, 0, 0, 0, 0, 0⟩).length : Int) = 1; rw [enc_ret]; rfl) (by show dE [195, 195] = _; unfold dE; rw [ex4]; rfl)
  have q1 : ((str [72, 137, 195]).toList == [72, 137, 195]) = true := by decide +kernel
  have q2 : ((str [72, 129, 236, 16, 0, 0, 0]).toList == [72, 129, 236, 16, 0, 0, 0]) = true := by decide +kernel
  have q3 : ((str [65, 139, 132, 39, 8, 0, 0, 0]).toList == [65, 139, 132, 39, 8, 0, 0, 0]) = true := by decide +kernel
  have q4 : xeq ⟨20, false, 0, 0, 0, 0, 0⟩ ⟨20, false, 0, 0, 0, 0, 0⟩ = true := by decide +kernel
  have QX := eql_x 20 false 0 0 0 0 0 20 false 0 0 0 0 0
  rw [q4] at QX
  go_enter Try.func9, Try.ntmps9
  go_wp2_with fail
  refine (E1.out _).mono ?_
  rintro e w1 ⟨rfl, hb1⟩
  go_wp2_with fail
  refine (E2.out _).mono ?_
  rintro e w2 ⟨rfl, hb2⟩
  go_wp2_with fail
  refine (E3.out _).mono ?_
  rintro e w3 ⟨rfl, hb3⟩
  go_wp2_with fail
  refine (E4.out _).mono ?_
  rintro e w4 ⟨rfl, hb4⟩
  go_wp2_with fail
  go_ret
  exact ⟨rfl, bel_al (bel_tr (bel_tr (bel_tr hb1 hb2) hb3) hb4) _⟩
end Go.Proofs.Ytddepkiefkngdaa
/-
  What is written is read as it was: the walk of the statement XcodeBack.
-/
namespace Go.Proofs.Ytddepkiefkngdaa
open Go.RowKit
set_option linter.unusedSimpArgs false
set_option linter.unusedVariables false

theorem app_data (a b : ByteArray) : (a ++ b).data.toList = a.data.toList ++ b.data.toList := by simp [ByteArray.data_append]
theorem dec_of {l : List UInt8} {x : Xi} (h : dcX l = some x) : dX l = x ∧ dN l = ((enc x).length : Int) ∧ dE l = 0 := by
  refine ⟨by unfold dX; rw [h]; rfl, by unfold dN; rw [h], by unfold dE; rw [h]; rfl⟩
theorem dec_no {l : List UInt8} (h : dcX l = none) : dX l = ⟨0, false, 0, 0, 0, 0, 0⟩ ∧ dN l = 0 ∧ dE l = 6 := by
  refine ⟨by unfold dX; rw [h]; rfl, by unfold dN; rw [h], by unfold dE; rw [h]; rfl⟩
theorem tl_eq {a b : ByteArray} (h : a.data.toList = b.data.toList) : (a.toList == b.toList) = true := by rw [ByteArray.toList_eq, ByteArray.toList_eq, h]; simp
theorem xeq_self (x : Xi) : xeq x x = true := xeq_iff.2 rfl
def BaIs (x : Xi) (t u : ByteArray) (w : World) : Prop := Calls Try.prog 6 #[xv x, .string t, .string u] w fun e w' => e = .returned (.bool true) ∧ Below w.heap.size w w'
set_option maxHeartbeats 4000000 in
theorem back_nn (op : Int) (wd : Bool) (r b i c n : Int) (t u : ByteArray) (w : World) (ht : t.size ≤ 140737488351232) (hi : I64 i) (hn : I64 n) (hq : rt ⟨op, wd, r, b, i, c, n⟩ = false) (hd : dcX u.data.toList = none) : BaIs ⟨op, wd, r, b, i, c, n⟩ t u w := by
  unfold BaIs
  simp only [xv]
  have s1 : enS ⟨op, wd, r, b, i, c, n⟩ = [] := by simp [enS, hq]
  have s2 : enE ⟨op, wd, r, b, i, c, n⟩ = 4 := by simp [enE, hq]
  have E1 := hide (fun U => enc_is op wd r b i c n U hi hn s1 s2)
  obtain ⟨k1, k2, k3⟩ := dec_no hd
  have D2 := hide (fun U => dec_is u U k1 k2 k3)
  have Q0 := eql_x 0 false 0 0 0 0 0 0 false 0 0 0 0 0
  rw [xeq_self] at Q0
  clear k1 k2 k3 hd
  obtain ⟨W, hW⟩ : ∃ W, W = w.alloc (.cells #[.int .i64 op, .bool wd, .int .i64 r, .int .i64 b, .int .i64 i, .int .i64 c, .int .i64 n] 23) := ⟨_, rfl⟩
  have B0 : Hid (Bx w.heap.size ⟨op, wd, r, b, i, c, n⟩ W) := by show Bx _ _ _; rw [hW]; exact Bx.made w ⟨op, wd, r, b, i, c, n⟩
  have W0 : Hid (Below w.heap.size w W) := by show Below _ _ _; rw [hW]; exact bel_one _ _
  clear hi hn hq s1 s2
  go_enter Try.func6, Try.ntmps6
  go_wp2_with fail
  rw [← hW]
  refine (examples_any _).mono ?_
  clear hW
  rintro e w1 ⟨rfl, hb1⟩
  have B1 : Hid (Bx w.heap.size ⟨op, wd, r, b, i, c, n⟩ w1) := B0.out.kept hb1
  have W1 := hide (bel_tr W0.out hb1)
  clear hb1 B0 W0
  obtain ⟨x0, x1, x2, x3, x4, x5, x6⟩ := B1.out.cells
  dsimp only at x0 x1 x2 x3 x4 x5 x6
  go_wp2_with fail
  refine (E1.out _).mono ?_
  rintro e w2 ⟨rfl, hb2⟩
  have B2 : Hid (Bx w.heap.size ⟨op, wd, r, b, i, c, n⟩ w2) := B1.out.kept hb2
  have W2 := hide (bel_tr W1.out hb2)
  clear hb2 B1 W1 x0 x1 x2 x3 x4 x5 x6
  go_wp2_with fail
  refine (D2.out _).mono ?_
  rintro e w6 ⟨rfl, hb6⟩
  have W6 := hide (bel_tr W2.out hb6)
  clear hb6
  go_wp2_with fail
  go_ret
  exact ⟨rfl, bel_al W6.out _⟩
set_option maxHeartbeats 4000000 in
theorem back_ns (op : Int) (wd : Bool) (r b i c n : Int) (t u : ByteArray) (w : World) (ht : t.size ≤ 140737488351232) (hi : I64 i) (hn : I64 n) (hq : rt ⟨op, wd, r, b, i, c, n⟩ = false) (op2 : Int) (wd2 : Bool) (r2 b2 i2 c2 n2 : Int) (hd : dcX u.data.toList = some ⟨op2, wd2, r2, b2, i2, c2, n2⟩) : BaIs ⟨op, wd, r, b, i, c, n⟩ t u w := by
  unfold BaIs
  simp only [xv]
  have s1 : enS ⟨op, wd, r, b, i, c, n⟩ = [] := by simp [enS, hq]
  have s2 : enE ⟨op, wd, r, b, i, c, n⟩ = 4 := by simp [enE, hq]
  have E1 := hide (fun U => enc_is op wd r b i c n U hi hn s1 s2)
  obtain ⟨g1, g2, g3, g4⟩ := dc_some hd
  have gi : I64 i2 := by have := rd_i (pad u.data.toList); rw [← g4] at this; exact this
  obtain ⟨k1, k2, k3⟩ := dec_of hd
  have D2 := hide (fun U => dec_is u U k1 (n := ((str (enc ⟨op2, wd2, r2, b2, i2, c2, n2⟩)).size : Int)) (by rw [k2, str_size]) k3)
  have t1 : enS ⟨op2, wd2, r2, b2, i2, c2, n2⟩ = enc ⟨op2, wd2, r2, b2, i2, c2, n2⟩ := by simp [enS, g1]
  have t2 : enE ⟨op2, wd2, r2, b2, i2, c2, n2⟩ = 0 := by simp [enE, g1]
  have E2 := hide (fun U => enc_is op2 wd2 r2 b2 i2 c2 n2 U gi g3 t1 t2)
  have y1 : ((str (enc ⟨op2, wd2, r2, b2, i2, c2, n2⟩)).size : Int) ≤ (u.size : Int) := by
    have h1 := g2.length_le
    have h2 : u.data.toList.length = u.size := by simp
    rw [str_size]; omega
  have y2 : ((str (enc ⟨op2, wd2, r2, b2, i2, c2, n2⟩)).toList == (u.extract 0 (str (enc ⟨op2, wd2, r2, b2, i2, c2, n2⟩)).size).toList) = true := by
    refine tl_eq ?_
    obtain ⟨q, hq2⟩ := g2
    rw [ext_take, str_size, str_data, ← hq2]; simp
  clear k1 k2 k3 g1 g2 g3 g4 gi t1 t2 hd
  generalize str (enc ⟨op2, wd2, r2, b2, i2, c2, n2⟩) = own2 at *
  obtain ⟨W, hW⟩ : ∃ W, W = w.alloc (.cells #[.int .i64 op, .bool wd, .int .i64 r, .int .i64 b, .int .i64 i, .int .i64 c, .int .i64 n] 23) := ⟨_, rfl⟩
  have B0 : Hid (Bx w.heap.size ⟨op, wd, r, b, i, c, n⟩ W) := by show Bx _ _ _; rw [hW]; exact Bx.made w ⟨op, wd, r, b, i, c, n⟩
  have W0 : Hid (Below w.heap.size w W) := by show Below _ _ _; rw [hW]; exact bel_one _ _
  clear hi hn hq s1 s2
  go_enter Try.func6, Try.ntmps6
  go_wp2_with fail
  rw [← hW]
  refine (examples_any _).mono ?_
  clear hW
  rintro e w1 ⟨rfl, hb1⟩
  have B1 : Hid (Bx w.heap.size ⟨op, wd, r, b, i, c, n⟩ w1) := B0.out.kept hb1
  have W1 := hide (bel_tr W0.out hb1)
  clear hb1 B0 W0
  obtain ⟨x0, x1, x2, x3, x4, x5, x6⟩ := B1.out.cells
  dsimp only at x0 x1 x2 x3 x4 x5 x6
  go_wp2_with fail
  refine (E1.out _).mono ?_
  rintro e w2 ⟨rfl, hb2⟩
  have B2 : Hid (Bx w.heap.size ⟨op, wd, r, b, i, c, n⟩ w2) := B1.out.kept hb2
  have W2 := hide (bel_tr W1.out hb2)
  clear hb2 B1 W1 x0 x1 x2 x3 x4 x5 x6
  go_wp2_with fail
  refine (D2.out _).mono ?_
  rintro e w6 ⟨rfl, hb6⟩
  have W6 := hide (bel_tr W2.out hb6)
  clear hb6
  go_wp2_with fail
  refine (E2.out _).mono ?_
  rintro e w7 ⟨rfl, hb7⟩
  go_wp2_with fail
  go_ret
  exact ⟨rfl, bel_tr (bel_al W6.out _) hb7⟩
set_option maxHeartbeats 4000000 in
theorem back_yn (op : Int) (wd : Bool) (r b i c n : Int) (t u : ByteArray) (w : World) (ht : t.size ≤ 140737488351232) (hi : I64 i) (hn : I64 n) (hq : rt ⟨op, wd, r, b, i, c, n⟩ = true) (hd : dcX u.data.toList = none) : BaIs ⟨op, wd, r, b, i, c, n⟩ t u w := by
  unfold BaIs
  simp only [xv]
  have s1 : enS ⟨op, wd, r, b, i, c, n⟩ = enc ⟨op, wd, r, b, i, c, n⟩ := by simp [enS, hq]
  have s2 : enE ⟨op, wd, r, b, i, c, n⟩ = 0 := by simp [enE, hq]
  have hde : dcX ((str (enc ⟨op, wd, r, b, i, c, n⟩) ++ t).data.toList) = some ⟨op, wd, r, b, i, c, n⟩ := dc_is hq hn (by rw [app_data, str_data]; exact ⟨_, rfl⟩)
  obtain ⟨k1, k2, k3⟩ := dec_of hde
  have D1 := hide (fun U => dec_is (str (enc ⟨op, wd, r, b, i, c, n⟩) ++ t) U k1 (n := ((str (enc ⟨op, wd, r, b, i, c, n⟩)).size : Int)) (by rw [k2, str_size]) k3)
  have z1 : (1 : Int) ≤ ((str (enc ⟨op, wd, r, b, i, c, n⟩)).size : Int) := by rw [str_size]; have := enc_len ⟨op, wd, r, b, i, c, n⟩; omega
  have z2 : ((str (enc ⟨op, wd, r, b, i, c, n⟩)).size : Int) ≤ 15 := by rw [str_size]; have := enc_len ⟨op, wd, r, b, i, c, n⟩; omega
  have hz : ¬ 9223372036854775807 < (str (enc ⟨op, wd, r, b, i, c, n⟩)).size + t.size := by rw [str_size]; have := enc_len ⟨op, wd, r, b, i, c, n⟩; omega
  have QX := eql_x op wd r b i c n op wd r b i c n
  rw [xeq_self] at QX
  have RI := hide (fun U => right_is op wd r b i c n U hi hq)
  clear k1 k2 k3 hde
  have E1 := hide (fun U => enc_is op wd r b i c n U hi hn s1 s2)
  obtain ⟨k1, k2, k3⟩ := dec_no hd
  have D2 := hide (fun U => dec_is u U k1 k2 k3)
  have Q0 := eql_x 0 false 0 0 0 0 0 0 false 0 0 0 0 0
  rw [xeq_self] at Q0
  clear k1 k2 k3 hd
  generalize str (enc ⟨op, wd, r, b, i, c, n⟩) = own at *
  obtain ⟨W, hW⟩ : ∃ W, W = w.alloc (.cells #[.int .i64 op, .bool wd, .int .i64 r, .int .i64 b, .int .i64 i, .int .i64 c, .int .i64 n] 23) := ⟨_, rfl⟩
  have B0 : Hid (Bx w.heap.size ⟨op, wd, r, b, i, c, n⟩ W) := by show Bx _ _ _; rw [hW]; exact Bx.made w ⟨op, wd, r, b, i, c, n⟩
  have W0 : Hid (Below w.heap.size w W) := by show Below _ _ _; rw [hW]; exact bel_one _ _
  clear hi hn hq s1 s2
  go_enter Try.func6, Try.ntmps6
  go_wp2_with fail
  rw [← hW]
  refine (examples_any _).mono ?_
  clear hW
  rintro e w1 ⟨rfl, hb1⟩
  have B1 : Hid (Bx w.heap.size ⟨op, wd, r, b, i, c, n⟩ w1) := B0.out.kept hb1
  have W1 := hide (bel_tr W0.out hb1)
  clear hb1 B0 W0
  obtain ⟨x0, x1, x2, x3, x4, x5, x6⟩ := B1.out.cells
  dsimp only at x0 x1 x2 x3 x4 x5 x6
  go_wp2_with fail
  refine (E1.out _).mono ?_
  rintro e w2 ⟨rfl, hb2⟩
  have B2 : Hid (Bx w.heap.size ⟨op, wd, r, b, i, c, n⟩ w2) := B1.out.kept hb2
  have W2 := hide (bel_tr W1.out hb2)
  clear hb2 B1 W1 x0 x1 x2 x3 x4 x5 x6
  go_wp2_with fail
  refine (D1.out _).mono ?_
  rintro e w3 ⟨rfl, hb3⟩
  have B3 : Hid (Bx w.heap.size ⟨op, wd, r, b, i, c, n⟩ w3) := B2.out.kept hb3
  have W3 := hide (bel_tr W2.out hb3)
  clear hb3 B2 W2
  obtain ⟨V, hV⟩ : ∃ V, V = w3.alloc (.cells #[.int .i64 op, .bool wd, .int .i64 r, .int .i64 b, .int .i64 i, .int .i64 c, .int .i64 n] 23) := ⟨_, rfl⟩
  have B4 : Hid (Bx w.heap.size ⟨op, wd, r, b, i, c, n⟩ V) := by show Bx _ _ _; rw [hV]; exact B3.out.alloc _
  have BY : Hid (Bx w3.heap.size ⟨op, wd, r, b, i, c, n⟩ V) := by show Bx _ _ _; rw [hV]; exact Bx.made w3 ⟨op, wd, r, b, i, c, n⟩
  have W4 : Hid (Below w.heap.size w V) := by show Below _ _ _; rw [hV]; exact bel_al W3.out _
  go_upto_region 5 with fail
  rw [← hV]
  clear hV B3 W3
  obtain ⟨x0, x1, x2, x3, x4, x5, x6⟩ := B4.out.cells
  obtain ⟨v0, v1, v2, v3, v4, v5, v6⟩ := BY.out.cells
  dsimp only at x0 x1 x2 x3 x4 x5 x6 v0 v1 v2 v3 v4 v5 v6
  go_wp2_with fail
  refine (RI.out _).mono ?_
  rintro e w5 ⟨rfl, hb5⟩
  have W5 := hide (bel_tr W4.out hb5)
  clear hb5 W4 B4 BY x0 x1 x2 x3 x4 x5 x6 v0 v1 v2 v3 v4 v5 v6
  go_wp2_with fail
  refine (D2.out _).mono ?_
  rintro e w6 ⟨rfl, hb6⟩
  have W6 := hide (bel_tr W5.out hb6)
  clear hb6
  go_wp2_with fail
  go_ret
  exact ⟨rfl, bel_al W6.out _⟩
set_option maxHeartbeats 4000000 in
theorem back_ys (op : Int) (wd : Bool) (r b i c n : Int) (t u : ByteArray) (w : World) (ht : t.size ≤ 140737488351232) (hi : I64 i) (hn : I64 n) (hq : rt ⟨op, wd, r, b, i, c, n⟩ = true) (op2 : Int) (wd2 : Bool) (r2 b2 i2 c2 n2 : Int) (hd : dcX u.data.toList = some ⟨op2, wd2, r2, b2, i2, c2, n2⟩) : BaIs ⟨op, wd, r, b, i, c, n⟩ t u w := by
  unfold BaIs
  simp only [xv]
  have s1 : enS ⟨op, wd, r, b, i, c, n⟩ = enc ⟨op, wd, r, b, i, c, n⟩ := by simp [enS, hq]
  have s2 : enE ⟨op, wd, r, b, i, c, n⟩ = 0 := by simp [enE, hq]
  have hde : dcX ((str (enc ⟨op, wd, r, b, i, c, n⟩) ++ t).data.toList) = some ⟨op, wd, r, b, i, c, n⟩ := dc_is hq hn (by rw [app_data, str_data]; exact ⟨_, rfl⟩)
  obtain ⟨k1, k2, k3⟩ := dec_of hde
  have D1 := hide (fun U => dec_is (str (enc ⟨op, wd, r, b, i, c, n⟩) ++ t) U k1 (n := ((str (enc ⟨op, wd, r, b, i, c, n⟩)).size : Int)) (by rw [k2, str_size]) k3)
  have z1 : (1 : Int) ≤ ((str (enc ⟨op, wd, r, b, i, c, n⟩)).size : Int) := by rw [str_size]; have := enc_len ⟨op, wd, r, b, i, c, n⟩; omega
  have z2 : ((str (enc ⟨op, wd, r, b, i, c, n⟩)).size : Int) ≤ 15 := by rw [str_size]; have := enc_len ⟨op, wd, r, b, i, c, n⟩; omega
  have hz : ¬ 9223372036854775807 < (str (enc ⟨op, wd, r, b, i, c, n⟩)).size + t.size := by rw [str_size]; have := enc_len ⟨op, wd, r, b, i, c, n⟩; omega
  have QX := eql_x op wd r b i c n op wd r b i c n
  rw [xeq_self] at QX
  have RI := hide (fun U => right_is op wd r b i c n U hi hq)
  clear k1 k2 k3 hde
  have E1 := hide (fun U => enc_is op wd r b i c n U hi hn s1 s2)
  obtain ⟨g1, g2, g3, g4⟩ := dc_some hd
  have gi : I64 i2 := by have := rd_i (pad u.data.toList); rw [← g4] at this; exact this
  obtain ⟨k1, k2, k3⟩ := dec_of hd
  have D2 := hide (fun U => dec_is u U k1 (n := ((str (enc ⟨op2, wd2, r2, b2, i2, c2, n2⟩)).size : Int)) (by rw [k2, str_size]) k3)
  have t1 : enS ⟨op2, wd2, r2, b2, i2, c2, n2⟩ = enc ⟨op2, wd2, r2, b2, i2, c2, n2⟩ := by simp [enS, g1]
  have t2 : enE ⟨op2, wd2, r2, b2, i2, c2, n2⟩ = 0 := by simp [enE, g1]
  have E2 := hide (fun U => enc_is op2 wd2 r2 b2 i2 c2 n2 U gi g3 t1 t2)
  have y1 : ((str (enc ⟨op2, wd2, r2, b2, i2, c2, n2⟩)).size : Int) ≤ (u.size : Int) := by
    have h1 := g2.length_le
    have h2 : u.data.toList.length = u.size := by simp
    rw [str_size]; omega
  have y2 : ((str (enc ⟨op2, wd2, r2, b2, i2, c2, n2⟩)).toList == (u.extract 0 (str (enc ⟨op2, wd2, r2, b2, i2, c2, n2⟩)).size).toList) = true := by
    refine tl_eq ?_
    obtain ⟨q, hq2⟩ := g2
    rw [ext_take, str_size, str_data, ← hq2]; simp
  clear k1 k2 k3 g1 g2 g3 g4 gi t1 t2 hd
  generalize str (enc ⟨op2, wd2, r2, b2, i2, c2, n2⟩) = own2 at *
  generalize str (enc ⟨op, wd, r, b, i, c, n⟩) = own at *
  obtain ⟨W, hW⟩ : ∃ W, W = w.alloc (.cells #[.int .i64 op, .bool wd, .int .i64 r, .int .i64 b, .int .i64 i, .int .i64 c, .int .i64 n] 23) := ⟨_, rfl⟩
  have B0 : Hid (Bx w.heap.size ⟨op, wd, r, b, i, c, n⟩ W) := by show Bx _ _ _; rw [hW]; exact Bx.made w ⟨op, wd, r, b, i, c, n⟩
  have W0 : Hid (Below w.heap.size w W) := by show Below _ _ _; rw [hW]; exact bel_one _ _
  clear hi hn hq s1 s2
  go_enter Try.func6, Try.ntmps6
  go_wp2_with fail
  rw [← hW]
  refine (examples_any _).mono ?_
  clear hW
  rintro e w1 ⟨rfl, hb1⟩
  have B1 : Hid (Bx w.heap.size ⟨op, wd, r, b, i, c, n⟩ w1) := B0.out.kept hb1
  have W1 := hide (bel_tr W0.out hb1)
  clear hb1 B0 W0
  obtain ⟨x0, x1, x2, x3, x4, x5, x6⟩ := B1.out.cells
  dsimp only at x0 x1 x2 x3 x4 x5 x6
  go_wp2_with fail
  refine (E1.out _).mono ?_
  rintro e w2 ⟨rfl, hb2⟩
  have B2 : Hid (Bx w.heap.size ⟨op, wd, r, b, i, c, n⟩ w2) := B1.out.kept hb2
  have W2 := hide (bel_tr W1.out hb2)
  clear hb2 B1 W1 x0 x1 x2 x3 x4 x5 x6
  go_wp2_with fail
  refine (D1.out _).mono ?_
  rintro e w3 ⟨rfl, hb3⟩
  have B3 : Hid (Bx w.heap.size ⟨op, wd, r, b, i, c, n⟩ w3) := B2.out.kept hb3
  have W3 := hide (bel_tr W2.out hb3)
  clear hb3 B2 W2
  obtain ⟨V, hV⟩ : ∃ V, V = w3.alloc (.cells #[.int .i64 op, .bool wd, .int .i64 r, .int .i64 b, .int .i64 i, .int .i64 c, .int .i64 n] 23) := ⟨_, rfl⟩
  have B4 : Hid (Bx w.heap.size ⟨op, wd, r, b, i, c, n⟩ V) := by show Bx _ _ _; rw [hV]; exact B3.out.alloc _
  have BY : Hid (Bx w3.heap.size ⟨op, wd, r, b, i, c, n⟩ V) := by show Bx _ _ _; rw [hV]; exact Bx.made w3 ⟨op, wd, r, b, i, c, n⟩
  have W4 : Hid (Below w.heap.size w V) := by show Below _ _ _; rw [hV]; exact bel_al W3.out _
  go_upto_region 5 with fail
  rw [← hV]
  clear hV B3 W3
  obtain ⟨x0, x1, x2, x3, x4, x5, x6⟩ := B4.out.cells
  obtain ⟨v0, v1, v2, v3, v4, v5, v6⟩ := BY.out.cells
  dsimp only at x0 x1 x2 x3 x4 x5 x6 v0 v1 v2 v3 v4 v5 v6
  go_wp2_with fail
  refine (RI.out _).mono ?_
  rintro e w5 ⟨rfl, hb5⟩
  have W5 := hide (bel_tr W4.out hb5)
  clear hb5 W4 B4 BY x0 x1 x2 x3 x4 x5 x6 v0 v1 v2 v3 v4 v5 v6
  go_wp2_with fail
  refine (D2.out _).mono ?_
  rintro e w6 ⟨rfl, hb6⟩
  have W6 := hide (bel_tr W5.out hb6)
  clear hb6
  go_wp2_with fail
  refine (E2.out _).mono ?_
  rintro e w7 ⟨rfl, hb7⟩
  go_wp2_with fail
  go_ret
  exact ⟨rfl, bel_tr (bel_al W6.out _) hb7⟩
theorem back_walk (x : Xi) (t u : ByteArray) (w : World) (hx : x.ok) (ht : t.size ≤ 140737488351232) (hu : u.size ≤ 140737488351232) : BaIs x t u w := by
  obtain ⟨op, wd, r, b, i, c, n⟩ := x
  have hi : I64 i := hx.2.2.2.1
  have hn : I64 n := hx.2.2.2.2.2
  cases hq : rt ⟨op, wd, r, b, i, c, n⟩
  · cases hd : dcX u.data.toList with
    | none => exact back_nn op wd r b i c n t u w ht hi hn hq hd
    | some y => exact back_ns op wd r b i c n t u w ht hi hn hq y.op y.wide y.r y.b y.i y.c y.n hd
  · cases hd : dcX u.data.toList with
    | none => exact back_yn op wd r b i c n t u w ht hi hn hq hd
    | some y => exact back_ys op wd r b i c n t u w ht hi hn hq y.op y.wide y.r y.b y.i y.c y.n hd
end Go.Proofs.Ytddepkiefkngdaa
