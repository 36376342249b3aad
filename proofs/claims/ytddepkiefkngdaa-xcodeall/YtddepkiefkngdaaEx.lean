/-
  The statements' examples are so; two instructions compared.
-/
import Derived.Test.YtddepkiefkngdaaDec
import Derived.Laws.StructEq
namespace Go.Proofs.Ytddepkiefkngdaa
open Go.RowKit
set_option linter.unusedSimpArgs false
set_option linter.unusedVariables false

theorem p_0 (a b c d e f g : Value) (w : World) : (part 3 #[a, b, c, d, e, f, g] 0).run Try.prog w = .ok a w := by kernel_rfl
theorem p_1 (a b c d e f g : Value) (w : World) : (part 4 #[a, b, c, d, e, f, g] 1).run Try.prog w = .ok b w := by kernel_rfl
theorem p_2 (a b c d e f g : Value) (w : World) : (part 3 #[a, b, c, d, e, f, g] 2).run Try.prog w = .ok c w := by kernel_rfl
theorem p_3 (a b c d e f g : Value) (w : World) : (part 3 #[a, b, c, d, e, f, g] 3).run Try.prog w = .ok d w := by kernel_rfl
theorem p_4 (a b c d e f g : Value) (w : World) : (part 3 #[a, b, c, d, e, f, g] 4).run Try.prog w = .ok e w := by kernel_rfl
theorem p_5 (a b c d e f g : Value) (w : World) : (part 3 #[a, b, c, d, e, f, g] 5).run Try.prog w = .ok f w := by kernel_rfl
theorem p_6 (a b c d e f g : Value) (w : World) : (part 3 #[a, b, c, d, e, f, g] 6).run Try.prog w = .ok g w := by kernel_rfl
theorem eql_bool (x y : Bool) (w : World) : (Op.equalIn 9999 4 (.bool x) (.bool y)).run Try.prog w = .ok (x == y) w := run_equalIn_bool w 9998 4 x y Try.underlying4
theorem eql_int (x y : Int) (w : World) : (Op.equalIn 9999 3 (.int .i64 x) (.int .i64 y)).run Try.prog w = .ok (x == y) w := run_equalIn_int w 9998 3 .i64 .i64 x y Try.underlying3
def xeq (x y : Xi) : Bool := x.op == y.op && (x.wide == y.wide && (x.r == y.r && (x.b == y.b && (x.i == y.i && (x.c == y.c && x.n == y.n)))))
theorem xeq_iff {x y : Xi} : xeq x y = true ↔ x = y := by
  obtain ⟨a, b, c, d, e, f, g⟩ := x
  obtain ⟨a', b', c', d', e', f', g'⟩ := y
  simp [xeq]
theorem eql_x (a : Int) (b : Bool) (c d e f g a' : Int) (b' : Bool) (c' d' e' f' g' : Int) (w : World) :
    (Op.equalIn 10000 23 (.agg #[.int .i64 a, .bool b, .int .i64 c, .int .i64 d, .int .i64 e, .int .i64 f, .int .i64 g]) (.agg #[.int .i64 a', .bool b', .int .i64 c', .int .i64 d', .int .i64 e', .int .i64 f', .int .i64 g'])).run Try.prog w = .ok (xeq ⟨a, b, c, d, e, f, g⟩ ⟨a', b', c', d', e', f', g'⟩) w := by
  rw [show (10000 : Nat) = 9999 + 1 from rfl, run_equalIn_struct w 9999 23 _ _ (by rw [Try.underlying23]; kernel_rfl) (by kernel_rfl)]
  simp [Program.fieldsOf, Try.underlying23, Op.eqFields, Sem.run_bind, p_0, p_1, p_2, p_3, p_4, p_5, p_6, eql_bool, eql_int, xeq]
  repeat' split
  all_goals simp_all
theorem dec_is (t : ByteArray) (w : World) {x : Xi} {n e0 : Int} (h1 : dX t.data.toList = x) (h2 : dN t.data.toList = n) (h3 : dE t.data.toList = e0) :
    Calls Try.prog 14 #[.string t] w fun e w' => e = .returned (.tuple #[.agg #[.int .i64 x.op, .bool x.wide, .int .i64 x.r, .int .i64 x.b, .int .i64 x.i, .int .i64 x.c, .int .i64 x.n], .int .i64 n, .int .i64 e0]) ∧ Below w.heap.size w w' := by
  subst h1 h2 h3; exact decode_any t w
theorem ex1 : enS ⟨1, true, 0, 3, 0, 0, 0⟩ = [72, 137, 195] := by decide +kernel
theorem ex2 : enS ⟨4, true, 0, 4, 0, 5, 16⟩ = [72, 129, 236, 16, 0, 0, 0] := by decide +kernel
theorem ex3 : enS ⟨11, false, 0, 15, 0, 0, 8⟩ = [65, 139, 132, 39, 8, 0, 0, 0] := by decide +kernel
theorem rt_ret : rt ⟨20, false, 0, 0, 0, 0, 0⟩ = true := by decide +kernel
theorem enc_ret : enc ⟨20, false, 0, 0, 0, 0, 0⟩ = [195] := by decide +kernel
theorem ex4 : dcX [195, 195] = some ⟨20, false, 0, 0, 0, 0, 0⟩ := dc_is rt_ret zero_I64 (by rw [enc_ret]; exact ⟨[195], rfl⟩)
theorem c_int (a : Int) (h : -100 ≤ a ∧ a ≤ 100) : I64 a := by unfold I64; omega
set_option maxHeartbeats 2000000 in
theorem examples_any (w : World) : Calls Try.prog 9 #[] w fun e w' => e = .returned (.bool true) ∧ Below w.heap.size w w' := by
  have E1 := hide (fun U => enc_is 1 true 0 3 0 0 0 U zero_I64 zero_I64 ex1 (e0 := 0) (by decide +kernel))
  have E2 := hide (fun U => enc_is 4 true 0 4 0 5 16 U zero_I64 (c_int 16 (by decide)) ex2 (e0 := 0) (by decide +kernel))
  have E3 := hide (fun U => enc_is 11 false 0 15 0 0 8 U zero_I64 (c_int 8 (by decide)) ex3 (e0 := 0) (by decide +kernel))
  have E4 : Hid (∀ U, Calls Try.prog 14 #[.string ⟨#[195, 195]⟩] U fun e w' => e = .returned (.tuple #[.agg #[.int .i64 20, .bool false, .int .i64 0, .int .i64 0, .int .i64 0, .int .i64 0, .int .i64 0], .int .i64 1, .int .i64 0]) ∧ Below U.heap.size U w') :=
    fun U => dec_is ⟨#[195, 195]⟩ U (x := ⟨20, false, 0, 0, 0, 0, 0⟩) (by show dX [195, 195] = _; unfold dX; rw [ex4]; rfl) (by show dN [195, 195] = _; unfold dN; rw [ex4]; show ((enc ⟨20, false, 0, 0, 0, 0, 0⟩).length : Int) = 1; rw [enc_ret]; rfl) (by show dE [195, 195] = _; unfold dE; rw [ex4]; rfl)
  have q1 : ((str [72, 137, 195]).toList == [72, 137, 195]) = true := by decide +kernel
  have q2 : ((str [72, 129, 236, 16, 0, 0, 0]).toList == [72, 129, 236, 16, 0, 0, 0]) = true := by decide +kernel
  have q3 : ((str [65, 139, 132, 39, 8, 0, 0, 0]).toList == [65, 139, 132, 39, 8, 0, 0, 0]) = true := by decide +kernel
  have q4 : xeq ⟨20, false, 0, 0, 0, 0, 0⟩ ⟨20, false, 0, 0, 0, 0, 0⟩ = true := by decide +kernel
  have QX := eql_x 20 false 0 0 0 0 0 20 false 0 0 0 0 0
  rw [q4] at QX
  go_enter Try.func9, Try.ntmps9
  go_wp2_with fail
  refine (E1.out _).mono ?_
  rintro e w1 ⟨rfl, hb1⟩
  go_wp2_with fail
  refine (E2.out _).mono ?_
  rintro e w2 ⟨rfl, hb2⟩
  go_wp2_with fail
  refine (E3.out _).mono ?_
  rintro e w3 ⟨rfl, hb3⟩
  go_wp2_with fail
  refine (E4.out _).mono ?_
  rintro e w4 ⟨rfl, hb4⟩
  go_wp2_with fail
  go_ret
  exact ⟨rfl, bel_al (bel_tr (bel_tr (bel_tr hb1 hb2) hb3) hb4) _⟩
end Go.Proofs.Ytddepkiefkngdaa
