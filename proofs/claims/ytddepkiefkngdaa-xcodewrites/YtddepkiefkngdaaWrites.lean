/-
  Any instruction is one or not, and is written, as the chapter says: the walk of the statement XcodeWrites.
-/
import Derived.Test.YtddepkiefkngdaaREnc
import Derived.Test.YtddepkiefkngdaaEx
import Derived.Lib.QuietBelow
import Derived.BigQuiet
namespace Go.Proofs.Ytddepkiefkngdaa
open Go.RowKit
set_option linter.unusedSimpArgs false
set_option linter.unusedVariables false

def WsIs (x : Xi) (w : World) : Prop := Calls Try.prog 3 #[xv x] w fun e w' => e = .returned (.bool true) ∧ Below w.heap.size w w'
theorem renc_is (op : Int) (wd : Bool) (r b i c n : Int) (w : World) (hn : I64 n) {l : List UInt8} {q : Bool} (h1 : enS ⟨op, wd, r, b, i, c, n⟩ = l) (h2 : rt ⟨op, wd, r, b, i, c, n⟩ = q) :
    Calls Try.prog 11 #[.agg #[.int .i64 op, .bool wd, .int .i64 r, .int .i64 b, .int .i64 i, .int .i64 c, .int .i64 n]] w fun e w' => e = .returned (.tuple #[.string (str l), .bool q]) ∧ Below w.heap.size w w' := by
  subst h1 h2; exact renc_any ⟨op, wd, r, b, i, c, n⟩ w hn
set_option maxHeartbeats 4000000 in
theorem writes_true (op : Int) (wd : Bool) (r b i c n : Int) (w : World) (hi : I64 i) (hn : I64 n) (hq : rt ⟨op, wd, r, b, i, c, n⟩ = true) : WsIs ⟨op, wd, r, b, i, c, n⟩ w := by
  have e0 : enE ⟨op, wd, r, b, i, c, n⟩ = 0 := by simp [enE, hq]
  unfold WsIs
  simp only [xv]
  have E1 := hide (fun U => enc_is op wd r b i c n U hi hn rfl e0)
  have E2 := hide (fun U => renc_is op wd r b i c n U hn rfl hq)
  have R1 := hide (fun U => right_is op wd r b i c n U hi hq)
  have R2 := hide (fun U => rright_is op wd r b i c n U hq)
  generalize str (enS ⟨op, wd, r, b, i, c, n⟩) = own at E1 E2
  obtain ⟨W, hW⟩ : ∃ W, W = w.alloc (.cells #[.int .i64 op, .bool wd, .int .i64 r, .int .i64 b, .int .i64 i, .int .i64 c, .int .i64 n] 23) := ⟨_, rfl⟩
  have B0 : Bx w.heap.size ⟨op, wd, r, b, i, c, n⟩ W := by rw [hW]; exact Bx.made w ⟨op, wd, r, b, i, c, n⟩
  have W0 : Below w.heap.size w W := by rw [hW]; exact bel_one _ _
  clear hi hn hq e0
  go_enter Try.func3, Try.ntmps3
  go_wp2_with fail
  rw [← hW]
  refine (examples_any _).mono ?_
  clear hW
  rintro e w1 ⟨rfl, hb1⟩
  have B1 := Bx.draw hb1 B0
  have W1 := bel_tr W0 hb1
  clear hb1 B0 W0
  obtain ⟨x0, x1, x2, x3, x4, x5, x6⟩ := B1.cells
  dsimp only at x0 x1 x2 x3 x4 x5 x6
  go_wp2_with fail
  refine (E1.out _).mono ?_
  rintro e w2 ⟨rfl, hb2⟩
  have B2 := Bx.draw hb2 B1
  have W2 := bel_tr W1 hb2
  clear hb2 B1 W1 x0 x1 x2 x3 x4 x5 x6
  obtain ⟨x0, x1, x2, x3, x4, x5, x6⟩ := B2.cells
  dsimp only at x0 x1 x2 x3 x4 x5 x6
  go_wp2_with fail
  refine (E2.out _).mono ?_
  rintro e w3 ⟨rfl, hb3⟩
  have B3 := Bx.draw hb3 B2
  have W3 := bel_tr W2 hb3
  clear hb3 B2 W2 x0 x1 x2 x3 x4 x5 x6
  obtain ⟨x0, x1, x2, x3, x4, x5, x6⟩ := B3.cells
  dsimp only at x0 x1 x2 x3 x4 x5 x6
  have c0 := cell_regrown x0
  have c1 := cell_regrown x1
  have c2 := cell_regrown x2
  have c3 := cell_regrown x3
  have c4 := cell_regrown x4
  have c5 := cell_regrown x5
  have c6 := cell_regrown x6
  have D1 := hide (fun (d : Nat) (os : Array Obj) => Calls.regrown_of (R1.out (Go.Sort.grow (redrawn w3 d) os)))
  have D2 := hide (fun (d : Nat) (os : Array Obj) => Calls.regrown_of (R2.out (Go.Sort.grow (redrawn w3 d) os)))
  have qq : (own.toList == own.toList) = true := by simp
  go_wp2_with fail
  refine wp_region_quiet_below (by kernel_rfl) (by kernel_rfl) ?_
  iterate 24 (go_big_quiet_step (exact D1.out _ _))
  repeat (go_big_quiet_step (exact D2.out _ _))
  refine wpQuiet_nil ?_
  intro _ hw'
  obtain ⟨⟨dq, osq⟩, hw''⟩ := hw'
  subst hw''
  clear x0 x1 x2 x3 x4 x5 x6 c0 c1 c2 c3 c4 c5 c6
  go_wp2_with fail
  go_ret
  exact ⟨rfl, bel_tr W3 (below_regrown _ dq osq)⟩
set_option maxHeartbeats 4000000 in
theorem writes_false (op : Int) (wd : Bool) (r b i c n : Int) (w : World) (hi : I64 i) (hn : I64 n) (hq : rt ⟨op, wd, r, b, i, c, n⟩ = false) : WsIs ⟨op, wd, r, b, i, c, n⟩ w := by
  have e0 : enE ⟨op, wd, r, b, i, c, n⟩ = 4 := by simp [enE, hq]
  unfold WsIs
  simp only [xv]
  have E1 := hide (fun U => enc_is op wd r b i c n U hi hn rfl e0)
  have E2 := hide (fun U => renc_is op wd r b i c n U hn rfl hq)
  have R1 := hide (fun U => right_is op wd r b i c n U hi hq)
  have R2 := hide (fun U => rright_is op wd r b i c n U hq)
  generalize str (enS ⟨op, wd, r, b, i, c, n⟩) = own at E1 E2
  obtain ⟨W, hW⟩ : ∃ W, W = w.alloc (.cells #[.int .i64 op, .bool wd, .int .i64 r, .int .i64 b, .int .i64 i, .int .i64 c, .int .i64 n] 23) := ⟨_, rfl⟩
  have B0 : Bx w.heap.size ⟨op, wd, r, b, i, c, n⟩ W := by rw [hW]; exact Bx.made w ⟨op, wd, r, b, i, c, n⟩
  have W0 : Below w.heap.size w W := by rw [hW]; exact bel_one _ _
  clear hi hn hq e0
  go_enter Try.func3, Try.ntmps3
  go_wp2_with fail
  rw [← hW]
  refine (examples_any _).mono ?_
  clear hW
  rintro e w1 ⟨rfl, hb1⟩
  have B1 := Bx.draw hb1 B0
  have W1 := bel_tr W0 hb1
  clear hb1 B0 W0
  obtain ⟨x0, x1, x2, x3, x4, x5, x6⟩ := B1.cells
  dsimp only at x0 x1 x2 x3 x4 x5 x6
  go_wp2_with fail
  refine (E1.out _).mono ?_
  rintro e w2 ⟨rfl, hb2⟩
  have B2 := Bx.draw hb2 B1
  have W2 := bel_tr W1 hb2
  clear hb2 B1 W1 x0 x1 x2 x3 x4 x5 x6
  obtain ⟨x0, x1, x2, x3, x4, x5, x6⟩ := B2.cells
  dsimp only at x0 x1 x2 x3 x4 x5 x6
  go_wp2_with fail
  refine (E2.out _).mono ?_
  rintro e w3 ⟨rfl, hb3⟩
  have B3 := Bx.draw hb3 B2
  have W3 := bel_tr W2 hb3
  clear hb3 B2 W2 x0 x1 x2 x3 x4 x5 x6
  obtain ⟨x0, x1, x2, x3, x4, x5, x6⟩ := B3.cells
  dsimp only at x0 x1 x2 x3 x4 x5 x6
  have c0 := cell_regrown x0
  have c1 := cell_regrown x1
  have c2 := cell_regrown x2
  have c3 := cell_regrown x3
  have c4 := cell_regrown x4
  have c5 := cell_regrown x5
  have c6 := cell_regrown x6
  have D1 := hide (fun (d : Nat) (os : Array Obj) => Calls.regrown_of (R1.out (Go.Sort.grow (redrawn w3 d) os)))
  have D2 := hide (fun (d : Nat) (os : Array Obj) => Calls.regrown_of (R2.out (Go.Sort.grow (redrawn w3 d) os)))
  have qq : (own.toList == own.toList) = true := by simp
  go_wp2_with fail
  refine wp_region_quiet_below (by kernel_rfl) (by kernel_rfl) ?_
  iterate 24 (go_big_quiet_step (exact D1.out _ _))
  repeat (go_big_quiet_step (exact D2.out _ _))
  refine wpQuiet_nil ?_
  intro _ hw'
  obtain ⟨⟨dq, osq⟩, hw''⟩ := hw'
  subst hw''
  clear x0 x1 x2 x3 x4 x5 x6 c0 c1 c2 c3 c4 c5 c6
  go_wp2_with fail
  go_ret
  exact ⟨rfl, bel_tr W3 (below_regrown _ dq osq)⟩
theorem writes_walk (x : Xi) (w : World) (hx : x.ok) : WsIs x w := by
  obtain ⟨op, wd, r, b, i, c, n⟩ := x
  have hi : I64 i := hx.2.2.2.1
  have hn : I64 n := hx.2.2.2.2.2
  cases hq : rt ⟨op, wd, r, b, i, c, n⟩
  · exact writes_false op wd r b i c n w hi hn hq
  · exact writes_true op wd r b i c n w hi hn hq
end Go.Proofs.Ytddepkiefkngdaa
