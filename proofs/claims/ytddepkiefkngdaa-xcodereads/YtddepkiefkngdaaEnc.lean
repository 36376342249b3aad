/-
  The program's Encode answers an instruction's bytes, or ErrArg.
-/
import Derived.Test.YtddepkiefkngdaaWrite
import Derived.Deep.RegionWith
import Derived.Laws.MakeOwn
import Derived.Deep.DrawnRows
namespace Go.Proofs.Ytddepkiefkngdaa
open Go.RowKit
set_option linter.unusedSimpArgs false
set_option linter.unusedVariables false
attribute [local go_sem ↓] Go.wp_at_zero Go.wp_at_succ

def str (l : List UInt8) : ByteArray := ⟨l.toArray⟩
/-- What Encode answers: bytes, and the error's number. -/
def enS (x : Xi) : List UInt8 := if rt x then enc x else []
def enE (x : Xi) : Int := if rt x then 0 else 4
theorem right_is (op : Int) (wd : Bool) (r b i c n : Int) (w : World) (hi : I64 i) {q : Bool} (h : rt ⟨op, wd, r, b, i, c, n⟩ = q) :
    Calls Try.prog 12 #[.agg #[.int .i64 op, .bool wd, .int .i64 r, .int .i64 b, .int .i64 i, .int .i64 c, .int .i64 n]] w fun e w' => e = .returned (.bool q) ∧ Below w.heap.size w w' := by subst h; exact right_any op wd r b i c n w hi
theorem two_pos (c : Int) : 0 < (two c).length := by unfold two; split <;> simp
theorem enc_pos (x : Xi) : 0 < (enc x).length := by have := two_pos (cod x); unfold enc; simp only [List.length_append]; omega
theorem bel_heap {W U : World} (h1 : U.os = W.os) (h2 : U.tape = W.tape) (h3 : U.output = W.output) (h4 : U.heap = W.heap) : Below W.heap.size W U := ⟨h1, h2, h3, by rw [h4]; exact Nat.le_refl _, fun _ _ => by rw [h4]⟩
theorem made16 : ∃ cs : Array Value, cs.size = 16 ∧ ∀ X : World, (Instr.makeSlice 43 (.int .i64 0) (.int .i64 16)).run Try.prog X = .ok (.slice (some ⟨X.heap.size, 0, none⟩) 0 16) (X.alloc (.cells cs 5)) := by
  obtain ⟨i0, hi, hz0, hz1, hz2⟩ := info_parts Try.info5
  refine ⟨madeCells (Value.int .u8 0).cells (16 * i0.size), by rw [size_madeCells, hz1], fun X => ?_⟩
  exact run_make X 43 5 i0 (.int .u8 0) Try.underlying43 hi hz0 .i64 .i64 0 16 (by decide) (by decide) (by rw [hz2]; decide) (by decide)
/-- write, of a row that was just made. -/
theorem write_at (x : Xi) (cs : Array Value) (hcs : cs.size = 16) (W U : World) (hx : rt x = true) (hn : I64 x.n) (hU : Below (W.alloc (.cells cs 5)).heap.size (W.alloc (.cells cs 5)) U) :
    Calls Try.prog 18 #[.slice (some ⟨W.heap.size, 0, none⟩) 0 16, xv x] U fun e w' => ∃ g cap, e = .returned (.slice (some ⟨g, 0, none⟩) (enc x).length cap) ∧ Hid (BRow W.heap.size (.slice (some ⟨g, 0, none⟩) (enc x).length cap) (enc x) w' ∧ Below W.heap.size W w') := by
  have h0 : BRow W.heap.size (.slice (some ⟨W.heap.size, 0, none⟩) 0 16) [] (W.alloc (.cells cs 5)) := World.ownsRow_made W cs 16 (Nat.le_refl _) (by decide) (by rw [hcs])
  have hb := bel_tr (bel_one W (.cells cs 5)) hU
  refine (write_any W.heap.size _ [] x U hb.size (h0.kept hU) (by simp) hx hn).mono ?_
  rintro e w' ⟨v', rfl, k1, k2⟩
  have k1' : BRow W.heap.size v' (enc x) w' := by simpa using k1
  rcases k1'.2 with ⟨_, hz⟩ | ⟨g, cap, cur, hv, _⟩
  · have := enc_pos x; omega
  · subst hv
    exact ⟨g, cap, rfl, k1', hb.trans k2⟩
set_option maxHeartbeats 2000000 in
theorem encode_f (op : Int) (wd : Bool) (r b i c n : Int) (w : World) (hi : I64 i) (hn : I64 n) :
    Calls Try.prog 10 #[.agg #[.int .i64 op, .bool wd, .int .i64 r, .int .i64 b, .int .i64 i, .int .i64 c, .int .i64 n]] w fun e w' => e = .returned (.tuple #[.string (str (enS ⟨op, wd, r, b, i, c, n⟩)), .int .i64 (enE ⟨op, wd, r, b, i, c, n⟩)]) ∧ Below w.heap.size w w' := by
  have HI := hide hi
  obtain ⟨W, hW⟩ : ∃ W, W = w.alloc (.cells #[.int .i64 op, .bool wd, .int .i64 r, .int .i64 b, .int .i64 i, .int .i64 c, .int .i64 n] 23) := ⟨_, rfl⟩
  have B0 : Bx w.heap.size ⟨op, wd, r, b, i, c, n⟩ W := by rw [hW]; exact Bx.made w ⟨op, wd, r, b, i, c, n⟩
  have W0 : Hid (Below w.heap.size w W) := by show Below _ _ _; rw [hW]; exact bel_one _ _
  have HB0 := hide B0
  clear B0
  cases hq : rt ⟨op, wd, r, b, i, c, n⟩
  · have e1 : enS ⟨op, wd, r, b, i, c, n⟩ = [] := by simp [enS, hq]
    have e2 : enE ⟨op, wd, r, b, i, c, n⟩ = 4 := by simp [enE, hq]
    rw [e1, e2]
    have Q := hide hq
    clear e1 e2 hi hn hq
    go_enter Try.func10, Try.ntmps10
    go_wp2_with fail
    rw [← hW]
    refine (right_is _ _ _ _ _ _ _ _ HI.out Q.out).mono ?_
    clear hW
    rintro e w1 ⟨rfl, hb1⟩
    go_wp2
    go_ret2
    exact ⟨rfl, bel_tr W0.out hb1⟩
  · have e1 : enS ⟨op, wd, r, b, i, c, n⟩ = enc ⟨op, wd, r, b, i, c, n⟩ := by simp [enS, hq]
    have e2 : enE ⟨op, wd, r, b, i, c, n⟩ = 0 := by simp [enE, hq]
    rw [e1, e2]
    have Q := hide hq
    have HN := hide hn
    clear e1 e2 hi hn hq
    go_enter Try.func10, Try.ntmps10
    go_wp2_with fail
    rw [← hW]
    refine (right_is _ _ _ _ _ _ _ _ HI.out Q.out).mono ?_
    clear hW
    rintro e w1 ⟨rfl, hb1⟩
    have W1 := hide (bel_tr W0.out hb1)
    have HB1 := hide (HB0.out.kept hb1)
    clear hb1 W0 HB0
    obtain ⟨m0, m1, m2, m3, m4, m5, m6⟩ := HB1.out.cells
    obtain ⟨cs, hcs, hmk⟩ := made16
    have WR := hide (fun U hU => write_at ⟨op, wd, r, b, i, c, n⟩ cs hcs w1 U Q.out HN.out hU)
    clear hcs
    obtain ⟨n0, n1, n2, n3, n4, n5, n6⟩ := (HB1.out.alloc (.cells cs 5)).cells
    go_wp2_with fail
    go_region_with (first | (go_at_call 18; refine (WR.out _ ?hU).mono ?_; (case hU => exact ⟨rfl, rfl, rfl, Nat.le_refl _, fun _ _ => rfl⟩); rintro e w3 ⟨g3, c3, rfl, T3⟩; have hcv := run_own T3.out.1 (enc_pos _)))
    all_goals (go_wp2_with fail; go_ret2; exact ⟨rfl, bel_tr W1.out T3.out.2⟩)
theorem encode_any (x : Xi) (w : World) (hi : I64 x.i) (hn : I64 x.n) : Calls Try.prog 10 #[xv x] w fun e w' => e = .returned (.tuple #[.string (str (enS x)), .int .i64 (enE x)]) ∧ Below w.heap.size w w' :=
  encode_f x.op x.wide x.r x.b x.i x.c x.n w hi hn
end Go.Proofs.Ytddepkiefkngdaa
