/-
  Merged: Reads Guz ReadsG Frames.
-/
import Derived.Test.YtddepkiefkngdaaVB
import Derived.Test.YtddepkiefkngdaaEX
import Derived.Test.YtddepkiefkngdaaGuA
import Derived.Test.YtddepkiefkngdaaGuB
import Derived.Test.YtddepkiefkngdaaGuC
import Derived.Test.YtddepkiefkngdaaGuD
import Derived.Test.YtddepkiefkngdaaGuE
import Derived.Test.YtddepkiefkngdaaGuF
import Derived.Test.YtddepkiefkngdaaGuG
import Derived.Test.YtddepkiefkngdaaGuH
import Derived.Test.YtddepkiefkngdaaRightA
import Derived.ProofKit
import Derived.OpenShut
import Derived.Lib.SmallJoins
import Derived.Deep.Slices
import Derived.SizedLaws
import Derived.ShutString
/-
  Any bytes are read as an instruction, as the chapter says, or refused: the walk of the statement XcodeReads, once the document's guess is walked (a premise here: GuAll).
-/
namespace Go.Proofs.Ytddepkiefkngdaa
open Go.RowKit
set_option linter.unusedSimpArgs false
set_option linter.unusedVariables false

def RsIs (t : ByteArray) (w : World) : Prop := Calls Try.prog 4 #[.string t] w fun e w' => e = .returned (.bool true) ∧ Below w.heap.size w w'
theorem rdec_is (GA : GuAll) (t : ByteArray) (w : World) {x : Xi} {n : Int} {q : Bool} (h1 : dX t.data.toList = x) (h2 : dN t.data.toList = n) (h3 : (dcX t.data.toList).isSome = q) :
    Calls Try.prog 15 #[.string t] w fun e w' => e = .returned (.tuple #[.agg #[.int .i64 x.op, .bool x.wide, .int .i64 x.r, .int .i64 x.b, .int .i64 x.i, .int .i64 x.c, .int .i64 x.n], .int .i64 n, .bool q]) ∧ Below w.heap.size w w' := by
  subst h1 h2 h3; exact rdec_any GA t w
set_option maxHeartbeats 4000000 in
theorem reads_true (GA : GuAll) (t : ByteArray) (w : World) (op : Int) (wd : Bool) (r b i c n k : Int) (h1 : dX t.data.toList = ⟨op, wd, r, b, i, c, n⟩) (h2 : dN t.data.toList = k) (h3 : (dcX t.data.toList).isSome = true) : RsIs t w := by
  have h4 : dE t.data.toList = 0 := by unfold dE; rw [h3]; rfl
  have D1 := hide (fun U => dec_is t U h1 h2 h4)
  have D2 := hide (fun U => rdec_is GA t U h1 h2 h3)
  have QX := eql_x op wd r b i c n op wd r b i c n
  rw [xeq_self] at QX
  unfold RsIs
  clear h1 h2 h3 h4 GA
  go_enter Try.func4, Try.ntmps4
  go_wp2_with fail
  refine (examples_any _).mono ?_
  rintro e w1 ⟨rfl, hb1⟩
  go_wp2_with fail
  refine (D1.out _).mono ?_
  rintro e w2 ⟨rfl, hb2⟩
  have W2 := hide (bel_tr hb1 hb2)
  clear hb1 hb2
  obtain ⟨V, hV⟩ : ∃ V, V = w2.alloc (.cells #[.int .i64 op, .bool wd, .int .i64 r, .int .i64 b, .int .i64 i, .int .i64 c, .int .i64 n] 23) := ⟨_, rfl⟩
  have B2 : Hid (Bx w2.heap.size ⟨op, wd, r, b, i, c, n⟩ V) := by show Bx _ _ _; rw [hV]; exact Bx.made w2 ⟨op, wd, r, b, i, c, n⟩
  have W3 : Hid (Below w.heap.size w V) := by show Below _ _ _; rw [hV]; exact bel_al W2.out _
  go_wp2_with fail
  rw [← hV]
  refine (D2.out _).mono ?_
  clear hV
  rintro e w3 ⟨rfl, hb3⟩
  have B3 : Hid (Bx w2.heap.size ⟨op, wd, r, b, i, c, n⟩ w3) := B2.out.kept hb3
  have W4 := hide (bel_tr W3.out hb3)
  clear hb3 B2 W3 W2
  obtain ⟨U, hU⟩ : ∃ U, U = w3.alloc (.cells #[.int .i64 op, .bool wd, .int .i64 r, .int .i64 b, .int .i64 i, .int .i64 c, .int .i64 n] 23) := ⟨_, rfl⟩
  have B4 : Hid (Bx w2.heap.size ⟨op, wd, r, b, i, c, n⟩ U) := by show Bx _ _ _; rw [hU]; exact B3.out.alloc _
  have B5 : Hid (Bx w3.heap.size ⟨op, wd, r, b, i, c, n⟩ U) := by show Bx _ _ _; rw [hU]; exact Bx.made w3 ⟨op, wd, r, b, i, c, n⟩
  have W5 : Hid (Below w.heap.size w U) := by show Below _ _ _; rw [hU]; exact bel_al W4.out _
  go_upto_region 4 with fail
  rw [← hU]
  clear hU B3 W4
  obtain ⟨x0, x1, x2, x3, x4, x5, x6⟩ := B4.out.cells
  obtain ⟨v0, v1, v2, v3, v4', v5, v6⟩ := B5.out.cells
  dsimp only at x0 x1 x2 x3 x4 x5 x6 v0 v1 v2 v3 v4' v5 v6
  go_wp2_with fail
  go_ret
  exact ⟨rfl, W5.out⟩
set_option maxHeartbeats 4000000 in
theorem reads_false (GA : GuAll) (t : ByteArray) (w : World) (op : Int) (wd : Bool) (r b i c n k : Int) (h1 : dX t.data.toList = ⟨op, wd, r, b, i, c, n⟩) (h2 : dN t.data.toList = k) (h3 : (dcX t.data.toList).isSome = false) : RsIs t w := by
  have h4 : dE t.data.toList = 6 := by unfold dE; rw [h3]; rfl
  have D1 := hide (fun U => dec_is t U h1 h2 h4)
  have D2 := hide (fun U => rdec_is GA t U h1 h2 h3)
  have QX := eql_x op wd r b i c n op wd r b i c n
  rw [xeq_self] at QX
  unfold RsIs
  clear h1 h2 h3 h4 GA
  go_enter Try.func4, Try.ntmps4
  go_wp2_with fail
  refine (examples_any _).mono ?_
  rintro e w1 ⟨rfl, hb1⟩
  go_wp2_with fail
  refine (D1.out _).mono ?_
  rintro e w2 ⟨rfl, hb2⟩
  have W2 := hide (bel_tr hb1 hb2)
  clear hb1 hb2
  obtain ⟨V, hV⟩ : ∃ V, V = w2.alloc (.cells #[.int .i64 op, .bool wd, .int .i64 r, .int .i64 b, .int .i64 i, .int .i64 c, .int .i64 n] 23) := ⟨_, rfl⟩
  have B2 : Hid (Bx w2.heap.size ⟨op, wd, r, b, i, c, n⟩ V) := by show Bx _ _ _; rw [hV]; exact Bx.made w2 ⟨op, wd, r, b, i, c, n⟩
  have W3 : Hid (Below w.heap.size w V) := by show Below _ _ _; rw [hV]; exact bel_al W2.out _
  go_wp2_with fail
  rw [← hV]
  refine (D2.out _).mono ?_
  clear hV
  rintro e w3 ⟨rfl, hb3⟩
  have B3 : Hid (Bx w2.heap.size ⟨op, wd, r, b, i, c, n⟩ w3) := B2.out.kept hb3
  have W4 := hide (bel_tr W3.out hb3)
  clear hb3 B2 W3 W2
  obtain ⟨U, hU⟩ : ∃ U, U = w3.alloc (.cells #[.int .i64 op, .bool wd, .int .i64 r, .int .i64 b, .int .i64 i, .int .i64 c, .int .i64 n] 23) := ⟨_, rfl⟩
  have B4 : Hid (Bx w2.heap.size ⟨op, wd, r, b, i, c, n⟩ U) := by show Bx _ _ _; rw [hU]; exact B3.out.alloc _
  have B5 : Hid (Bx w3.heap.size ⟨op, wd, r, b, i, c, n⟩ U) := by show Bx _ _ _; rw [hU]; exact Bx.made w3 ⟨op, wd, r, b, i, c, n⟩
  have W5 : Hid (Below w.heap.size w U) := by show Below _ _ _; rw [hU]; exact bel_al W4.out _
  go_upto_region 4 with fail
  rw [← hU]
  clear hU B3 W4
  obtain ⟨x0, x1, x2, x3, x4, x5, x6⟩ := B4.out.cells
  obtain ⟨v0, v1, v2, v3, v4', v5, v6⟩ := B5.out.cells
  dsimp only at x0 x1 x2 x3 x4 x5 x6 v0 v1 v2 v3 v4' v5 v6
  go_wp2_with fail
  go_ret
  exact ⟨rfl, W5.out⟩
theorem reads_walk (GA : GuAll) (t : ByteArray) (w : World) (ht : t.size ≤ 140737488351232) : RsIs t w := by
  rcases h1 : dX t.data.toList with ⟨op, wd, r, b, i, c, n⟩
  cases h3 : (dcX t.data.toList).isSome
  · exact reads_false GA t w op wd r b i c n _ h1 rfl h3
  · exact reads_true GA t w op wd r b i c n _ h1 rfl h3
end Go.Proofs.Ytddepkiefkngdaa
/-
  The document's guess answers what the plain function gu tells.
-/
namespace Go.Proofs.Ytddepkiefkngdaa
open Go.RowKit
theorem gu_all : GuAll := by
  intro t w
  obtain ⟨op, h⟩ : ∃ op, ga (ncl t.data.toList) 0 = op := ⟨_, rfl⟩
  by_cases cA : op = 137
  · exact gu_pA t w op h cA
  by_cases cB : op = 139
  · exact gu_pB t w op h cB
  by_cases cC : (184 ≤ op ∧ op < 192) ∨ (op < 64 ∧ op % 8 = 1)
  · exact gu_pC t w op h cC
  by_cases cD : op = 129 ∨ op = 133 ∨ op = 211 ∨ op = 247
  · exact gu_pD t w op h cD
  by_cases cE : op = 153 ∨ op = 99 ∨ op = 233
  · exact gu_pE t w op h cE
  by_cases cF : op = 232 ∨ op = 195
  · exact gu_pF t w op h cF
  by_cases cH : op = 15
  · exact gu_pH t w op h cH
  exact gu_pG t w op h (by omega)
end Go.Proofs.Ytddepkiefkngdaa
/-
  The walk of the statement XcodeReads, the document's guess walked.
-/
namespace Go.Proofs.Ytddepkiefkngdaa
open Go.RowKit
theorem reads_all (t : ByteArray) (w : World) (ht : t.size ≤ 140737488351232) : Calls Try.prog 4 #[.string t] w fun e w' => e = .returned (.bool true) ∧ Below w.heap.size w w' := reads_walk gu_all t w ht
end Go.Proofs.Ytddepkiefkngdaa
/-
  What comes in by value: an instruction: what it reads as; no condition.
-/
namespace Go.Proofs.Ytddepkiefkngdaa
open Go.ChangeShapes Go.WideShapes Go.ChangeAt Go.RowKit Go.Joins

theorem Try.cells23 : Try.prog.cellsOf 23 = 7 := by kernel_rfl
theorem Try.c3 : Try.prog.cellsOf 3 = 1 := by kernel_rfl
theorem Try.c4 : Try.prog.cellsOf 4 = 1 := by kernel_rfl
theorem wf_i64 {x : Int} (h : (Lit.int .i64 x).wf = true) : I64 x := by
  simp [Lit.wf, IntKind.min, IntKind.max, IntKind.signed, IntKind.bits] at h
  exact ⟨by omega, by omega⟩
section
variable {H : Type} {enc : TypeId × Value → H} {W : World}
/-- One instruction, out of its seven cells. -/
theorem open_seven {n : Nat} {cs : List Value} {x : DataW H × List MemPlace} (hl : cs.length = 7) (h : DataW.trod enc Try.prog W 0 (fun _ => true) true n 23 cs = some x) :
    ∃ y : Xi, cs = (xc y).toList ∧ y.ok := by
  obtain ⟨xs, k, _, _, _, hxl, hf⟩ := DataW.trod_struct Try.underlying23 h
  match cs, hl with
  | [v0, v1, v2, v3, v4, v5, v6], _ =>
    match xs, hxl with
    | [y0, y1, y2, y3, y4, y5, y6], _ =>
      have g0 := hf 0 _ rfl
      have g1 := hf 1 _ rfl
      have g2 := hf 2 _ rfl
      have g3 := hf 3 _ rfl
      have g4 := hf 4 _ rfl
      have g5 := hf 5 _ rfl
      have g6 := hf 6 _ rfl
      simp [Try.c3, Try.c4] at g0 g1 g2 g3 g4 g5 g6
      obtain ⟨a0, e0, _, w0⟩ := DataW.trod_int Try.underlying3 g0
      obtain ⟨a1, e1, _⟩ := DataW.trod_bool Try.underlying4 g1
      obtain ⟨a2, e2, _, w2⟩ := DataW.trod_int Try.underlying3 g2
      obtain ⟨a3, e3, _, w3⟩ := DataW.trod_int Try.underlying3 g3
      obtain ⟨a4, e4, _, w4⟩ := DataW.trod_int Try.underlying3 g4
      obtain ⟨a5, e5, _, w5⟩ := DataW.trod_int Try.underlying3 g5
      obtain ⟨a6, e6, _, w6⟩ := DataW.trod_int Try.underlying3 g6
      simp at e0 e1 e2 e3 e4 e5 e6
      subst e0 e1 e2 e3 e4 e5 e6
      exact ⟨⟨a0, a1, a2, a3, a4, a5, a6⟩, rfl, wf_i64 w0, wf_i64 w2, wf_i64 w3, wf_i64 w4, wf_i64 w5, wf_i64 w6⟩
/-- An instruction that comes in. -/
theorem open_x {base : Nat} {v : Value} {d : DataW H} {p : List MemPlace} (hv : Value.okWide Try.prog W .any base 23 v) (h : DataW.Trod enc Try.prog W 0 (fun _ => true) true 23 v d p) :
    ∃ y : Xi, v = xv y ∧ y.ok := by
  obtain ⟨cs, rfl, hsz⟩ := okWide_struct Try.underlying23 hv
  rw [Try.cells23] at hsz
  obtain ⟨fuel, hf0⟩ := h
  obtain ⟨y, e, hy⟩ := open_seven (by simpa [Value.cells] using hsz) hf0
  refine ⟨y, ?_, hy⟩
  have e' : cs = xc y := by
    apply Array.toList_inj.1
    simpa [Value.cells] using e
  rw [e']; rfl
end
end Go.Proofs.Ytddepkiefkngdaa
