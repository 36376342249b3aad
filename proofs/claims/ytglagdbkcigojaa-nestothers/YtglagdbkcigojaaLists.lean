/-
  A list of instructions that comes in: what lies in its memory; no condition.
-/
import Derived.Test.YtglagdbkcigojaaExamples
import Derived.Deep.Slices
import Derived.ProofKit
import Derived.OpenShut
import Derived.SizedLaws
namespace Go.Proofs.Ytglagdbkcigojaa
open Go.ChangeShapes Go.WideShapes Go.ChangeAt Go.RowKit

theorem Try.cells47 : Try.prog.cellsOf 47 = 3 := by kernel_rfl
theorem Try.bytes47 : Try.prog.bytesOf 47 = 24 := by kernel_rfl
/-- the instructions of a list, in blocks below n₀ -/
def Lst (n₀ : Nat) (w : World) (a : Option Addr) (n : Nat) (fo fn fm : Nat → Int) : Prop := ∀ j, j < n → ∃ b off, a = some ⟨b, off, none⟩ ∧ b < n₀ ∧ w.cell? ⟨b, off + j * 3, none⟩ = some (.int .i64 (fo j)) ∧ w.cell? ⟨b, off + (j * 3 + 1), none⟩ = some (.int .i64 (fn j)) ∧ w.cell? ⟨b, off + (j * 3 + 2), none⟩ = some (.int .i64 (fm j))
theorem Lst.ops {n₀ : Nat} {w : World} {a : Option Addr} {n : Nat} {fo fn fm : Nat → Int} (h : Lst n₀ w a n fo fn fm) : Ops n₀ w a n fo := fun j hj => by
  obtain ⟨b, off, e, hb, hc, _⟩ := h j hj
  exact ⟨b, off, e, hb, hc⟩
theorem Lst.below {n₀ : Nat} {w w' : World} {a : Option Addr} {n : Nat} {fo fn fm : Nat → Int} (h : Lst n₀ w a n fo fn fm) {B : Nat} (hb : Below B w w') (hB : n₀ ≤ B) : Lst n₀ w' a n fo fn fm := fun j hj => by
  obtain ⟨b, off, e, hlt, h0, h1, h2⟩ := h j hj
  exact ⟨b, off, e, hlt, (hb.cell (p := ⟨b, off + j * 3, none⟩) (by show b < B; omega)).trans h0, (hb.cell (p := ⟨b, off + (j * 3 + 1), none⟩) (by show b < B; omega)).trans h1, (hb.cell (p := ⟨b, off + (j * 3 + 2), none⟩) (by show b < B; omega)).trans h2⟩
theorem Lst.less {n₀ : Nat} {w : World} {a : Option Addr} {n m : Nat} {fo fn fm : Nat → Int} (h : Lst n₀ w a n fo fn fm) (hm : m ≤ n) : Lst n₀ w a m fo fn fm := fun j hj => h j (by omega)
theorem wf_i64 {x : Int} (h : (Lit.int .i64 x).wf = true) : -9223372036854775808 ≤ x ∧ x ≤ 9223372036854775807 := by
  simp [Lit.wf, IntKind.min, IntKind.max, IntKind.signed, IntKind.bits] at h
  exact ⟨by omega, by omega⟩
theorem cell_lt {w : World} {a : Addr} {v : Value} (h : w.cell? a = some v) : a.block < w.heap.size := World.block_lt_of_cell? w a h
/-- One instruction, out of its three cells. -/
theorem open_three {H : Type} {enc : TypeId × Value → H} {W : World} {n : Nat} {cs : List Value} {x : DataW H × List MemPlace} (hl : cs.length = 3)
    (h : DataW.trod enc Try.prog W 0 (fun _ => true) true n 47 cs = some x) : ∃ a b c : Int, cs = [.int .i64 a, .int .i64 b, .int .i64 c] := by
  obtain ⟨xs, k, hk, hxy, _, hxl, hf⟩ := DataW.trod_struct Try.underlying47 h
  match cs, hl with
  | [v0, v1, v2], _ =>
    have c3 : Try.prog.cellsOf 3 = 1 := by kernel_rfl
    match xs, hxl with
    | [y0, y1, y2], _ =>
      have g0 := hf 0 _ rfl
      have g1 := hf 1 _ rfl
      have g2 := hf 2 _ rfl
      simp [c3] at g0 g1 g2
      obtain ⟨a, e0, _, wa⟩ := DataW.trod_int Try.underlying3 g0
      obtain ⟨b, e1, _, wb⟩ := DataW.trod_int Try.underlying3 g1
      obtain ⟨c, e2, _, wc⟩ := DataW.trod_int Try.underlying3 g2
      simp at e0 e1 e2
      subst e0 e1 e2
      exact ⟨a, b, c, rfl⟩
theorem open_list {H : Type} {enc : TypeId × Value → H} {W : World} {a0 : Option Addr} {len cap : Nat} {d : DataW H} {p : List MemPlace}
    (h : DataW.Trod enc Try.prog W 0 (fun _ => true) true 22 (.slice a0 len cap) d p) :
    ∃ fo fn fm : Nat → Int, Lst W.heap.size W a0 len fo fn fm ∧ len ≤ cap ∧ (a0 = none → len = 0 ∧ cap = 0) := by
  obtain ⟨fuel, hf⟩ := h
  rcases Deep.open_slice Try.underlying22 hf with ⟨hcs, hx⟩ | ⟨a, len', cap', m, n, D, Pl, hcs, _, hl, hm, hmm, hx, hcell⟩
  · simp [Value.cells] at hcs
    obtain ⟨rfl, rfl, rfl⟩ := hcs
    exact ⟨fun _ => 0, fun _ => 0, fun _ => 0, fun j hj => absurd hj (by omega), Nat.le_refl _, fun _ => ⟨rfl, rfl⟩⟩
  · simp [Value.cells] at hcs
    obtain ⟨rfl, rfl, rfl⟩ := hcs
    rcases Nat.eq_zero_or_pos len with h0 | h0
    · subst h0
      exact ⟨fun _ => 0, fun _ => 0, fun _ => 0, fun j hj => absurd hj (by omega), Nat.zero_le _, fun e => by cases e⟩
    simp only [if_true] at hmm
    have each : ∀ i, i < len → ∃ q : Int × Int × Int, W.cell? (a.add (i * 3)) = some (.int .i64 q.1) ∧ W.cell? (a.add (i * 3 + 1)) = some (.int .i64 q.2.1) ∧ W.cell? (a.add (i * 3 + 2)) = some (.int .i64 q.2.2) := by
      intro i hi
      obtain ⟨cs', h1, h2⟩ := hcell i (by omega)
      rw [Try.cells47] at h1
      obtain ⟨_, hlen, hc⟩ := World.cells?_some h1
      obtain ⟨x, y, z, rfl⟩ := open_three hlen h2
      have e0 := hc 0 (by omega)
      have e1 := hc 1 (by omega)
      have e2 := hc 2 (by omega)
      rw [Deep.add_add] at e0 e1 e2
      exact ⟨(x, y, z), by simpa using e0, by simpa using e1, by simpa using e2⟩
    obtain ⟨q, hq⟩ := Deep.choose_lt each
    obtain ⟨b, off, spot⟩ := a
    have hspot : spot = none := by simpa [Addr.add] using World.cell?_spot (hq 0 h0).1
    subst hspot
    refine ⟨fun j => (q j).1, fun j => (q j).2.1, fun j => (q j).2.2, fun j hj => ?_, hl, fun e => by cases e⟩
    obtain ⟨c0, c1, c2⟩ := hq j hj
    rw [Addr.add_lit] at c0 c1 c2
    exact ⟨b, off, rfl, cell_lt c0, c0, c1, c2⟩
end Go.Proofs.Ytglagdbkcigojaa
