/-
  A list of instructions that comes in: what lies in its memory; no condition.
-/
import Derived.Test.YtcipbnbeoacenaaBody
import Derived.Test.YtcipbnbeoacenaaFrames
import Derived.Deep.Slices
import Derived.SizedLaws
namespace Go.Proofs.Ytcipbnbeoacenaa
open Go.ChangeShapes Go.WideShapes Go.ChangeAt Go.RowKit Go.Joins

theorem Try.bytes23 : Try.prog.bytesOf 23 = 24 := by kernel_rfl
theorem zero64 : I64 0 := ⟨by decide, by decide⟩
theorem cell_lt {w : World} {a : Addr} {v : Value} (h : w.cell? a = some v) : a.block < w.heap.size := by
  unfold World.cell? at h
  cases hb : w.heap[a.block]? with
  | none => rw [hb] at h; cases h
  | some o => exact (Array.getElem?_eq_some_iff.1 hb).1
theorem add_lit3 (b off i : Nat) : (⟨b, off, none⟩ : Addr).add i = ⟨b, off + i, none⟩ := by
  unfold Addr.add; split <;> simp_all
/-- One instruction, out of its three cells. -/
theorem open_three {H : Type} {enc : TypeId × Value → H} {W : World} {n : Nat} {cs : List Value} {x : DataW H × List MemPlace} (hl : cs.length = 3)
    (h : DataW.trod enc Try.prog W 0 (fun _ => true) true n 23 cs = some x) : ∃ a b c : Int, cs = [.int .i64 a, .int .i64 b, .int .i64 c] ∧ I64 a ∧ I64 b ∧ I64 c := by
  obtain ⟨xs, k, hk, hxy, _, hxl, hf⟩ := DataW.trod_struct Try.underlying23 h
  match cs, hl with
  | [v0, v1, v2], _ =>
    have c3 : Try.prog.cellsOf 3 = 1 := by kernel_rfl
    match xs, hxl with
    | [y0, y1, y2], _ =>
      have g0 := hf 0 _ rfl
      have g1 := hf 1 _ rfl
      have g2 := hf 2 _ rfl
      simp [c3] at g0 g1 g2
      obtain ⟨a, e0, _, wa⟩ := DataW.trod_int Try.underlying3 g0
      obtain ⟨b, e1, _, wb⟩ := DataW.trod_int Try.underlying3 g1
      obtain ⟨c, e2, _, wc⟩ := DataW.trod_int Try.underlying3 g2
      simp at e0 e1 e2
      subst e0 e1 e2
      exact ⟨a, b, c, rfl, wf_i64 wa, wf_i64 wb, wf_i64 wc⟩
theorem open_list {H : Type} {enc : TypeId × Value → H} {W : World} {a0 : Option Addr} {len cap : Nat} {d : DataW H} {p : List MemPlace}
    (h : DataW.Trod enc Try.prog W 0 (fun _ => true) true 37 (.slice a0 len cap) d p) :
    len = 0 ∨ ∃ (b off : Nat) (fo fn fm : Nat → Int) (elems spare : List (DataW H)), a0 = some ⟨b, off, none⟩ ∧ Lists W.heap.size W b off len fo fn fm ∧ (∀ j, I64 (fo j) ∧ I64 (fn j) ∧ I64 (fm j)) ∧ len ≤ cap ∧
      d = .slice elems spare ∧ elems.length = len := by
  obtain ⟨fuel, hf⟩ := h
  rcases Deep.open_slice Try.underlying37 hf with ⟨hcs, hx⟩ | ⟨a, len', cap', m, n, D, Pl, hcs, _, hl, hm, hmm, hx, hcell⟩
  · simp [Value.cells] at hcs
    exact Or.inl hcs.2.1
  · simp [Value.cells] at hcs
    obtain ⟨rfl, rfl, rfl⟩ := hcs
    rcases Nat.eq_zero_or_pos len with h0 | h0
    · exact Or.inl h0
    refine Or.inr ?_
    simp only [if_true] at hmm
    have each : ∀ i, i < len → ∃ q : Int × Int × Int, W.cell? (a.add (i * 3)) = some (.int .i64 q.1) ∧ W.cell? (a.add (i * 3 + 1)) = some (.int .i64 q.2.1) ∧ W.cell? (a.add (i * 3 + 2)) = some (.int .i64 q.2.2) ∧ I64 q.1 ∧ I64 q.2.1 ∧ I64 q.2.2 := by
      intro i hi
      obtain ⟨cs', h1, h2⟩ := hcell i (by omega)
      rw [Try.cells23] at h1
      obtain ⟨_, hlen, hc⟩ := World.cells?_some h1
      obtain ⟨x, y, z, rfl, wx, wy, wz⟩ := open_three hlen h2
      have e0 := hc 0 (by omega)
      have e1 := hc 1 (by omega)
      have e2 := hc 2 (by omega)
      rw [Deep.add_add] at e0 e1 e2
      exact ⟨(x, y, z), by simpa using e0, by simpa using e1, by simpa using e2, wx, wy, wz⟩
    obtain ⟨q, hq⟩ := Deep.choose_lt each
    obtain ⟨b, off, spot⟩ := a
    have hspot : spot = none := by simpa [Addr.add] using World.cell?_spot (hq 0 h0).1
    subst hspot
    have hx1 : d = .slice ((List.range len).map D) ((List.range (m - len)).map fun j => D (len + j)) := congrArg Prod.fst hx
    refine ⟨b, off, fun j => if j < len then (q j).1 else 0, fun j => if j < len then (q j).2.1 else 0, fun j => if j < len then (q j).2.2 else 0, _, _, rfl, ?_, ?_, hl, hx1, by simp⟩
    · intro j hj
      obtain ⟨c0, c1, c2, _⟩ := hq j hj
      rw [add_lit3] at c0 c1 c2
      simp only [if_pos hj]
      exact ⟨cell_lt c0, c0, c1, c2⟩
    · intro j
      by_cases hj : j < len
      · simp only [if_pos hj]
        exact (hq j hj).2.2.2
      · simp only [if_neg hj]
        exact ⟨zero64, zero64, zero64⟩
theorem reach_list {H : Type} {ts : List TypeId} {ds : List (DataW H)} (h : (DataW.weightsEach Try.prog ts ds).all (· ≤ reachBytes) = true) {j : Nat} {elems spare : List (DataW H)} (ht : ts[j]? = some 37) (hd : ds[j]? = some (.slice elems spare)) :
    24 * elems.length ≤ 140737488351232 := by
  have := sized_slice h ht hd Try.underlying37
  rw [Try.bytes23] at this
  simp only [reachBytes] at this
  omega
end Go.Proofs.Ytcipbnbeoacenaa
