/-
  Items that come in: what lies in their memory; no condition.
-/
import Derived.Test.YtookbgnidinkoaaX
import Derived.Test.YtookbgnidinkoaaCLists
namespace Go.Proofs.Ytookbgnidinkoaa
open Go.ChangeShapes Go.WideShapes Go.ChangeAt Go.RowKit Go.Joins
open Xc
set_option linter.unusedSimpArgs false
set_option linter.unusedVariables false
theorem Try.cells42 : Try.prog.cellsOf 42 = 9 := by kernel_rfl
theorem Try.bytes42 : Try.prog.bytesOf 42 = 72 := by kernel_rfl
/-- One item, out of its nine cells. -/
theorem open_nine {H : Type} {enc : TypeId × Value → H} {W : World} {n : Nat} {cs : List Value} {x : DataW H × List MemPlace} (hl : cs.length = 9) (h : DataW.trod enc Try.prog W 0 (fun _ => true) true n 42 cs = some x) :
    ∃ t : It, cs = ivl t ∧ t.ok := by
  obtain ⟨xs, k, _, _, _, hxl, hf⟩ := DataW.trod_struct Try.underlying42 h
  match cs, hl with
  | [v0, v1, v2, v3, v4, v5, v6, v7, v8], _ =>
    match xs, hxl with
    | [y0, y1, y2], _ =>
      have g0 := hf 0 _ rfl
      have g1 := hf 1 _ rfl
      have g2 := hf 2 _ rfl
      simp [Try.c3, Try.cells40] at g0 g1 g2
      obtain ⟨q, e0, hq⟩ := open_seven rfl g0
      obtain ⟨a1, e1, _, w1⟩ := DataW.trod_int Try.underlying3 g1
      obtain ⟨a2, e2, _, w2⟩ := DataW.trod_int Try.underlying3 g2
      simp [xc] at e0 e1 e2
      obtain ⟨rfl, rfl, rfl, rfl, rfl, rfl, rfl⟩ := e0
      subst e1 e2
      exact ⟨⟨q, a1, a2⟩, rfl, hq, wf_i64 w1, wf_i64 w2⟩
theorem open_is {H : Type} {enc : TypeId × Value → H} {W : World} {base : Nat} {v : Value} {d : DataW H} {p : List MemPlace} (hv : Value.okWide Try.prog W .any base 22 v) (h : DataW.Trod enc Try.prog W 0 (fun _ => true) true 22 v d p) :
    ∃ (a : Option Addr) (l : List It) (c : Nat), v = .slice a (List.length l) c ∧ IS W a l ∧ l.length ≤ c := by
  obtain ⟨a, len, cap, rfl⟩ := okWide_slice Try.underlying22 hv
  obtain ⟨fuel, hf⟩ := h
  rcases Deep.open_slice Try.underlying22 hf with ⟨hcs, hx⟩ | ⟨a, len', cap', m, n, D, Pl, hcs, _, hl, hm, hmm, hx, hcell⟩
  · simp [Value.cells] at hcs
    exact ⟨a, [], cap, by rw [hcs.2.1]; rfl, Or.inl rfl, by simp⟩
  · simp [Value.cells] at hcs
    obtain ⟨rfl, rfl, rfl⟩ := hcs
    rcases Nat.eq_zero_or_pos len with h0 | h0
    · subst h0
      exact ⟨some a, [], cap, rfl, Or.inl rfl, by simp⟩
    simp only [if_true] at hmm
    have each : ∀ i, i < len → ∃ q : It, q.ok ∧ ∀ k v, (ivl q)[k]? = some v → W.cell? (a.add (i * 9 + k)) = some v := by
      intro i hi
      obtain ⟨cs', h1, h2⟩ := hcell i (by omega)
      rw [Try.cells42] at h1
      obtain ⟨_, hlen, hc⟩ := World.cells?_some h1
      obtain ⟨y, e, hy⟩ := open_nine hlen h2
      refine ⟨y, hy, fun k v hk => ?_⟩
      have hk7 : k < 9 := by
        have := (List.getElem?_eq_some_iff.1 hk).1
        simpa [ivl] using this
      have := hc k hk7
      rw [Deep.add_add] at this
      rw [this, e]
      simpa using hk
    haveI : Inhabited It := ⟨⟨⟨0, false, 0, 0, 0, 0, 0⟩, 0, 0⟩⟩
    obtain ⟨q, hq⟩ := Deep.choose_lt each
    obtain ⟨b, off, spot⟩ := a
    have hspot : spot = none := by simpa [Addr.add] using World.cell?_spot ((hq 0 h0).2 0 _ rfl)
    subst hspot
    refine ⟨some ⟨b, off, none⟩, (List.range len).map q, cap, by simp, Or.inr ⟨b, off, rfl, fun j hj => ?_⟩, by simpa using hl⟩
    have hj' : j < len := by simpa using hj
    have hc := (hq j hj').2
    have get : ((List.range len).map q)[j] = q j := by simp
    rw [get]
    have cc := fun k v hk => by have := hc k v hk; rw [add_lit7] at this; exact this
    exact ⟨by have := cell_lt (cc 0 _ rfl); exact this, (hq j hj').1, cc 0 _ rfl, cc 1 _ rfl, cc 2 _ rfl, cc 3 _ rfl, cc 4 _ rfl, cc 5 _ rfl, cc 6 _ rfl, cc 7 _ rfl, cc 8 _ rfl⟩
/-- Instructions that come in, and that there is room for them. -/
theorem open_xs' {H : Type} {enc : TypeId × Value → H} {W : World} {base : Nat} {v : Value} {d : DataW H} {p : List MemPlace} (hv : Value.okWide Try.prog W .any base 46 v) (h : DataW.Trod enc Try.prog W 0 (fun _ => true) true 46 v d p) :
    ∃ (a : Option Addr) (l : List Xi) (c : Nat), v = .slice a (List.length l) c ∧ XS W a l ∧ l.length ≤ c := by
  obtain ⟨a, l, c, elems, spare, rfl, _, hs, _⟩ := open_xs hv h
  refine ⟨a, l, c, rfl, hs, ?_⟩
  obtain ⟨fuel, hf⟩ := h
  rcases Deep.open_slice Try.underlying46 hf with ⟨hcs, hx⟩ | ⟨a', len', cap', m, n, D, Pl, hcs, _, hl, hm, hmm, hx, hcell⟩
  · simp [Value.cells] at hcs
    rw [hcs.2.1]; simp
  · simp [Value.cells] at hcs
    obtain ⟨_, rfl, rfl⟩ := hcs
    exact hl
end Go.Proofs.Ytookbgnidinkoaa
