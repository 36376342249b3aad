/-
  A row of functions of one's own, one of whose bodies may lie in a block of its own that is younger than the row (a literal): kept, read, grown, one cell changed. No walk.
-/
import Derived.Test.YtamofhkmhjckaabGreatDoorSgRow
namespace Go.Proofs.YtamofhkmhjckaabGreatDoor
open Go.RowKit

/-- the blocks in which the functions' lists may lie -/
abbrev Or1 (lo nb : Nat) : Nat → Prop := fun i => i < lo ∨ i = nb
structure GRow (lo nb base : Nat) (v : Value) (fv : List FV) (W : World) : Prop where
  own : W.ownsRow base 38 4 v fv.length (fces fv)
  ok : ∀ x ∈ fv, FvOk (Or1 lo nb) W x
  lb : lo ≤ base
  le : base ≤ W.heap.size
  lit : ∃ cs, Row W nb cs 44
theorem own_ne {W : World} {base nb n : Nat} {v : Value} {xs : List Value} {cs : Array Value} (h : W.ownsRow base 38 4 v n xs) (k : Row W nb cs 44) : ∀ g, v.ownBlock = some g → g ≠ nb := by
  intro g hg e
  subst e
  rcases h.2 with ⟨rfl, _⟩ | ⟨g', cap, cur, rfl, _, hc, _⟩
  · cases hg
  · simp only [Value.ownBlock, Option.some.injEq] at hg
    subst hg
    unfold Row at k
    rw [k] at hc
    simp at hc
theorem FRow.lit {lo nb base : Nat} {v : Value} {fv : List FV} {W : World} {cs : Array Value} (h : FRow lo base v fv W) (k : Row W nb cs 44) : GRow lo nb base v fv W :=
  ⟨h.own, fun x hx => (h.ok x hx).to (fun _ _ => rfl) (fun _ hi => .inl hi), h.lb, h.le, cs, k⟩
theorem GRow.next {lo nb base : Nat} {v : Value} {fv : List FV} {W W' : World} (h : GRow lo nb base v fv W) (k : Below W.heap.size W W') : GRow lo nb base v fv W' := by
  obtain ⟨cs, hl⟩ := h.lit
  refine ⟨h.own.kept (bel_all k) (by cases v.ownBlock <;> simp), fun x hx => (h.ok x hx).to (fun i hi => k.block i ?_) (fun _ hi => hi), h.lb, Nat.le_trans h.le k.size, cs, hl.kept k⟩
  rcases hi with hi | rfl
  · have := h.lb; have := h.le; omega
  · exact hl.lt
theorem GRow.sl {lo nb base : Nat} {v : Value} {fv : List FV} {W : World} (h : GRow lo nb base v fv W) : Sl 4 EFn (Lt W.heap.size) W v (fv.map (·.1)) := by
  have lt0 := h.own.lt
  obtain ⟨cs', hl⟩ := h.lit
  rcases h.own.2 with ⟨rfl, hz⟩ | ⟨g, cap, cur, rfl, _⟩
  · have : fv = [] := List.length_eq_zero_iff.1 hz
    subst this
    exact Sl.isNil _ _ _ _
  · refine ⟨some ⟨g, 0, none⟩, cap, by simp, fun j hj => ?_⟩
    have hj' : j < fv.length := by simpa using hj
    have ok := h.ok _ (List.getElem_mem hj')
    have cs : ∀ i (hi : i < 4), W.cell? ⟨g, j * 4 + i, none⟩ = (fce fv[j])[i]? := fun i hi => by
      rw [← fces_at fv j hj' i hi]
      exact h.own.cellAt (j * 4 + i) (by omega)
    refine ⟨g, 0, rfl, (lt0 g rfl).2, fv[j].2.1, fv[j].2.2, ?_⟩
    simp only [List.getElem_map]
    rw [Nat.zero_add]
    have k := ok.to (T := Lt W.heap.size) (W := W) (fun _ _ => rfl) (fun i hi => by
      rcases hi with hi | rfl
      · have := h.lb; have := h.le; show i < _; omega
      · exact hl.lt)
    exact ⟨k.1, cs 0 (by omega), cs 1 (by omega), cs 2 (by omega), cs 3 (by omega), k.2.1, k.2.2⟩
/-- one cell of one function -/
theorem GRow.set {lo nb base g cap n : Nat} {fv : List FV} {W : World} (h : GRow lo nb base (.slice (some ⟨g, 0, none⟩) n cap) fv W) (hn : n = fv.length) (j : Nat) (hj : j < fv.length) (i : Nat) (hi : i < 4) (u : Value) (y : FV) (e : (fce fv[j]).set i u = fce y) (hy : FvOk (Or1 lo nb) W y) :
    GRow lo nb base (.slice (some ⟨g, 0, none⟩) n cap) (fv.set j y) (W.setCell ⟨g, j * 4 + i, none⟩ u) := by
  subst hn
  have hg := (h.own.lt g rfl).1
  have hlb := h.lb
  obtain ⟨cs, hl⟩ := h.lit
  have hne := own_ne h.own hl g rfl
  have st := (h.own.stored (j * 4 + i) u).1
  rw [fces_set fv j hj i hi u y e] at st
  have mv : ∀ {x : FV}, FvOk (Or1 lo nb) W x → FvOk (Or1 lo nb) (W.setCell ⟨g, j * 4 + i, none⟩ u) x := fun hx => hx.to (fun k hk => Below.heap_setCell _ _ _ _ (by
    show k ≠ g
    rcases hk with hk | rfl
    · omega
    · exact fun e => hne e.symm)) (fun _ hk => hk)
  refine ⟨by rw [List.length_set]; exact st, fun x hx => ?_, hlb, by have := h.le; simp; omega, cs, hl.other _ _ (fun e => hne e.symm)⟩
  rcases List.mem_or_eq_of_mem_set hx with hx | rfl
  · exact mv (h.ok x hx)
  · exact mv hy
/-- a cell of another block -/
theorem GRow.store {lo nb base b o : Nat} {v u : Value} {fv : List FV} {W : World} (h : GRow lo nb base v fv W) (h1 : lo ≤ b) (h2 : b < base) (h3 : nb ≠ b) : GRow lo nb base v fv (W.setCell ⟨b, o, none⟩ u) := by
  obtain ⟨cs, hl⟩ := h.lit
  exact ⟨ownsRow_setCell_below h.own h2 u, fun _ hx => (h.ok _ hx).to (fun k hk => Below.heap_setCell _ _ _ _ (by
    show k ≠ b
    rcases hk with hk | rfl
    · omega
    · exact h3)) (fun _ hk => hk), h.lb, by have := h.le; simp; omega, cs, hl.other _ _ h3⟩
/-- functions appended to such a row -/
theorem append_fns_lit {P : Program} (w : World) {ops : Array Oper} {rest : List Oper} {o : Oper} {a : Act} {Q : Exit → Act → World → Prop} (hgd : o.guard = none) (s x : Operand) (t : TypeId)
    (ho : o.op = .call { callee := .builtin .append, args := #[s, x], argTypes := #[t, t] })
    (i : TypeInfo) (ht : P.underlying t = some (.slice 38)) (hi : P.info? 38 = some i) (hz : i.zero = some (.agg #[.int .i64 0, .bool false, .slice none 0 0, .slice none 0 0])) (hsize : i.size = 4) (hby : i.bytes = 64)
    (lo nb base : Nat) (v : Value) (sv : List FV) (hs : a.eval s = v) (hr : GRow lo nb base v sv w) (ad : Addr) (m xc : Nat) (nv : List FV) (hx : a.eval x = .slice (some ad) m xc) (hm : nv.length = m)
    (hc : ∀ j u, (fces nv)[j]? = some u → w.cell? (ad.add j) = some u) (hk : ∀ x ∈ nv, FvOk (Or1 lo nb) w x) (hn : sv.length + m ≤ 10000)
    (h : ∀ sb sc w', GRow lo nb base (.slice sb (sv.length + m) sc) (sv ++ nv) w' → w.grownBy w' v.ownBlock → wpList P ops Q rest (a.put o.dst (.slice sb (sv.length + m) sc)) w') : wpList P ops Q (o :: rest) a w := by
  refine wpList_append_own w hgd s x t ho base 38 i _ 4 64 ht hi hz hsize hby rfl (by decide) _ sv.length _ hs hr.own ad m xc (fces nv) hx (by rw [fces_len, hm]) hc (fun u hu => by
    obtain ⟨y, hy, hu⟩ := List.mem_flatMap.1 hu
    exact fce_one (hk y hy) u hu) (by unfold maxLen; omega) (by omega) hr.le ?_
  intro v' w' own' grow' _
  obtain ⟨sb', sc', rfl⟩ := Nest.own_slice own'
  obtain ⟨cs, hl⟩ := hr.lit
  have hne := own_ne hr.own hl
  have B : Below base w w' := (Below.refl _ _).grown grow' hr.le (fun k hk => by have := hr.own.lt k hk; exact this.1)
  have hb : w'.heap[nb]? = w.heap[nb]? := grow'.block nb hl.lt (fun e => hne nb e.symm rfl)
  have hl' : Row w' nb cs 44 := by unfold Row at *; rw [hb]; exact hl
  have mv : ∀ {x : FV}, FvOk (Or1 lo nb) w x → FvOk (Or1 lo nb) w' x := fun q => q.to (fun i hi => by
    rcases hi with hi | rfl
    · exact B.block i (by have := hr.lb; omega)
    · exact hb) (fun _ hi => hi)
  refine h sb' sc' w' ⟨by rw [List.length_append, hm]; simpa [fces] using own', fun x hx => ?_, hr.lb, Nat.le_trans hr.le B.size, cs, hl'⟩ grow'
  rcases List.mem_append.1 hx with hx | hx
  · exact mv (hr.ok x hx)
  · exact mv (hk x hx)
end Go.Proofs.YtamofhkmhjckaabGreatDoor
