/-
  The program's memory while it reads a body: the six variables that its closures share, the row of the spans, the row of those that are open.
-/
import Derived.Test.YtglagdbkcigojaaRows
import Derived.Test.YtglagdbkcigojaaMathB
import Derived.WalkSpells
import Derived.Handy
import Derived.PlainAid
import Derived.ArgAppend
namespace Go.Proofs.Ytglagdbkcigojaa
open Go.RowKit

theorem hide {p : Prop} (h : p) : Hid p := h
theorem ret_bool {a b : Bool} (h : a = b) : Ending.returned (.bool a) = .returned (.bool b) := by rw [h]
theorem ret_int {k : IntKind} {a b : Int} (h : a = b) : Ending.returned (.int k a) = .returned (.int k b) := by rw [h]
def ptr (b : Nat) : Value := .pointer (some ⟨b, 0, none⟩)
/-- the six variables: the body, the spans, those that are open, the most, ended, wrong -/
structure Bx (B : Nat) (l vs vo : Value) (d : Int) (e r : Bool) (w : World) : Prop where
  h0 : w.heap[B]? = some (.cells #[l] 22 (0, 0))
  h1 : w.heap[B + 1]? = some (.cells #[vs] 24 (0, 0))
  h2 : w.heap[B + 2]? = some (.cells #[vo] 32 (0, 0))
  h3 : w.heap[B + 3]? = some (.cells #[.int .i64 d] 3 (0, 0))
  h4 : w.heap[B + 4]? = some (.cells #[.bool e] 4 (0, 0))
  h5 : w.heap[B + 5]? = some (.cells #[.bool r] 4 (0, 0))
section
variable {B : Nat} {l vs vo : Value} {d : Int} {e r : Bool} {w : World}
theorem Bx.size (h : Bx B l vs vo d e r w) : B + 6 ≤ w.heap.size := lt_of_block h.h5
theorem Bx.grow {w' : World} {row : Option Nat} (h : Bx B l vs vo d e r w) (hg : w.grownBy w' row) (hr : ∀ k, row = some k → B + 6 ≤ k) : Bx B l vs vo d e r w' := by
  have hs := h.size
  have ne : ∀ i, i < 6 → w'.heap[B + i]? = w.heap[B + i]? := fun i hi => hg.block (B + i) (by omega) (fun e => by have := hr _ e.symm; omega)
  exact ⟨(ne 0 (by omega)).trans h.h0, (ne 1 (by omega)).trans h.h1, (ne 2 (by omega)).trans h.h2, (ne 3 (by omega)).trans h.h3, (ne 4 (by omega)).trans h.h4, (ne 5 (by omega)).trans h.h5⟩
theorem Bx.alloc (h : Bx B l vs vo d e r w) (o : Obj) : Bx B l vs vo d e r (w.alloc o) := h.grow (World.grownBy_alloc w o none) (fun _ h => by cases h)
theorem Bx.below {w' : World} {C : Nat} (h : Bx B l vs vo d e r w) (hb : Below C w w') (hC : B + 6 ≤ C) : Bx B l vs vo d e r w' := by
  have ne : ∀ i, i < 6 → w'.heap[B + i]? = w.heap[B + i]? := fun i hi => hb.block (B + i) (by omega)
  exact ⟨(ne 0 (by omega)).trans h.h0, (ne 1 (by omega)).trans h.h1, (ne 2 (by omega)).trans h.h2, (ne 3 (by omega)).trans h.h3, (ne 4 (by omega)).trans h.h4, (ne 5 (by omega)).trans h.h5⟩
theorem Bx.far (h : Bx B l vs vo d e r w) {a : Addr} (ha : B + 6 ≤ a.block) (u : Value) : Bx B l vs vo d e r (w.setCell a u) := by
  have ne : ∀ i, i < 6 → (w.setCell a u).heap[B + i]? = w.heap[B + i]? := fun i hi => Below.heap_setCell _ _ _ _ (by omega)
  exact ⟨(ne 0 (by omega)).trans h.h0, (ne 1 (by omega)).trans h.h1, (ne 2 (by omega)).trans h.h2, (ne 3 (by omega)).trans h.h3, (ne 4 (by omega)).trans h.h4, (ne 5 (by omega)).trans h.h5⟩
theorem Bx.drew (h : Bx B l vs vo d e r w) : Bx B l vs vo d e r w.drew := ⟨h.h0, h.h1, h.h2, h.h3, h.h4, h.h5⟩
theorem Bx.set5 (h : Bx B l vs vo d e r w) (x : Bool) : Bx B l vs vo d e x (w.setCell ⟨B + 5, 0, none⟩ (.bool x)) := by
  have ne : ∀ i, i < 6 → i ≠ 5 → (w.setCell ⟨B + 5, 0, none⟩ (.bool x)).heap[B + i]? = w.heap[B + i]? := fun i _ hi => Below.heap_setCell _ _ _ _ (by show B + i ≠ B + 5; omega)
  exact ⟨(ne 0 (by omega) (by omega)).trans h.h0, (ne 1 (by omega) (by omega)).trans h.h1, (ne 2 (by omega) (by omega)).trans h.h2, (ne 3 (by omega) (by omega)).trans h.h3, (ne 4 (by omega) (by omega)).trans h.h4, one_setCell h.h5⟩
theorem Bx.set4 (h : Bx B l vs vo d e r w) (x : Bool) : Bx B l vs vo d x r (w.setCell ⟨B + 4, 0, none⟩ (.bool x)) := by
  have ne : ∀ i, i < 6 → i ≠ 4 → (w.setCell ⟨B + 4, 0, none⟩ (.bool x)).heap[B + i]? = w.heap[B + i]? := fun i _ hi => Below.heap_setCell _ _ _ _ (by show B + i ≠ B + 4; omega)
  exact ⟨(ne 0 (by omega) (by omega)).trans h.h0, (ne 1 (by omega) (by omega)).trans h.h1, (ne 2 (by omega) (by omega)).trans h.h2, (ne 3 (by omega) (by omega)).trans h.h3, one_setCell h.h4, (ne 5 (by omega) (by omega)).trans h.h5⟩
theorem Bx.set3 (h : Bx B l vs vo d e r w) (x : Int) : Bx B l vs vo x e r (w.setCell ⟨B + 3, 0, none⟩ (.int .i64 x)) := by
  have ne : ∀ i, i < 6 → i ≠ 3 → (w.setCell ⟨B + 3, 0, none⟩ (.int .i64 x)).heap[B + i]? = w.heap[B + i]? := fun i _ hi => Below.heap_setCell _ _ _ _ (by show B + i ≠ B + 3; omega)
  exact ⟨(ne 0 (by omega) (by omega)).trans h.h0, (ne 1 (by omega) (by omega)).trans h.h1, (ne 2 (by omega) (by omega)).trans h.h2, one_setCell h.h3, (ne 4 (by omega) (by omega)).trans h.h4, (ne 5 (by omega) (by omega)).trans h.h5⟩
theorem Bx.set2 (h : Bx B l vs vo d e r w) (x : Value) : Bx B l vs x d e r (w.setCell ⟨B + 2, 0, none⟩ x) := by
  have ne : ∀ i, i < 6 → i ≠ 2 → (w.setCell ⟨B + 2, 0, none⟩ x).heap[B + i]? = w.heap[B + i]? := fun i _ hi => Below.heap_setCell _ _ _ _ (by show B + i ≠ B + 2; omega)
  exact ⟨(ne 0 (by omega) (by omega)).trans h.h0, (ne 1 (by omega) (by omega)).trans h.h1, one_setCell h.h2, (ne 3 (by omega) (by omega)).trans h.h3, (ne 4 (by omega) (by omega)).trans h.h4, (ne 5 (by omega) (by omega)).trans h.h5⟩
theorem Bx.set1 (h : Bx B l vs vo d e r w) (x : Value) : Bx B l x vo d e r (w.setCell ⟨B + 1, 0, none⟩ x) := by
  have ne : ∀ i, i < 6 → i ≠ 1 → (w.setCell ⟨B + 1, 0, none⟩ x).heap[B + i]? = w.heap[B + i]? := fun i _ hi => Below.heap_setCell _ _ _ _ (by show B + i ≠ B + 1; omega)
  exact ⟨(ne 0 (by omega) (by omega)).trans h.h0, one_setCell h.h1, (ne 2 (by omega) (by omega)).trans h.h2, (ne 3 (by omega) (by omega)).trans h.h3, (ne 4 (by omega) (by omega)).trans h.h4, (ne 5 (by omega) (by omega)).trans h.h5⟩
end

/-! the rows -/
def cel (x : Sp) : List Value := [.int .i64 x.b, .int .i64 x.e, .int .i64 x.d]
def flat (l : List Sp) : List Value := l.flatMap cel
theorem flat_len (l : List Sp) : (flat l).length = l.length * 3 := by
  induction l with
  | nil => rfl
  | cons x l ih => simp only [flat, List.flatMap_cons, List.length_append, List.length_cons] at ih ⊢; rw [ih]; simp [cel]; omega
theorem flat_add (l : List Sp) (x : Sp) : flat (l ++ [x]) = flat l ++ cel x := by simp [flat, List.flatMap_append]
theorem flat_cons (x : Sp) (l : List Sp) : flat (x :: l) = .int .i64 x.b :: .int .i64 x.e :: .int .i64 x.d :: flat l := rfl
theorem flat_at : ∀ (l : List Sp) (k : Nat), k < l.length → (flat l)[k * 3]? = some (.int .i64 (spAt l k).b) ∧ (flat l)[k * 3 + 1]? = some (.int .i64 (spAt l k).e) ∧ (flat l)[k * 3 + 2]? = some (.int .i64 (spAt l k).d)
  | [], k, h => absurd h (by simp)
  | x :: l, 0, _ => by simp [flat_cons, spAt]
  | x :: l, k + 1, h => by
    have ih := flat_at l k (by simpa using h)
    have e1 : (k + 1) * 3 = k * 3 + 1 + 1 + 1 := by omega
    have e2 : spAt (x :: l) (k + 1) = spAt l k := by simp [spAt]
    rw [flat_cons, e1, e2]
    simp only [List.getElem?_cons_succ]
    exact ih
theorem flat_set1 : ∀ (l : List Sp) (k : Nat) (i : Int), k < l.length → (flat l).set (k * 3 + 1) (.int .i64 i) = flat (l.set k { spAt l k with e := i })
  | [], k, i, h => absurd h (by simp)
  | x :: l, 0, i, _ => by simp [flat_cons, spAt]
  | x :: l, k + 1, i, h => by
    have ih := flat_set1 l k i (by simpa using h)
    have e1 : (k + 1) * 3 + 1 = (k * 3 + 1) + 1 + 1 + 1 := by omega
    have e2 : spAt (x :: l) (k + 1) = spAt l k := by simp [spAt]
    rw [e2, List.set_cons_succ, flat_cons, flat_cons, e1, List.set_cons_succ, List.set_cons_succ, List.set_cons_succ, ih]
theorem flat_set2 : ∀ (l : List Sp) (k : Nat) (i : Int), k < l.length → (flat l).set (k * 3 + 2) (.int .i64 i) = flat (l.set k { spAt l k with d := i })
  | [], k, i, h => absurd h (by simp)
  | x :: l, 0, i, _ => by simp [flat_cons, spAt]
  | x :: l, k + 1, i, h => by
    have ih := flat_set2 l k i (by simpa using h)
    have e1 : (k + 1) * 3 + 2 = (k * 3 + 2) + 1 + 1 + 1 := by omega
    have e2 : spAt (x :: l) (k + 1) = spAt l k := by simp [spAt]
    rw [e2, List.set_cons_succ, flat_cons, flat_cons, e1, List.set_cons_succ, List.set_cons_succ, List.set_cons_succ, ih]
def ints (l : List Nat) : List Value := l.map (fun k : Nat => Value.int .i64 (k : Int))
abbrev OS (B : Nat) (w : World) (v : Value) (l : List Sp) : Prop := w.ownsRow (B + 6) 45 3 v l.length (flat l)
abbrev OO (B : Nat) (w : World) (v : Value) (l : List Nat) : Prop := w.ownsRow (B + 6) 3 1 v l.length (ints l.reverse)
/-- rows of two types are two rows -/
theorem own_ne {w : World} {B B' : Nat} {v v' : Value} {e e' : TypeId} {s s' n n' : Nat} {xs xs' : List Value} (h : w.ownsRow B e s v n xs) (h' : w.ownsRow B' e' s' v' n' xs') (hne : e ≠ e') : v.ownBlock = none ∨ v.ownBlock ≠ v'.ownBlock := by
  rcases h.2 with ⟨rfl, _⟩ | ⟨g, cap, cur, rfl, _, hg, _⟩
  · exact .inl rfl
  · rcases h'.2 with ⟨rfl, _⟩ | ⟨g', cap', cur', rfl, _, hg', _⟩
    · exact .inr (by simp [Value.ownBlock])
    · refine .inr ?_
      simp only [Value.ownBlock, ne_eq, Option.some.injEq]
      rintro rfl
      rw [hg] at hg'
      simp at hg'
      exact hne hg'.2
theorem own_slice {w : World} {base : Nat} {e : TypeId} {size n : Nat} {v : Value} {xs : List Value} (h : w.ownsRow base e size v n xs) : ∃ a c, v = .slice a n c := by
  rcases h.2 with ⟨rfl, rfl⟩ | ⟨g, cap, cur, rfl, _⟩
  · exact ⟨_, _, rfl⟩
  · exact ⟨_, _, rfl⟩
theorem own_some {w : World} {base : Nat} {e : TypeId} {size n : Nat} {a : Option Addr} {m c : Nat} {xs : List Value} (h : w.ownsRow base e size (.slice a m c) n xs) (hn : 0 < n) : ∃ g, a = some ⟨g, 0, none⟩ ∧ m = n ∧ base ≤ g ∧ n ≤ c := by
  rcases h.2 with ⟨_, rfl⟩ | ⟨g, cap, cur, e, hb, _, hc, _⟩
  · omega
  · cases e; exact ⟨g, rfl, rfl, hb, hc⟩
/-- a shorter slice of one's own row is one's own -/
theorem own_take {w : World} {base : Nat} {e : TypeId} {g n c : Nat} {xs : List Value} (h : w.ownsRow base e 1 (.slice (some ⟨g, 0, none⟩) n c) n xs) (m : Nat) (hm : m ≤ n) : w.ownsRow base e 1 (.slice (some ⟨g, 0, none⟩) m c) m (xs.take m) := by
  obtain ⟨h1, h2⟩ := h
  rcases h2 with ⟨h, _⟩ | ⟨g', cap, cur, hv, hb, hg, hc, hm', hs, ht⟩
  · cases h
  · simp only [Value.slice.injEq, Option.some.injEq, Addr.mk.injEq, and_true, true_and] at hv
    obtain ⟨rfl, rfl⟩ := hv
    refine ⟨by simp at h1 ⊢; omega, .inr ⟨g, c, cur, rfl, hb, hg, by omega, hm', hs, ?_⟩⟩
    rw [← ht, List.take_take, Nat.mul_one, Nat.mul_one, Nat.min_eq_left hm]
theorem row_block {w : World} {base : Nat} {e : TypeId} {size n : Nat} {v : Value} {xs : List Value} (h : w.ownsRow base e size v n xs) : ∀ k, v.ownBlock = some k → base ≤ k := fun k hk => (h.lt k hk).1

/-- a slice of numbers, as they stand in memory -/
def Rd (w : World) (a : Option Addr) (m c : Nat) (l : List Nat) : Prop :=
  m = l.length ∧ m ≤ c ∧ ∀ j, j < m → ∃ g, a = some ⟨g, 0, none⟩ ∧ w.cell? ⟨g, j, none⟩ = some (.int .i64 ((l.reverse.getD j 0 : Nat) : Int))
theorem Rd.none (w : World) : Rd w none 0 0 [] := ⟨rfl, Nat.le_refl _, fun _ h => absurd h (by omega)⟩
theorem own_rd {w : World} {B : Nat} {a : Option Addr} {n m c : Nat} {l : List Nat} (h : w.ownsRow B 3 1 (.slice a m c) n (ints l.reverse)) (hm : m = l.length) (hmn : m = n) : Rd w a m c l := by
  subst hmn
  refine ⟨hm, ?_, fun j hj => ?_⟩
  · rcases h.2 with ⟨e, rfl⟩ | ⟨g, cap, cur, e, hb, _, hc, _⟩
    · cases e; exact Nat.le_refl _
    · cases e; exact hc
  · obtain ⟨g, rfl, _, _, _⟩ := own_some h (by omega)
    refine ⟨g, rfl, ?_⟩
    rw [h.cellAt j (by omega)]
    have : j < l.reverse.length := by simp; omega
    generalize l.reverse = q at this ⊢
    simp [ints, this]
/-- the body, by its first bytes -/
def Ops (n₀ : Nat) (w : World) (a : Option Addr) (n : Nat) (f : Nat → Int) : Prop := ∀ j, j < n → ∃ b off, a = some ⟨b, off, none⟩ ∧ b < n₀ ∧ w.cell? ⟨b, off + j * 3, none⟩ = some (.int .i64 (f j))
theorem Ops.below {n₀ : Nat} {w w' : World} {a : Option Addr} {n : Nat} {f : Nat → Int} (h : Ops n₀ w a n f) {B : Nat} (hb : Below B w w') (hB : n₀ ≤ B) : Ops n₀ w' a n f := fun j hj => by
  obtain ⟨b, off, e, hlt, hc⟩ := h j hj
  exact ⟨b, off, e, hlt, (hb.cell (p := ⟨b, off + j * 3, none⟩) (by show b < B; omega)).trans hc⟩
theorem Ops.mono {n₀ n₁ : Nat} {w : World} {a : Option Addr} {n : Nat} {f : Nat → Int} (h : Ops n₀ w a n f) (hn : n₀ ≤ n₁) : Ops n₁ w a n f := fun j hj => by
  obtain ⟨b, off, e, hlt, hc⟩ := h j hj
  exact ⟨b, off, e, by omega, hc⟩
/-- all of it, ahead of place p -/
structure Inv (B : Nat) (a : Option Addr) (n c : Nat) (s : St) (vs vo : Value) (w : World) : Prop where
  bx : Bx B (.slice a n c) vs vo s.deep s.ended s.wrong w
  os : OS B w vs s.sp
  oo : OO B w vo s.op
/-- what a call of the closures lets stand: all but the six variables and the two rows; the rows stay where they are, or move to new blocks -/
structure Fr (B : Nat) (vs vo vs' vo' : Value) (w w' : World) : Prop where
  bl : Below B w w'
  kp : ∀ k, B + 6 ≤ k → k < w.heap.size → vs.ownBlock ≠ some k → vo.ownBlock ≠ some k → w'.heap[k]? = w.heap[k]?
  ns : ∀ k, vs'.ownBlock = some k → vs.ownBlock = some k ∨ w.heap.size ≤ k
  no : ∀ k, vo'.ownBlock = some k → vo.ownBlock = some k ∨ w.heap.size ≤ k
section
variable {B : Nat} {vs vo vs' vo' : Value} {w w' : World}
theorem Fr.refl (B : Nat) (vs vo : Value) (w : World) : Fr B vs vo vs vo w w := ⟨Below.refl _ _, fun _ _ _ _ _ => rfl, fun _ h => .inl h, fun _ h => .inl h⟩
theorem Fr.box (h : Fr B vs vo vs' vo' w w') {a : Addr} (h1 : B ≤ a.block) (h2 : a.block < B + 6) (u : Value) : Fr B vs vo vs' vo' w (w'.setCell a u) :=
  ⟨h.bl.setCell h1 u, fun k hk hl ho hs => (Below.heap_setCell _ _ _ _ (by omega)).trans (h.kp k hk hl ho hs), h.ns, h.no⟩
theorem Fr.drew (h : Fr B vs vo vs' vo' w w') : Fr B vs vo vs' vo' w w'.drew := ⟨h.bl.drew, h.kp, h.ns, h.no⟩
theorem Fr.below {w'' : World} (h : Fr B vs vo vs' vo' w w') (hb : Below w'.heap.size w' w'') (hB : B ≤ w'.heap.size) : Fr B vs vo vs' vo' w w'' :=
  ⟨h.bl.trans (hb.mono hB), fun k hk hl ho hs => (hb.block k (by have := h.bl.size; omega)).trans (h.kp k hk hl ho hs), h.ns, h.no⟩
theorem Fr.alloc (h : Fr B vs vo vs' vo' w w') (hB : B ≤ w'.heap.size) (o : Obj) : Fr B vs vo vs' vo' w (w'.alloc o) := h.below ((Below.refl _ _).alloc (Nat.le_refl _) _) hB
theorem Fr.growO {w'' : World} {vo'' : Value} (h : Fr B vs vo vs' vo' w w') (hg : w'.grownBy w'' vo'.ownBlock) (hn : ∀ k, vo''.ownBlock = some k → vo'.ownBlock = some k ∨ w'.heap.size ≤ k) (hB : B ≤ w'.heap.size) (hr : ∀ k, vo'.ownBlock = some k → B ≤ k) : Fr B vs vo vs' vo'' w w'' :=
  ⟨h.bl.grown hg hB hr, fun k hk hl hs ho => (hg.block k (by have := h.bl.size; omega) (fun e => by
      rcases h.no k e.symm with e | e
      · exact ho e
      · omega)).trans (h.kp k hk hl hs ho), h.ns, fun k hk => by
      rcases hn k hk with e | e
      · exact h.no k e
      · exact .inr (by have := h.bl.size; omega)⟩
theorem Fr.growS {w'' : World} {vs'' : Value} (h : Fr B vs vo vs' vo' w w') (hg : w'.grownBy w'' vs'.ownBlock) (hn : ∀ k, vs''.ownBlock = some k → vs'.ownBlock = some k ∨ w'.heap.size ≤ k) (hB : B ≤ w'.heap.size) (hr : ∀ k, vs'.ownBlock = some k → B ≤ k) : Fr B vs vo vs'' vo' w w'' :=
  ⟨h.bl.grown hg hB hr, fun k hk hl hs ho => (hg.block k (by have := h.bl.size; omega) (fun e => by
      rcases h.ns k e.symm with e | e
      · exact hs e
      · omega)).trans (h.kp k hk hl hs ho), fun k hk => by
      rcases hn k hk with e | e
      · exact h.ns k e
      · exact .inr (by have := h.bl.size; omega), h.no⟩
theorem Fr.rowS (h : Fr B vs vo vs' vo' w w') {g j n c : Nat} (hv : vs' = .slice (some ⟨g, 0, none⟩) n c) (hg : B ≤ g) (u : Value) : Fr B vs vo vs' vo' w (w'.setCell ⟨g, j, none⟩ u) :=
  ⟨h.bl.setCell (by show B ≤ g; omega) u, fun k hk hl hs ho => (Below.heap_setCell _ _ _ _ (by
      intro e0
      have e1 : k = g := e0
      rcases h.ns k (by rw [hv, e1]; rfl) with e | e
      · exact hs e
      · omega)).trans (h.kp k hk hl hs ho), h.ns, h.no⟩
theorem Fr.cutO (h : Fr B vs vo vs' vo' w w') {vo'' : Value} (hv : vo''.ownBlock = vo'.ownBlock) : Fr B vs vo vs' vo'' w w' := ⟨h.bl, h.kp, h.ns, fun k hk => h.no k (by rw [← hv]; exact hk)⟩
theorem Fr.trans {vs'' vo'' : Value} {w'' : World} (h : Fr B vs vo vs' vo' w w') (h' : Fr B vs' vo' vs'' vo'' w' w'') : Fr B vs vo vs'' vo'' w w'' := by
  have hs := h.bl.size
  refine ⟨h.bl.trans h'.bl, fun k hk hl a b => ?_, fun k hk => ?_, fun k hk => ?_⟩
  · refine (h'.kp k hk (by omega) (fun e => ?_) (fun e => ?_)).trans (h.kp k hk hl a b)
    · rcases h.ns k e with e | e
      · exact a e
      · omega
    · rcases h.no k e with e | e
      · exact b e
      · omega
  · rcases h'.ns k hk with e | e
    · exact h.ns k e
    · exact .inr (by omega)
  · rcases h'.no k hk with e | e
    · exact h.no k e
    · exact .inr (by omega)
end
theorem own_mono {w : World} {b b' : Nat} {e : TypeId} {z n : Nat} {v : Value} {xs : List Value} (h : w.ownsRow b e z v n xs) (hb : b' ≤ b) : w.ownsRow b' e z v n xs := by
  refine ⟨h.1, ?_⟩
  rcases h.2 with h' | ⟨g, cap, cur, hv, hg, r⟩
  · exact .inl h'
  · exact .inr ⟨g, cap, cur, hv, by omega, r⟩
/-- append to a row of one's own: it stays where it is, or moves to a new block -/
theorem append_mine {P : Program} (w : World) {ops : Array Oper} {rest : List Oper} {o : Oper} {a : Act} {Q : Exit → Act → World → Prop} (hgd : o.guard = none) (s x : Operand) (t : TypeId)
    (ho : o.op = .call { callee := .builtin .append, args := #[s, x], argTypes := #[t, t] })
    (base : Nat) (e : TypeId) (i : TypeInfo) (z : Value) (size bytes : Nat) (ht : P.underlying t = some (.slice e)) (hi : P.info? e = some i) (hz : i.zero = some z)
    (hsize : i.size = size) (hby : i.bytes = bytes) (hzs : z.cells.size = size) (hsz : 0 < size)
    (v : Value) (n : Nat) (xs : List Value) (hs : a.eval s = v) (hown : w.ownsRow base e size v n xs)
    (ad : Addr) (m c : Nat) (news : List Value) (hx : a.eval x = .slice (some ad) m c) (hl : news.length = m * size) (hnews : ∀ j u, news[j]? = some u → w.cell? (ad.add j) = some u) (h1 : ∀ u ∈ news, u.oneCell' = true)
    (hm : 0 < m) (h63 : n + m ≤ maxLen) (hbytes : (n + m) * bytes ≤ 140737488355328) (hbase : base ≤ w.heap.size)
    (h : ∀ v' w', w'.ownsRow base e size v' (n + m) (xs ++ news) → w.grownBy w' v.ownBlock → (∀ k, v'.ownBlock = some k → v.ownBlock = some k ∨ w.heap.size ≤ k) → wpList P ops Q rest (a.put o.dst v') w') : wpList P ops Q (o :: rest) a w := by
  have hx0 := hown.1
  have gr : ∀ (w' : World) (r : Option Nat), w.grownBy w' none → w.grownBy w' r := fun w' r hg => ⟨hg.os, hg.tape, hg.output, hg.size, fun k hk _ => hg.block k hk (by simp)⟩
  have hnew : ∀ (v' : Value) (w' : World) {nn : Nat} {ys : List Value}, w'.ownsRow w.heap.size e size v' nn ys → ∀ k, v'.ownBlock = some k → v.ownBlock = some k ∨ w.heap.size ≤ k := fun v' w' _ _ ho k hk => .inr (ho.lt k hk).1
  rcases hown.2 with ⟨rfl, rfl⟩ | ⟨g, cap, cur, rfl, hb, hg, hc, hcm, hcs, htake⟩
  · refine wpList_append_grows w hgd s x t ho e i z size bytes ht hi hz hsize hby hzs hsz none 0 0 xs hs (fun _ => ⟨rfl, rfl⟩) hx0 (fun b hb => by cases hb) ad m c news hx hl hnews h1 (by omega) h63 hbytes ?_
    intro v' w' ho hg
    exact h v' w' (own_mono ho hbase) (gr w' _ hg) (hnew v' w' ho)
  · rcases Nat.lt_or_ge cap (n + m) with hlt | hge
    · refine wpList_append_grows w hgd s x t ho e i z size bytes ht hi hz hsize hby hzs hsz (some ⟨g, 0, none⟩) n cap xs hs (fun h => by cases h) hx0 (fun b hb => by cases hb; exact hown.cells rfl) ad m c news hx hl hnews h1 hlt h63 hbytes ?_
      intro v' w' ho hg
      exact h v' w' (own_mono ho hbase) (gr w' _ hg) (hnew v' w' ho)
    · refine wpList_append_fits w hgd s x t ho base e i size ht hi hsize g n cap xs hs hown ad m c news hx hl hnews h1 hge ?_
      intro w' ho hg
      exact h _ w' ho hg (fun k hk => .inl hk)
theorem at_one (v : Value) (w : World) (T : TypeId) : ∀ (j : Nat) (u : Value), [v][j]? = some u → (w.alloc (.cells #[v] T)).cell? ((⟨w.heap.size, 0, none⟩ : Addr).add j) = some u := by
  intro j u hj
  match j, hj with
  | 0, hj => simp at hj; subst hj; simp [Addr.add]
theorem at_one' (v : Value) (w : World) (T : TypeId) (k : Nat) (hk : k = w.heap.size) : ∀ (j : Nat) (u : Value), [v][j]? = some u → (w.alloc (.cells #[v] T)).cell? ((⟨k, 0, none⟩ : Addr).add j) = some u := by
  subst hk; exact at_one v w T
theorem at_cells (cs : List Value) (w : World) (T : TypeId) : ∀ (j : Nat) (u : Value), cs[j]? = some u → (w.alloc (.cells cs.toArray T)).cell? ((⟨w.heap.size, 0, none⟩ : Addr).add j) = some u := by
  intro j u hj
  rw [Addr.add_lit, Nat.zero_add, cell_of_row _ _ j _ T (0, 0) (heap_alloc_new w _)]
  simpa using hj
theorem at_cells' (cs : List Value) (w : World) (T : TypeId) (k : Nat) (hk : k = w.heap.size) : ∀ (j : Nat) (u : Value), cs[j]? = some u → (w.alloc (.cells cs.toArray T)).cell? ((⟨k, 0, none⟩ : Addr).add j) = some u := by
  subst hk; exact at_cells cs w T
end Go.Proofs.Ytglagdbkcigojaa
