/-
  A copy of a module's functions in memory: its cells, one function's changed; a module over it. No walk.
-/
import Derived.Test.YtamofhkmhjckaabGreatDoorNopP
import Derived.Test.YtamofhkmhjckaabGreatDoorChkF
import Derived.Test.YtamofhkmhjckaabGreatDoorEx
import Derived.Deep.Slices
namespace Go.Proofs.YtamofhkmhjckaabGreatDoor
open Go.RowKit

abbrev FV := Fn × Value × Value
def fce (x : FV) : List Value := [.int .i64 x.1.sig, .bool x.1.tr, x.2.1, x.2.2]
def fces (l : List FV) : List Value := l.flatMap fce
theorem fces_len : ∀ l : List FV, (fces l).length = l.length * 4
  | [] => rfl
  | x :: r => by
    have := fces_len r
    simp only [fces, List.flatMap_cons, List.length_append, List.length_cons] at this ⊢
    rw [this]; simp [fce]; omega
theorem fces_drop : ∀ (l : List FV) (j : Nat), (fces l).drop (j * 4) = fces (l.drop j)
  | [], j => by simp [fces]
  | x :: r, 0 => by simp
  | x :: r, j + 1 => by
    have e : fces (x :: r) = fce x ++ fces r := by simp [fces]
    rw [e, List.drop_append, List.drop_succ_cons, ← fces_drop r j]
    have : (fce x).length = 4 := rfl
    rw [List.drop_eq_nil_of_le (by rw [this]; omega), this, List.nil_append, show (j + 1) * 4 - 4 = j * 4 by omega]
theorem fces_at (l : List FV) (j : Nat) (h : j < l.length) (i : Nat) (hi : i < 4) : (fces l)[j * 4 + i]? = (fce l[j])[i]? := by
  rw [← List.getElem?_drop, fces_drop, List.drop_eq_getElem_cons h]
  have e : fces (l[j] :: l.drop (j + 1)) = fce l[j] ++ fces (l.drop (j + 1)) := List.flatMap_cons ..
  rw [e, List.getElem?_append_left (by show i < 4; exact hi)]
theorem fces_set : ∀ (l : List FV) (j : Nat) (h : j < l.length) (i : Nat) (_ : i < 4) (u : Value) (y : FV), (fce l[j]).set i u = fce y → (fces l).set (j * 4 + i) u = fces (l.set j y)
  | x :: r, 0, _, i, hi, u, y, e => by
    have e1 : fces (x :: r) = fce x ++ fces r := by simp [fces]
    rw [e1, Nat.zero_mul, Nat.zero_add, List.set_append_left _ _ (by show i < 4; exact hi)]
    simp only [List.getElem_cons_zero] at e
    rw [e]; simp [fces]
  | x :: r, j + 1, h, i, hi, u, y, e => by
    have e1 : ∀ r : List FV, fces (x :: r) = fce x ++ fces r := fun r => by simp [fces]
    have ih := fces_set r j (by simpa using h) i hi u y (by simpa using e)
    have l4 : (fce x).length = 4 := rfl
    rw [e1, List.set_append_right _ _ (by rw [l4]; omega), l4, show (j + 1) * 4 + i - 4 = j * 4 + i by omega, ih, List.set_cons_succ, e1]
def FvOk (S : Nat → Prop) (W : World) (x : FV) : Prop := I64 x.1.sig ∧ Sl 1 EInt S W x.2.1 x.1.locals ∧ Sl 3 EIn S W x.2.2 x.1.body
theorem FvOk.to {S T : Nat → Prop} {A W : World} {x : FV} (h : FvOk S A x) (k : Same S A W) (hc : ∀ i, S i → T i) : FvOk T W x := ⟨h.1, h.2.1.to keeps_int k hc, h.2.2.to keeps_in k hc⟩
theorem fce_one {S : Nat → Prop} {W : World} {x : FV} (h : FvOk S W x) : ∀ u ∈ fce x, u.oneCell' = true := by
  obtain ⟨a, c, e1, _⟩ := h.2.1
  obtain ⟨a', c', e2, _⟩ := h.2.2
  intro u hu
  simp only [fce, List.mem_cons, List.not_mem_nil, or_false] at hu
  rcases hu with rfl | rfl | rfl | rfl
  · rfl
  · rfl
  · rw [e1]; rfl
  · rw [e2]; rfl
theorem fn_open {S : Nat → Prop} {W : World} {a : Option Addr} {c : Nat} {l : List Fn} (h : Sl 4 EFn S W (.slice a l.length c) l) :
    ∃ fv : List FV, fv.map (·.1) = l ∧ (∀ x ∈ fv, FvOk S W x) ∧ (∀ ad, a = some ad → ∀ j u, (fces fv)[j]? = some u → W.cell? (ad.add j) = some u) ∧ (a = none → l = []) := by
  obtain ⟨a', c', e, he⟩ := h
  simp only [Value.slice.injEq, true_and] at e
  obtain ⟨rfl, rfl⟩ := e
  have each : ∀ j, j < l.length → ∃ p : Value × Value, ∀ (hj : j < l.length), ∃ b off, a = some ⟨b, off, none⟩ ∧ FvOk S W (l[j], p) ∧ ∀ i, i < 4 → W.cell? ⟨b, off + j * 4 + i, none⟩ = (fce (l[j], p))[i]? := by
    intro j hj
    obtain ⟨b, off, ha, _, vl, vb, hi, c0, c1, c2, c3, s1, s2⟩ := he j hj
    refine ⟨(vl, vb), fun _ => ⟨b, off, ha, ⟨hi, s1, s2⟩, fun i hi4 => ?_⟩⟩
    match i, hi4 with
    | 0, _ => exact c0
    | 1, _ => exact c1
    | 2, _ => exact c2
    | 3, _ => exact c3
  haveI : Inhabited (Value × Value) := ⟨(.nilIface, .nilIface)⟩
  obtain ⟨f, hf⟩ := Deep.choose_lt each
  have hm : ((List.range l.length).map fun j => (l.getD j ⟨0, false, [], []⟩, f j)).map (·.1) = l := by
    refine List.ext_getElem (by simp) fun j h1 h2 => ?_
    simp [h2]
  refine ⟨(List.range l.length).map fun j => (l.getD j ⟨0, false, [], []⟩, f j), hm, fun x hx => ?_, fun ad had j u hu => ?_, fun hn => ?_⟩
  · obtain ⟨j, hj, rfl⟩ := List.mem_map.1 hx
    have hj' : j < l.length := by simpa using hj
    obtain ⟨_, _, _, ok, _⟩ := hf j hj' hj'
    have e : l.getD j ⟨0, false, [], []⟩ = l[j] := by simp [hj']
    rw [e]; exact ok
  · have hlt : j < ((List.range l.length).map fun j => (l.getD j ⟨0, false, [], []⟩, f j)).length * 4 := by
      rw [← fces_len]; exact (List.getElem?_eq_some_iff.1 hu).1
    have hq : j / 4 < l.length := by simp at hlt; omega
    have ej : j = j / 4 * 4 + j % 4 := by omega
    rw [ej, fces_at _ (j / 4) (by simpa using hq) (j % 4) (by omega)] at hu
    obtain ⟨b, off, ha, _, hc⟩ := hf (j / 4) hq hq
    have := hc (j % 4) (by omega)
    simp only [List.getElem_map, List.getElem_range] at hu
    have e : l.getD (j / 4) ⟨0, false, [], []⟩ = l[j / 4] := by simp [hq]
    rw [e] at hu
    rw [hu] at this
    rw [ha] at had
    cases had
    rw [Addr.add_lit, ← this]
    congr 2
    omega
  · cases l with
    | nil => rfl
    | cons x r =>
      obtain ⟨b, off, ha, _⟩ := he 0 (by simp)
      rw [hn] at ha; cases ha
structure FRow (lo base : Nat) (v : Value) (fv : List FV) (W : World) : Prop where
  own : W.ownsRow base 38 4 v fv.length (fces fv)
  ok : ∀ x ∈ fv, FvOk (Lt lo) W x
  lb : lo ≤ base
  le : base ≤ W.heap.size
theorem FRow.next {lo base : Nat} {v : Value} {fv : List FV} {W W' : World} (h : FRow lo base v fv W) (k : Below W.heap.size W W') : FRow lo base v fv W' :=
  ⟨h.own.kept (bel_all k) (by cases v.ownBlock <;> simp), fun x hx => (h.ok x hx).to (fun i hi => k.block i (by have hi : i < lo := hi; have := h.lb; have := h.le; omega)) (fun _ hi => hi), h.lb, Nat.le_trans h.le k.size⟩
theorem FRow.sl {lo base : Nat} {v : Value} {fv : List FV} {W : World} (h : FRow lo base v fv W) : Sl 4 EFn (Lt W.heap.size) W v (fv.map (·.1)) := by
  have lt0 := h.own.lt
  rcases h.own.2 with ⟨rfl, hz⟩ | ⟨g, cap, cur, rfl, _⟩
  · have : fv = [] := List.length_eq_zero_iff.1 hz
    subst this
    exact Sl.isNil _ _ _ _
  · refine ⟨some ⟨g, 0, none⟩, cap, by simp, fun j hj => ?_⟩
    have hj' : j < fv.length := by simpa using hj
    have ok := h.ok _ (List.getElem_mem hj')
    have cs : ∀ i (hi : i < 4), W.cell? ⟨g, j * 4 + i, none⟩ = (fce fv[j])[i]? := fun i hi => by
      rw [← fces_at fv j hj' i hi]
      exact h.own.cellAt (j * 4 + i) (by omega)
    refine ⟨g, 0, rfl, (lt0 g rfl).2, fv[j].2.1, fv[j].2.2, ?_⟩
    simp only [List.getElem_map]
    rw [Nat.zero_add]
    have k := ok.to (T := Lt W.heap.size) (W := W) (fun _ _ => rfl) (fun i hi => by have hi : i < lo := hi; have := h.lb; have := h.le; show i < _; omega)
    exact ⟨k.1, cs 0 (by omega), cs 1 (by omega), cs 2 (by omega), cs 3 (by omega), k.2.1, k.2.2⟩
/-- one cell of one function -/
theorem FRow.set {lo base g cap n : Nat} {fv : List FV} {W : World} (h : FRow lo base (.slice (some ⟨g, 0, none⟩) n cap) fv W) (hn : n = fv.length) (j : Nat) (hj : j < fv.length) (i : Nat) (hi : i < 4) (u : Value) (y : FV) (e : (fce fv[j]).set i u = fce y) (hy : FvOk (Lt lo) W y) :
    FRow lo base (.slice (some ⟨g, 0, none⟩) n cap) (fv.set j y) (W.setCell ⟨g, j * 4 + i, none⟩ u) := by
  subst hn
  have hg := (h.own.lt g rfl).1
  have hlb := h.lb
  have st := (h.own.stored (j * 4 + i) u).1
  rw [fces_set fv j hj i hi u y e] at st
  have mv : ∀ {x : FV}, FvOk (Lt lo) W x → FvOk (Lt lo) (W.setCell ⟨g, j * 4 + i, none⟩ u) x := fun hx => hx.to (fun k hk => Below.heap_setCell _ _ _ _ (by show k ≠ g; have hk : k < lo := hk; omega)) (fun _ hk => hk)
  refine ⟨by rw [List.length_set]; exact st, fun x hx => ?_, hlb, by have := h.le; simp; omega⟩
  rcases List.mem_or_eq_of_mem_set hx with hx | rfl
  · exact mv (h.ok x hx)
  · exact mv hy
/-- a cell between -/
theorem FRow.store {lo base b o : Nat} {v u : Value} {fv : List FV} {W : World} (h : FRow lo base v fv W) (h1 : lo ≤ b) (h2 : b < base) : FRow lo base v fv (W.setCell ⟨b, o, none⟩ u) :=
  ⟨ownsRow_setCell_below h.own h2 u, fun _ hx => (h.ok _ hx).to (fun k hk => Below.heap_setCell _ _ _ _ (by show k ≠ b; have hk : k < lo := hk; omega)) (fun _ hk => hk), h.lb, by have := h.le; simp; omega⟩
/-- functions appended to none -/
theorem append_fns {P : Program} (w : World) {ops : Array Oper} {rest : List Oper} {o : Oper} {a : Act} {Q : Exit → Act → World → Prop} (hgd : o.guard = none) (s x : Operand) (t : TypeId)
    (ho : o.op = .call { callee := .builtin .append, args := #[s, x], argTypes := #[t, t] })
    (i : TypeInfo) (ht : P.underlying t = some (.slice 38)) (hi : P.info? 38 = some i) (hz : i.zero = some (.agg #[.int .i64 0, .bool false, .slice none 0 0, .slice none 0 0])) (hsize : i.size = 4) (hby : i.bytes = 64)
    (hs : a.eval s = .slice none 0 0) (xa : Option Addr) (xc : Nat) (l : List Fn) (hx : a.eval x = .slice xa l.length xc) (lo : Nat) (hlo : lo ≤ w.heap.size) (hsl : Sl 4 EFn (Lt lo) w (.slice xa l.length xc) l) (hn : l.length ≤ 10000)
    (h : ∀ sb sc w' fv, fv.map (·.1) = l → FRow lo w.heap.size (.slice sb l.length sc) fv w' → Below w.heap.size w w' → wpList P ops Q rest (a.put o.dst (.slice sb l.length sc)) w') : wpList P ops Q (o :: rest) a w := by
  obtain ⟨fv, h1, h2, h3, h4⟩ := fn_open hsl
  have hl : fv.length = l.length := by rw [← h1]; simp
  cases xa with
  | none =>
    have hl0 := h4 rfl
    subst hl0
    have hf0 : fv = [] := List.length_eq_zero_iff.1 hl
    subst hf0
    refine append_nothing w hgd s x t ho 38 i ht hi none 0 0 hs (Nat.le_refl _) none xc hx ?_
    exact h none 0 w [] rfl ⟨World.ownsRow_nil _ _ _ _, by simp, hlo, Nat.le_refl _⟩ (Below.refl _ _)
  | some ad =>
    refine wpList_append_own w hgd s x t ho w.heap.size 38 i _ 4 64 ht hi hz hsize hby rfl (by decide) _ 0 [] hs (World.ownsRow_nil _ _ _ _) ad l.length xc (fces fv) hx (by rw [fces_len, hl]) (h3 ad rfl) (fun u hu => by
      obtain ⟨y, hy, hu⟩ := List.mem_flatMap.1 hu
      exact fce_one (h2 y hy) u hu) (by unfold maxLen; omega) (by omega) (Nat.le_refl _) ?_
    intro v' w' own' grow' _
    obtain ⟨sb', sc', rfl⟩ := Nest.own_slice own'
    simp only [Nat.zero_add, List.nil_append] at own' ⊢
    have B : Below w.heap.size w w' := (Below.refl _ _).grown grow' (Nat.le_refl _) (fun k hk => by cases hk)
    refine h sb' sc' w' fv h1 ⟨by rw [hl]; exact own', fun x hx => (h2 x hx).to (fun i hi => B.block i (by have hi : i < lo := hi; omega)) (fun _ hi => hi), hlo, B.size⟩ B
theorem Tryz.info38 : (Tryz.prog.info? 38).map (fun i => (i.zero, i.size, i.bytes)) = some (some (.agg #[.int .i64 0, .bool false, .slice none 0 0, .slice none 0 0]), 4, 64) := by kernel_rfl
end Go.Proofs.YtamofhkmhjckaabGreatDoor
