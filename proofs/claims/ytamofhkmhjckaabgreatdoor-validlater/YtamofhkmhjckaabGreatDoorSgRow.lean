/-
  Signatures in memory in a row of one's own: a copy of a module's, and more behind them; functions appended to such a row. No walk.
-/
import Derived.Test.YtamofhkmhjckaabGreatDoorFnRow
import Derived.Deep.Slices
namespace Go.Proofs.YtamofhkmhjckaabGreatDoor
open Go.RowKit

abbrev SV := Sg × Value × Value
def sce (x : SV) : List Value := [x.2.1, x.2.2]
def sces (l : List SV) : List Value := l.flatMap sce
theorem sces_len : ∀ l : List SV, (sces l).length = l.length * 2
  | [] => rfl
  | x :: r => by
    have := sces_len r
    simp only [sces, List.flatMap_cons, List.length_append, List.length_cons] at this ⊢
    rw [this]; simp [sce]; omega
theorem sces_drop : ∀ (l : List SV) (j : Nat), (sces l).drop (j * 2) = sces (l.drop j)
  | [], j => by simp [sces]
  | x :: r, 0 => by simp
  | x :: r, j + 1 => by
    have e : sces (x :: r) = sce x ++ sces r := by simp [sces]
    rw [e, List.drop_append, List.drop_succ_cons, ← sces_drop r j]
    have : (sce x).length = 2 := rfl
    rw [List.drop_eq_nil_of_le (by rw [this]; omega), this, List.nil_append, show (j + 1) * 2 - 2 = j * 2 by omega]
theorem sces_at (l : List SV) (j : Nat) (h : j < l.length) (i : Nat) (hi : i < 2) : (sces l)[j * 2 + i]? = (sce l[j])[i]? := by
  rw [← List.getElem?_drop, sces_drop, List.drop_eq_getElem_cons h]
  have e : sces (l[j] :: l.drop (j + 1)) = sce l[j] ++ sces (l.drop (j + 1)) := List.flatMap_cons ..
  rw [e, List.getElem?_append_left (by show i < 2; exact hi)]
def SvOk (S : Nat → Prop) (W : World) (x : SV) : Prop := Sl 1 EInt S W x.2.1 x.1.params ∧ Sl 1 EInt S W x.2.2 x.1.results
theorem SvOk.to {S T : Nat → Prop} {A W : World} {x : SV} (h : SvOk S A x) (k : Same S A W) (hc : ∀ i, S i → T i) : SvOk T W x := ⟨h.1.to keeps_int k hc, h.2.to keeps_int k hc⟩
theorem sce_one {S : Nat → Prop} {W : World} {x : SV} (h : SvOk S W x) : ∀ u ∈ sce x, u.oneCell' = true := by
  obtain ⟨a, c, e1, _⟩ := h.1
  obtain ⟨a', c', e2, _⟩ := h.2
  intro u hu
  simp only [sce, List.mem_cons, List.not_mem_nil, or_false] at hu
  rcases hu with rfl | rfl
  · rw [e1]; rfl
  · rw [e2]; rfl
theorem sg_open {S : Nat → Prop} {W : World} {a : Option Addr} {c : Nat} {l : List Sg} (h : Sl 2 ESg S W (.slice a l.length c) l) :
    ∃ fv : List SV, fv.map (·.1) = l ∧ (∀ x ∈ fv, SvOk S W x) ∧ (∀ ad, a = some ad → ∀ j u, (sces fv)[j]? = some u → W.cell? (ad.add j) = some u) ∧ (a = none → l = []) := by
  obtain ⟨a', c', e, he⟩ := h
  simp only [Value.slice.injEq, true_and] at e
  obtain ⟨rfl, rfl⟩ := e
  have each : ∀ j, j < l.length → ∃ p : Value × Value, ∀ (hj : j < l.length), ∃ b off, a = some ⟨b, off, none⟩ ∧ SvOk S W (l[j], p) ∧ ∀ i, i < 2 → W.cell? ⟨b, off + j * 2 + i, none⟩ = (sce (l[j], p))[i]? := by
    intro j hj
    obtain ⟨b, off, ha, _, vl, vb, c0, c1, s1, s2⟩ := he j hj
    refine ⟨(vl, vb), fun _ => ⟨b, off, ha, ⟨s1, s2⟩, fun i hi4 => ?_⟩⟩
    match i, hi4 with
    | 0, _ => exact c0
    | 1, _ => exact c1
  haveI : Inhabited (Value × Value) := ⟨(.nilIface, .nilIface)⟩
  obtain ⟨f, hf⟩ := Deep.choose_lt each
  have hm : ((List.range l.length).map fun j => (l.getD j ⟨[], []⟩, f j)).map (·.1) = l := by
    refine List.ext_getElem (by simp) fun j h1 h2 => ?_
    simp [h2]
  refine ⟨(List.range l.length).map fun j => (l.getD j ⟨[], []⟩, f j), hm, fun x hx => ?_, fun ad had j u hu => ?_, fun hn => ?_⟩
  · obtain ⟨j, hj, rfl⟩ := List.mem_map.1 hx
    have hj' : j < l.length := by simpa using hj
    obtain ⟨_, _, _, ok, _⟩ := hf j hj' hj'
    have e : l.getD j ⟨[], []⟩ = l[j] := by simp [hj']
    rw [e]; exact ok
  · have hlt : j < ((List.range l.length).map fun j => (l.getD j ⟨[], []⟩, f j)).length * 2 := by
      rw [← sces_len]; exact (List.getElem?_eq_some_iff.1 hu).1
    have hq : j / 2 < l.length := by simp at hlt; omega
    have ej : j = j / 2 * 2 + j % 2 := by omega
    rw [ej, sces_at _ (j / 2) (by simpa using hq) (j % 2) (by omega)] at hu
    obtain ⟨b, off, ha, _, hc⟩ := hf (j / 2) hq hq
    have := hc (j % 2) (by omega)
    simp only [List.getElem_map, List.getElem_range] at hu
    have e : l.getD (j / 2) ⟨[], []⟩ = l[j / 2] := by simp [hq]
    rw [e] at hu
    rw [hu] at this
    rw [ha] at had
    cases had
    rw [Addr.add_lit, ← this]
    congr 2
    omega
  · cases l with
    | nil => rfl
    | cons x r =>
      obtain ⟨b, off, ha, _⟩ := he 0 (by simp)
      rw [hn] at ha; cases ha
structure SRow (lo base : Nat) (v : Value) (fv : List SV) (W : World) : Prop where
  own : W.ownsRow base 42 2 v fv.length (sces fv)
  ok : ∀ x ∈ fv, SvOk (Lt lo) W x
  lb : lo ≤ base
  le : base ≤ W.heap.size
theorem SRow.next {lo base : Nat} {v : Value} {fv : List SV} {W W' : World} (h : SRow lo base v fv W) (k : Below W.heap.size W W') : SRow lo base v fv W' :=
  ⟨h.own.kept (bel_all k) (by cases v.ownBlock <;> simp), fun x hx => (h.ok x hx).to (fun i hi => k.block i (by have hi : i < lo := hi; have := h.lb; have := h.le; omega)) (fun _ hi => hi), h.lb, Nat.le_trans h.le k.size⟩
theorem SRow.sl {lo base : Nat} {v : Value} {fv : List SV} {W : World} (h : SRow lo base v fv W) : Sl 2 ESg (Lt W.heap.size) W v (fv.map (·.1)) := by
  have lt0 := h.own.lt
  rcases h.own.2 with ⟨rfl, hz⟩ | ⟨g, cap, cur, rfl, _⟩
  · have : fv = [] := List.length_eq_zero_iff.1 hz
    subst this
    exact Sl.isNil _ _ _ _
  · refine ⟨some ⟨g, 0, none⟩, cap, by simp, fun j hj => ?_⟩
    have hj' : j < fv.length := by simpa using hj
    have ok := h.ok _ (List.getElem_mem hj')
    have cs : ∀ i (hi : i < 2), W.cell? ⟨g, j * 2 + i, none⟩ = (sce fv[j])[i]? := fun i hi => by
      rw [← sces_at fv j hj' i hi]
      exact h.own.cellAt (j * 2 + i) (by omega)
    refine ⟨g, 0, rfl, (lt0 g rfl).2, fv[j].2.1, fv[j].2.2, ?_⟩
    simp only [List.getElem_map]
    rw [Nat.zero_add]
    have k := ok.to (T := Lt W.heap.size) (W := W) (fun _ _ => rfl) (fun i hi => by have hi : i < lo := hi; have := h.lb; have := h.le; show i < _; omega)
    exact ⟨cs 0 (by omega), cs 1 (by omega), k.1, k.2⟩
/-- signatures appended to none -/
theorem append_sgs {P : Program} (w : World) {ops : Array Oper} {rest : List Oper} {o : Oper} {a : Act} {Q : Exit → Act → World → Prop} (hgd : o.guard = none) (s x : Operand) (t : TypeId)
    (ho : o.op = .call { callee := .builtin .append, args := #[s, x], argTypes := #[t, t] })
    (i : TypeInfo) (ht : P.underlying t = some (.slice 42)) (hi : P.info? 42 = some i) (hz : i.zero = some (.agg #[.slice none 0 0, .slice none 0 0])) (hsize : i.size = 2) (hby : i.bytes = 48)
    (hs : a.eval s = .slice none 0 0) (xa : Option Addr) (xc : Nat) (l : List Sg) (hx : a.eval x = .slice xa l.length xc) (lo : Nat) (hlo : lo ≤ w.heap.size) (hsl : Sl 2 ESg (Lt lo) w (.slice xa l.length xc) l) (hn : l.length ≤ 10000)
    (h : ∀ sb sc w' fv, fv.map (·.1) = l → SRow lo w.heap.size (.slice sb l.length sc) fv w' → Below w.heap.size w w' → wpList P ops Q rest (a.put o.dst (.slice sb l.length sc)) w') : wpList P ops Q (o :: rest) a w := by
  obtain ⟨fv, h1, h2, h3, h4⟩ := sg_open hsl
  have hl : fv.length = l.length := by rw [← h1]; simp
  cases xa with
  | none =>
    have hl0 := h4 rfl
    subst hl0
    have hf0 : fv = [] := List.length_eq_zero_iff.1 hl
    subst hf0
    refine append_nothing w hgd s x t ho 42 i ht hi none 0 0 hs (Nat.le_refl _) none xc hx ?_
    exact h none 0 w [] rfl ⟨World.ownsRow_nil _ _ _ _, by simp, hlo, Nat.le_refl _⟩ (Below.refl _ _)
  | some ad =>
    refine wpList_append_own w hgd s x t ho w.heap.size 42 i _ 2 48 ht hi hz hsize hby rfl (by decide) _ 0 [] hs (World.ownsRow_nil _ _ _ _) ad l.length xc (sces fv) hx (by rw [sces_len, hl]) (h3 ad rfl) (fun u hu => by
      obtain ⟨y, hy, hu⟩ := List.mem_flatMap.1 hu
      exact sce_one (h2 y hy) u hu) (by unfold maxLen; omega) (by omega) (Nat.le_refl _) ?_
    intro v' w' own' grow' _
    obtain ⟨sb', sc', rfl⟩ := Nest.own_slice own'
    simp only [Nat.zero_add, List.nil_append] at own' ⊢
    have B : Below w.heap.size w w' := (Below.refl _ _).grown grow' (Nat.le_refl _) (fun k hk => by cases hk)
    refine h sb' sc' w' fv h1 ⟨by rw [hl]; exact own', fun x hx => (h2 x hx).to (fun i hi => B.block i (by have hi : i < lo := hi; omega)) (fun _ hi => hi), hlo, B.size⟩ B
theorem Tryz.info42 : (Tryz.prog.info? 42).map (fun i => (i.zero, i.size, i.bytes)) = some (some (.agg #[.slice none 0 0, .slice none 0 0]), 2, 48) := by kernel_rfl
/-- signatures appended to a row of one's own -/
theorem append_sgs_own {P : Program} (w : World) {ops : Array Oper} {rest : List Oper} {o : Oper} {a : Act} {Q : Exit → Act → World → Prop} (hgd : o.guard = none) (s x : Operand) (t : TypeId)
    (ho : o.op = .call { callee := .builtin .append, args := #[s, x], argTypes := #[t, t] })
    (i : TypeInfo) (ht : P.underlying t = some (.slice 42)) (hi : P.info? 42 = some i) (hz : i.zero = some (.agg #[.slice none 0 0, .slice none 0 0])) (hsize : i.size = 2) (hby : i.bytes = 48)
    (lo base : Nat) (v : Value) (sv : List SV) (hs : a.eval s = v) (hr : SRow lo base v sv w) (ad : Addr) (m xc : Nat) (nv : List SV) (hx : a.eval x = .slice (some ad) m xc) (hm : nv.length = m)
    (hc : ∀ j u, (sces nv)[j]? = some u → w.cell? (ad.add j) = some u) (hk : ∀ x ∈ nv, SvOk (Lt lo) w x) (hn : sv.length + m ≤ 10000)
    (h : ∀ sb sc w', SRow lo base (.slice sb (sv.length + m) sc) (sv ++ nv) w' → w.grownBy w' v.ownBlock → wpList P ops Q rest (a.put o.dst (.slice sb (sv.length + m) sc)) w') : wpList P ops Q (o :: rest) a w := by
  refine wpList_append_own w hgd s x t ho base 42 i _ 2 48 ht hi hz hsize hby rfl (by decide) _ sv.length _ hs hr.own ad m xc (sces nv) hx (by rw [sces_len, hm]) hc (fun u hu => by
    obtain ⟨y, hy, hu⟩ := List.mem_flatMap.1 hu
    exact sce_one (hk y hy) u hu) (by unfold maxLen; omega) (by omega) hr.le ?_
  intro v' w' own' grow' _
  obtain ⟨sb', sc', rfl⟩ := Nest.own_slice own'
  have B : Below base w w' := (Below.refl _ _).grown grow' hr.le (fun k hk => by have := hr.own.lt k hk; exact this.1)
  have mv : ∀ {x : SV}, SvOk (Lt lo) w x → SvOk (Lt lo) w' x := fun q => q.to (fun i hi => B.block i (by have hi : i < lo := hi; have := hr.lb; omega)) (fun _ hi => hi)
  refine h sb' sc' w' ⟨by rw [List.length_append, hm]; simpa [sces] using own', fun x hx => ?_, hr.lb, Nat.le_trans hr.le B.size⟩ grow'
  rcases List.mem_append.1 hx with hx | hx
  · exact mv (hr.ok x hx)
  · exact mv (hk x hx)
/-- functions appended to a row of one's own -/
theorem append_fns_own {P : Program} (w : World) {ops : Array Oper} {rest : List Oper} {o : Oper} {a : Act} {Q : Exit → Act → World → Prop} (hgd : o.guard = none) (s x : Operand) (t : TypeId)
    (ho : o.op = .call { callee := .builtin .append, args := #[s, x], argTypes := #[t, t] })
    (i : TypeInfo) (ht : P.underlying t = some (.slice 38)) (hi : P.info? 38 = some i) (hz : i.zero = some (.agg #[.int .i64 0, .bool false, .slice none 0 0, .slice none 0 0])) (hsize : i.size = 4) (hby : i.bytes = 64)
    (lo base : Nat) (v : Value) (sv : List FV) (hs : a.eval s = v) (hr : FRow lo base v sv w) (ad : Addr) (m xc : Nat) (nv : List FV) (hx : a.eval x = .slice (some ad) m xc) (hm : nv.length = m)
    (hc : ∀ j u, (fces nv)[j]? = some u → w.cell? (ad.add j) = some u) (hk : ∀ x ∈ nv, FvOk (Lt lo) w x) (hn : sv.length + m ≤ 10000)
    (h : ∀ sb sc w', FRow lo base (.slice sb (sv.length + m) sc) (sv ++ nv) w' → w.grownBy w' v.ownBlock → wpList P ops Q rest (a.put o.dst (.slice sb (sv.length + m) sc)) w') : wpList P ops Q (o :: rest) a w := by
  refine wpList_append_own w hgd s x t ho base 38 i _ 4 64 ht hi hz hsize hby rfl (by decide) _ sv.length _ hs hr.own ad m xc (fces nv) hx (by rw [fces_len, hm]) hc (fun u hu => by
    obtain ⟨y, hy, hu⟩ := List.mem_flatMap.1 hu
    exact fce_one (hk y hy) u hu) (by unfold maxLen; omega) (by omega) hr.le ?_
  intro v' w' own' grow' _
  obtain ⟨sb', sc', rfl⟩ := Nest.own_slice own'
  have B : Below base w w' := (Below.refl _ _).grown grow' hr.le (fun k hk => by have := hr.own.lt k hk; exact this.1)
  have mv : ∀ {x : FV}, FvOk (Lt lo) w x → FvOk (Lt lo) w' x := fun q => q.to (fun i hi => B.block i (by have hi : i < lo := hi; have := hr.lb; omega)) (fun _ hi => hi)
  refine h sb' sc' w' ⟨by rw [List.length_append, hm]; simpa [fces] using own', fun x hx => ?_, hr.lb, Nat.le_trans hr.le B.size⟩ grow'
  rcases List.mem_append.1 hx with hx | hx
  · exact mv (hr.ok x hx)
  · exact mv (hk x hx)
end Go.Proofs.YtamofhkmhjckaabGreatDoor
