/-
  ValidLater: one function more, its body in a literal's block: the appends at a step of a region that draws.
-/
import Derived.Test.YtamofhkmhjckaabGreatDoorLaterP
import Derived.Test.YtamofhkmhjckaabGreatDoorShapeP
import Derived.Test.YtamofhkmhjckaabGreatDoorGRow
import Derived.Test.YtamofhkmhjckaabGreatDoorFrames
import Derived.BigQuiet
import Derived.Deep.QuietTactic
import Derived.Deep.RegionHeld
namespace Go.Proofs.YtamofhkmhjckaabGreatDoor
open Go.RowKit

theorem wp_append_nothing {P : Program} (w : World) {o : Oper} {a : Act} {K : Act → World → Prop} {Q : Exit → Act → World → Prop} (s x : Operand) (t : TypeId)
    (ho : o.op = .call { callee := .builtin .append, args := #[s, x], argTypes := #[t, t] }) (e : TypeId) (i : TypeInfo) (ht : P.underlying t = some (.slice e)) (hi : P.info? e = some i)
    (sb : Option Addr) (sl sc : Nat) (hs : a.eval s = .slice sb sl sc) (hle : sl ≤ sc) (xb : Option Addr) (xc : Nat) (hx : a.eval x = .slice xb 0 xc)
    (h : K (a.put o.dst (.slice sb sl sc)) w) : o.wp P a w K Q := by
  have hrun : (Builtin.append_ #[t, t] o.type #[.slice sb sl sc, .slice xb 0 xc]).run P w = .ok (.slice sb sl sc) w := by
    cases sb <;> cases xb <;> simp [Builtin.append_, run_underlying ht, sizeOf, typeInfo, hi, hle, storeCells, loadCells, Builtin.lenOf, Builtin.firstCells, loadCellsFrom]
  unfold Oper.wp
  simp [execOp, ho, resolve, invoke, builtin, hs, hx, hrun, Result.andThen]
  exact h
theorem wp_append_fns {P : Program} (w : World) {o : Oper} {a : Act} {K : Act → World → Prop} {Q : Exit → Act → World → Prop} (s x : Operand) (t : TypeId)
    (ho : o.op = .call { callee := .builtin .append, args := #[s, x], argTypes := #[t, t] })
    (i : TypeInfo) (ht : P.underlying t = some (.slice 38)) (hi : P.info? 38 = some i) (hz : i.zero = some (.agg #[.int .i64 0, .bool false, .slice none 0 0, .slice none 0 0])) (hsize : i.size = 4) (hby : i.bytes = 64)
    (hs : a.eval s = .slice none 0 0) (xa : Option Addr) (xc : Nat) (l : List Fn) (hx : a.eval x = .slice xa l.length xc) (lo : Nat) (hlo : lo ≤ w.heap.size) (hsl : Sl 4 EFn (Lt lo) w (.slice xa l.length xc) l) (hn : l.length ≤ 10000)
    (h : ∀ sb sc w' fv, fv.map (·.1) = l → FRow lo w.heap.size (.slice sb l.length sc) fv w' → Below w.heap.size w w' → K (a.put o.dst (.slice sb l.length sc)) w') : o.wp P a w K Q := by
  obtain ⟨fv, h1, h2, h3, h4⟩ := fn_open hsl
  have hl : fv.length = l.length := by rw [← h1]; simp
  cases xa with
  | none =>
    have hl0 := h4 rfl
    subst hl0
    have hf0 : fv = [] := List.length_eq_zero_iff.1 hl
    subst hf0
    refine wp_append_nothing w s x t ho 38 i ht hi none 0 0 hs (Nat.le_refl _) none xc hx ?_
    exact h none 0 w [] rfl ⟨World.ownsRow_nil _ _ _ _, by simp, hlo, Nat.le_refl _⟩ (Below.refl _ _)
  | some ad =>
    refine wp_append_own w s x t ho w.heap.size 38 i _ 4 64 ht hi hz hsize hby rfl (by decide) _ 0 [] hs (World.ownsRow_nil _ _ _ _) ad l.length xc (fces fv) hx (by rw [fces_len, hl]) (h3 ad rfl) (fun u hu => by
      obtain ⟨y, hy, hu⟩ := List.mem_flatMap.1 hu
      exact fce_one (h2 y hy) u hu) (by unfold maxLen; omega) (by omega) (Nat.le_refl _) ?_
    intro v' w' own' grow' _
    obtain ⟨sb', sc', rfl⟩ := Nest.own_slice own'
    simp only [Nat.zero_add, List.nil_append] at own' ⊢
    have B : Below w.heap.size w w' := (Below.refl _ _).grown grow' (Nat.le_refl _) (fun k hk => by cases hk)
    refine h sb' sc' w' fv h1 ⟨by rw [hl]; exact own', fun x hx => (h2 x hx).to (fun i hi => B.block i (by have hi : i < lo := hi; omega)) (fun _ hi => hi), hlo, B.size⟩ B
theorem wp_append_fns_lit {P : Program} (w : World) {o : Oper} {a : Act} {K : Act → World → Prop} {Q : Exit → Act → World → Prop} (s x : Operand) (t : TypeId)
    (ho : o.op = .call { callee := .builtin .append, args := #[s, x], argTypes := #[t, t] })
    (i : TypeInfo) (ht : P.underlying t = some (.slice 38)) (hi : P.info? 38 = some i) (hz : i.zero = some (.agg #[.int .i64 0, .bool false, .slice none 0 0, .slice none 0 0])) (hsize : i.size = 4) (hby : i.bytes = 64)
    (lo nb base : Nat) (v : Value) (sv : List FV) (hs : a.eval s = v) (hr : GRow lo nb base v sv w) (ad : Addr) (m xc : Nat) (nv : List FV) (hx : a.eval x = .slice (some ad) m xc) (hm : nv.length = m)
    (hc : ∀ j u, (fces nv)[j]? = some u → w.cell? (ad.add j) = some u) (hk : ∀ x ∈ nv, FvOk (Or1 lo nb) w x) (hn : sv.length + m ≤ 10000)
    (h : ∀ sb sc w', GRow lo nb base (.slice sb (sv.length + m) sc) (sv ++ nv) w' → Below base w w' → K (a.put o.dst (.slice sb (sv.length + m) sc)) w') : o.wp P a w K Q := by
  refine wp_append_own w s x t ho base 38 i _ 4 64 ht hi hz hsize hby rfl (by decide) _ sv.length _ hs hr.own ad m xc (fces nv) hx (by rw [fces_len, hm]) hc (fun u hu => by
    obtain ⟨y, hy, hu⟩ := List.mem_flatMap.1 hu
    exact fce_one (hk y hy) u hu) (by unfold maxLen; omega) (by omega) hr.le ?_
  intro v' w' own' grow' _
  obtain ⟨sb', sc', rfl⟩ := Nest.own_slice own'
  obtain ⟨cs, hl⟩ := hr.lit
  have hne := own_ne hr.own hl
  have B : Below base w w' := (Below.refl _ _).grown grow' hr.le (fun k hk => by have := hr.own.lt k hk; exact this.1)
  have hb : w'.heap[nb]? = w.heap[nb]? := grow'.block nb hl.lt (fun e => hne nb e.symm rfl)
  have hl' : Row w' nb cs 44 := by unfold Row at *; rw [hb]; exact hl
  have mv : ∀ {x : FV}, FvOk (Or1 lo nb) w x → FvOk (Or1 lo nb) w' x := fun q => q.to (fun i hi => by
    rcases hi with hi | rfl
    · exact B.block i (by have := hr.lb; omega)
    · exact hb) (fun _ hi => hi)
  refine h sb' sc' w' ⟨by rw [List.length_append, hm]; simpa [fces] using own', fun x hx => ?_, hr.lb, Nat.le_trans hr.le B.size, cs, hl'⟩ B
  rcases List.mem_append.1 hx with hx | hx
  · exact mv (hr.ok x hx)
  · exact mv (hk x hx)
/-- The new function, its body in block nb. -/
def newV (M : Mo) (nb : Nat) : FV := (latF M enI, .slice none 0 0, .slice (some ⟨nb, 0, none⟩) 1 1)
theorem newV_ok {M : Mo} {lo nb : Nat} {W : World} (hs : M.sigs.length ≤ 100) (h : Row W nb #[.int .i64 11, .int .i64 0, .int .i64 0] 44) : ∀ x ∈ [newV M nb], FvOk (Or1 lo nb) W x := fun x hx => by
  rw [List.mem_singleton.1 hx]
  refine ⟨⟨by show -9223372036854775808 ≤ (M.sigs.length : Int); omega, by show (M.sigs.length : Int) ≤ 9223372036854775807; omega⟩, Sl.isNil _ _ _ _, ?_⟩
  exact sl_ins (l := enI) (fun x hx => by rw [List.mem_singleton.1 hx]; exact i64s (by decide)) h rfl (Or.inr rfl)
theorem newV_cells {M : Mo} {nb nf : Nat} {W : World} (h : Row W nf #[.int .i64 M.sigs.length, .bool false, .slice none 0 0, .slice (some ⟨nb, 0, none⟩) 1 1] 38) : ∀ j u, (fces [newV M nb])[j]? = some u → W.cell? ((⟨nf, 0, none⟩ : Addr).add j) = some u := by
  intro j u hu
  match j, hu with
  | 0, hu => cases hu; exact h.c 0 _ rfl
  | 1, hu => cases hu; exact h.c 1 _ rfl
  | 2, hu => cases hu; exact h.c 2 _ rfl
  | 3, hu => cases hu; exact h.c 3 _ rfl
  | (n + 4), hu => simp [fces, fce, newV] at hu
/-- Behind the appends. -/
structure R7 (lo : Nat) (M : Mo) (u : World) (v : Value) (W : World) : Prop where
  ex : ∃ nb base fb fc fv, v = .slice fb (M.funcs.length + 1) fc ∧ fv.map (·.1) = M.funcs ∧ GRow lo nb base v (fv ++ [newV M nb]) W ∧ u.heap.size ≤ base ∧ u.heap.size ≤ nb
  b : Below u.heap.size u W
theorem FRow.form {lo base : Nat} {sb : Option Addr} {n c : Nat} {fv : List FV} {W : World} (h : FRow lo base (.slice sb n c) fv W) (hn : 0 < fv.length) : ∃ g, sb = some ⟨g, 0, none⟩ ∧ n = fv.length ∧ base ≤ g := by
  rcases h.own.2 with ⟨_, hz⟩ | ⟨g, cap, cur, e, hb, _⟩
  · omega
  · simp only [Value.slice.injEq] at e
    exact ⟨g, e.1, e.2.1, hb⟩
theorem FRow.c {lo base g n c : Nat} {fv : List FV} {W : World} (h : FRow lo base (.slice (some ⟨g, 0, none⟩) n c) fv W) (hn : n = fv.length) (j : Nat) (hj : j < fv.length) (i : Nat) (hi : i < 4) : W.cell? ⟨g, j * 4 + i, none⟩ = (fce fv[j])[i]? := by
  subst hn
  rw [← fces_at fv j hj i hi]
  exact h.own.cellAt _ (by omega)
/-- The last function, with another body in block cb. -/
def badV (M : Mo) (x : FV) (cb : Nat) : FV := (latF M coI, x.2.1, .slice (some ⟨cb, 0, none⟩) 2 2)
theorem badV_cell {M : Mo} {x : FV} {cb : Nat} (h : x.1 = latF M enI) : (fce x).set 3 (.slice (some ⟨cb, 0, none⟩) 2 2) = fce (badV M x cb) := by
  obtain ⟨a, b, c⟩ := x
  simp only at h
  subst h
  rfl
theorem badV_ok {M : Mo} {x : FV} {lo cb : Nat} {W : World} (h : x.1 = latF M enI) (ok : FvOk (Or1 lo cb) W x) (k : Row W cb #[.int .i64 66, .int .i64 0, .int .i64 0, .int .i64 11, .int .i64 0, .int .i64 0] 44) : FvOk (Or1 lo cb) W (badV M x cb) := by
  obtain ⟨a, b, c⟩ := x
  simp only at h
  subst h
  refine ⟨ok.1, ok.2.1, ?_⟩
  exact sl_ins (l := coI) (fun x hx => by
    simp only [coI, List.mem_cons, List.not_mem_nil, or_false] at hx
    rcases hx with rfl | rfl <;> exact i64s (by decide)) k rfl (Or.inr rfl)
theorem bad_map {M : Mo} {fv : List FV} {cb : Nat} (h : fv.map (·.1) = M.funcs ++ [latF M enI]) (hj : M.funcs.length < fv.length) : fv[M.funcs.length].1 = latF M enI ∧ (fv.set M.funcs.length (badV M fv[M.funcs.length] cb)).map (·.1) = M.funcs ++ [latF M coI] := by
  constructor
  · have : (fv.map (·.1))[M.funcs.length]? = some (latF M enI) := by rw [h]; simp
    rw [List.getElem?_map, List.getElem?_eq_getElem hj] at this
    exact Option.some.inj this
  · rw [List.map_set, h]
    simp [badV]
theorem hts_len {M : Mo} {h : List (List Int)} (e : chkM M = .ok h) {k : Nat} {g : List Int} (hk : h[k]? = some g) : g.length ≤ 200 := by
  obtain ⟨a, _, _, _⟩ := chk_ok e
  have F := fit_facts a
  obtain ⟨hl, hf⟩ := shape_chk e
  have hlt : k < h.length := (List.getElem?_eq_some_iff.1 hk).1
  have hj : M.funcs[k]? = some M.funcs[k] := List.getElem?_eq_getElem (by omega)
  obtain ⟨g', h1, h2⟩ := hf k _ hj
  rw [h1] at hk
  obtain rfl := Option.some.inj hk
  rw [h2.len]
  exact (F.fn _ (List.mem_of_getElem? hj)).2.1
/-- What the two heights tell, of a module and of one with one function more. -/
theorem two_hts {M : Mo} {h : List (List Int)} {f : Int} {ev ev2 : Value} {g g2 : List Int} (e : chkM M = .ok h) (h1 : (∃ p, ev = flt p ∧ ¬ (0 ≤ f ∧ f < h.length) ∧ g = []) ∨ (ev = .nilIface ∧ ∃ k : Nat, f = k ∧ h[k]? = some g))
    (h2 : (∃ p, ev2 = flt p ∧ ¬ (0 ≤ f ∧ f < (h ++ [[0]]).length) ∧ g2 = []) ∨ (ev2 = .nilIface ∧ ∃ k : Nat, f = k ∧ (h ++ [[0]])[k]? = some g2)) :
    g.length ≤ 200 ∧ ((∃ p, ev = flt p) ∨ (ev = .nilIface ∧ ev2 = .nilIface ∧ g2 = g)) := by
  rcases h1 with ⟨p, rfl, _, rfl⟩ | ⟨rfl, k, rfl, hk⟩
  · exact ⟨by simp, .inl ⟨p, rfl⟩⟩
  · have hlt : k < h.length := (List.getElem?_eq_some_iff.1 hk).1
    refine ⟨hts_len e hk, .inr ⟨rfl, ?_⟩⟩
    rcases h2 with ⟨p, _, hn, _⟩ | ⟨e2, k', ek, hk'⟩
    · rw [List.length_append] at hn
      exact absurd ⟨by omega, by omega⟩ hn
    · obtain rfl : k = k' := by omega
      rw [List.getElem?_append_left hlt, hk] at hk'
      exact ⟨e2, (Option.some.inj hk').symm⟩
end Go.Proofs.YtamofhkmhjckaabGreatDoor
