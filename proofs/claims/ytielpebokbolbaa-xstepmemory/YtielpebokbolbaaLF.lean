/-
  Merged: Fr Pp Me.
-/
import Derived.Test.YtielpebokbolbaaLD
import Derived.Test.YtielpebokbolbaaRows
import Derived.ProofKit
import Derived.OpenShut
import Derived.Deep.Slices
import Derived.SizedLaws
import Derived.Test.YtielpebokbolbaaLE
/-
  A machine that comes in: what lies in its memory; what its regions may take at the most; no condition.
-/
namespace Go.Proofs.Ytielpebokbolbaa
open Go.ChangeShapes Go.WideShapes Go.ChangeAt Go.RowKit
set_option linter.unusedSimpArgs false
set_option linter.unusedVariables false
theorem wf_i64 {x : Int} (h : (Lit.int .i64 x).wf = true) : I64 x := by
  simp [Lit.wf, IntKind.min, IntKind.max, IntKind.signed, IntKind.bits] at h
  exact ⟨by omega, by omega⟩
theorem cell_lt {w : World} {a : Addr} {v : Value} (h : w.cell? a = some v) : a.block < w.heap.size := by
  unfold World.cell? at h
  cases hb : w.heap[a.block]? with
  | none => rw [hb] at h; cases h
  | some o => exact (Array.getElem?_eq_some_iff.1 hb).1
/-- What a datum takes lies in reach. -/
def Wt {H : Type} (t : TypeId) (d : DataW H) : Prop := ∀ n ∈ DataW.weights Try.prog t d, n ≤ reachBytes
theorem wt_all {H : Type} {e : TypeId} {d : DataW H} {n : Nat} : ∀ {l : List (DataW H)}, d ∈ l → n ∈ DataW.weights Try.prog e d → n ∈ DataW.weightsAll Try.prog e l
  | x :: r, h, hn => by
    simp only [DataW.weightsAll, List.mem_append]
    rcases List.mem_cons.1 h with rfl | h
    · exact .inl hn
    · exact .inr (wt_all h hn)
theorem wt_part {H : Type} {t : TypeId} {fs : Array Field} (ht : Try.prog.underlying t = some (.struct fs)) {parts : List (DataW H)} (h : Wt t (.agg parts)) {j : Nat} {u : TypeId} {d : DataW H} (hu : (fs.toList.map (·.type))[j]? = some u) (hd : parts[j]? = some d) : Wt u d := by
  intro n hn
  refine h n ?_
  simp only [DataW.weights, ht]
  exact DataW.weights_mem_each hu hd n hn
theorem c_3 : Try.prog.cellsOf 3 = 1 := by kernel_rfl
theorem c_4 : Try.prog.cellsOf 4 = 1 := by kernel_rfl
theorem c_9 : Try.prog.cellsOf 9 = 1 := by kernel_rfl
theorem c_regs : Try.prog.cellsOf 22 = 16 := by kernel_rfl
theorem c_fl : Try.prog.cellsOf 24 = 4 := by kernel_rfl
theorem c_rgs : Try.prog.cellsOf 25 = 1 := by kernel_rfl
theorem c_rg : Try.prog.cellsOf 39 = 3 := by kernel_rfl
theorem c_mc : Try.prog.cellsOf 27 = 23 := by kernel_rfl
theorem b_rg : Try.prog.bytesOf 39 = 32 := by kernel_rfl
def ERg (W : World) (b o : Nat) (y : Rg) : Prop := I64 y.at_ ∧ W.cell? ⟨b, o, none⟩ = some (.int .i64 y.at_) ∧ W.cell? ⟨b, o + 1, none⟩ = some (.string ⟨y.by_.toArray⟩) ∧ W.cell? ⟨b, o + 2, none⟩ = some (.bool y.code)
section
variable {H : Type} {enc : TypeId × Value → H} {W : World}
set_option maxRecDepth 100000 in
theorem op_rg (n : Nat) (cs : List Value) (x : DataW H × List MemPlace) (b o : Nat) (hl : cs.length = 3) (hc : ∀ i v, cs[i]? = some v → W.cell? ⟨b, o + i, none⟩ = some v)
    (h : DataW.trod enc Try.prog W 0 (fun _ => true) true n 39 cs = some x) : ∃ y, ERg W b o y ∧ (Wt 39 x.1 → y.by_.length ≤ reachBytes) := by
  obtain ⟨xs, k, _, hx, _, hxl, hf⟩ := DataW.trod_struct Try.underlying39 h
  match cs, hl with
  | [v0, v1, v2], _ =>
    match xs, hxl with
    | [y0, y1, y2], _ =>
      have g0 := hf 0 _ rfl
      have g1 := hf 1 _ rfl
      have g2 := hf 2 _ rfl
      simp [c_3, c_4, c_9] at g0 g1 g2
      obtain ⟨a, e0, _, wa⟩ := DataW.trod_int Try.underlying3 g0
      obtain ⟨s, e1, hy1, _⟩ := DataW.trod_string Try.underlying9 g1
      obtain ⟨c, e2, _⟩ := DataW.trod_bool Try.underlying4 g2
      simp at e0 e1 e2
      subst e0 e1 e2
      have es : (⟨s.data.toList.toArray⟩ : ByteArray) = s := by simp
      refine ⟨⟨a, s.data.toList, c⟩, ⟨wf_i64 wa, hc 0 _ rfl, ?_, hc 2 _ rfl⟩, fun hw => ?_⟩
      · show _ = some (Value.string ⟨s.data.toList.toArray⟩)
        rw [es]; exact hc 1 _ rfl
      · have hx1 : x.1 = .agg ([y0, y1, y2].map (·.1)) := congrArg Prod.fst hx
        rw [hx1] at hw
        have h2 : Wt 9 y1.1 := wt_part Try.underlying39 hw (j := 1) rfl rfl
        rw [hy1] at h2
        exact h2 _ (by simp [DataW.weights])
set_option maxRecDepth 100000 in
theorem open_rgs {fuel : Nat} {cs : List Value} {x : DataW H × List MemPlace} (h : DataW.trod enc Try.prog W 0 (fun _ => true) true fuel 25 cs = some x) :
    ∃ a l c, cs = [.slice a (List.length l) c] ∧ (l = [] ∨ ∃ b off, a = some ⟨b, off, none⟩ ∧ ∀ i (h : i < List.length l), ERg W b (off + i * 3) l[i]) ∧ (Wt 25 x.1 → l.length * 32 ≤ reachBytes ∧ ∀ y ∈ l, y.by_.length ≤ reachBytes) := by
  rcases Deep.open_slice Try.underlying25 h with ⟨hcs, hx⟩ | ⟨a, len, cap, m, n, D, Pl, hcs, _, hl, hm, hmm, hx, hcell⟩
  · exact ⟨_, [], _, hcs, Or.inl rfl, fun _ => ⟨by simp, by simp⟩⟩
  simp only [if_true] at hmm
  rcases Nat.eq_zero_or_pos len with h0 | h0
  · subst h0
    exact ⟨_, [], _, hcs, Or.inl rfl, fun _ => ⟨by simp, by simp⟩⟩
  obtain ⟨b, off, spot⟩ := a
  have hspot : spot = none := by
    obtain ⟨cs', h1, _⟩ := hcell 0 (by omega)
    rw [c_rg] at h1
    obtain ⟨_, hlen, hc⟩ := World.cells?_some h1
    have := hc 0 (by omega)
    rw [List.getElem?_eq_getElem (show 0 < cs'.length by omega)] at this
    simpa [Addr.add] using World.cell?_spot this
  subst hspot
  have each : ∀ i, i < len → ∃ y : Rg, ERg W b (off + i * 3) y ∧ (Wt 39 (D i) → y.by_.length ≤ reachBytes) := by
    intro i hi
    obtain ⟨cs', h1, h2⟩ := hcell i (by omega)
    rw [c_rg] at h1
    obtain ⟨_, hlen, hc⟩ := World.cells?_some h1
    have hcc : ∀ j v, cs'[j]? = some v → W.cell? ⟨b, off + i * 3 + j, none⟩ = some v := by
      intro j v hv
      have hj : j < 3 := by rw [← hlen]; exact (List.getElem?_eq_some_iff.1 hv).1
      have := hc j hj
      rw [add_at, add_at] at this
      rw [this]; exact hv
    exact op_rg n cs' (D i, Pl i) b (off + i * 3) hlen hcc h2
  haveI : Inhabited Rg := ⟨⟨0, [], false⟩⟩
  obtain ⟨f, hf⟩ := Deep.choose_lt each
  have hx1 : x.1 = .slice ((List.range len).map D) ((List.range (m - len)).map fun j => D (len + j)) := congrArg Prod.fst hx
  refine ⟨some ⟨b, off, none⟩, (List.range len).map f, cap, by simpa using hcs, Or.inr ⟨b, off, rfl, fun j hj => ?_⟩, fun hw => ⟨?_, ?_⟩⟩
  · have hj' : j < len := by simpa using hj
    simpa using (hf j hj').1
  · rw [hx1] at hw
    have := hw _ (by simp only [DataW.weights, Try.underlying25]; exact List.mem_cons_self ..)
    rw [b_rg] at this
    simp only [List.length_map, List.length_range] at this ⊢
    exact Nat.le_trans (Nat.mul_le_mul_right _ (by omega)) this
  · intro y hy
    obtain ⟨j, hj, rfl⟩ := List.mem_map.1 hy
    have hj' : j < len := by simpa using hj
    refine (hf j hj').2 fun n hn => ?_
    rw [hx1] at hw
    refine hw n ?_
    simp only [DataW.weights, Try.underlying25]
    exact List.mem_cons_of_mem _ (List.mem_append_left _ (wt_all (List.mem_map.2 ⟨j, by simpa using hj', rfl⟩) hn))
set_option maxRecDepth 100000 in
set_option maxHeartbeats 3200000 in
theorem open_mc {base : Nat} {v : Value} {d : DataW H} {p : List MemPlace} (hv : Value.okWide Try.prog W .any base 27 v) (h : DataW.Trod enc Try.prog W 0 (fun _ => true) true 27 v d p) (hw : Wt 27 d) : ∃ m, MV m v W := by
  obtain ⟨cs, rfl, hsz⟩ := okWide_struct Try.underlying27 hv
  rw [c_mc] at hsz
  obtain ⟨fuel, hf0⟩ := h
  obtain ⟨xs, k, _, hx, _, hxl, hf⟩ := DataW.trod_struct Try.underlying27 hf0
  obtain ⟨l⟩ := cs
  match l, hsz with
  | [v0, v1, v2, v3, v4, v5, v6, v7, v8, v9, v10, v11, v12, v13, v14, v15, v16, v17, v18, v19, v20, v21, v22], _ =>
    match xs, hxl with
    | [y0, y1, y2, y3, y4], _ =>
      have g0 := hf 0 _ rfl
      have g1 := hf 1 _ rfl
      have g2 := hf 2 _ rfl
      have g3 := hf 3 _ rfl
      have g4 := hf 4 _ rfl
      simp [Value.cells, c_3, c_regs, c_fl, c_rgs] at g0 g1 g2 g3 g4
      obtain ⟨zs, k0, _, _, _, hzl, hz⟩ := DataW.trod_array Try.underlying22 g0
      obtain ⟨ts, k1, _, _, _, htl, ht⟩ := DataW.trod_struct Try.underlying24 g1
      obtain ⟨at_, e20, _, w20⟩ := DataW.trod_int Try.underlying3 g2
      obtain ⟨ra, g, rc, e21, sg, q3⟩ := open_rgs g3
      obtain ⟨st, e22, _, w22⟩ := DataW.trod_int Try.underlying3 g4
      match ts, htl with
      | [t0, t1, t2, t3], _ =>
        have j0 := ht 0 _ rfl
        have j1 := ht 1 _ rfl
        have j2 := ht 2 _ rfl
        have j3 := ht 3 _ rfl
        simp [c_4] at j0 j1 j2 j3
        obtain ⟨z, f0, _⟩ := DataW.trod_bool Try.underlying4 j0
        obtain ⟨s, f1, _⟩ := DataW.trod_bool Try.underlying4 j1
        obtain ⟨c, f2, _⟩ := DataW.trod_bool Try.underlying4 j2
        obtain ⟨o, f3, _⟩ := DataW.trod_bool Try.underlying4 j3
        have rr : ∀ i (hi : i < 16), ∃ x : Int, ([v0, v1, v2, v3, v4, v5, v6, v7, v8, v9, v10, v11, v12, v13, v14, v15] : List Value)[i]? = some (.int .i64 x) ∧ I64 x := fun i hi => by
          have := hz i hi
          rw [c_3, List.getElem?_eq_getElem (show i < zs.length by omega)] at this
          obtain ⟨x, e, _, wx⟩ := DataW.trod_int Try.underlying3 this
          refine ⟨x, ?_, wf_i64 wx⟩
          rw [Nat.mul_one] at e
          have e' := congrArg (·[0]?) e
          simp only [List.getElem?_take, List.getElem?_drop] at e'
          simpa using e'
        haveI : Inhabited Int := ⟨0⟩
        obtain ⟨fr, hfr⟩ := Deep.choose_lt rr
        have k0 : v0 = .int .i64 (fr 0) := Option.some.inj (hfr 0 (by decide)).1
        have k1 : v1 = .int .i64 (fr 1) := Option.some.inj (hfr 1 (by decide)).1
        have k2 : v2 = .int .i64 (fr 2) := Option.some.inj (hfr 2 (by decide)).1
        have k3 : v3 = .int .i64 (fr 3) := Option.some.inj (hfr 3 (by decide)).1
        have k4 : v4 = .int .i64 (fr 4) := Option.some.inj (hfr 4 (by decide)).1
        have k5 : v5 = .int .i64 (fr 5) := Option.some.inj (hfr 5 (by decide)).1
        have k6 : v6 = .int .i64 (fr 6) := Option.some.inj (hfr 6 (by decide)).1
        have k7 : v7 = .int .i64 (fr 7) := Option.some.inj (hfr 7 (by decide)).1
        have k8 : v8 = .int .i64 (fr 8) := Option.some.inj (hfr 8 (by decide)).1
        have k9 : v9 = .int .i64 (fr 9) := Option.some.inj (hfr 9 (by decide)).1
        have k10 : v10 = .int .i64 (fr 10) := Option.some.inj (hfr 10 (by decide)).1
        have k11 : v11 = .int .i64 (fr 11) := Option.some.inj (hfr 11 (by decide)).1
        have k12 : v12 = .int .i64 (fr 12) := Option.some.inj (hfr 12 (by decide)).1
        have k13 : v13 = .int .i64 (fr 13) := Option.some.inj (hfr 13 (by decide)).1
        have k14 : v14 = .int .i64 (fr 14) := Option.some.inj (hfr 14 (by decide)).1
        have k15 : v15 = .int .i64 (fr 15) := Option.some.inj (hfr 15 (by decide)).1
        simp at e20 e21 e22 f0 f1 f2 f3
        subst e20 e21 e22 f0 f1 f2 f3
        have hx1 : d = .agg ([y0, y1, y2, y3, y4].map (·.1)) := congrArg Prod.fst hx
        rw [hx1] at hw
        have q := q3 (wt_part Try.underlying27 hw (j := 3) rfl rfl)
        have rb : reachBytes = 140737488351232 := by decide
        rw [rb] at q
        refine ⟨⟨(List.range 16).map fr, z, s, c, o, at_, g, st⟩, ra, rc, fun i => ⟨(g.getD i ⟨0, [], false⟩).by_.toArray⟩, ?_, ?_, ?_, ⟨?_, ?_, wf_i64 w20, ?_⟩, ?_⟩
        · rw [k0, k1, k2, k3, k4, k5, k6, k7, k8, k9, k10, k11, k12, k13, k14, k15]; rfl
        · rcases sg with h0 | ⟨b, off, e, he⟩
          · exact Or.inl h0
          · refine Or.inr ⟨b, off, e, fun i hi => ?_⟩
            obtain ⟨i1, c0, c1, c2⟩ := he i hi
            have hgd : g.getD i ⟨0, [], false⟩ = g[i] := by simp [List.getD, hi]
            have hi' : i < List.length g := hi
            refine ⟨c0, ?_, c2, ?_, i1, ?_⟩
            · show _ = some (Value.string ⟨(g.getD i ⟨0, [], false⟩).by_.toArray⟩)
              rw [hgd]; exact c1
            · show (⟨(g.getD i ⟨0, [], false⟩).by_.toArray⟩ : ByteArray).size = _
              rw [hgd]; simp [ByteArray.size]
            · exact q.2 _ (List.getElem_mem _)
        · intro i hi
          show (g.getD i ⟨0, [], false⟩).by_.toArray.toList = _
          have hi' : i < List.length g := hi
          simp [List.getD, hi']
        · simp
        · intro x hx'
          obtain ⟨i, hi, rfl⟩ := List.mem_map.1 hx'
          exact (hfr i (by simpa using hi)).2
        · intro r hr
          have hr' : r ∈ g := hr
          obtain ⟨i, hi, rfl⟩ := List.mem_iff_getElem.1 hr'
          rcases sg with h0 | ⟨b, off, e, he⟩
          · subst h0; cases hi
          · exact ⟨(he i hi).1, q.2 _ (List.getElem_mem _)⟩
        · show 32 * List.length g ≤ _
          have := q.1; omega
end
end Go.Proofs.Ytielpebokbolbaa
/-
  What was put is read as it was; beside it all stays. No program.
-/
namespace Go.Proofs.Ytielpebokbolbaa
open Go.RowKit
open Xc (le by8 bys jn)
set_option linter.unusedSimpArgs false
set_option linter.unusedVariables false
theorem wn_ptR {r : Rg} {a n v : Int} (hw : wn r a n = true) (hn : n = 4 ∨ n = 8) (a' n' : Int) : wn (ptR r a n v) a' n' = wn r a' n' := by
  have := ptR_len (v := v) hw hn
  unfold wn; rw [this]; rfl
theorem fnd_set {g : List Rg} {a n v : Int} {i : Nat} (hi : i < g.length) (hw : wn g[i] a n = true) (hn : n = 4 ∨ n = 8) (cd : Bool) (a' n' : Int) : fnd (g.set i (ptR g[i] a n v)) cd a' n' = fnd g cd a' n' := by
  have hp : ∀ j (h : j < g.length), ((g.set i (ptR g[i] a n v))[j]'(by simpa using h)).code = g[j].code ∧ wn ((g.set i (ptR g[i] a n v))[j]'(by simpa using h)) a' n' = wn g[j] a' n' := fun j h => by
    rw [List.getElem_set]
    split
    · rename_i e; subst e; exact ⟨rfl, wn_ptR hw hn _ _⟩
    · exact ⟨rfl, rfl⟩
  unfold fnd
  cases h : List.findIdx? (fun r => r.code == cd && wn r a' n') g with
  | none =>
    rw [List.findIdx?_eq_none_iff] at h ⊢
    intro x hx
    obtain ⟨j, hj, rfl⟩ := List.mem_iff_getElem.1 hx
    have hj' : j < g.length := by simpa using hj
    rw [(hp j hj').1, (hp j hj').2]
    exact h _ (List.getElem_mem _)
  | some k =>
    rw [List.findIdx?_eq_some_iff_getElem] at h ⊢
    obtain ⟨hk, h1, h2⟩ := h
    refine ⟨by simpa using hk, ?_, fun j hj => ?_⟩
    · rw [(hp k hk).1, (hp k hk).2]; exact h1
    · have hj' : j < g.length := by omega
      rw [(hp j hj').1, (hp j hj').2]; exact h2 j hj
theorem fnN_set {g : List Rg} {a n v : Int} {i : Nat} (hi : i < g.length) (hw : wn g[i] a n = true) (hn : n = 4 ∨ n = 8) (a' n' : Int) : fnN (g.set i (ptR g[i] a n v)) a' n' = fnN g a' n' := by
  unfold fnN; rw [fnd_set hi hw hn]
theorem le_inj : ∀ (a b : List UInt8), a.length = b.length → le a = le b → a = b
  | [], [], _, _ => rfl
  | x :: a, y :: b, hl, h => by
    have hx := x.toNat_lt
    have hy := y.toNat_lt
    simp only [le] at h
    have h1 : x.toNat = y.toNat := by omega
    have h2 : le a = le b := by omega
    rw [UInt8.toNat_inj.1 h1, le_inj a b (by simpa using hl) h2]
  | [], y :: b, hl, _ => by simp at hl
  | x :: a, [], hl, _ => by simp at hl
theorem bys_jn {l : List UInt8} {n : Nat} (h : l.length = n) (hn : n = 4 ∨ n = 8) : bys n (jn l) = l := by
  refine le_inj _ _ (by rw [Xc.bys_len, h]) ?_
  have h1 := Xc.le_bys n (jn l)
  have h2 := Xc.le_lt l
  rw [h] at h2
  have h3 : jn l = wrap64 (le l : Nat) := rfl
  generalize le (bys n (jn l)) = D at h1 ⊢
  rw [h3] at h1
  unfold wrap64 at h1
  rcases hn with rfl | rfl
  · simp only [Nat.reducePow, Int.reducePow] at h1 h2
    omega
  · simp only [Nat.reducePow, Int.reducePow] at h1 h2
    omega
theorem jn_bys4 (v : Int) : jn (bys 4 v) = v % 4294967296 := by
  have h1 := Xc.le_bys 4 v
  simp only [Int.reducePow] at h1
  unfold jn wrap64
  omega
theorem jn_bys8 {v : Int} (h : I64 v) : jn (bys 8 v) = v := by
  have h1 := Xc.le_bys 8 v
  simp only [Int.reducePow] at h1
  unfold I64 Xc.I64 at h
  unfold jn wrap64
  omega
theorem spl_mid (l x : List UInt8) (p : Nat) (h : p + x.length ≤ l.length) : ((spl l p x).drop p).take x.length = x := by
  unfold spl
  rw [List.append_assoc, List.drop_append_of_le_length (by simp; omega), List.drop_eq_nil_of_le (by simp; omega), List.nil_append, List.take_append_of_le_length (Nat.le_refl _), List.take_length]
theorem spl_spl (l x y : List UInt8) (p : Nat) (h : p + x.length ≤ l.length) (hy : y.length = x.length) : spl (spl l p x) p y = spl l p y := by
  unfold spl
  have e1 : (l.take p ++ x ++ l.drop (p + x.length)).take p = l.take p := by
    rw [List.append_assoc, List.take_append_of_le_length (by simp; omega), List.take_take, Nat.min_self]
  have e2 : (l.take p ++ x ++ l.drop (p + x.length)).drop (p + y.length) = l.drop (p + y.length) := by
    rw [hy, List.drop_append, List.drop_eq_nil_of_le (by simp; omega), List.nil_append]
    simp only [List.length_append, List.length_take]
    rw [show p + x.length - (min p l.length + x.length) = 0 by omega, List.drop_zero]
  rw [e1, e2]
theorem spl_own (l : List UInt8) (p n : Nat) (h : p + n ≤ l.length) : spl l p ((l.drop p).take n) = l := by
  unfold spl
  have e : ((l.drop p).take n).length = n := by simp; omega
  rw [e, List.append_assoc]
  have : (l.drop p).take n ++ l.drop (p + n) = l.drop p := by
    rw [show l.drop (p + n) = (l.drop p).drop n by rw [List.drop_drop]]
    exact List.take_append_drop n (l.drop p)
  rw [this]; exact List.take_append_drop p l
/-- What stands beside. -/
theorem spl_ahead (l x : List UInt8) (p q k : Nat) (h : p + x.length ≤ l.length) (hq : q + k ≤ p) : ((spl l p x).drop q).take k = (l.drop q).take k := by
  unfold spl
  rw [List.append_assoc, List.drop_append_of_le_length (by simp; omega), List.take_append_of_le_length (by simp; omega), List.drop_take, List.take_take]
  congr 1; omega
theorem spl_behind (l x : List UInt8) (p q : Nat) (h : p + x.length ≤ l.length) (hq : p + x.length ≤ q) : (spl l p x).drop q = l.drop q := by
  unfold spl
  rw [List.drop_append, List.drop_eq_nil_of_le (by simp; omega), List.nil_append, List.drop_drop]
  simp only [List.length_append, List.length_take]
  congr 1; omega
section
variable {g : List Rg} {a n v : Int} {i : Nat}
theorem pt_len (hn : n = 4 ∨ n = 8) (v : Int) : (bys n.toNat v).length = n.toNat := Xc.bys_len _ _
theorem pt_fit {r : Rg} (hw : wn r a n = true) (hn : n = 4 ∨ n = 8) : (a - r.at_).toNat + n.toNat ≤ r.by_.length := by
  have := wn_iff.1 hw; omega
/-- What was put is read. -/
theorem put_read (hf : fnN g a n = some i) (hi : i < g.length) : rdM (g.set i (ptR g[i] a n v)) a n = some (jn (bys n.toNat v)) := by
  obtain ⟨hn, _, hc, hw⟩ := fnN_some hf
  have hi' : i < (g.set i (ptR g[i] a n v)).length := by simpa using hi
  have hf' : fnN (g.set i (ptR g[i] a n v)) a n = some i := (fnN_set hi hw hn a n).trans hf
  rw [rdM_some hf' hi']
  simp only [List.getElem_set_self]
  have := spl_mid g[i].by_ (bys n.toNat v) (a - g[i].at_).toNat (by rw [pt_len hn]; exact pt_fit hw hn)
  rw [pt_len hn] at this
  unfold rdV ptR
  simp only
  rw [this]
/-- And put back. -/
theorem put_back (hf : fnN g a n = some i) (hi : i < g.length) : ptM (g.set i (ptR g[i] a n v)) a n (rdV g[i] a n) = some g := by
  obtain ⟨hn, _, hc, hw⟩ := fnN_some hf
  have hi' : i < (g.set i (ptR g[i] a n v)).length := by simpa using hi
  have hf' : fnN (g.set i (ptR g[i] a n v)) a n = some i := (fnN_set hi hw hn a n).trans hf
  rw [ptM_some hf' hi']
  simp only [List.getElem_set_self, List.set_set]
  have fit := pt_fit hw hn
  have e : ptR (ptR g[i] a n v) a n (rdV g[i] a n) = g[i] := by
    have l1 : (((g[i].by_.drop (a - g[i].at_).toNat).take n.toNat)).length = n.toNat := by simp; omega
    have b := bys_jn l1 (by omega)
    unfold rdV
    unfold ptR
    simp only
    rw [b, spl_spl _ _ _ _ (by rw [pt_len hn]; exact fit) (by rw [pt_len hn]; exact l1), spl_own _ _ _ fit]
  rw [e]
  simp
theorem put_there (hf : fnN g a n = some i) (hi : i < g.length) (a' n' : Int) : (rdM (g.set i (ptR g[i] a n v)) a' n').isSome = (rdM g a' n').isSome := by
  obtain ⟨hn, _, hc, hw⟩ := fnN_some hf
  have e := fnN_set (v := v) hi hw hn a' n'
  cases h : fnN g a' n' with
  | none => rw [rdM_none h, rdM_none (e.trans h)]
  | some j =>
    obtain ⟨_, hj, _⟩ := fnN_some h
    rw [rdM_some h hj, rdM_some (e.trans h) (by simpa using hj), Option.isSome_some, Option.isSome_some]
/-- Of one region, what lies apart stays. -/
theorem put_apart (hf : fnN g a n = some i) (hi : i < g.length) (h1 : g.length ≤ 1) (b : Int) (hb : (a < b ∧ n ≤ b - a) ∨ (b < a ∧ 4 ≤ a - b)) : rdM (g.set i (ptR g[i] a n v)) b 4 = rdM g b 4 := by
  obtain ⟨hn, _, hc, hw⟩ := fnN_some hf
  have e := fnN_set (v := v) hi hw hn b 4
  cases h : fnN g b 4 with
  | none => rw [rdM_none h, rdM_none (e.trans h)]
  | some j =>
    obtain ⟨_, hj, _, hw2⟩ := fnN_some h
    have hij : j = i := by omega
    subst hij
    rw [rdM_some h hj, rdM_some (e.trans h) (by simpa using hj)]
    simp only [List.getElem_set_self]
    unfold rdV ptR
    simp only
    have f1 := wn_iff.1 hw
    have f2 := wn_iff.1 hw2
    have fit := pt_fit hw hn
    rcases hb with ⟨q1, q2⟩ | ⟨q1, q2⟩
    · rw [spl_behind _ _ _ _ (by rw [pt_len hn]; exact fit) (by rw [pt_len hn]; omega)]
    · rw [spl_ahead _ _ _ _ _ (by rw [pt_len hn]; exact fit) (by omega)]
end
theorem w32a : Fg.Wd true 4294967295 := by unfold Fg.Wd Fg.I64; simp
theorem r32 : Fg.R true 4294967295 = 4294967295 := by simp [Fg.R, Fg.md]
theorem n32 (a : Nat) : a &&& 4294967295 = a % 4294967296 := Nat.and_two_pow_sub_one_eq_mod a 32
theorem and32 (v : Int) (h : I64 v) : bits BinOp.and IntKind.i64 v 4294967295 = v % 4294967296 := by
  rw [Fg.bits_and true v 4294967295 h w32a, r32, n32]
  unfold Fg.R Fg.md
  generalize hx : v % (if true = true then 18446744073709551616 else 4294967296) = x
  simp only [if_true] at hx
  unfold wrap64
  omega
end Go.Proofs.Ytielpebokbolbaa
/-
  XstepMemory: what is read and put is as the document says.
-/
namespace Go.Proofs.Ytielpebokbolbaa
open Go.RowKit
open Xc (hide bel_one bel_tr bel_al bel_set Xi xv xc bys jn)
set_option linter.unusedSimpArgs false
set_option linter.unusedVariables false
set_option maxRecDepth 100000 in
set_option maxHeartbeats 6400000 in
theorem memory_walk {m : Mc} {v : Value} {w : World} (h : MV m v w) (a n x : Int) (ia : I64 a) (_ : I64 n) (ix : I64 x) : Calls Try.prog 3 #[v, .int .i64 a, .int .i64 n, .int .i64 x] w fun e w' => e = .returned (.bool true) ∧ Below w.heap.size w w' := by
  obtain ⟨ra, rc, rfl⟩ := h.sl
  have B0 := hide (bm_arg h)
  rw [mc_is]
  have IA := hide ia
  have IX := hide ix
  obtain ⟨A, hA⟩ : ∃ A, A = (rdM m.g a n).getD 0 := ⟨_, rfl⟩
  obtain ⟨q, hq⟩ : ∃ q, q = (rdM m.g a n).isSome := ⟨_, rfl⟩
  obtain ⟨qp, hqp⟩ : ∃ q, q = (ptM m.g a n x).isSome := ⟨_, rfl⟩
  obtain ⟨Ma, hMa⟩ : ∃ M : Mc, M = { m with g := (ptM m.g a n x).getD m.g } := ⟨_, rfl⟩
  have HA := hide hA
  have HQ := hide hq
  have HQP := hide hqp
  have HM := hide hMa
  clear h ia ix hA hq hqp hMa
  go_enter Try.func3, Try.ntmps3
  go_wp2_with fail
  refine gw (motive := fun x => Calls _ _ _ x _) (fun W => Hid (BM w.heap.size m (.slice ra m.g.length rc) W) ∧ Hid (Below w.heap.size w W)) ⟨B0.out, bel_one _ _⟩ ?_
  rintro W ⟨BW, KW⟩
  clear B0
  refine (examples_any _).mono ?_
  rintro e w1 ⟨rfl, hb⟩
  have B1 := hide (BW.out.bel hb)
  have K1 := hide (bel_tr KW.out hb)
  clear hb BW KW
  have RR := hide (read_any B1.out.mv a n IA.out)
  rw [mc_is] at RR
  unfold RdEnds at RR
  rw [← HA.out, ← HQ.out] at RR
  go_wp2_with (first | (refine wpList_load_mid rfl 27 _ rfl w.heap.size 0 rfl _ _ B1.out.rg Try.underlying27 rfl B1.out.il ?_) | fail)
  refine RR.out.mono ?_
  rintro e w2 ⟨rfl, hb2⟩
  have B2 := hide (B1.out.bel hb2)
  have K2 := hide (bel_tr K1.out hb2)
  clear RR hb2 B1 K1
  have RR := hide (rread_any B2.out.mv a n IA.out)
  rw [mc_is] at RR
  unfold RdEnds at RR
  rw [← HA.out, ← HQ.out] at RR
  go_wp2_with (first | (refine wpList_load_mid rfl 27 _ rfl w.heap.size 0 rfl _ _ B2.out.rg Try.underlying27 rfl B2.out.il ?_) | fail)
  refine RR.out.mono ?_
  rintro e w3 ⟨rfl, hb3⟩
  have B3 := hide (B2.out.bel hb3)
  have K3 := hide (bel_tr K2.out hb3)
  clear RR hb3 B2 K2
  have RR := hide (put_any B3.out.mv a n x IA.out)
  rw [mc_is] at RR
  go_wp2_with (first | (refine wpList_load_mid rfl 27 _ rfl w.heap.size 0 rfl _ _ B3.out.rg Try.underlying27 rfl B3.out.il ?_) | fail)
  refine RR.out.mono ?_
  rintro e u3 ⟨va, rfl, hma, hb4⟩
  rw [← HM.out] at hma
  rw [← HQP.out]
  obtain ⟨raa, rca, rfl⟩ := hma.sl
  have HMa := hide hma
  rw [mc_is]
  have B3n := hide (B3.out.bel hb4)
  have K3n := hide (bel_tr K3.out hb4)
  clear hma hb4 RR B3 K3
  have HZ := hide (z_row u3)
  have HI := hide (z_inf HMa.out.len (.slice raa Ma.g.length rca))
  have HZS := hide (z_siz HMa.out.len (.slice raa Ma.g.length rca))
  have HON := hide (ml_one Ma raa Ma.g.length rca)
  have NB := hide (bm_new HMa.out)
  unfold zm at HZ HZS NB
  go_upto_region 5 with (first | (refine wpList_store_row rfl 27 _ _ rfl u3.heap.size _ rfl rfl 27 zm HZ.out HI.out HZS.out HON.out ?_) | fail)
  refine gw (motive := fun x => Code.wp _ _ _ _ x) (fun V => Hid (BM u3.heap.size Ma (.slice raa Ma.g.length rca) V) ∧ Hid (BM w.heap.size m (.slice ra m.g.length rc) V) ∧ Hid (Below w.heap.size w V)) ⟨NB.out.1, B3n.out.bel NB.out.2, bel_tr K3n.out NB.out.2⟩ ?_
  rintro Wa ⟨BMa, B4, K4⟩
  clear HZ HI HZS HON NB HMa B3n K3n
  generalize u3.heap.size = qa at *
  have RR := hide (rput_any B4.out.mv a n x IA.out IX.out)
  rw [mc_is] at RR
  go_wp2_with (first | (refine wpList_load_mid rfl 27 _ rfl w.heap.size 0 rfl _ _ B4.out.rg Try.underlying27 rfl B4.out.il ?_) | fail)
  refine RR.out.mono ?_
  rintro e u5 ⟨vb, rfl, hmb, hb5⟩
  rw [← HM.out] at hmb
  rw [← HQP.out]
  obtain ⟨rab, rcb, rfl⟩ := hmb.sl
  have HMb := hide hmb
  rw [mc_is]
  have K4n := hide (bel_tr K4.out hb5)
  have Ba4n := hide (BMa.out.bel hb5)
  clear hmb hb5 RR B4 K4 BMa
  have HZ := hide (z_row u5)
  have HI := hide (z_inf HMb.out.len (.slice rab Ma.g.length rcb))
  have HZS := hide (z_siz HMb.out.len (.slice rab Ma.g.length rcb))
  have HON := hide (ml_one Ma rab Ma.g.length rcb)
  have NB := hide (bm_new HMb.out)
  unfold zm at HZ HZS NB
  go_upto_region 6 with (first | (refine wpList_store_row rfl 27 _ _ rfl u5.heap.size _ rfl rfl 27 zm HZ.out HI.out HZS.out HON.out ?_) | fail)
  refine gw (motive := fun x => Code.wp _ _ _ _ x) (fun V => Hid (BM u5.heap.size Ma (.slice rab Ma.g.length rcb) V) ∧ Hid (BM qa Ma (.slice raa Ma.g.length rca) V) ∧ Hid (Below w.heap.size w V)) ⟨NB.out.1, Ba4n.out.bel NB.out.2, bel_tr K4n.out NB.out.2⟩ ?_
  rintro Wb ⟨BMb, BMa, K5⟩
  clear HZ HI HZS HON NB HMb K4n Ba4n
  generalize u5.heap.size = qb at *
  have SM := hide (machines_yes BMa.out.mv BMb.out.mv)
  rw [mc_is, mc_is] at SM
  go_wp2_with (first | (refine wpList_load_mid rfl 27 _ rfl qb 0 rfl _ _ BMb.out.rg Try.underlying27 rfl BMb.out.il ?_) | (refine wpList_load_mid rfl 27 _ rfl qa 0 rfl _ _ BMa.out.rg Try.underlying27 rfl BMa.out.il ?_) | fail)
  refine SM.out.mono ?_
  rintro e w6 ⟨rfl, hb6⟩
  have K6 := hide (bel_tr K5.out hb6)
  clear SM BMa BMb hb6 HA HQ HQP HM
  go_wp2_with fail
  go_ret
  exact ⟨rfl, K6.out⟩
end Go.Proofs.Ytielpebokbolbaa
