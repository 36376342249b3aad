/-
  A machine that comes in: what lies in its memory; what its regions may take at the most; no condition.
-/
import Derived.Test.YtielpebokbolbaaM41
import Derived.Test.YtielpebokbolbaaRows
import Derived.ProofKit
import Derived.OpenShut
import Derived.Deep.Slices
import Derived.SizedLaws
namespace Go.Proofs.Ytielpebokbolbaa
open Go.ChangeShapes Go.WideShapes Go.ChangeAt Go.RowKit
set_option linter.unusedSimpArgs false
set_option linter.unusedVariables false
theorem wf_i64 {x : Int} (h : (Lit.int .i64 x).wf = true) : I64 x := by
  simp [Lit.wf, IntKind.min, IntKind.max, IntKind.signed, IntKind.bits] at h
  exact ⟨by omega, by omega⟩
theorem cell_lt {w : World} {a : Addr} {v : Value} (h : w.cell? a = some v) : a.block < w.heap.size := by
  unfold World.cell? at h
  cases hb : w.heap[a.block]? with
  | none => rw [hb] at h; cases h
  | some o => exact (Array.getElem?_eq_some_iff.1 hb).1
/-- What a datum takes lies in reach. -/
def Wt {H : Type} (t : TypeId) (d : DataW H) : Prop := ∀ n ∈ DataW.weights Try.prog t d, n ≤ reachBytes
theorem wt_all {H : Type} {e : TypeId} {d : DataW H} {n : Nat} : ∀ {l : List (DataW H)}, d ∈ l → n ∈ DataW.weights Try.prog e d → n ∈ DataW.weightsAll Try.prog e l
  | x :: r, h, hn => by
    simp only [DataW.weightsAll, List.mem_append]
    rcases List.mem_cons.1 h with rfl | h
    · exact .inl hn
    · exact .inr (wt_all h hn)
theorem wt_part {H : Type} {t : TypeId} {fs : Array Field} (ht : Try.prog.underlying t = some (.struct fs)) {parts : List (DataW H)} (h : Wt t (.agg parts)) {j : Nat} {u : TypeId} {d : DataW H} (hu : (fs.toList.map (·.type))[j]? = some u) (hd : parts[j]? = some d) : Wt u d := by
  intro n hn
  refine h n ?_
  simp only [DataW.weights, ht]
  exact DataW.weights_mem_each hu hd n hn
theorem c_3 : Try.prog.cellsOf 3 = 1 := by kernel_rfl
theorem c_4 : Try.prog.cellsOf 4 = 1 := by kernel_rfl
theorem c_9 : Try.prog.cellsOf 9 = 1 := by kernel_rfl
theorem c_regs : Try.prog.cellsOf 22 = 16 := by kernel_rfl
theorem c_fl : Try.prog.cellsOf 24 = 4 := by kernel_rfl
theorem c_rgs : Try.prog.cellsOf 25 = 1 := by kernel_rfl
theorem c_rg : Try.prog.cellsOf 39 = 3 := by kernel_rfl
theorem c_mc : Try.prog.cellsOf 27 = 23 := by kernel_rfl
theorem b_rg : Try.prog.bytesOf 39 = 32 := by kernel_rfl
def ERg (W : World) (b o : Nat) (y : Rg) : Prop := I64 y.at_ ∧ W.cell? ⟨b, o, none⟩ = some (.int .i64 y.at_) ∧ W.cell? ⟨b, o + 1, none⟩ = some (.string ⟨y.by_.toArray⟩) ∧ W.cell? ⟨b, o + 2, none⟩ = some (.bool y.code)
section
variable {H : Type} {enc : TypeId × Value → H} {W : World}
set_option maxRecDepth 100000 in
theorem op_rg (n : Nat) (cs : List Value) (x : DataW H × List MemPlace) (b o : Nat) (hl : cs.length = 3) (hc : ∀ i v, cs[i]? = some v → W.cell? ⟨b, o + i, none⟩ = some v)
    (h : DataW.trod enc Try.prog W 0 (fun _ => true) true n 39 cs = some x) : ∃ y, ERg W b o y ∧ (Wt 39 x.1 → y.by_.length ≤ reachBytes) := by
  obtain ⟨xs, k, _, hx, _, hxl, hf⟩ := DataW.trod_struct Try.underlying39 h
  match cs, hl with
  | [v0, v1, v2], _ =>
    match xs, hxl with
    | [y0, y1, y2], _ =>
      have g0 := hf 0 _ rfl
      have g1 := hf 1 _ rfl
      have g2 := hf 2 _ rfl
      simp [c_3, c_4, c_9] at g0 g1 g2
      obtain ⟨a, e0, _, wa⟩ := DataW.trod_int Try.underlying3 g0
      obtain ⟨s, e1, hy1, _⟩ := DataW.trod_string Try.underlying9 g1
      obtain ⟨c, e2, _⟩ := DataW.trod_bool Try.underlying4 g2
      simp at e0 e1 e2
      subst e0 e1 e2
      have es : (⟨s.data.toList.toArray⟩ : ByteArray) = s := by simp
      refine ⟨⟨a, s.data.toList, c⟩, ⟨wf_i64 wa, hc 0 _ rfl, ?_, hc 2 _ rfl⟩, fun hw => ?_⟩
      · show _ = some (Value.string ⟨s.data.toList.toArray⟩)
        rw [es]; exact hc 1 _ rfl
      · have hx1 : x.1 = .agg ([y0, y1, y2].map (·.1)) := congrArg Prod.fst hx
        rw [hx1] at hw
        have h2 : Wt 9 y1.1 := wt_part Try.underlying39 hw (j := 1) rfl rfl
        rw [hy1] at h2
        exact h2 _ (by simp [DataW.weights])
set_option maxRecDepth 100000 in
theorem open_rgs {fuel : Nat} {cs : List Value} {x : DataW H × List MemPlace} (h : DataW.trod enc Try.prog W 0 (fun _ => true) true fuel 25 cs = some x) :
    ∃ a l c, cs = [.slice a (List.length l) c] ∧ (l = [] ∨ ∃ b off, a = some ⟨b, off, none⟩ ∧ ∀ i (h : i < List.length l), ERg W b (off + i * 3) l[i]) ∧ (Wt 25 x.1 → l.length * 32 ≤ reachBytes ∧ ∀ y ∈ l, y.by_.length ≤ reachBytes) := by
  rcases Deep.open_slice Try.underlying25 h with ⟨hcs, hx⟩ | ⟨a, len, cap, m, n, D, Pl, hcs, _, hl, hm, hmm, hx, hcell⟩
  · exact ⟨_, [], _, hcs, Or.inl rfl, fun _ => ⟨by simp, by simp⟩⟩
  simp only [if_true] at hmm
  rcases Nat.eq_zero_or_pos len with h0 | h0
  · subst h0
    exact ⟨_, [], _, hcs, Or.inl rfl, fun _ => ⟨by simp, by simp⟩⟩
  obtain ⟨b, off, spot⟩ := a
  have hspot : spot = none := by
    obtain ⟨cs', h1, _⟩ := hcell 0 (by omega)
    rw [c_rg] at h1
    obtain ⟨_, hlen, hc⟩ := World.cells?_some h1
    have := hc 0 (by omega)
    rw [List.getElem?_eq_getElem (show 0 < cs'.length by omega)] at this
    simpa [Addr.add] using World.cell?_spot this
  subst hspot
  have each : ∀ i, i < len → ∃ y : Rg, ERg W b (off + i * 3) y ∧ (Wt 39 (D i) → y.by_.length ≤ reachBytes) := by
    intro i hi
    obtain ⟨cs', h1, h2⟩ := hcell i (by omega)
    rw [c_rg] at h1
    obtain ⟨_, hlen, hc⟩ := World.cells?_some h1
    have hcc : ∀ j v, cs'[j]? = some v → W.cell? ⟨b, off + i * 3 + j, none⟩ = some v := by
      intro j v hv
      have hj : j < 3 := by rw [← hlen]; exact (List.getElem?_eq_some_iff.1 hv).1
      have := hc j hj
      rw [add_at, add_at] at this
      rw [this]; exact hv
    exact op_rg n cs' (D i, Pl i) b (off + i * 3) hlen hcc h2
  haveI : Inhabited Rg := ⟨⟨0, [], false⟩⟩
  obtain ⟨f, hf⟩ := Deep.choose_lt each
  have hx1 : x.1 = .slice ((List.range len).map D) ((List.range (m - len)).map fun j => D (len + j)) := congrArg Prod.fst hx
  refine ⟨some ⟨b, off, none⟩, (List.range len).map f, cap, by simpa using hcs, Or.inr ⟨b, off, rfl, fun j hj => ?_⟩, fun hw => ⟨?_, ?_⟩⟩
  · have hj' : j < len := by simpa using hj
    simpa using (hf j hj').1
  · rw [hx1] at hw
    have := hw _ (by simp only [DataW.weights, Try.underlying25]; exact List.mem_cons_self ..)
    rw [b_rg] at this
    simp only [List.length_map, List.length_range] at this ⊢
    exact Nat.le_trans (Nat.mul_le_mul_right _ (by omega)) this
  · intro y hy
    obtain ⟨j, hj, rfl⟩ := List.mem_map.1 hy
    have hj' : j < len := by simpa using hj
    refine (hf j hj').2 fun n hn => ?_
    rw [hx1] at hw
    refine hw n ?_
    simp only [DataW.weights, Try.underlying25]
    exact List.mem_cons_of_mem _ (List.mem_append_left _ (wt_all (List.mem_map.2 ⟨j, by simpa using hj', rfl⟩) hn))
set_option maxRecDepth 100000 in
set_option maxHeartbeats 3200000 in
theorem open_mc {base : Nat} {v : Value} {d : DataW H} {p : List MemPlace} (hv : Value.okWide Try.prog W .any base 27 v) (h : DataW.Trod enc Try.prog W 0 (fun _ => true) true 27 v d p) (hw : Wt 27 d) : ∃ m, MV m v W := by
  obtain ⟨cs, rfl, hsz⟩ := okWide_struct Try.underlying27 hv
  rw [c_mc] at hsz
  obtain ⟨fuel, hf0⟩ := h
  obtain ⟨xs, k, _, hx, _, hxl, hf⟩ := DataW.trod_struct Try.underlying27 hf0
  obtain ⟨l⟩ := cs
  match l, hsz with
  | [v0, v1, v2, v3, v4, v5, v6, v7, v8, v9, v10, v11, v12, v13, v14, v15, v16, v17, v18, v19, v20, v21, v22], _ =>
    match xs, hxl with
    | [y0, y1, y2, y3, y4], _ =>
      have g0 := hf 0 _ rfl
      have g1 := hf 1 _ rfl
      have g2 := hf 2 _ rfl
      have g3 := hf 3 _ rfl
      have g4 := hf 4 _ rfl
      simp [Value.cells, c_3, c_regs, c_fl, c_rgs] at g0 g1 g2 g3 g4
      obtain ⟨zs, k0, _, _, _, hzl, hz⟩ := DataW.trod_array Try.underlying22 g0
      obtain ⟨ts, k1, _, _, _, htl, ht⟩ := DataW.trod_struct Try.underlying24 g1
      obtain ⟨at_, e20, _, w20⟩ := DataW.trod_int Try.underlying3 g2
      obtain ⟨ra, g, rc, e21, sg, q3⟩ := open_rgs g3
      obtain ⟨st, e22, _, w22⟩ := DataW.trod_int Try.underlying3 g4
      match ts, htl with
      | [t0, t1, t2, t3], _ =>
        have j0 := ht 0 _ rfl
        have j1 := ht 1 _ rfl
        have j2 := ht 2 _ rfl
        have j3 := ht 3 _ rfl
        simp [c_4] at j0 j1 j2 j3
        obtain ⟨z, f0, _⟩ := DataW.trod_bool Try.underlying4 j0
        obtain ⟨s, f1, _⟩ := DataW.trod_bool Try.underlying4 j1
        obtain ⟨c, f2, _⟩ := DataW.trod_bool Try.underlying4 j2
        obtain ⟨o, f3, _⟩ := DataW.trod_bool Try.underlying4 j3
        have rr : ∀ i (hi : i < 16), ∃ x : Int, ([v0, v1, v2, v3, v4, v5, v6, v7, v8, v9, v10, v11, v12, v13, v14, v15] : List Value)[i]? = some (.int .i64 x) ∧ I64 x := fun i hi => by
          have := hz i hi
          rw [c_3, List.getElem?_eq_getElem (show i < zs.length by omega)] at this
          obtain ⟨x, e, _, wx⟩ := DataW.trod_int Try.underlying3 this
          refine ⟨x, ?_, wf_i64 wx⟩
          rw [Nat.mul_one] at e
          have e' := congrArg (·[0]?) e
          simp only [List.getElem?_take, List.getElem?_drop] at e'
          simpa using e'
        haveI : Inhabited Int := ⟨0⟩
        obtain ⟨fr, hfr⟩ := Deep.choose_lt rr
        have k0 : v0 = .int .i64 (fr 0) := Option.some.inj (hfr 0 (by decide)).1
        have k1 : v1 = .int .i64 (fr 1) := Option.some.inj (hfr 1 (by decide)).1
        have k2 : v2 = .int .i64 (fr 2) := Option.some.inj (hfr 2 (by decide)).1
        have k3 : v3 = .int .i64 (fr 3) := Option.some.inj (hfr 3 (by decide)).1
        have k4 : v4 = .int .i64 (fr 4) := Option.some.inj (hfr 4 (by decide)).1
        have k5 : v5 = .int .i64 (fr 5) := Option.some.inj (hfr 5 (by decide)).1
        have k6 : v6 = .int .i64 (fr 6) := Option.some.inj (hfr 6 (by decide)).1
        have k7 : v7 = .int .i64 (fr 7) := Option.some.inj (hfr 7 (by decide)).1
        have k8 : v8 = .int .i64 (fr 8) := Option.some.inj (hfr 8 (by decide)).1
        have k9 : v9 = .int .i64 (fr 9) := Option.some.inj (hfr 9 (by decide)).1
        have k10 : v10 = .int .i64 (fr 10) := Option.some.inj (hfr 10 (by decide)).1
        have k11 : v11 = .int .i64 (fr 11) := Option.some.inj (hfr 11 (by decide)).1
        have k12 : v12 = .int .i64 (fr 12) := Option.some.inj (hfr 12 (by decide)).1
        have k13 : v13 = .int .i64 (fr 13) := Option.some.inj (hfr 13 (by decide)).1
        have k14 : v14 = .int .i64 (fr 14) := Option.some.inj (hfr 14 (by decide)).1
        have k15 : v15 = .int .i64 (fr 15) := Option.some.inj (hfr 15 (by decide)).1
        simp at e20 e21 e22 f0 f1 f2 f3
        subst e20 e21 e22 f0 f1 f2 f3
        have hx1 : d = .agg ([y0, y1, y2, y3, y4].map (·.1)) := congrArg Prod.fst hx
        rw [hx1] at hw
        have q := q3 (wt_part Try.underlying27 hw (j := 3) rfl rfl)
        have rb : reachBytes = 140737488351232 := by decide
        rw [rb] at q
        refine ⟨⟨(List.range 16).map fr, z, s, c, o, at_, g, st⟩, ra, rc, fun i => ⟨(g.getD i ⟨0, [], false⟩).by_.toArray⟩, ?_, ?_, ?_, ⟨?_, ?_, wf_i64 w20, ?_⟩, ?_⟩
        · rw [k0, k1, k2, k3, k4, k5, k6, k7, k8, k9, k10, k11, k12, k13, k14, k15]; rfl
        · rcases sg with h0 | ⟨b, off, e, he⟩
          · exact Or.inl h0
          · refine Or.inr ⟨b, off, e, fun i hi => ?_⟩
            obtain ⟨i1, c0, c1, c2⟩ := he i hi
            have hgd : g.getD i ⟨0, [], false⟩ = g[i] := by simp [List.getD, hi]
            have hi' : i < List.length g := hi
            refine ⟨c0, ?_, c2, ?_, i1, ?_⟩
            · show _ = some (Value.string ⟨(g.getD i ⟨0, [], false⟩).by_.toArray⟩)
              rw [hgd]; exact c1
            · show (⟨(g.getD i ⟨0, [], false⟩).by_.toArray⟩ : ByteArray).size = _
              rw [hgd]; simp [ByteArray.size]
            · exact q.2 _ (List.getElem_mem _)
        · intro i hi
          show (g.getD i ⟨0, [], false⟩).by_.toArray.toList = _
          have hi' : i < List.length g := hi
          simp [List.getD, hi']
        · simp
        · intro x hx'
          obtain ⟨i, hi, rfl⟩ := List.mem_map.1 hx'
          exact (hfr i (by simpa using hi)).2
        · intro r hr
          have hr' : r ∈ g := hr
          obtain ⟨i, hi, rfl⟩ := List.mem_iff_getElem.1 hr'
          rcases sg with h0 | ⟨b, off, e, he⟩
          · subst h0; cases hi
          · exact ⟨(he i hi).1, q.2 _ (List.getElem_mem _)⟩
        · show 32 * List.length g ≤ _
          have := q.1; omega
end
end Go.Proofs.Ytielpebokbolbaa
