/-
  A module that comes in: what lies in its memory; what its slices and strings may take at the most; no condition.
-/
import Derived.Test.YtamofhkmhjckaabGreatDoorTold
import Derived.Test.YtamofhkmhjckaabGreatDoorWalk16
import Derived.Test.YtamofhkmhjckaabGreatDoorRows
import Derived.ProofKit
import Derived.OpenShut
import Derived.Deep.Slices
import Derived.SizedLaws
namespace Go.Proofs.YtamofhkmhjckaabGreatDoor
open Go.ChangeShapes Go.WideShapes Go.ChangeAt Go.RowKit

theorem wf_i64 {x : Int} (h : (Lit.int .i64 x).wf = true) : I64 x := by
  simp [Lit.wf, IntKind.min, IntKind.max, IntKind.signed, IntKind.bits] at h
  exact ⟨by omega, by omega⟩
theorem cell_lt {w : World} {a : Addr} {v : Value} (h : w.cell? a = some v) : a.block < w.heap.size := by
  unfold World.cell? at h
  cases hb : w.heap[a.block]? with
  | none => rw [hb] at h; cases h
  | some o => exact (Array.getElem?_eq_some_iff.1 hb).1
theorem add_lit3 (b off i : Nat) : (⟨b, off, none⟩ : Addr).add i = ⟨b, off + i, none⟩ := by
  unfold Addr.add; split <;> simp_all
/-- what a datum takes lies in reach -/
def Wt {H : Type} (t : TypeId) (d : DataW H) : Prop := ∀ n ∈ DataW.weights Tryz.prog t d, n ≤ reachBytes
theorem wt_all {H : Type} {e : TypeId} {d : DataW H} {n : Nat} : ∀ {l : List (DataW H)}, d ∈ l → n ∈ DataW.weights Tryz.prog e d → n ∈ DataW.weightsAll Tryz.prog e l
  | x :: r, h, hn => by
    simp only [DataW.weightsAll, List.mem_append]
    rcases List.mem_cons.1 h with rfl | h
    · exact .inl hn
    · exact .inr (wt_all h hn)
theorem wt_part {H : Type} {t : TypeId} {fs : Array Field} (ht : Tryz.prog.underlying t = some (.struct fs)) {parts : List (DataW H)} (h : Wt t (.agg parts)) {j : Nat} {u : TypeId} {d : DataW H} (hu : (fs.toList.map (·.type))[j]? = some u) (hd : parts[j]? = some d) : Wt u d := by
  intro n hn
  refine h n ?_
  simp only [DataW.weights, ht]
  exact DataW.weights_mem_each hu hd n hn
/-- a function whose body has room for what it holds -/
def EFnC (S : Nat → Prop) (W : World) (b o : Nat) (x : Fn) : Prop := EFn S W b o x ∧ ∃ a c, W.cell? ⟨b, o + 3, none⟩ = some (.slice a x.body.length c) ∧ x.body.length ≤ c
theorem Sl.plain {S : Nat → Prop} {W : World} {v : Value} {l : List Fn} (h : Sl 4 EFnC S W v l) : Sl 4 EFn S W v l := by
  obtain ⟨a, c, e, he⟩ := h
  refine ⟨a, c, e, fun j hj => ?_⟩
  obtain ⟨b, off, e1, e2, e3⟩ := he j hj
  exact ⟨b, off, e1, e2, e3.1⟩
/-- Elements, by their opener. -/
theorem open_sl {α H : Type} {enc : TypeId × Value → H} {W : World} {t e : TypeId} {sz : Nat} (R : (Nat → Prop) → World → Nat → Nat → α → Prop) (G : α → Prop)
    (ht : Tryz.prog.underlying t = some (.slice e)) (hsz : Tryz.prog.cellsOf e = sz) (hp : 0 < sz)
    (op : ∀ n cs x b o, cs.length = sz → (∀ i v, cs[i]? = some v → W.cell? ⟨b, o + i, none⟩ = some v) → DataW.trod enc Tryz.prog W 0 (fun _ => true) true n e cs = some x → ∃ y, R (Lt W.heap.size) W b o y ∧ (Wt e x.1 → G y))
    {fuel : Nat} {cs : List Value} {x : DataW H × List MemPlace} (h : DataW.trod enc Tryz.prog W 0 (fun _ => true) true fuel t cs = some x) :
    ∃ v l, cs = [v] ∧ Sl sz R (Lt W.heap.size) W v l ∧ (∃ a c, v = .slice a l.length c ∧ l.length ≤ c) ∧ (Wt t x.1 → l.length * Tryz.prog.bytesOf e ≤ reachBytes ∧ ∀ y ∈ l, G y) := by
  rcases Deep.open_slice ht h with ⟨hcs, hx⟩ | ⟨a, len, cap, m, n, D, Pl, hcs, _, hl, hm, hmm, hx, hcell⟩
  · exact ⟨_, [], hcs, Sl.isNil _ _ _ _, ⟨_, _, rfl, Nat.le_refl _⟩, fun _ => ⟨by simp, by simp⟩⟩
  simp only [if_true] at hmm
  rcases Nat.eq_zero_or_pos len with h0 | h0
  · subst h0
    exact ⟨_, [], hcs, Sl.isNil _ _ _ _, ⟨_, _, rfl, Nat.zero_le _⟩, fun _ => ⟨by simp, by simp⟩⟩
  obtain ⟨b, off, spot⟩ := a
  have hspot : spot = none := by
    obtain ⟨cs', h1, _⟩ := hcell 0 (by omega)
    obtain ⟨_, hlen, hc⟩ := World.cells?_some h1
    have := hc 0 (by omega)
    rw [List.getElem?_eq_getElem (show 0 < cs'.length by omega)] at this
    simpa [Addr.add] using World.cell?_spot this
  subst hspot
  have each : ∀ i, i < len → ∃ y : α, (b < W.heap.size ∧ R (Lt W.heap.size) W b (off + i * sz) y) ∧ (Wt e (D i) → G y) := by
    intro i hi
    obtain ⟨cs', h1, h2⟩ := hcell i (by omega)
    rw [hsz] at h1
    obtain ⟨_, hlen, hc⟩ := World.cells?_some h1
    have hcc : ∀ j v, cs'[j]? = some v → W.cell? ⟨b, off + i * sz + j, none⟩ = some v := by
      intro j v hv
      have hj : j < sz := by rw [← hlen]; exact (List.getElem?_eq_some_iff.1 hv).1
      have := hc j hj
      rw [add_lit3, add_lit3] at this
      rw [this]; exact hv
    obtain ⟨y, hr, hq⟩ := op n cs' (D i, Pl i) b (off + i * sz) hlen hcc h2
    have hz : ∃ v, cs'[0]? = some v := ⟨cs'[0]'(by omega), List.getElem?_eq_getElem (by omega)⟩
    obtain ⟨v, hv⟩ := hz
    exact ⟨y, ⟨cell_lt (hcc 0 v hv), hr⟩, hq⟩
  haveI : Inhabited α := ⟨(each 0 h0).choose⟩
  obtain ⟨f, hf⟩ := Deep.choose_lt each
  have hx1 : x.1 = .slice ((List.range len).map D) ((List.range (m - len)).map fun j => D (len + j)) := congrArg Prod.fst hx
  refine ⟨_, (List.range len).map f, hcs, ⟨some ⟨b, off, none⟩, cap, by simp, fun j hj => ?_⟩, ⟨some ⟨b, off, none⟩, cap, by simp, by simpa using hl⟩, fun hw => ⟨?_, ?_⟩⟩
  · have hj' : j < len := by simpa using hj
    refine ⟨b, off, rfl, (hf j hj').1.1, ?_⟩
    simpa using (hf j hj').1.2
  · rw [hx1] at hw
    have := hw _ (by simp only [DataW.weights, ht]; exact List.mem_cons_self ..)
    simp only [List.length_map, List.length_range] at this ⊢
    exact Nat.le_trans (Nat.mul_le_mul_right _ (by omega)) this
  · intro y hy
    obtain ⟨j, hj, rfl⟩ := List.mem_map.1 hy
    have hj' : j < len := by simpa using hj
    refine (hf j hj').2 fun n hn => ?_
    rw [hx1] at hw
    refine hw n ?_
    simp only [DataW.weights, ht]
    exact List.mem_cons_of_mem _ (List.mem_append_left _ (wt_all (List.mem_map.2 ⟨j, by simpa using hj', rfl⟩) hn))
theorem Tryz.c3 : Tryz.prog.cellsOf 3 = 1 := by kernel_rfl
theorem Tryz.c4 : Tryz.prog.cellsOf 4 = 1 := by kernel_rfl
theorem Tryz.c9 : Tryz.prog.cellsOf 9 = 1 := by kernel_rfl
theorem Tryz.c22 : Tryz.prog.cellsOf 22 = 1 := by kernel_rfl
theorem Tryz.c23 : Tryz.prog.cellsOf 23 = 1 := by kernel_rfl
theorem Tryz.c24 : Tryz.prog.cellsOf 24 = 1 := by kernel_rfl
theorem Tryz.c25 : Tryz.prog.cellsOf 25 = 2 := by kernel_rfl
theorem Tryz.c26 : Tryz.prog.cellsOf 26 = 1 := by kernel_rfl
theorem Tryz.c27 : Tryz.prog.cellsOf 27 = 1 := by kernel_rfl
theorem Tryz.c36 : Tryz.prog.cellsOf 36 = 1 := by kernel_rfl
theorem Tryz.c42 : Tryz.prog.cellsOf 42 = 2 := by kernel_rfl
theorem Tryz.c38 : Tryz.prog.cellsOf 38 = 4 := by kernel_rfl
theorem Tryz.c44 : Tryz.prog.cellsOf 44 = 3 := by kernel_rfl
theorem Tryz.c50 : Tryz.prog.cellsOf 50 = 2 := by kernel_rfl
theorem Tryz.c35 : Tryz.prog.cellsOf 35 = 3 := by kernel_rfl
theorem Tryz.c29 : Tryz.prog.cellsOf 29 = 7 := by kernel_rfl
theorem Tryz.b3 : Tryz.prog.bytesOf 3 = 8 := by kernel_rfl
theorem Tryz.b42 : Tryz.prog.bytesOf 42 = 48 := by kernel_rfl
theorem Tryz.b38 : Tryz.prog.bytesOf 38 = 64 := by kernel_rfl
section
variable {H : Type} {enc : TypeId × Value → H} {W : World}
theorem op_int (n : Nat) (cs : List Value) (x : DataW H × List MemPlace) (b o : Nat) (_ : cs.length = 1) (hc : ∀ i v, cs[i]? = some v → W.cell? ⟨b, o + i, none⟩ = some v)
    (h : DataW.trod enc Tryz.prog W 0 (fun _ => true) true n 3 cs = some x) : ∃ y, EInt (Lt W.heap.size) W b o y ∧ (Wt 3 x.1 → True) := by
  obtain ⟨a, rfl, _, wa⟩ := DataW.trod_int Tryz.underlying3 h
  exact ⟨a, ⟨wf_i64 wa, hc 0 _ rfl⟩, fun _ => trivial⟩
theorem open_intsl {fuel : Nat} {cs : List Value} {x : DataW H × List MemPlace} (h : DataW.trod enc Tryz.prog W 0 (fun _ => true) true fuel 23 cs = some x) :
    ∃ v l, cs = [v] ∧ SInts W.heap.size W v l ∧ (Wt 23 x.1 → l.length * 8 ≤ reachBytes) := by
  obtain ⟨v, l, h1, h2, _, h3⟩ := open_sl EInt (fun _ => True) Tryz.underlying23 Tryz.c3 (by decide) op_int h
  rw [Tryz.b3] at h3
  exact ⟨v, l, h1, h2, fun h => (h3 h).1⟩
set_option maxRecDepth 100000 in
theorem op_in (n : Nat) (cs : List Value) (x : DataW H × List MemPlace) (b o : Nat) (hl : cs.length = 3) (hc : ∀ i v, cs[i]? = some v → W.cell? ⟨b, o + i, none⟩ = some v)
    (h : DataW.trod enc Tryz.prog W 0 (fun _ => true) true n 44 cs = some x) : ∃ y, EIn (Lt W.heap.size) W b o y ∧ (Wt 44 x.1 → True) := by
  obtain ⟨xs, k, _, _, _, hxl, hf⟩ := DataW.trod_struct Tryz.underlying44 h
  match cs, hl with
  | [v0, v1, v2], _ =>
    match xs, hxl with
    | [y0, y1, y2], _ =>
      have g0 := hf 0 _ rfl
      have g1 := hf 1 _ rfl
      have g2 := hf 2 _ rfl
      simp [Tryz.c3] at g0 g1 g2
      obtain ⟨a, e0, _, wa⟩ := DataW.trod_int Tryz.underlying3 g0
      obtain ⟨c, e1, _, wb⟩ := DataW.trod_int Tryz.underlying3 g1
      obtain ⟨d, e2, _, wc⟩ := DataW.trod_int Tryz.underlying3 g2
      simp at e0 e1 e2
      subst e0 e1 e2
      exact ⟨⟨a, c, d⟩, ⟨⟨wf_i64 wa, wf_i64 wb, wf_i64 wc⟩, hc 0 _ rfl, hc 1 _ rfl, hc 2 _ rfl⟩, fun _ => trivial⟩
theorem open_insl {fuel : Nat} {cs : List Value} {x : DataW H × List MemPlace} (h : DataW.trod enc Tryz.prog W 0 (fun _ => true) true fuel 36 cs = some x) :
    ∃ v l, cs = [v] ∧ SIns W.heap.size W v l ∧ ∃ a c, v = .slice a l.length c ∧ l.length ≤ c := by
  obtain ⟨v, l, h1, h2, h3, _⟩ := open_sl EIn (fun _ => True) Tryz.underlying36 Tryz.c44 (by decide) op_in h
  exact ⟨v, l, h1, h2, h3⟩
set_option maxRecDepth 100000 in
theorem op_sg (n : Nat) (cs : List Value) (x : DataW H × List MemPlace) (b o : Nat) (hl : cs.length = 2) (hc : ∀ i v, cs[i]? = some v → W.cell? ⟨b, o + i, none⟩ = some v)
    (h : DataW.trod enc Tryz.prog W 0 (fun _ => true) true n 42 cs = some x) : ∃ y, ESg (Lt W.heap.size) W b o y ∧ (Wt 42 x.1 → y.params.length * 8 ≤ reachBytes ∧ y.results.length * 8 ≤ reachBytes) := by
  obtain ⟨xs, k, _, hx, _, hxl, hf⟩ := DataW.trod_struct Tryz.underlying42 h
  match cs, hl with
  | [v0, v1], _ =>
    match xs, hxl with
    | [y0, y1], _ =>
      have g0 := hf 0 _ rfl
      have g1 := hf 1 _ rfl
      simp [Tryz.c23] at g0 g1
      obtain ⟨a, la, e0, sa, wa⟩ := open_intsl g0
      obtain ⟨c, lc, e1, sc, wc⟩ := open_intsl g1
      simp at e0 e1
      subst e0 e1
      have hx1 : x.1 = .agg ([y0, y1].map (·.1)) := congrArg Prod.fst hx
      rw [hx1]
      exact ⟨⟨la, lc⟩, ⟨_, _, hc 0 _ rfl, hc 1 _ rfl, sa, sc⟩, fun hw => ⟨wa (wt_part Tryz.underlying42 hw (j := 0) rfl rfl), wc (wt_part Tryz.underlying42 hw (j := 1) rfl rfl)⟩⟩
set_option maxRecDepth 100000 in
theorem op_fn (n : Nat) (cs : List Value) (x : DataW H × List MemPlace) (b o : Nat) (hl : cs.length = 4) (hc : ∀ i v, cs[i]? = some v → W.cell? ⟨b, o + i, none⟩ = some v)
    (h : DataW.trod enc Tryz.prog W 0 (fun _ => true) true n 38 cs = some x) : ∃ y, EFnC (Lt W.heap.size) W b o y ∧ (Wt 38 x.1 → True) := by
  obtain ⟨xs, k, _, _, _, hxl, hf⟩ := DataW.trod_struct Tryz.underlying38 h
  match cs, hl with
  | [v0, v1, v2, v3], _ =>
    match xs, hxl with
    | [y0, y1, y2, y3], _ =>
      have g0 := hf 0 _ rfl
      have g1 := hf 1 _ rfl
      have g2 := hf 2 _ rfl
      have g3 := hf 3 _ rfl
      simp [Tryz.c3, Tryz.c4, Tryz.c23, Tryz.c36] at g0 g1 g2 g3
      obtain ⟨s, e0, _, ws⟩ := DataW.trod_int Tryz.underlying3 g0
      obtain ⟨t, e1, _⟩ := DataW.trod_bool Tryz.underlying4 g1
      obtain ⟨a, la, e2, sa, _⟩ := open_intsl g2
      obtain ⟨c, lc, e3, sc, ac, cc, hcc, hle⟩ := open_insl g3
      simp at e0 e1 e2 e3
      subst e0 e1 e2 e3
      exact ⟨⟨s, t, la, lc⟩, ⟨⟨_, _, wf_i64 ws, hc 0 _ rfl, hc 1 _ rfl, hc 2 _ rfl, hc 3 _ rfl, sa, sc⟩, ac, cc, by rw [← hcc]; exact hc 3 _ rfl, hle⟩, fun _ => trivial⟩
set_option maxRecDepth 100000 in
theorem op_gl (n : Nat) (cs : List Value) (x : DataW H × List MemPlace) (b o : Nat) (hl : cs.length = 2) (hc : ∀ i v, cs[i]? = some v → W.cell? ⟨b, o + i, none⟩ = some v)
    (h : DataW.trod enc Tryz.prog W 0 (fun _ => true) true n 50 cs = some x) : ∃ y, EGl (Lt W.heap.size) W b o y ∧ (Wt 50 x.1 → True) := by
  obtain ⟨xs, k, _, _, _, hxl, hf⟩ := DataW.trod_struct Tryz.underlying50 h
  match cs, hl with
  | [v0, v1], _ =>
    match xs, hxl with
    | [y0, y1], _ =>
      have g0 := hf 0 _ rfl
      have g1 := hf 1 _ rfl
      simp [Tryz.c3] at g0 g1
      obtain ⟨a, e0, _, wa⟩ := DataW.trod_int Tryz.underlying3 g0
      obtain ⟨c, e1, _, wb⟩ := DataW.trod_int Tryz.underlying3 g1
      simp at e0 e1
      subst e0 e1
      exact ⟨⟨a, c⟩, ⟨⟨wf_i64 wa, wf_i64 wb⟩, hc 0 _ rfl, hc 1 _ rfl⟩, fun _ => trivial⟩
set_option maxRecDepth 100000 in
theorem op_da (n : Nat) (cs : List Value) (x : DataW H × List MemPlace) (b o : Nat) (hl : cs.length = 3) (hc : ∀ i v, cs[i]? = some v → W.cell? ⟨b, o + i, none⟩ = some v)
    (h : DataW.trod enc Tryz.prog W 0 (fun _ => true) true n 35 cs = some x) : ∃ y, EDa (Lt W.heap.size) W b o y ∧ (Wt 35 x.1 → y.bytes.length ≤ reachBytes) := by
  obtain ⟨xs, k, _, hx, _, hxl, hf⟩ := DataW.trod_struct Tryz.underlying35 h
  match cs, hl with
  | [v0, v1, v2], _ =>
    match xs, hxl with
    | [y0, y1, y2], _ =>
      have g0 := hf 0 _ rfl
      have g1 := hf 1 _ rfl
      have g2 := hf 2 _ rfl
      simp [Tryz.c3, Tryz.c9] at g0 g1 g2
      obtain ⟨a, e0, _, wa⟩ := DataW.trod_int Tryz.underlying3 g0
      obtain ⟨c, e1, _, wb⟩ := DataW.trod_int Tryz.underlying3 g1
      obtain ⟨s, e2, hy2, _⟩ := DataW.trod_string Tryz.underlying9 g2
      simp at e0 e1 e2
      subst e0 e1 e2
      have es : str s.data.toList = s := by simp [str]
      refine ⟨⟨a, c, s.data.toList⟩, ⟨⟨wf_i64 wa, wf_i64 wb⟩, hc 0 _ rfl, hc 1 _ rfl, ?_⟩, fun hw => ?_⟩
      · rw [es]; exact hc 2 _ rfl
      · have hx1 : x.1 = .agg ([y0, y1, y2].map (·.1)) := congrArg Prod.fst hx
        rw [hx1] at hw
        have h2 : Wt 9 y2.1 := wt_part Tryz.underlying35 hw (j := 2) rfl rfl
        rw [hy2] at h2
        exact h2 _ (by simp [DataW.weights])
/-- what comes in is not too great -/
structure MoSm (M : Mo) : Prop where
  sm : Small M
  da : ∀ d ∈ M.data, d.bytes.length ≤ 4611686018427387904
set_option maxRecDepth 100000 in
theorem open_mo {base : Nat} {v : Value} {d : DataW H} {p : List MemPlace} (hv : Value.okWide Tryz.prog W .any base 29 v) (h : DataW.Trod enc Tryz.prog W 0 (fun _ => true) true 29 v d p) :
    ∃ V M, v = moV V M ∧ IsMo W.heap.size W V M ∧ Sl 4 EFnC (Lt W.heap.size) W V.v2 M.funcs ∧ (Wt 29 d → MoSm M) := by
  obtain ⟨cs, rfl, hsz⟩ := okWide_struct Tryz.underlying29 hv
  rw [Tryz.c29] at hsz
  obtain ⟨fuel, hf0⟩ := h
  obtain ⟨xs, k, _, hx, _, hxl, hf⟩ := DataW.trod_struct Tryz.underlying29 hf0
  obtain ⟨l⟩ := cs
  match l, hsz with
  | [v0, v1, v2, v3, v4, v5, v6], _ =>
    match xs, hxl with
    | [y0, y1, y2, y3, y4, y5], _ =>
      have g0 := hf 0 _ rfl
      have g1 := hf 1 _ rfl
      have g2 := hf 2 _ rfl
      have g3 := hf 3 _ rfl
      have g4 := hf 4 _ rfl
      have g5 := hf 5 _ rfl
      simp [Value.cells, Tryz.c22, Tryz.c23, Tryz.c24, Tryz.c25, Tryz.c26, Tryz.c27] at g0 g1 g2 g3 g4 g5
      obtain ⟨a0, l0, e0, s0, _, q0⟩ := open_sl ESg (fun y => y.params.length * 8 ≤ reachBytes ∧ y.results.length * 8 ≤ reachBytes) Tryz.underlying22 Tryz.c42 (by decide) op_sg g0
      obtain ⟨a1, l1, e1, s1, q1⟩ := open_intsl g1
      obtain ⟨a2, l2, e2, s2, _, q2⟩ := open_sl EFnC (fun _ => True) Tryz.underlying24 Tryz.c38 (by decide) op_fn g2
      obtain ⟨a5, l5, e5, s5, _, _⟩ := open_sl EGl (fun _ => True) Tryz.underlying26 Tryz.c50 (by decide) op_gl g4
      obtain ⟨a6, l6, e6, s6, _, q6⟩ := open_sl EDa (fun y => y.bytes.length ≤ reachBytes) Tryz.underlying27 Tryz.c35 (by decide) op_da g5
      obtain ⟨zs, k2, _, _, _, hzl, hz⟩ := DataW.trod_array Tryz.underlying25 g3
      match zs, hzl with
      | [z0, z1], _ =>
        have i0 := hz 0 (by omega)
        have i1 := hz 1 (by omega)
        simp [Tryz.c3] at i0 i1
        obtain ⟨m0, f0, _, wm0⟩ := DataW.trod_int Tryz.underlying3 i0
        obtain ⟨m1, f1, _, wm1⟩ := DataW.trod_int Tryz.underlying3 i1
        simp at e0 e1 e2 e5 e6 f0 f1
        subst e0 e1 e2 e5 e6 f0 f1
        refine ⟨⟨v0, v1, v2, v5, v6⟩, ⟨l0, l1, l2, m0, m1, l5, l6⟩, rfl, ⟨s0, s1, s2.plain, ⟨wf_i64 wm0, wf_i64 wm1⟩, s5, s6⟩, s2, fun hw => ?_⟩
        have hx1 : d = .agg ([y0, y1, y2, y3, y4, y5].map (·.1)) := congrArg Prod.fst hx
        rw [hx1] at hw
        have rb : reachBytes < 2 ^ 47 := reachBytes_lt
        have r0 := q0 (wt_part Tryz.underlying29 hw (j := 0) rfl rfl)
        have r1 := q1 (wt_part Tryz.underlying29 hw (j := 1) rfl rfl)
        have r2 := q2 (wt_part Tryz.underlying29 hw (j := 2) rfl rfl)
        have r6 := q6 (wt_part Tryz.underlying29 hw (j := 5) rfl rfl)
        rw [Tryz.b42] at r0
        rw [Tryz.b38] at r2
        refine ⟨⟨fun g hg => ?_, ?_, ?_, ?_⟩, fun y hy => ?_⟩
        · have := r0.2 g hg; omega
        · show l1.length ≤ _; omega
        · show l2.length ≤ _; have := r2.1; omega
        · show l0.length ≤ _; have := r0.1; omega
        · have := r6.2 y hy; omega
end
end Go.Proofs.YtamofhkmhjckaabGreatDoor
