/-
  The program's closure in walked: one round over all places, from the end on.
-/
import Derived.Test.YtjgaaofpfepfhaaDoorBkp
import Derived.Test.YtjgaaofpfepfhaaDoorCalm
namespace Go.Proofs.YtjgaaofpfepfhaaDoor
open Go.RowKit Go.Shelf
set_option linter.unusedSimpArgs false
set_option linter.unusedVariables false
theorem wide_fn (f : FuncId) : Fence.wide.fn f = True := rfl
attribute [local go_sem] Oper.semAt_some wide_fn
/-- The places that may come behind each, what each reads and writes. -/
def sy (l : List Ir) : Sy := ⟨l.length, fun i => (nxt l i).map Int.toNat, fun i => rdS (l.getD i ir0), fun i => wrS (l.getD i ir0)⟩
theorem nxr_in {l : List Ir} {x : Ir} {i : Nat} : ∀ y ∈ nxr l x i, 0 ≤ y ∧ y < (l.length : Int) := fun y hy => by
  unfold nxr at hy
  split at hy
  · simp at hy
  · rw [List.mem_append] at hy
    rcases hy with hy | hy
    · split at hy
      · split at hy
        · rename_i p hp
          simp at hy
          subst hy
          obtain ⟨h, _⟩ := List.findIdx?_eq_some_iff_getElem.1 hp
          omega
        · simp at hy
      · simp at hy
    · split at hy
      · rename_i h
        simp at hy
        omega
      · simp at hy
theorem nxt_in {l : List Ir} {i : Nat} : ∀ y ∈ nxt l i, 0 ≤ y ∧ y < (l.length : Int) := fun y hy => nxr_in y ((sc_mem _ _).1 hy)
theorem sc_le (l : List Int) : (sc l).length ≤ l.length := by
  unfold sc Lib.compact Lib.compactUpTo
  rw [List.length_map]
  refine Nat.le_trans (List.length_filter_le _ _) ?_
  simp
theorem nxt_le (l : List Ir) (i : Nat) : (nxt l i).length ≤ 2 := Nat.le_trans (sc_le _) (nxr_len _ _ _)
theorem getD_mem {l : List Ir} {i : Nat} (h : i < l.length) : l.getD i ir0 ∈ l := by
  have : l.getD i ir0 = l[i] := by simp [List.getD, h]
  rw [this]; exact List.getElem_mem _
theorem sy_ok {l : List Ir} (h : Ok60 l) : (sy l).ok := by
  refine ⟨fun i hi p hp => ?_, fun i hi => h.rd (getD_mem hi), fun i hi => h.wr (getD_mem hi)⟩
  obtain ⟨y, hy, rfl⟩ := List.mem_map.1 hp
  have := nxt_in y hy
  show y.toNat < l.length
  omega
def oneB : TypeDesc → Bool
  | .struct _ | .array _ _ => false
  | _ => true
theorem dwn_all {len j : Nat} (h : j < len) : pl j ∈ dwn len len := by
  unfold dwn
  refine List.mem_map.2 ⟨len - 1 - j, List.mem_range.2 (by omega), ?_⟩
  rw [show len - 1 - (len - 1 - j) = j by omega]
theorem loadVar_one {P : Program} (t : TypeId) (d : TypeDesc) (w : World) (g : Nat) (v : Value) (hu : P.underlying t = some d) (hd : oneB d = true) (hc : w.cell? ⟨g, 0, none⟩ = some v) : (loadVar t ⟨g, 0, none⟩).run P w = .ok v w := by
  have hagg : (isAgg t).run P w = .ok false w := by
    unfold isAgg
    rw [Sem.run_bind, run_underlying hu w]
    cases d <;> simp_all [oneB]
  simp [loadVar, Sem.run_bind, hagg, load, Sem.run, hc]
theorem results_c {fn : Func} {p : Tmp} {t : TypeId} (d : TypeDesc) (h : fn.results = #[.cell p t]) (tmps : Array Value) (w : World) (g : Nat) (v : Value) (hp : tmps.getD p undef = .pointer (some ⟨g, 0, none⟩)) (hu : Tryd.prog.underlying t = some d) (hd : oneB d = true) (hc : w.cell? ⟨g, 0, none⟩ = some v) : (results fn tmps).run Tryd.prog w = .ok v w := by
  have hp' : tmps[p]?.getD undef = .pointer (some ⟨g, 0, none⟩) := by simpa using hp
  simp [results, h, hp', asAddr, loadVar_one t d w g v hu hd hc]
theorem results_cc {fn : Func} {p q : Tmp} {t : TypeId} (d : TypeDesc) (h : fn.results = #[.cell p t, .cell q t]) (tmps : Array Value) (w : World) (g k : Nat) (v u : Value) (hp : tmps.getD p undef = .pointer (some ⟨g, 0, none⟩)) (hq : tmps.getD q undef = .pointer (some ⟨k, 0, none⟩)) (hu : Tryd.prog.underlying t = some d) (hd : oneB d = true) (hc : w.cell? ⟨g, 0, none⟩ = some v) (hk : w.cell? ⟨k, 0, none⟩ = some u) : (results fn tmps).run Tryd.prog w = .ok (.tuple #[v, u]) w := by
  have hp' : tmps[p]?.getD undef = .pointer (some ⟨g, 0, none⟩) := by simpa using hp
  have hq' : tmps[q]?.getD undef = .pointer (some ⟨k, 0, none⟩) := by simpa using hq
  simp [results, h, hp', hq', asAddr, loadVar_one t d w g v hu hd hc, loadVar_one t d w k u hu hd hk]
/-- What the round works on. -/
structure WS (l : List Ir) (P Q1 Q2 pb rb ra : Nat) (vn : Nat → Value) (W : World) (A F : Nat → Nat) : Prop where
  lP : P < W.heap.size
  l1 : Q1 < W.heap.size
  l2 : Q2 < W.heap.size
  cP : W.cell? ⟨P, 0, none⟩ = some (.slice (some ⟨pb, 0, none⟩) l.length l.length)
  c1 : W.cell? ⟨Q1, 0, none⟩ = some (.slice (some ⟨rb, 0, none⟩) l.length l.length)
  c2 : W.cell? ⟨Q2, 0, none⟩ = some (.slice (some ⟨ra, 0, none⟩) l.length l.length)
  p : PRow pb l.length vn (sy l).rd (sy l).wr W
  y : ∀ i, i < l.length → Nv (pb + 1) (vn i) (nxt l i) W
  a : NRow ra l.length A W
  f : NRow rb l.length F W
  ap : ra < pb
  bp : rb < pb
  ab : ra ≠ rb
  nP : P ≠ ra ∧ P ≠ rb
  n1 : Q1 ≠ ra ∧ Q1 ≠ rb
  n2 : Q2 ≠ ra ∧ Q2 ≠ rb
section
variable {l : List Ir} {P Q1 Q2 pb rb ra : Nat} {vn : Nat → Value} {W W' : World} {A F A' F' : Nat → Nat}
theorem WS.bt {X : Nat → Prop} (h : WS l P Q1 Q2 pb rb ra vn W A F) (k : Bt X W W') (hX : ∀ b, X b → b = ra ∨ b = rb ∨ W.heap.size ≤ b) (ha : NRow ra l.length A' W') (hf : NRow rb l.length F' W') : WS l P Q1 Q2 pb rb ra vn W' A' F' := by
  have nX : ∀ b, b < W.heap.size → b ≠ ra → b ≠ rb → ¬ X b := fun b h1 h2 h3 hx => by
    rcases hX b hx with e | e | e
    · exact h2 e
    · exact h3 e
    · omega
  have s := k.size
  have h1 := h.ap
  have h2 := h.bp
  have hpl := h.p.lt
  refine ⟨Nat.lt_of_lt_of_le h.lP s, Nat.lt_of_lt_of_le h.l1 s, Nat.lt_of_lt_of_le h.l2 s, (k.cell h.lP (nX _ h.lP h.nP.1 h.nP.2) 0).trans h.cP, (k.cell h.l1 (nX _ h.l1 h.n1.1 h.n1.2) 0).trans h.c1, (k.cell h.l2 (nX _ h.l2 h.n2.1 h.n2.2) 0).trans h.c2, h.p.bt k (nX _ hpl (by omega) (by omega)), fun i hi => ?_, ha, hf, h.ap, h.bp, h.ab, h.nP, h.n1, h.n2⟩
  rcases h.y i hi with e | ⟨g, c, e, e1, e2, e3⟩
  · exact Or.inl e
  · exact Or.inr ⟨g, c, e, e1, Nat.lt_of_lt_of_le e2 s, fun j hj => (k.cell e2 (nX g e2 (by omega) (by omega)) j).trans (e3 j hj)⟩
end
def XW (ra rb c : Nat) (b : Nat) : Prop := b = ra ∨ b = rb ∨ b = c
/-- What a round brings. -/
def WkEnds (l : List Ir) (P Q1 Q2 pb rb ra : Nat) (vn : Nat → Value) (A : Nat → Nat) (w : World) (e : Ending) (w' : World) : Prop :=
  ∃ (ch : Bool) (A1 F1 : Nat → Nat), e = .returned (.bool ch) ∧ WS l P Q1 Q2 pb rb ra vn w' A1 F1 ∧ Bt (fun b => b = ra ∨ b = rb) w w' ∧ Inv (sy l) A1 F1 ∧ (ch = false → Sol (sy l) A1 F1) ∧ (ch = true → tot A l.length < tot A1 l.length)
set_option maxRecDepth 100000 in
set_option maxHeartbeats 6400000 in
theorem round_in (dp : Nat) (hdp : 3 ≤ dp) (l : List Ir) (P Q1 Q2 pb rb ra : Nat) (vn : Nat → Value) (A F : Nat → Nat) (w : World) (hl : l.length ≤ 1000) (ho : Ok60 l) (hv : ∀ i, ∃ a m c, vn i = .slice a m c) (h : WS l P Q1 Q2 pb rb ra vn w A F) (hi : Inv (sy l) A F) :
    CallsIn Fence.wide dp Tryd.prog 55 #[.pointer (some ⟨P, 0, none⟩), .pointer (some ⟨Q1, 0, none⟩), .pointer (some ⟨Q2, 0, none⟩)] w (WkEnds l P Q1 Q2 pb rb ra vn A w) := by
  have h1 : 1 ≤ dp := by omega
  have OK := hide (sy_ok ho)
  have H := hide h
  have HI := hide hi
  have HV := hide hv
  have hlP := h.lP
  have cP := h.cP
  clear h hi ho hv
  refine callsIn_of_wp_marks Tryd.func55 rfl trivial ?_ rfl
  simp only [Tryd.ntmps55, List.size_toArray, List.length_cons, List.length_nil, Nat.reduceAdd, Nat.reduceSub, Array.replicate_succ, Array.replicate_zero, List.push_toArray, List.append_toArray, List.nil_append, List.cons_append]
  gi_wp2_with (gi_at_call 56; refine (backwardp_in (dp - 1) _ _ _ _).mono ?_; rintro e w' ⟨rfl, rfl⟩)
  have bR := Boxed.new w 4 (.bool false)
  have bB := Boxed.new (w.alloc (.cells #[.bool false] 4)) 79 (.slice (some ⟨pb, 0, none⟩) l.length l.length)
  rw [World.size_alloc] at bB
  have bR2 := bR.alloc (.cells #[.slice (some ⟨pb, 0, none⟩) l.length l.length] 79)
  have hB0 : Below w.heap.size w ((w.alloc (.cells #[.bool false] 4)).alloc (.cells #[.slice (some ⟨pb, 0, none⟩) l.length l.length] 79)) := bel_al (bel_one _ _) _
  have hsz : ((w.alloc (.cells #[.bool false] 4)).alloc (.cells #[.slice (some ⟨pb, 0, none⟩) l.length l.length] 79)).heap.size = w.heap.size + 2 := by simp
  have H0 := H.out.bt (Bt.of (X := fun _ => False) hB0) (fun _ h => h.elim) (H.out.a.of (hB0.block _ H.out.a.lt)) (H.out.f.of (hB0.block _ H.out.f.lt))
  obtain ⟨W0, hW0⟩ : ∃ W0, ((w.alloc (.cells #[.bool false] 4)).alloc (.cells #[.slice (some ⟨pb, 0, none⟩) l.length l.length] 79)) = W0 := ⟨_, rfl⟩
  rw [hW0] at bB bR2 hB0 hsz H0 ⊢
  obtain ⟨c, hc⟩ : ∃ c, w.heap.size = c := ⟨_, rfl⟩
  rw [hc] at bB bR2 hsz ⊢
  have hra : ra < c := by rw [← hc]; exact H.out.a.lt
  have hrb : rb < c := by rw [← hc]; exact H.out.f.lt
  have hpb : pb < c := by rw [← hc]; exact H.out.p.lt
  have Hap := H.out.ap
  have Hbp := H.out.bp
  refine wpIn_rangeFunc_ownH rfl h1 (gf := 65) (lb := #[.pointer (some ⟨c + 1, 0, none⟩)]) rfl trivial (enters_of Tryd.func65 (by kernel_rfl) rfl)
    (backp_stops (dp - 1) (by omega) (XW ra rb c) (c + 1) pb (c + 2) l.length vn (sy l).rd (sy l).wr hl W0 (by omega) (by omega) (fun h => by rcases h with h | h | h <;> omega) bB.cell (by omega) (fun h => by rcases h with h | h | h <;> omega) H0.p) (fun h k => h.trans k) (kx_b (by omega)) (Below.refl _ _) (fun _ => rfl)
    (fun pre W => ∃ (ch : Bool) (A1 F1 : Nat → Nat), Pd (sy l) A (fun j => ∃ x ∈ pre, x.1 % l.length = j) ch A1 F1 ∧ NRow ra l.length A1 W ∧ NRow rb l.length F1 W ∧ W.cell? ⟨c, 0, none⟩ = some (.bool ch) ∧ W.frozen? ⟨c, 0, none⟩ = false ∧ Bt (XW ra rb c) W0 W)
    (fun _ _ _ => False)
    ?hI (fun _ _ _ _ _ hs _ _ => hs) ?h0
    (fun x a' W => ∃ Bx, c + 2 ≤ Bx ∧ W.heap[Bx]? = some (.cells #[vn (x.1 % l.length), .int .i64 (((sy l).rd (x.1 % l.length) : Nat) : Int), .int .i64 (((sy l).wr (x.1 % l.length) : Nat) : Int)] 85) ∧ a' = { tmps := (#[.pointer (some ⟨P, 0, none⟩), .pointer (some ⟨Q1, 0, none⟩), .pointer (some ⟨Q2, 0, none⟩), .pointer (some ⟨c, 0, none⟩), .int .i64 ((x.1 % l.length : Nat) : Int), .pointer (some ⟨Bx, 0, none⟩), undef, undef, undef, .slice (some ⟨pb, 0, none⟩) l.length l.length, .func (.func 65) #[] #[.pointer (some ⟨c + 1, 0, none⟩)], .int .i64 ((x.1 % l.length : Nat) : Int), .agg #[vn (x.1 % l.length), .int .i64 (((sy l).rd (x.1 % l.length) : Nat) : Int), .int .i64 (((sy l).wr (x.1 % l.length) : Nat) : Int)], undef, undef, undef, undef, undef, undef, undef, undef, undef, undef, undef, undef, undef, undef, undef, undef, undef, undef, undef, undef, undef, undef, undef, undef, undef, undef, undef, undef, undef, undef, undef, undef, undef, undef, undef, undef, undef, undef, undef, undef, undef, undef] : Array Value), defers := [] })
    ?hAx ?assign ?body ?done ?stop
  case hI =>
    rintro pre W W' row ⟨ch, A1, F1, q1, q2, q3, q4, q5, q6⟩ hg hr
    have hrow : ∀ b, b < c + 2 → some b ≠ row := fun b hb e => by have := (hr b e.symm).1; omega
    have hz := q6.size
    have eq : ∀ b, b < c + 2 → W'.heap[b]? = W.heap[b]? := fun b hb => hg.block b (by omega) (hrow b hb)
    refine ⟨ch, A1, F1, q1, q2.of (eq _ (by omega)), q3.of (eq _ (by omega)), ?_, ?_, ?_⟩
    · rw [← q4]; simp [World.cell?, eq c (by omega)]
    · rw [← q5]; simp [World.frozen?, eq c (by omega)]
    · exact ⟨hg.os.trans q6.os, hg.tape.trans q6.tape, hg.output.trans q6.output, Nat.le_trans q6.size hg.size, fun b hb hx => (eq b (by omega)).trans (q6.block b hb hx)⟩
  case h0 =>
    exact ⟨false, A, F, (Pd.start HI.out).mono (fun j h => by simp at h), H0.a, H0.f, bR2.cell, bR2.frozen, Bt.refl _ _⟩
  case hAx =>
    rintro x a' _ W W' row ⟨Bx, h1, h2, rfl⟩ hg hr
    refine ⟨Bx, h1, ?_, rfl⟩
    have hlt : Bx < W.heap.size := (Array.getElem?_eq_some_iff.1 h2).1
    refine (hg.block Bx hlt fun e => ?_).trans h2
    obtain ⟨_, o, ho, hcc⟩ := hr Bx e.symm
    rw [h2] at ho
    cases ho
    cases hcc
  case assign =>
    rintro lp pre x W K ⟨ch, A1, F1, q1, q2, q3, q4, q5, q6⟩ hK
    have hz := q6.size
    obtain ⟨av, mv, cv, hvn⟩ := HV.out (x.1 % l.length)
    unfold encP
    rw [hvn] at hK ⊢
    gi_wp2
    have b1 := bel_one W (.cells #[.slice av mv cv, .int .i64 (((sy l).rd (x.1 % l.length) : Nat) : Int), .int .i64 (((sy l).wr (x.1 % l.length) : Nat) : Int)] 85)
    exact hK _ _ ((KeepsOthers.alloc _ _).from _) (Kx.of (b1.mono (by omega))) ⟨ch, A1, F1, q1, q2.of (b1.block _ q2.lt), q3.of (b1.block _ q3.lt), (b1.cell (p := ⟨c, 0, none⟩) (by show c < _; omega)).trans q4, by rw [← q5]; simp [World.frozen?, b1.block c (by omega)], q6.bel b1⟩ ⟨W.heap.size, by omega, heap_alloc_new _ _, rfl⟩
  case body =>
    rintro lp pre x a' W hlp hrr ⟨ch, A1, F1, q1, q2, q3, q4, q5, q6⟩ ⟨Bx, hBx, hb, rfl⟩ hlt
    have hn : 0 < l.length := by omega
    obtain ⟨i, hi⟩ : ∃ i, x.1 % l.length = i := ⟨_, rfl⟩
    have hil : i < l.length := by rw [← hi]; exact Nat.mod_lt _ hn
    rw [hi] at hb ⊢
    have hz := q6.size
    have hXc : ∀ b, b < c → b ≠ ra → b ≠ rb → ¬ XW ra rb c b := fun b h1 h2 h3 h => by rcases h with h | h | h <;> omega
    have hP := H.out.nP
    have hQ1 := H.out.n1
    have hQ2 := H.out.n2
    have hl1 := H.out.l1
    have hl2 := H.out.l2
    rw [hc] at hl1 hl2
    have k1 := (q6.cell (b := Q1) (by omega) (hXc _ hl1 hQ1.1 hQ1.2) 0).trans H0.c1
    have k2 := (q6.cell (b := Q2) (by omega) (hXc _ hl2 hQ2.1 hQ2.2) 0).trans H0.c2
    obtain ⟨av, mv, cv, hvn⟩ := HV.out i
    have hNv := H.out.y i hil
    rw [hvn] at hNv hb
    obtain ⟨a2, c2, hf⟩ := hNv.form
    injection hf with ha hm hcv
    subst ha hm hcv
    have b0 : W.cell? ⟨Bx, 0, none⟩ = some (.slice av (nxt l i).length cv) := by simp [World.cell?, hb]
    have b1 : W.cell? ⟨Bx, 1, none⟩ = some (.int .i64 (((sy l).rd i : Nat) : Int)) := by simp [World.cell?, hb]
    have b2 : W.cell? ⟨Bx, 2, none⟩ = some (.int .i64 (((sy l).wr i : Nat) : Int)) := by simp [World.cell?, hb]
    have hBlt : Bx < W.heap.size := (Array.getElem?_eq_some_iff.1 hb).1
    rw [hvn]
    have hnl := nxt_le l i
    gi_wp2
    gi_loopw [7, 16] (fun _ s16 wr => ∃ (k : Nat) (G : Nat → Nat), k ≤ (nxt l i).length ∧ s16 = .int .i64 (k : Int) ∧ Hid (Gat (sy l) A1 F1 i k G) ∧ Hid (NRow rb l.length G wr) ∧ Hid (Bt (fun b => b = rb) W wr) ∧ Hid (KeepsOthers W wr)) (fun _ s16 _ => (nxt l i).length - (intOf s16).toNat)
    case atStart => exact ⟨0, F1, Nat.zero_le _, rfl, Gat.start q1.inv, q3, Bt.refl _ _, KeepsOthers.refl _⟩
    case round =>
      obtain ⟨k, G, hk, rfl, HG, HN, HT, HKO⟩ := hrel
      have hnb : ∀ b, b ≠ rb → ¬ b = rb := fun b h => h
      have hz2 := HT.out.size
      have r0 := (HT.out.cell (b := Bx) hBlt (by omega) 0).trans b0
      have r1 := (HT.out.cell (b := Bx) hBlt (by omega) 1).trans b1
      have r2 := (HT.out.cell (b := Bx) hBlt (by omega) 2).trans b2
      have s1 := (HT.out.cell (b := Q1) (by omega) hQ1.2 0).trans k1
      have s2 := (HT.out.cell (b := Q2) (by omega) hQ2.2 0).trans k2
      have s4 := (HT.out.cell (b := c) (by omega) (by omega) 0).trans q4
      have s5 : wr.frozen? ⟨c, 0, none⟩ = false := by rw [← q5]; simp [World.frozen?, HT.out.block c (by omega) (by omega)]
      have NA := q2.bt HT.out H0.ab
      have hil2 : (i : Int) < (l.length : Int) := by omega
      have hi0 : (0 : Int) ≤ (i : Int) := by omega
      have hGi := HN.out.c i hil
      have hGf := HN.out.f i
      have hmi : (sy l).n = l.length := rfl
      have hGl : G i < lim := HG.out.inv.lf i hil
      by_cases hkl : k < (nxt l i).length
      · rcases hNv with ⟨hNv, _⟩ | ⟨g, c2, e, hg1, hg2, hg3⟩
        · rw [hNv] at hkl; simp at hkl
        injection e with ea _ ec
        subst ea ec
        rw [hc] at hg2
        have hgX : ¬ XW ra rb c g := fun h => by rcases h with h | h | h <;> omega
        have hgw : W0.cell? ⟨g, k, none⟩ = some (.int .i64 (nxt l i)[k]) := (hB0.cell (p := ⟨g, k, none⟩) (by show g < w.heap.size; omega)).trans (hg3 k hkl)
        have hgy := ((HT.out.cell (b := g) (by omega) (by omega) k).trans ((q6.cell (b := g) (by omega) hgX k).trans hgw))
        have hyr := nxt_in (l := l) (i := i) _ (List.getElem_mem hkl)
        obtain ⟨p, hp⟩ : ∃ p : Nat, (nxt l i)[k] = (p : Int) := ⟨(nxt l i)[k].toNat, by omega⟩
        have hpl : p < l.length := by omega
        have hpl2 : (p : Int) < (l.length : Int) := by omega
        have hp0 : (0 : Int) ≤ (p : Int) := by omega
        have hklx : k < ((sy l).nx i).length := by show k < ((nxt l i).map Int.toNat).length; simpa using hkl
        have hsx : ((sy l).nx i)[k] = p := by
          have : ((nxt l i).map Int.toNat)[k]'(by simpa using hkl) = p := by rw [List.getElem_map, hp]; rfl
          exact this
        rw [hp] at hgy
        have hAp := NA.c p hpl
        have hbits := bits_or hGl (q1.inv.la p hpl)
        have GN := hide (HG.out.next OK.out hil hklx)
        rw [hsx] at GN
        have NN := hide (HN.out.set hil (G i ||| A1 p))
        have TT := hide (HT.out.set (X := fun b => b = rb) rfl i (.int .i64 ((G i ||| A1 p : Nat) : Int)))
        have KK := hide (HKO.out.trans (KeepsOthers.setCell wr ⟨rb, i, none⟩ (.int .i64 ((G i ||| A1 p : Nat) : Int))))
        clear hgw hyr hp hsx hklx HG HN HT HKO hGl NA hg3
        generalize G i ||| A1 p = Z at *
        generalize hGi2 : G i = Gi at *
        generalize A1 p = Ap at *
        gi_wp2
        rename_i hNext hLen
        refine region_calm (S := fun X => X.cell? ⟨Q1, 0, none⟩ = some (.slice (some ⟨rb, 0, none⟩) l.length l.length) ∧ X.cell? ⟨Q2, 0, none⟩ = some (.slice (some ⟨ra, 0, none⟩) l.length l.length) ∧ X.cell? ⟨ra, p, none⟩ = some (.int .i64 (Ap : Int))) (by kernel_rfl) (by kernel_rfl) ⟨s1, s2, hAp⟩ ?_
        intro hHeld
        change wpAnyH _ _ _ _ _ _ _ _ (World.drew _)
        refine wpAnyH_take (i := 0) (v := ?_) rfl (by kernel_rfl) (by kernel_rfl) (by kernel_rfl) (fun _ _ _ h => h) (Or.inl ⟨by kernel_rfl, ?hy⟩) (by assumption) ?_
        case hy => intro w hSw; (try dsimp only at hSw); go_simp; try with_reducible rfl
        simp only [Act.put, List.setIfInBounds_toArray, List.set_cons_zero, List.set_cons_succ]
        refine wpAnyH_take (i := 1) (v := ?_) rfl (by kernel_rfl) (by kernel_rfl) (by kernel_rfl) (fun _ _ _ h => h) (Or.inl ⟨by kernel_rfl, ?hy⟩) (by assumption) ?_
        case hy => intro w hSw; (try dsimp only at hSw); go_simp; try with_reducible rfl
        simp only [Act.put, List.setIfInBounds_toArray, List.set_cons_zero, List.set_cons_succ]
        refine wpAnyH_take (i := 2) (v := ?_) rfl (by kernel_rfl) (by kernel_rfl) (by kernel_rfl) (fun _ _ _ h => h) (Or.inl ⟨by kernel_rfl, ?hy⟩) (by assumption) ?_
        case hy => intro w hSw; (try dsimp only at hSw); go_simp; try with_reducible rfl
        simp only [Act.put, List.setIfInBounds_toArray, List.set_cons_zero, List.set_cons_succ]
        refine wpAnyH_take (i := 4) (v := ?_) rfl (by kernel_rfl) (by kernel_rfl) (by kernel_rfl) (fun _ _ _ h => h) (Or.inl ⟨by kernel_rfl, ?hy⟩) (by assumption) ?_
        case hy => intro w hSw; (try dsimp only at hSw); go_simp; try with_reducible rfl
        simp only [Act.put, List.setIfInBounds_toArray, List.set_cons_zero, List.set_cons_succ]
        refine wpAnyH_take (i := 5) (v := ?_) rfl (by kernel_rfl) (by kernel_rfl) (by kernel_rfl) (fun _ _ _ h => h) (Or.inl ⟨by kernel_rfl, ?hy⟩) (by assumption) ?_
        case hy => intro w hSw; (try dsimp only at hSw); go_simp; try with_reducible rfl
        simp only [Act.put, List.setIfInBounds_toArray, List.set_cons_zero, List.set_cons_succ]
        refine wpAnyH_take (i := 6) (v := ?_) rfl (by kernel_rfl) (by kernel_rfl) (by kernel_rfl) (fun _ _ _ h => h) (Or.inl ⟨by kernel_rfl, ?hy⟩) (by assumption) ?_
        case hy => intro w hSw; (try dsimp only at hSw); go_simp; try with_reducible rfl
        simp only [Act.put, List.setIfInBounds_toArray, List.set_cons_zero, List.set_cons_succ]
        refine wpAnyH_take (i := 7) (v := ?_) rfl (by kernel_rfl) (by kernel_rfl) (by kernel_rfl) (fun _ _ _ h => h) (Or.inl ⟨by kernel_rfl, ?hy⟩) (by assumption) ?_
        case hy => intro w hSw; (try dsimp only at hSw); go_simp; try with_reducible rfl
        simp only [Act.put, List.setIfInBounds_toArray, List.set_cons_zero, List.set_cons_succ]
        refine wpAnyH_ready (rs := [3]) (by kernel_rfl) (by simp) ?_
        refine AllReadyH.cons rfl (fun K hK => ?_) AllReadyH.nil
        go_simp
        refine hK.out _ _ hHeld (fun hHeld => ?_)
        clear hK K
        refine wpAnyH_take (i := 8) (v := ?_) rfl (by kernel_rfl) (by kernel_rfl) (by kernel_rfl) (fun _ _ _ h => h) (Or.inl ⟨by kernel_rfl, ?hy⟩) (by assumption) ?_
        case hy => intro w hSw; (try dsimp only at hSw); go_simp; try with_reducible rfl
        simp only [Act.put, List.setIfInBounds_toArray, List.set_cons_zero, List.set_cons_succ]
        refine wpAnyH_take (i := 9) (v := ?_) rfl (by kernel_rfl) (by kernel_rfl) (by kernel_rfl) (fun _ _ _ h => h) (Or.inl ⟨by kernel_rfl, ?hy⟩) (by assumption) ?_
        case hy => intro w hSw; (try dsimp only at hSw); go_simp; try with_reducible rfl
        simp only [Act.put, List.setIfInBounds_toArray, List.set_cons_zero, List.set_cons_succ]
        refine wpAnyH_ready (rs := [10]) (by kernel_rfl) (by simp) ?_
        refine AllReadyH.cons rfl (fun K hK => ?_) AllReadyH.nil
        go_simp
        have hh : ∀ (p : Nat) (k : Nat) (v : Value), p ≠ rb → (wr.drew.cell? ⟨p, k, none⟩ = some v) → (wr.setCell ⟨rb, i, none⟩ (.int .i64 (Z : Int))).drew.cell? ⟨p, k, none⟩ = some v := fun p k v hp hv => by
          have e : (wr.setCell ⟨rb, i, none⟩ (.int .i64 (Z : Int))).heap[p]? = wr.heap[p]? := Below.heap_setCell wr ⟨rb, i, none⟩ _ p hp
          rw [← hv]
          show (wr.setCell ⟨rb, i, none⟩ (.int .i64 (Z : Int))).cell? _ = wr.cell? _
          simp only [World.cell?, e]
        refine hK.out _ _ ⟨hh _ _ _ hQ1.2 hHeld.1, hh _ _ _ hQ2.2 hHeld.2.1, hh _ _ _ H0.ab hHeld.2.2⟩ (fun hHeld => ?_)
        clear hK K
        refine wpAnyH_done (by kernel_rfl) ?_ _
        refine hNext _ _ ?_
        gi_wp2
        go_roundw
        case rel =>
          exact ⟨k + 1, upd G i Z, by omega, by go_num, GN, ⟨NN.out.lt, NN.out.c, NN.out.f⟩, TT.out.drew, KK.out.trans (KeepsOthers.drew _)⟩
        case measure =>
          simp [intOf]; omega
      · have hkl2 : k = (nxt l i).length := by omega
        subst hkl2
        have GA := hide (HG.out.all (by simp [sy]))
        gi_wp2
        rename_i hNext
        have hGil : G i < lim := hGl
        have hrdl := OK.out.rd i hil
        have hwrl := OK.out.wr i hil
        have hdn := bits_dn hGil hwrl
        have hor := bits_or hrdl (dn_lim hGil hwrl)
        refine region_calm (S := fun X => X.cell? ⟨Q1, 0, none⟩ = some (.slice (some ⟨rb, 0, none⟩) l.length l.length) ∧ X.cell? ⟨rb, i, none⟩ = some (.int .i64 ((G i : Nat) : Int)) ∧ X.cell? ⟨Bx, 1, none⟩ = some (.int .i64 (((sy l).rd i : Nat) : Int)) ∧ X.cell? ⟨Bx, 2, none⟩ = some (.int .i64 (((sy l).wr i : Nat) : Int))) (by kernel_rfl) (by kernel_rfl) ⟨s1, hGi, r1, r2⟩ ?_
        intro hHeld
        change wpAnyH _ _ _ _ _ _ _ _ (World.drew _)
        refine wpAnyH_take (i := 0) (v := ?_) rfl (by kernel_rfl) (by kernel_rfl) (by kernel_rfl) (fun _ _ _ h => h) (Or.inl ⟨by kernel_rfl, ?hy⟩) (by assumption) ?_
        case hy => intro w hSw; (try dsimp only at hSw); go_simp; try with_reducible rfl
        simp only [Act.put, List.setIfInBounds_toArray, List.set_cons_zero, List.set_cons_succ]
        refine wpAnyH_take (i := 1) (v := ?_) rfl (by kernel_rfl) (by kernel_rfl) (by kernel_rfl) (fun _ _ _ h => h) (Or.inl ⟨by kernel_rfl, ?hy⟩) (by assumption) ?_
        case hy => intro w hSw; (try dsimp only at hSw); go_simp; try with_reducible rfl
        simp only [Act.put, List.setIfInBounds_toArray, List.set_cons_zero, List.set_cons_succ]
        refine wpAnyH_take (i := 2) (v := ?_) rfl (by kernel_rfl) (by kernel_rfl) (by kernel_rfl) (fun _ _ _ h => h) (Or.inl ⟨by kernel_rfl, ?hy⟩) (by assumption) ?_
        case hy => intro w hSw; (try dsimp only at hSw); go_simp; try with_reducible rfl
        simp only [Act.put, List.setIfInBounds_toArray, List.set_cons_zero, List.set_cons_succ]
        refine wpAnyH_take (i := 3) (v := ?_) rfl (by kernel_rfl) (by kernel_rfl) (by kernel_rfl) (fun _ _ _ h => h) (Or.inl ⟨by kernel_rfl, ?hy⟩) (by assumption) ?_
        case hy => intro w hSw; (try dsimp only at hSw); go_simp; try with_reducible rfl
        simp only [Act.put, List.setIfInBounds_toArray, List.set_cons_zero, List.set_cons_succ]
        refine wpAnyH_take (i := 4) (v := ?_) rfl (by kernel_rfl) (by kernel_rfl) (by kernel_rfl) (fun _ _ _ h => h) (Or.inl ⟨by kernel_rfl, ?hy⟩) (by assumption) ?_
        case hy => intro w hSw; (try dsimp only at hSw); go_simp; try with_reducible rfl
        simp only [Act.put, List.setIfInBounds_toArray, List.set_cons_zero, List.set_cons_succ]
        refine wpAnyH_take (i := 5) (v := ?_) rfl (by kernel_rfl) (by kernel_rfl) (by kernel_rfl) (fun _ _ _ h => h) (Or.inl ⟨by kernel_rfl, ?hy⟩) (by assumption) ?_
        case hy => intro w hSw; (try dsimp only at hSw); go_simp; try with_reducible rfl
        simp only [Act.put, List.setIfInBounds_toArray, List.set_cons_zero, List.set_cons_succ]
        refine wpAnyH_take (i := 6) (v := ?_) rfl (by kernel_rfl) (by kernel_rfl) (by kernel_rfl) (fun _ _ _ h => h) (Or.inl ⟨by kernel_rfl, ?hy⟩) (by assumption) ?_
        case hy => intro w hSw; (try dsimp only at hSw); go_simp; try with_reducible rfl
        simp only [Act.put, List.setIfInBounds_toArray, List.set_cons_zero, List.set_cons_succ]
        refine wpAnyH_take (i := 7) (v := ?_) rfl (by kernel_rfl) (by kernel_rfl) (by kernel_rfl) (fun _ _ _ h => h) (Or.inl ⟨by kernel_rfl, ?hy⟩) (by assumption) ?_
        case hy => intro w hSw; (try dsimp only at hSw); go_simp; try with_reducible rfl
        simp only [Act.put, List.setIfInBounds_toArray, List.set_cons_zero, List.set_cons_succ]
        refine wpAnyH_take (i := 8) (v := ?_) rfl (by kernel_rfl) (by kernel_rfl) (by kernel_rfl) (fun _ _ _ h => h) (Or.inl ⟨by kernel_rfl, ?hy⟩) (by assumption) ?_
        case hy => intro w hSw; (try dsimp only at hSw); go_simp; try with_reducible rfl
        simp only [Act.put, List.setIfInBounds_toArray, List.set_cons_zero, List.set_cons_succ]
        refine wpAnyH_take (i := 9) (v := ?_) rfl (by kernel_rfl) (by kernel_rfl) (by kernel_rfl) (fun _ _ _ h => h) (Or.inl ⟨by kernel_rfl, ?hy⟩) (by assumption) ?_
        case hy => intro w hSw; (try dsimp only at hSw); go_simp; try with_reducible rfl
        simp only [Act.put, List.setIfInBounds_toArray, List.set_cons_zero, List.set_cons_succ]
        refine wpAnyH_take (i := 10) (v := ?_) rfl (by kernel_rfl) (by kernel_rfl) (by kernel_rfl) (fun _ _ _ h => h) (Or.inl ⟨by kernel_rfl, ?hy⟩) (by assumption) ?_
        case hy => intro w hSw; (try dsimp only at hSw); go_simp; try with_reducible rfl
        simp only [Act.put, List.setIfInBounds_toArray, List.set_cons_zero, List.set_cons_succ]
        refine wpAnyH_done (by kernel_rfl) ?_ _
        refine hNext _ _ ?_
        have v2 : wr.drew.cell? ⟨Q2, 0, none⟩ = _ := s2
        have vA : wr.drew.cell? ⟨ra, i, none⟩ = _ := NA.c i hil
        have vAf : wr.drew.frozen? ⟨ra, i, none⟩ = false := NA.f i
        have v4 : wr.drew.cell? ⟨c, 0, none⟩ = _ := s4
        have v5 : wr.drew.frozen? ⟨c, 0, none⟩ = false := s5
        have vA2 : NRow ra l.length A1 wr.drew := ⟨NA.lt, NA.c, NA.f⟩
        have vN : NRow rb l.length G wr.drew := ⟨HN.out.lt, HN.out.c, HN.out.f⟩
        have vT : Bt (fun b => b = rb) W wr.drew := HT.out.drew
        have vK : KeepsOthers W wr.drew := HKO.out.trans (KeepsOthers.drew _)
        have vcl : c < wr.drew.heap.size := by show c < wr.heap.size; omega
        have PN := hide (q1.next OK.out hil HG.out.inv HG.out.ot GA.out)
        have VA := hide vA2
        have VN := hide vN
        have VT := hide vT
        have VK := hide vK
        unfold lv at PN
        clear vA2 vN vT vK s2 s4 s5 NA HN HT HKO HG GA hHeld s1 hGi r0 r1 r2 hGf
        generalize wr.drew = V at *
        obtain ⟨Lv, hLv⟩ : ∃ Lv, (sy l).rd i ||| dn (G i) ((sy l).wr i) = Lv := ⟨_, rfl⟩
        rw [hLv] at PN ⊢
        have END : ∀ ch' : Bool, ch' = (ch || (Lv != A1 i)) → KeepsFrom W0.heap.size W ((V.setCell ⟨c, 0, none⟩ (.bool ch')).setCell ⟨ra, i, none⟩ (.int .i64 (Lv : Int))) ∧ Kx (XW ra rb c) (c + 2) W ((V.setCell ⟨c, 0, none⟩ (.bool ch')).setCell ⟨ra, i, none⟩ (.int .i64 (Lv : Int))) ∧ ∃ (ch : Bool) (A1 F1 : Nat → Nat), Pd (sy l) A (fun j => ∃ y ∈ pre ++ [x], y.1 % l.length = j) ch A1 F1 ∧ NRow ra l.length A1 ((V.setCell ⟨c, 0, none⟩ (.bool ch')).setCell ⟨ra, i, none⟩ (.int .i64 (Lv : Int))) ∧ NRow rb l.length F1 ((V.setCell ⟨c, 0, none⟩ (.bool ch')).setCell ⟨ra, i, none⟩ (.int .i64 (Lv : Int))) ∧ ((V.setCell ⟨c, 0, none⟩ (.bool ch')).setCell ⟨ra, i, none⟩ (.int .i64 (Lv : Int))).cell? ⟨c, 0, none⟩ = some (.bool ch) ∧ ((V.setCell ⟨c, 0, none⟩ (.bool ch')).setCell ⟨ra, i, none⟩ (.int .i64 (Lv : Int))).frozen? ⟨c, 0, none⟩ = false ∧ Bt (XW ra rb c) W0 ((V.setCell ⟨c, 0, none⟩ (.bool ch')).setCell ⟨ra, i, none⟩ (.int .i64 (Lv : Int))) := by
          rintro ch' rfl
          have eB : ∀ b, b ≠ c → b ≠ ra → ((V.setCell ⟨c, 0, none⟩ (.bool (ch || (Lv != A1 i)))).setCell ⟨ra, i, none⟩ (.int .i64 (Lv : Int))).heap[b]? = V.heap[b]? := fun b h1 h2 => (Below.heap_setCell _ ⟨ra, i, none⟩ _ b h2).trans (Below.heap_setCell V ⟨c, 0, none⟩ _ b h1)
          have nA : NRow ra l.length A1 (V.setCell ⟨c, 0, none⟩ (.bool (ch || (Lv != A1 i)))) := VA.out.of (Below.heap_setCell V ⟨c, 0, none⟩ _ ra (by show ra ≠ c; omega))
          have kX : Bt (XW ra rb c) W ((V.setCell ⟨c, 0, none⟩ (.bool (ch || (Lv != A1 i)))).setCell ⟨ra, i, none⟩ (.int .i64 (Lv : Int))) := ((VT.out.mono (Y := XW ra rb c) (fun b e => Or.inr (Or.inl e))).set (Or.inr (Or.inr rfl)) 0 _).set (Or.inl rfl) i _
          refine ⟨((VK.out.trans (KeepsOthers.setCell V ⟨c, 0, none⟩ _)).trans (KeepsOthers.setCell _ ⟨ra, i, none⟩ _)).from _, fun b hb hx => kX.block b (by omega) hx, _, _, _, PN.out.mono ?_, nA.set hil Lv, VN.out.of (eB rb (by omega) (Ne.symm H0.ab)), ?_, ?_, q6.trans kX⟩
          · rintro j ⟨y, hy, rfl⟩
            rw [List.mem_append, List.mem_singleton] at hy
            rcases hy with hy | rfl
            · exact Or.inl ⟨y, hy, rfl⟩
            · exact Or.inr hi
          · have : ((V.setCell ⟨c, 0, none⟩ (.bool (ch || (Lv != A1 i)))).setCell ⟨ra, i, none⟩ (.int .i64 (Lv : Int))).heap[c]? = (V.setCell ⟨c, 0, none⟩ (.bool (ch || (Lv != A1 i)))).heap[c]? := Below.heap_setCell _ ⟨ra, i, none⟩ _ c (by show c ≠ ra; omega)
            have h2 : (V.setCell ⟨c, 0, none⟩ (.bool (ch || (Lv != A1 i)))).cell? ⟨c, 0, none⟩ = some (.bool (ch || (Lv != A1 i))) := World.cell?_setCell_same' _ _ _ (by rw [v4]; rfl)
            rw [← h2]; simp only [World.cell?, this]
          · rw [World.frozen?_setCell, World.frozen?_setCell]; exact v5
        by_cases hne : Lv = A1 i
        · cases ch
          · gi_wp2
            have E := END false (by simp [hne])
            rw [hne] at E
            exact E
          · gi_wp2
            have E := END true (by simp [hne])
            rw [hne] at E
            exact E
        · have hneI : (((Lv : Nat) : Int) != ((A1 i : Nat) : Int)) = true := by simp; exact_mod_cast hne
          cases ch
          · gi_wp2
            have E := END true (by simp [hne])
            exact E
          · gi_wp2
            exact END true (by simp [hne])
  case done =>
    rintro D ys W hD rfl ⟨ch, A1, F1, q1, q2, q3, q4, q5, q6⟩ hK
    have hz := q6.size
    have hcD : c ≠ D := by omega
    gi_wp2
    have hK2 : (W.setCell ⟨c, 0, none⟩ (.bool ch)).heap[D]? = some (.deferred (some [])) := (Below.heap_setCell W ⟨c, 0, none⟩ _ D (by show D ≠ c; omega)).trans hK
    have hbl : ∀ b, b < c → ((W.setCell ⟨c, 0, none⟩ (.bool ch)).putObj D (.deferred none)).heap[b]? = W.heap[b]? := fun b hb => ((grownBy_putObj' (W.setCell ⟨c, 0, none⟩ (.bool ch)) D (.deferred none)).block b (by simp [World.setCell]; omega) (by intro e; cases e; omega)).trans (Below.heap_setCell W ⟨c, 0, none⟩ _ b (by show b ≠ c; omega))
    have hcc : ((W.setCell ⟨c, 0, none⟩ (.bool ch)).putObj D (.deferred none)).heap[c]? = (W.setCell ⟨c, 0, none⟩ (.bool ch)).heap[c]? := (grownBy_putObj' (W.setCell ⟨c, 0, none⟩ (.bool ch)) D (.deferred none)).block c (by simp [World.setCell]; omega) (by intro e; cases e; omega)
    have hcell : ((W.setCell ⟨c, 0, none⟩ (.bool ch)).putObj D (.deferred none)).cell? ⟨c, 0, none⟩ = some (.bool ch) := by
      have h2 : (W.setCell ⟨c, 0, none⟩ (.bool ch)).cell? ⟨c, 0, none⟩ = some (.bool ch) := World.cell?_setCell_same' _ _ _ (by rw [q4]; rfl)
      rw [← h2]; simp only [World.cell?, hcc]
    have G := grownBy_putObj' (W.setCell ⟨c, 0, none⟩ (.bool ch)) D (.deferred none)
    have hBt : Bt (fun b => b = ra ∨ b = rb) w ((W.setCell ⟨c, 0, none⟩ (.bool ch)).putObj D (.deferred none)) := by
      refine ⟨G.os.trans (q6.os.trans hB0.os), G.tape.trans (q6.tape.trans hB0.tape), G.output.trans (q6.output.trans hB0.output), ?_, fun b hb hx => (hbl b (by omega)).trans ((q6.block b (by omega) (fun h => ?_)).trans (hB0.block b hb))⟩
      · have := G.size
        have h3 : (W.setCell ⟨c, 0, none⟩ (.bool ch)).heap.size = W.heap.size := by simp [World.setCell]
        omega
      · rcases h with h | h | h
        · exact hx (Or.inl h)
        · exact hx (Or.inr h)
        · omega
    refine ⟨by simp, .inl ⟨_, _, rfl, run_takeDeferred hK2, ?_⟩⟩
    refine ⟨_, results_c (g := c) (v := .bool ch) (t := 4) _ rfl _ _ rfl Tryd.underlying4 rfl hcell, ch, A1, F1, rfl, ?_, hBt, q1.inv, fun e => ?_, fun e => q1.yes e⟩
    · exact H.out.bt hBt (fun b h => by rcases h with h | h <;> simp [h]) (q2.of (hbl ra (by omega))) (q3.of (hbl rb (by omega)))
    · subst e
      refine q1.sol fun j hj => ?_
      have hj' : j < l.length := hj
      refine ⟨pl j, dwn_all hj', ?_⟩
      show j % 1024 % l.length = j
      rw [Nat.mod_eq_of_lt (show j < 1024 by omega)]
      exact Nat.mod_eq_of_lt hj'
  case stop =>
    rintro D c pre W _ _ h _
    exact h.elim
end Go.Proofs.YtjgaaofpfepfhaaDoor
