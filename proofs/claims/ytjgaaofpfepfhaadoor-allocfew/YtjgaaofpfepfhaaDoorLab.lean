/-
  The labels' places as a map: the program's labelsOf.
-/
import Derived.Test.YtjgaaofpfepfhaaDoorBk
import Derived.Maps.OwnSet
import Derived.Maps.OwnIn
namespace Go.Proofs.YtjgaaofpfepfhaaDoor
open Go.RowKit Go.Shelf Go.Maps
set_option linter.unusedSimpArgs false
set_option linter.unusedVariables false
attribute [local go_sem] Oper.semAt_some
theorem law3 : Keyed Tryd.prog 3 := int_keyed Tryd.underlying3
theorem zero3 (w : World) : (zeroValue 3).run Tryd.prog w = .ok (.int .i64 0) w := by kernel_rfl
theorem wf64 {x : Int} (h : I64 x) : (Lit.int .i64 x).wf = true := by
  unfold I64 at h
  simp [Lit.wf, IntKind.min, IntKind.max, IntKind.signed, IntKind.bits]
  omega
theorem key_ne {a b : Int} (h : a ≠ b) : Lit.int .i64 a ≠ Lit.int .i64 b := fun e => h (by injection e)
def lbl (n : Int) (x : Ir) : Bool := x.op == 9 && x.n == n
/-- The first place of a label. -/
def fst (l : List Ir) (n : Int) : Option Nat := l.findIdx? (lbl n)
def mpd : List Ir → Nat → DataW Unit
  | [], _ => .map []
  | x :: l, o => if x.op = 9 then (mpd l (o + 1)).put (.int .i64 x.n) (.lit (.int .i64 (o : Int))) else mpd l (o + 1)
theorem fst_cons (x : Ir) (l : List Ir) (n : Int) : fst (x :: l) n = if lbl n x = true then some 0 else (fst l n).map (· + 1) := by
  unfold fst; rw [List.findIdx?_cons]
theorem mpd_is : ∀ (l : List Ir) (o : Nat), IsMap (mpd l o)
  | [], _ => isMap_empty
  | x :: l, o => by
    unfold mpd
    split
    · exact (mpd_is l _).put _ _
    · exact mpd_is l _
theorem mpd_has (y : Int) : ∀ (l : List Ir) (o : Nat), Maps.has (mpd l o) (.int .i64 y) = (fst l y).isSome
  | [], _ => by simp [mpd, fst, Maps.has]
  | x :: l, o => by
    rw [fst_cons]
    unfold mpd
    by_cases h : x.op = 9
    · rw [if_pos h]
      by_cases e : x.n = y
      · rw [e, has_put_same (mpd_is l _) (by trivial)]; simp [lbl, h, e]
      · rw [has_put_other (key_ne (Ne.symm e)), mpd_has y l]; simp [lbl, e]
    · rw [if_neg h, mpd_has y l]; simp [lbl, h]
theorem mpd_at (y : Int) (z : DataW Unit) : ∀ (l : List Ir) (o j : Nat), fst l y = some j → (mpd l o).atKey (.int .i64 y) z = .lit (.int .i64 ((o + j : Nat) : Int))
  | [], _, j, h => by simp [fst] at h
  | x :: l, o, j, h => by
    rw [fst_cons] at h
    unfold mpd
    by_cases hx : x.op = 9
    · rw [if_pos hx]
      by_cases e : x.n = y
      · have hb : lbl y x = true := by simp [lbl, hx, e]
        rw [hb] at h
        simp at h
        subst h
        rw [e, atKey_put_same (mpd_is l _) (by trivial)]; rfl
      · have hb : lbl y x = false := by simp [lbl, e]
        rw [hb] at h
        simp at h
        obtain ⟨i, hi, rfl⟩ := h
        rw [atKey_put_other (key_ne (Ne.symm e)), mpd_at y z l (o + 1) i hi]
        congr 3; omega
    · have hb : lbl y x = false := by simp [lbl, hx]
      rw [hb] at h
      simp at h
      obtain ⟨i, hi, rfl⟩ := h
      rw [if_neg hx, mpd_at y z l (o + 1) i hi]
      congr 3; omega
theorem mpd_drop {l : List Ir} {i : Nat} (h : i < l.length) : mpd (l.drop i) i = if l[i].op = 9 then (mpd (l.drop (i + 1)) (i + 1)).put (.int .i64 l[i].n) (.lit (.int .i64 (i : Int))) else mpd (l.drop (i + 1)) (i + 1) := by
  rw [List.drop_eq_getElem_cons h]; rfl
/-- The map of the places that have come. -/
def mpf (l : List Ir) (pre : List Pl) : DataW Unit := pre.foldl (fun D x => if (l.getD x.1 ir0).op = 9 then D.put (.int .i64 (l.getD x.1 ir0).n) (.lit (.int .i64 (x.1 : Int))) else D) (.map [])
theorem mpf_snoc (l : List Ir) (pre : List Pl) (x : Pl) : mpf l (pre ++ [x]) = if (l.getD x.1 ir0).op = 9 then (mpf l pre).put (.int .i64 (l.getD x.1 ir0).n) (.lit (.int .i64 (x.1 : Int))) else mpf l pre := by
  unfold mpf; rw [List.foldl_append]; rfl
theorem mpf_dwn (l : List Ir) (hl : l.length ≤ 1000) : ∀ k, k ≤ l.length → mpf l (dwn l.length k) = mpd (l.drop (l.length - k)) (l.length - k)
  | 0, _ => by simp [dwn, mpf, mpd]
  | k + 1, hk => by
    have hi : l.length - 1 - k < l.length := by omega
    have e : l.length - (k + 1) = l.length - 1 - k := by omega
    have e2 : l.length - 1 - k + 1 = l.length - k := by omega
    rw [dwn_succ, mpf_snoc, mpf_dwn l hl k (by omega), pl_is (by omega), e, mpd_drop hi, e2]
    have : l.getD (l.length - 1 - k) ir0 = l[l.length - 1 - k] := by simp [List.getD, hi]
    rw [this]
theorem mpf_all (l : List Ir) (hl : l.length ≤ 1000) : mpf l (dwn l.length l.length) = mpd l 0 := by
  rw [mpf_dwn l hl _ (Nat.le_refl _)]; simp
theorem ir0_ok : ir0.ok := ⟨⟨by decide, by decide⟩, ⟨by decide, by decide⟩, ⟨by decide, by decide⟩, ⟨by decide, by decide⟩, ⟨by decide, by decide⟩, ⟨by decide, by decide⟩, ⟨by decide, by decide⟩⟩
theorem IR.ok {n₀ : Nat} {W : World} {a : Option Addr} {l : List Ir} (h : IR n₀ W a l) (x : Nat) : (l.getD x ir0).ok := by
  rcases Nat.lt_or_ge x l.length with hx | hx
  · have : l.getD x ir0 = l[x] := by simp [List.getD, hx]
    rw [this]
    obtain ⟨_, _, _, _, _, ho⟩ := h x hx
    exact ho
  · have : l.getD x ir0 = ir0 := by simp [List.getD, hx]
    rw [this]; exact ir0_ok
def LMp (B : Nat) (D : DataW Unit) (k : Nat) (w : World) : Prop := w.ownsMap Tryd.prog 3 (plainElem (H := Unit) Tryd.prog 3) B k D
theorem LMp.bel {B k : Nat} {D : DataW Unit} {w w' : World} (h : LMp B D k w) (b : Below w.heap.size w w') : LMp B D k w' := by
  have hlt := World.ownsMap.lt h
  obtain ⟨es, clock, hb, F, hs, e⟩ := h
  exact ⟨es, clock, (b.block B hlt).trans hb, F, hs, e⟩
set_option maxRecDepth 100000 in
set_option maxHeartbeats 4000000 in
theorem labels_in (n : Nat) (hn : 3 ≤ n) (a : Option Addr) (cap : Nat) (l : List Ir) (hl : l.length ≤ 1000) (w : World) (hr : IR w.heap.size w a l) :
    CallsIn Fence.wide n Tryd.prog 63 #[.slice a l.length cap] w fun e W' => e = .returned (.map (some w.heap.size)) ∧ LMp w.heap.size (mpd l 0) l.length W' ∧ Below w.heap.size w W' := by
  have h1 : 1 ≤ n := by omega
  have hmm := @run_makeMap Tryd.prog
  have HR := hide hr
  clear hr
  refine callsIn_of_wp_marks Tryd.func63 rfl trivial ?_ rfl
  simp only [Tryd.ntmps63, List.size_toArray, List.length_cons, List.length_nil, Nat.reduceAdd, Nat.reduceSub, Array.replicate_succ, Array.replicate_zero, List.push_toArray, List.append_toArray, List.nil_append, List.cons_append]
  gi_wp2_with (refine ⟨trivial, ?_⟩; gi_at_call 68; refine (backward_in (n - 1) _ _ _ _).mono ?_; rintro e w' ⟨rfl, rfl⟩)
  clear hmm
  obtain ⟨A, hA⟩ : ∃ A, w.heap.size = A := ⟨_, rfl⟩
  have hbox : Boxed (((w.alloc (.map #[] 0)).alloc (.cells #[.map (some w.heap.size)] 58)).alloc (.cells #[.slice a l.length cap] 22)) (w.heap.size + 1) 58 (.map (some w.heap.size)) := by
    have := (Boxed.new (w.alloc (.map #[] 0)) 58 (.map (some w.heap.size))).alloc (.cells #[.slice a l.length cap] 22)
    rwa [World.size_alloc] at this
  have hsl : (((w.alloc (.map #[] 0)).alloc (.cells #[.map (some w.heap.size)] 58)).alloc (.cells #[.slice a l.length cap] 22)).cell? ⟨w.heap.size + 1 + 1, 0, none⟩ = some (.slice a l.length cap) := by
    have := (Boxed.new ((w.alloc (.map #[] 0)).alloc (.cells #[.map (some w.heap.size)] 58)) 22 (.slice a l.length cap)).cell
    simpa using this
  have hmp : LMp w.heap.size (.map []) 0 (((w.alloc (.map #[] 0)).alloc (.cells #[.map (some w.heap.size)] 58)).alloc (.cells #[.slice a l.length cap] 22)) := (World.ownsMap.alloc (World.ownsMap.alloc (World.ownsMap_made _ _ _ _) _) _)
  have hB0 : Below w.heap.size w (((w.alloc (.map #[] 0)).alloc (.cells #[.map (some w.heap.size)] 58)).alloc (.cells #[.slice a l.length cap] 22)) := bel_al (bel_al (bel_one _ _) _) _
  have hsz : (((w.alloc (.map #[] 0)).alloc (.cells #[.map (some w.heap.size)] 58)).alloc (.cells #[.slice a l.length cap] 22)).heap.size = w.heap.size + 3 := by simp
  have hrd := HR.out.bel hB0
  generalize ((w.alloc (.map #[] 0)).alloc (.cells #[.map (some w.heap.size)] 58)).alloc (.cells #[.slice a l.length cap] 22) = W0 at *
  rw [hA] at hbox hsl hmp hB0 hsz hrd ⊢
  refine wpIn_rangeFunc_ownH rfl h1 (gf := 80) (lb := #[.pointer (some ⟨A + 1 + 1, 0, none⟩)]) rfl trivial (enters_of Tryd.func80 (by kernel_rfl) rfl)
    (back_stops (n - 1) (by omega) (fun b => b = A) (A + 1 + 1) A (A + 3) cap a l hl W0 (by omega) (by omega) (by omega) hsl (by omega) (fun b hb => by omega) hrd) (fun h k => h.trans k) (kx_b (by omega)) (Below.refl _ _) (fun _ => rfl)
    (fun pre W => LMp A (mpf l pre) pre.length W ∧ (W.cell? ⟨A + 1, 0, none⟩ = some (.map (some A))) ∧ Below A W0 W)
    (fun _ _ _ => False)
    ?hI (fun _ _ _ _ _ hs _ _ => hs) ⟨hmp, hbox.cell, Below.refl _ _⟩
    (fun x a' W => ∃ Bx, A + 3 ≤ Bx ∧ W.heap[Bx]? = some (.cells (xc (l.getD x.1 ir0)) 43) ∧ a' = { tmps := #[.slice a l.length cap, undef, .map none, .pointer (some ⟨A + 1, 0, none⟩), .int .i64 (x.1 : Int), .pointer (some ⟨Bx, 0, none⟩), .map (some A), .slice a l.length cap, .func (.func 80) #[] #[.pointer (some ⟨A + 1 + 1, 0, none⟩)], .int .i64 (x.1 : Int), xv (l.getD x.1 ir0), undef, undef, undef, undef, undef, undef, undef, undef], defers := [] })
    ?hAx ?assign ?body ?done ?stop
  case hI =>
    rintro pre W W' row ⟨h1, h2, h3⟩ hg hr
    exact ⟨World.ownsMap.kept h1 hg (fun e => by have := (hr _ e.symm).1; omega), cell_kept h2 hg (fun r e => (hr r e).2), h3.grown hg (by have := h3.size; omega) (fun j hj => by have := (hr j hj).1; omega)⟩
  case hAx =>
    rintro x a' _ W W' row ⟨Bx, h1, h2, rfl⟩ hg hr
    refine ⟨Bx, h1, ?_, rfl⟩
    have hlt : Bx < W.heap.size := (Array.getElem?_eq_some_iff.1 h2).1
    refine (hg.block Bx hlt fun e => ?_).trans h2
    obtain ⟨_, o, ho, hc⟩ := hr Bx e.symm
    rw [h2] at ho
    cases ho
    cases hc
  case assign =>
    rintro lp pre x W K ⟨h1, h2, h3⟩ hK
    have hz := h3.size
    unfold encI xv xc
    gi_wp2
    have hlt : A + 1 < W.heap.size := by omega
    exact hK _ _ ((KeepsOthers.alloc _ _).from _) (Kx.of ((Below.refl _ W).alloc (by omega) _)) ⟨World.ownsMap.alloc h1 _, ((bel_one W _).cell (p := ⟨A + 1, 0, none⟩) hlt).trans h2, h3.alloc (by omega) _⟩ ⟨W.heap.size, by omega, heap_alloc_new _ _, rfl⟩
  case body =>
    rintro lp pre x a' W hlp hrr ⟨h1, h2, h3⟩ ⟨Bx, hBx, hb, rfl⟩ hlt
    have hok := hrd.ok x.1
    have hz := h3.size
    generalize hy : l.getD x.1 ir0 = y at *
    obtain ⟨op, dst, a1, b1, c1, n1, m1⟩ := y
    unfold xc at hb
    have c0 : W.cell? ⟨Bx, 0, none⟩ = some (.int .i64 op) := by simp [World.cell?, hb]
    have c5 : W.cell? ⟨Bx, 5, none⟩ = some (.int .i64 n1) := by simp [World.cell?, hb]
    have MS := hide (mpf_snoc l pre x)
    rw [hy] at MS
    simp only at MS
    by_cases h9 : op = 9
    · subst h9
      simp only [if_true] at MS
      have HK := hide (keyOf_int_mk (P := Tryd.prog) (k := 3) Tryd.underlying3 (wf64 hok.2.2.2.2.2.1))
      have WP := hide (wf64 (x := ((x.1 : Nat) : Int)) (by have := x.2; unfold I64; omega))
      have HO := hide h1
      have H2 := hide h2
      have H3 := hide h3
      obtain ⟨w2, hrun, hown2, hgrow2⟩ := World.ownsMap.update h1 law3 Tryd.underlying58 (by unfold maxLen; omega) HK.out (plainElem_int Tryd.underlying3 WP.out)
      have HMA : Hid (∃ o, W.heap[A]? = some o ∧ o.isCells = false) := by
        obtain ⟨es, clock, hbm, _⟩ := h1
        exact ⟨_, hbm, rfl⟩
      have O2 := hide hown2
      have G2 := hide hgrow2
      clear hok h1 h3 hy HK WP hown2 hgrow2
      gi_wp2
      refine ⟨KeepsFrom.of_grownBy G2.out (fun j e => by cases e; omega), fun b hb hx => G2.out.block b (by omega) (fun e => hx (by cases e; rfl)), ?_, ?_, ?_⟩
      · show World.ownsMap _ _ _ _ _ _ _
        rw [MS.out, List.length_append]; exact O2.out
      · exact cell_kept H2.out G2.out (fun r e => by cases e; exact HMA.out)
      · exact H3.out.grown G2.out (by omega) (fun j e => by cases e; exact Nat.le_refl _)
    · have MS2 : Hid (mpf l (pre ++ [x]) = mpf l pre) := by show _ = _; rw [MS.out, if_neg h9]
      have HO := hide h1
      have H2 := hide h2
      have H3 := hide h3
      clear hok h1 h3 hy MS
      gi_wp2
      exact ⟨KeepsFrom.refl _ _, Kx.refl _ _ _, by rw [MS2.out, List.length_append]; exact World.ownsMap.mono HO.out (by simp), H2.out, H3.out⟩
  case done =>
    rintro D ys W hD rfl ⟨h1, h2, h3⟩ hK
    have hz := h3.size
    gi_wp2
    refine ⟨by simp, .inl ⟨_, _, rfl, run_takeDeferred hK, ?_⟩⟩
    refine ⟨_, results_tmp rfl _ _ _, ?_, ?_, ?_⟩
    · rw [hA]; rfl
    · rw [← mpf_all l hl, hA]
      have := World.ownsMap.kept h1 (grownBy_putObj' W D (.deferred none)) (fun e => by cases e; omega)
      rw [dwn_len] at this
      exact this
    · rw [hA]; exact (hB0.trans h3).trans (belowK_b (n₀ := A) (w := w) (by omega) W D _ _ (by omega) hK rfl rfl)
  case stop =>
    rintro D c pre W _ _ h _
    exact h.elim
theorem labels_any (a : Option Addr) (cap : Nat) (l : List Ir) (hl : l.length ≤ 1000) (w : World) (hr : IR w.heap.size w a l) :
    Calls Tryd.prog 63 #[.slice a l.length cap] w fun e W' => e = .returned (.map (some w.heap.size)) ∧ LMp w.heap.size (mpd l 0) l.length W' ∧ Below w.heap.size w W' :=
  callsIn_wide.1 (labels_in 3 (Nat.le_refl _) a cap l hl w hr)
end Go.Proofs.YtjgaaofpfepfhaaDoor
