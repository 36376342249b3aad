/-
  The labels' places as a map: the program's labelPlaces.
-/
import Derived.Test.YtookbgnidinkoaaM
import Derived.Maps.OwnSet
namespace Go.Proofs.Ytookbgnidinkoaa
open Go.RowKit Go.Maps
open Xc
set_option linter.unusedSimpArgs false
set_option linter.unusedVariables false
theorem law3 : Keyed Try.prog 3 := int_keyed Try.underlying3
theorem zero3 (w : World) : (zeroValue 3).run Try.prog w = .ok (.int .i64 0) w := by kernel_rfl
theorem wf64 {x : Int} (h : I64 x) : (Lit.int .i64 x).wf = true := by
  unfold I64 at h
  simp [Lit.wf, IntKind.min, IntKind.max, IntKind.signed, IntKind.bits]
  omega
/-- The map of the first items' labels. -/
def mp (l : List It) : Nat → DataW Unit
  | 0 => .map []
  | k + 1 => match l[k]? with
    | some t => if t.lb = 0 then mp l k else (mp l k).put (.int .i64 t.lb) (.lit (.int .i64 (pt l k : Int)))
    | none => mp l k
theorem mp_zero {l : List It} {k : Nat} (h : k < l.length) (h0 : l[k].lb = 0) : mp l (k + 1) = mp l k := by
  simp only [mp, List.getElem?_eq_getElem h, h0, if_true]
theorem mp_put {l : List It} {k : Nat} (h : k < l.length) (h0 : l[k].lb ≠ 0) : mp l (k + 1) = (mp l k).put (.int .i64 l[k].lb) (.lit (.int .i64 (pt l k : Int))) := by
  simp only [mp, List.getElem?_eq_getElem h, h0, if_false]
theorem mp_is (l : List It) : ∀ k, IsMap (mp l k)
  | 0 => isMap_empty
  | k + 1 => by
    rcases Nat.lt_or_ge k l.length with h | h
    · by_cases h0 : l[k].lb = 0
      · rw [mp_zero h h0]; exact mp_is l k
      · rw [mp_put h h0]; exact (mp_is l k).put _ _
    · simp only [mp, List.getElem?_eq_none h]; exact mp_is l k
theorem key_ne {a b : Int} (h : a ≠ b) : Lit.int .i64 a ≠ Lit.int .i64 b := fun e => h (by injection e)
theorem mp_has (l : List It) {y : Int} (hy : y ≠ 0) : ∀ k, k ≤ l.length → Maps.has (mp l k) (.int .i64 y) = (fd (l.take k) y).isSome
  | 0, _ => by simp [mp, fd, Maps.has]
  | k + 1, hk => by
    have h : k < l.length := hk
    have ih := mp_has l hy k (by omega)
    rw [fd_succ h]
    by_cases h0 : l[k].lb = 0
    · rw [mp_zero h h0, ih]
      have : ¬ l[k].lb = y := by omega
      simp [this]
    · rw [mp_put h h0]
      by_cases e : l[k].lb = y
      · rw [e, has_put_same (mp_is l k) (by trivial)]; simp [e]
      · rw [has_put_other (key_ne (Ne.symm e)), ih]; simp [e]
def UqTo (l : List It) (k : Nat) : Prop := ∀ j (h : j < l.length), j < k → l[j].lb ≠ 0 → fd (l.take j) l[j].lb = none
theorem mp_at (l : List It) {y : Int} (hy : y ≠ 0) (z : DataW Unit) : ∀ k, k ≤ l.length → UqTo l k → ∀ j, fd (l.take k) y = some j → (mp l k).atKey (.int .i64 y) z = .lit (.int .i64 (pt l j : Int))
  | 0, _, _, j, hj => by simp [fd] at hj
  | k + 1, hk, hu, j, hj => by
    have h : k < l.length := hk
    have ih := mp_at l hy z k (by omega) (fun j h1 h2 => hu j h1 (by omega))
    rw [fd_succ h] at hj
    by_cases h0 : l[k].lb = 0
    · rw [mp_zero h h0]
      have : ¬ l[k].lb = y := by omega
      simp [this] at hj
      exact ih j hj
    · rw [mp_put h h0]
      by_cases e : l[k].lb = y
      · have hn := hu k h (by omega) h0
        rw [e] at hn
        rw [hn] at hj
        simp [e] at hj
        rw [e, atKey_put_same (mp_is l k) (by trivial), hj]
      · rw [atKey_put_other (key_ne (Ne.symm e))]
        simp [e] at hj
        exact ih j hj
/-- Numbers in a block. -/
def NC (w : World) (g : Nat) (ns : List Int) : Prop := g < w.heap.size ∧ ∀ j (hj : j < ns.length), w.cell? ⟨g, j, none⟩ = some (.int .i64 ns[j])
theorem NC.kept {w w' : World} {g : Nat} {ns : List Int} (h : NC w g ns) (k : Below w.heap.size w w') : NC w' g ns := ⟨Nat.lt_of_lt_of_le h.1 k.size, fun j hj => (k.cell (p := ⟨g, j, none⟩) h.1).trans (h.2 j hj)⟩
def LM (B : Nat) (l : List It) (k : Nat) (w : World) : Prop := w.ownsMap Try.prog 3 (plainElem (H := Unit) Try.prog 3) B k (mp l k)
def LpEnds (l : List It) (w : World) (e : Ending) (w' : World) : Prop :=
  (Uq l ∧ e = .returned (.tuple #[.map (some w.heap.size), .bool true]) ∧ LM w.heap.size l l.length w' ∧ Below w.heap.size w w') ∨ (¬ Uq l ∧ e = .returned (.tuple #[.map none, .bool false]) ∧ Below w.heap.size w w')
set_option maxHeartbeats 4000000 in
set_option maxRecDepth 100000 in
theorem label_any (a : Option Addr) (cap : Nat) (l : List It) (g c : Nat) (w : World) (hl : l.length ≤ 1000) (hX : IS w a l) (hP : NC w g (pls l l.length)) : Calls Try.prog 31 #[.slice a l.length cap, .slice (some ⟨g, 0, none⟩) (l.length + 1) c] w (LpEnds l w) := by
  have HX := hide hX
  have HP := hide hP
  clear hX hP
  have hmm := @run_makeMap Try.prog
  go_enter Try.func31, Try.ntmps31
  go_wp2
  clear hmm
  go_loopw [14] (fun iv wr => ∃ k : Nat, k ≤ l.length ∧ iv = .int .i64 (k : Int) ∧ Hid (LM w.heap.size l k wr) ∧ Below w.heap.size w wr ∧ Hid (UqTo l k)) (fun iv _ => l.length - (intOf iv).toNat)
  case atStart => exact ⟨0, by omega, rfl, hide (World.ownsMap_made _ _ _ _), bel_one _ _, hide (fun j hj h => absurd h (by omega))⟩
  case round =>
    obtain ⟨k, hk, rfl, hR, hb, hA⟩ := hrel
    by_cases hlt : k < l.length
    · rcases HX.out with h | ⟨b, off, rfl, hX⟩
      · rw [h] at hlt; simp at hlt
      obtain ⟨hbb, ho, c0, c1, c2, c3, c4, c5, c6, c7, c8⟩ := hX k hlt
      have d0 := (hb.cell (p := ⟨b, off + k * 9, none⟩) hbb).trans c0
      have d1 := (hb.cell (p := ⟨b, off + k * 9 + 1, none⟩) hbb).trans c1
      have d2 := (hb.cell (p := ⟨b, off + k * 9 + 2, none⟩) hbb).trans c2
      have d3 := (hb.cell (p := ⟨b, off + k * 9 + 3, none⟩) hbb).trans c3
      have d4 := (hb.cell (p := ⟨b, off + k * 9 + 4, none⟩) hbb).trans c4
      have d5 := (hb.cell (p := ⟨b, off + k * 9 + 5, none⟩) hbb).trans c5
      have d6 := (hb.cell (p := ⟨b, off + k * 9 + 6, none⟩) hbb).trans c6
      have d7 := (hb.cell (p := ⟨b, off + k * 9 + 7, none⟩) hbb).trans c7
      have d8 := (hb.cell (p := ⟨b, off + k * 9 + 8, none⟩) hbb).trans c8
      clear c0 c1 c2 c3 c4 c5 c6 c7 c8
      have hlb : I64 l[k].lb := ho.2.1
      have PP := HP.out.kept hb
      have hpk := PP.2 k (by rw [pls_len]; omega)
      rw [pls_get] at hpk
      have hg2 := PP.1
      clear PP
      have hp1 := pt_le l k
      have WP := hide (wf64 (x := (pt l k : Int)) (by unfold I64; omega))
      have HK := hide (keyOf_int_mk (P := Try.prog) (k := 3) Try.underlying3 (wf64 hlb))
      have HH := hide (fun (hy : l[k].lb ≠ 0) => mp_has l (y := l[k].lb) hy k hk)
      have MP := hide (mp_put hlt)
      have MZ := hide (mp_zero hlt)
      have LB := hide (⟨fun h0 j hj h1 => by
        rcases Nat.lt_or_ge j k with h' | h'
        · exact hA.out j hj h'
        · have : j = k := by omega
          subst this
          exact fun h2 => absurd h0 h2, fun h0 j hj h1 => by
        rcases Nat.lt_or_ge j k with h' | h'
        · exact hA.out j hj h'
        · have : j = k := by omega
          subst this; exact fun _ => h0⟩ : (l[k].lb = 0 → UqTo l (k + 1)) ∧ (fd (l.take k) l[k].lb = none → UqTo l (k + 1)))
      have UN : Hid (l[k].lb ≠ 0 → fd (l.take k) l[k].lb ≠ none → ¬ Uq l) := fun h1 h2 h3 => h2 (h3 k hlt h1)
      clear hp1 hlb ho
      generalize (pt l k : Int) = p at *
      have Y := hide (Row9.made wr l[k].x.op l[k].x.wide l[k].x.r l[k].x.b l[k].x.i l[k].x.c l[k].x.n l[k].lb l[k].tg)
      have W1 : Hid (∀ V, V = wr.alloc (.cells #[.int .i64 l[k].x.op, .bool l[k].x.wide, .int .i64 l[k].x.r, .int .i64 l[k].x.b, .int .i64 l[k].x.i, .int .i64 l[k].x.c, .int .i64 l[k].x.n, .int .i64 l[k].lb, .int .i64 l[k].tg] 42) → LM w.heap.size l k V ∧ Below w.heap.size w V ∧ V.cell? ⟨g, k, none⟩ = some (.int .i64 p) ∧ V.cell? ⟨wr.heap.size, 7, none⟩ = some (.int .i64 l[k].lb)) := fun V hV => by
        subst hV
        exact ⟨World.ownsMap.alloc hR.out _, bel_al hb _, ((bel_one wr _).cell (p := ⟨g, k, none⟩) hg2).trans hpk, Y.out.cells.2.2.2.2.2.2.2.1⟩
      obtain ⟨hR1, hb1, hc1, hc2⟩ := W1.out _ rfl
      have HR1 := hide hR1
      have HB1 := hide hb1
      clear hR1 hb1 W1 Y hpk
      by_cases h0 : l[k].lb = 0
      · have U1 := hide (LB.out.1 h0)
        have M1 := hide (MZ.out h0)
        clear LB UN MP MZ HH HK WP
        rw [h0] at HR1 HB1
        go_wp2_with fail
        go_roundw
        case rel => exact ⟨k + 1, by omega, by go_num, hide (by show World.ownsMap _ _ _ _ _ _ _; rw [M1.out]; exact World.ownsMap.mono HR1.out (Nat.le_succ _)), HB1.out, U1⟩
        case measure => simp [intOf]; omega
      · have HH1 := hide (HH.out h0)
        have MP1 := hide (MP.out h0)
        cases hf : fd (l.take k) l[k].lb with
        | some j =>
          rw [hf] at HH1
          have hhas : Maps.has (mp l k) (.int .i64 l[k].lb) = true := HH1.out
          have U1 := hide (UN.out h0 (by rw [hf]; exact fun h => by cases h))
          have HS := hide hhas
          clear LB UN MP MZ HH HH1 hhas WP MP1 hf
          go_wp2_with (first | (at_lookup; refine wpList_lookup_own_ok_int _ rfl _ _ 63 rfl 3 3 .i64 law3 Try.underlying63 Try.underlying3 (zero3 _) w.heap.size k (mp l k) rfl HR1.out _ _ rfl HK.out ?_; intro cc hat hwc; rw [HS.out]; clear hat hwc) | fail)
          go_ret2
          exact Or.inr ⟨U1.out, rfl, HB1.out⟩
        | none =>
          rw [hf] at HH1
          have hhas : Maps.has (mp l k) (.int .i64 l[k].lb) = false := HH1.out
          have U1 := hide (LB.out.2 hf)
          have HS := hide hhas
          clear LB UN MP MZ HH HH1 hhas hf
          go_wp2_with (first | (at_lookup; refine wpList_lookup_own_ok_int _ rfl _ _ 63 rfl 3 3 .i64 law3 Try.underlying63 Try.underlying3 (zero3 _) w.heap.size k (mp l k) rfl HR1.out _ _ rfl HK.out ?_; intro cc hat hwc; rw [HS.out]; clear hat hwc) | fail)
          refine gen_world (motive := fun x => Code.wp _ _ _ _ x) (fun V => LM w.heap.size l k V ∧ Below w.heap.size w V ∧ V.cell? ⟨g, k, none⟩ = some (.int .i64 p) ∧ V.cell? ⟨wr.heap.size, 7, none⟩ = some (.int .i64 l[k].lb)) ⟨HR1.out, HB1.out, hc1, hc2⟩ ?_
          clear HR1 HB1 hc1 hc2
          rintro V ⟨hR1, hb1, hc1, hc2⟩
          obtain ⟨w2, hrun, hown2, hgrow2⟩ := World.ownsMap.update (World.ownsMap.drew hR1) law3 Try.underlying63 (by unfold maxLen; omega) HK.out (plainElem_int Try.underlying3 WP.out)
          have O2 := hide hown2
          have B2 : Hid (Below w.heap.size w w2) := by
            have hb2 := hb1.drew
            exact hb2.grown hgrow2 hb2.size (fun j hj => by cases hj; exact Nat.le_refl _)
          clear hown2 hgrow2 hR1 hb1 HK WP d0 d1 d2 d3 d4 d5 d6 d7 d8 hR
          go_region
          go_wp2_with fail
          go_roundw
          case rel => exact ⟨k + 1, by omega, by go_num, hide (by show World.ownsMap _ _ _ _ _ _ _; rw [MP1.out]; exact O2.out), B2.out, U1⟩
          case measure => simp [intOf]; omega
    · have hkm : k = l.length := by omega
      subst hkm
      have ha : Uq l := fun j hj h => hA.out j hj hj h
      have HA := hide ha
      clear ha
      go_wp2_with fail
      go_ret2
      exact Or.inl ⟨HA.out, rfl, hR.out, hb⟩
theorem LM.kept {B k : Nat} {l : List It} {w w' : World} (h : LM B l k w) (b : Below w.heap.size w w') : LM B l k w' := by
  have hlt := World.ownsMap.lt h
  obtain ⟨es, clock, hb, F, hs, e⟩ := h
  exact ⟨es, clock, (b.block B hlt).trans hb, F, hs, e⟩
end Go.Proofs.Ytookbgnidinkoaa
