/-
  Merged: Q CAllP CFrames CLists S U Y.
-/
import Derived.Test.YtookbgnidinkoaaAA
import Derived.Maps.OwnSet
import Derived.Test.YtookbgnidinkoaaCRightA
import Derived.ProofKit
import Derived.OpenShut
import Derived.Lib.SmallJoins
import Derived.Deep.Slices
import Derived.SizedLaws
import Derived.ShutString
/-
  The labels' places as a map: the program's labelPlaces.
-/
namespace Go.Proofs.Ytookbgnidinkoaa
open Go.RowKit Go.Maps
open Xc
set_option linter.unusedSimpArgs false
set_option linter.unusedVariables false
theorem law3 : Keyed Try.prog 3 := int_keyed Try.underlying3
theorem zero3 (w : World) : (zeroValue 3).run Try.prog w = .ok (.int .i64 0) w := by kernel_rfl
theorem wf64 {x : Int} (h : I64 x) : (Lit.int .i64 x).wf = true := by
  unfold I64 at h
  simp [Lit.wf, IntKind.min, IntKind.max, IntKind.signed, IntKind.bits]
  omega
/-- The map of the first items' labels. -/
def mp (l : List It) : Nat → DataW Unit
  | 0 => .map []
  | k + 1 => match l[k]? with
    | some t => if t.lb = 0 then mp l k else (mp l k).put (.int .i64 t.lb) (.lit (.int .i64 (pt l k : Int)))
    | none => mp l k
theorem mp_zero {l : List It} {k : Nat} (h : k < l.length) (h0 : l[k].lb = 0) : mp l (k + 1) = mp l k := by
  simp only [mp, List.getElem?_eq_getElem h, h0, if_true]
theorem mp_put {l : List It} {k : Nat} (h : k < l.length) (h0 : l[k].lb ≠ 0) : mp l (k + 1) = (mp l k).put (.int .i64 l[k].lb) (.lit (.int .i64 (pt l k : Int))) := by
  simp only [mp, List.getElem?_eq_getElem h, h0, if_false]
theorem mp_is (l : List It) : ∀ k, IsMap (mp l k)
  | 0 => isMap_empty
  | k + 1 => by
    rcases Nat.lt_or_ge k l.length with h | h
    · by_cases h0 : l[k].lb = 0
      · rw [mp_zero h h0]; exact mp_is l k
      · rw [mp_put h h0]; exact (mp_is l k).put _ _
    · simp only [mp, List.getElem?_eq_none h]; exact mp_is l k
theorem key_ne {a b : Int} (h : a ≠ b) : Lit.int .i64 a ≠ Lit.int .i64 b := fun e => h (by injection e)
theorem mp_has (l : List It) {y : Int} (hy : y ≠ 0) : ∀ k, k ≤ l.length → Maps.has (mp l k) (.int .i64 y) = (fd (l.take k) y).isSome
  | 0, _ => by simp [mp, fd, Maps.has]
  | k + 1, hk => by
    have h : k < l.length := hk
    have ih := mp_has l hy k (by omega)
    rw [fd_succ h]
    by_cases h0 : l[k].lb = 0
    · rw [mp_zero h h0, ih]
      have : ¬ l[k].lb = y := by omega
      simp [this]
    · rw [mp_put h h0]
      by_cases e : l[k].lb = y
      · rw [e, has_put_same (mp_is l k) (by trivial)]; simp [e]
      · rw [has_put_other (key_ne (Ne.symm e)), ih]; simp [e]
def UqTo (l : List It) (k : Nat) : Prop := ∀ j (h : j < l.length), j < k → l[j].lb ≠ 0 → fd (l.take j) l[j].lb = none
theorem mp_at (l : List It) {y : Int} (hy : y ≠ 0) (z : DataW Unit) : ∀ k, k ≤ l.length → UqTo l k → ∀ j, fd (l.take k) y = some j → (mp l k).atKey (.int .i64 y) z = .lit (.int .i64 (pt l j : Int))
  | 0, _, _, j, hj => by simp [fd] at hj
  | k + 1, hk, hu, j, hj => by
    have h : k < l.length := hk
    have ih := mp_at l hy z k (by omega) (fun j h1 h2 => hu j h1 (by omega))
    rw [fd_succ h] at hj
    by_cases h0 : l[k].lb = 0
    · rw [mp_zero h h0]
      have : ¬ l[k].lb = y := by omega
      simp [this] at hj
      exact ih j hj
    · rw [mp_put h h0]
      by_cases e : l[k].lb = y
      · have hn := hu k h (by omega) h0
        rw [e] at hn
        rw [hn] at hj
        simp [e] at hj
        rw [e, atKey_put_same (mp_is l k) (by trivial), hj]
      · rw [atKey_put_other (key_ne (Ne.symm e))]
        simp [e] at hj
        exact ih j hj
/-- Numbers in a block. -/
def NC (w : World) (g : Nat) (ns : List Int) : Prop := g < w.heap.size ∧ ∀ j (hj : j < ns.length), w.cell? ⟨g, j, none⟩ = some (.int .i64 ns[j])
theorem NC.kept {w w' : World} {g : Nat} {ns : List Int} (h : NC w g ns) (k : Below w.heap.size w w') : NC w' g ns := ⟨Nat.lt_of_lt_of_le h.1 k.size, fun j hj => (k.cell (p := ⟨g, j, none⟩) h.1).trans (h.2 j hj)⟩
def LM (B : Nat) (l : List It) (k : Nat) (w : World) : Prop := w.ownsMap Try.prog 3 (plainElem (H := Unit) Try.prog 3) B k (mp l k)
def LpEnds (l : List It) (w : World) (e : Ending) (w' : World) : Prop :=
  (Uq l ∧ e = .returned (.tuple #[.map (some w.heap.size), .bool true]) ∧ LM w.heap.size l l.length w' ∧ Below w.heap.size w w') ∨ (¬ Uq l ∧ e = .returned (.tuple #[.map none, .bool false]) ∧ Below w.heap.size w w')
set_option maxHeartbeats 4000000 in
set_option maxRecDepth 100000 in
theorem label_any (a : Option Addr) (cap : Nat) (l : List It) (g c : Nat) (w : World) (hl : l.length ≤ 1000) (hX : IS w a l) (hP : NC w g (pls l l.length)) : Calls Try.prog 31 #[.slice a l.length cap, .slice (some ⟨g, 0, none⟩) (l.length + 1) c] w (LpEnds l w) := by
  have HX := hide hX
  have HP := hide hP
  clear hX hP
  have hmm := @run_makeMap Try.prog
  go_enter Try.func31, Try.ntmps31
  go_wp2
  clear hmm
  go_loopw [14] (fun iv wr => ∃ k : Nat, k ≤ l.length ∧ iv = .int .i64 (k : Int) ∧ Hid (LM w.heap.size l k wr) ∧ Below w.heap.size w wr ∧ Hid (UqTo l k)) (fun iv _ => l.length - (intOf iv).toNat)
  case atStart => exact ⟨0, by omega, rfl, hide (World.ownsMap_made _ _ _ _), bel_one _ _, hide (fun j hj h => absurd h (by omega))⟩
  case round =>
    obtain ⟨k, hk, rfl, hR, hb, hA⟩ := hrel
    by_cases hlt : k < l.length
    · rcases HX.out with h | ⟨b, off, rfl, hX⟩
      · rw [h] at hlt; simp at hlt
      obtain ⟨hbb, ho, c0, c1, c2, c3, c4, c5, c6, c7, c8⟩ := hX k hlt
      have d0 := (hb.cell (p := ⟨b, off + k * 9, none⟩) hbb).trans c0
      have d1 := (hb.cell (p := ⟨b, off + k * 9 + 1, none⟩) hbb).trans c1
      have d2 := (hb.cell (p := ⟨b, off + k * 9 + 2, none⟩) hbb).trans c2
      have d3 := (hb.cell (p := ⟨b, off + k * 9 + 3, none⟩) hbb).trans c3
      have d4 := (hb.cell (p := ⟨b, off + k * 9 + 4, none⟩) hbb).trans c4
      have d5 := (hb.cell (p := ⟨b, off + k * 9 + 5, none⟩) hbb).trans c5
      have d6 := (hb.cell (p := ⟨b, off + k * 9 + 6, none⟩) hbb).trans c6
      have d7 := (hb.cell (p := ⟨b, off + k * 9 + 7, none⟩) hbb).trans c7
      have d8 := (hb.cell (p := ⟨b, off + k * 9 + 8, none⟩) hbb).trans c8
      clear c0 c1 c2 c3 c4 c5 c6 c7 c8
      have hlb : I64 l[k].lb := ho.2.1
      have PP := HP.out.kept hb
      have hpk := PP.2 k (by rw [pls_len]; omega)
      rw [pls_get] at hpk
      have hg2 := PP.1
      clear PP
      have hp1 := pt_le l k
      have WP := hide (wf64 (x := (pt l k : Int)) (by unfold I64; omega))
      have HK := hide (keyOf_int_mk (P := Try.prog) (k := 3) Try.underlying3 (wf64 hlb))
      have HH := hide (fun (hy : l[k].lb ≠ 0) => mp_has l (y := l[k].lb) hy k hk)
      have MP := hide (mp_put hlt)
      have MZ := hide (mp_zero hlt)
      have LB := hide (⟨fun h0 j hj h1 => by
        rcases Nat.lt_or_ge j k with h' | h'
        · exact hA.out j hj h'
        · have : j = k := by omega
          subst this
          exact fun h2 => absurd h0 h2, fun h0 j hj h1 => by
        rcases Nat.lt_or_ge j k with h' | h'
        · exact hA.out j hj h'
        · have : j = k := by omega
          subst this; exact fun _ => h0⟩ : (l[k].lb = 0 → UqTo l (k + 1)) ∧ (fd (l.take k) l[k].lb = none → UqTo l (k + 1)))
      have UN : Hid (l[k].lb ≠ 0 → fd (l.take k) l[k].lb ≠ none → ¬ Uq l) := fun h1 h2 h3 => h2 (h3 k hlt h1)
      clear hp1 hlb ho
      generalize (pt l k : Int) = p at *
      have Y := hide (Row9.made wr l[k].x.op l[k].x.wide l[k].x.r l[k].x.b l[k].x.i l[k].x.c l[k].x.n l[k].lb l[k].tg)
      have W1 : Hid (∀ V, V = wr.alloc (.cells #[.int .i64 l[k].x.op, .bool l[k].x.wide, .int .i64 l[k].x.r, .int .i64 l[k].x.b, .int .i64 l[k].x.i, .int .i64 l[k].x.c, .int .i64 l[k].x.n, .int .i64 l[k].lb, .int .i64 l[k].tg] 42) → LM w.heap.size l k V ∧ Below w.heap.size w V ∧ V.cell? ⟨g, k, none⟩ = some (.int .i64 p) ∧ V.cell? ⟨wr.heap.size, 7, none⟩ = some (.int .i64 l[k].lb)) := fun V hV => by
        subst hV
        exact ⟨World.ownsMap.alloc hR.out _, bel_al hb _, ((bel_one wr _).cell (p := ⟨g, k, none⟩) hg2).trans hpk, Y.out.cells.2.2.2.2.2.2.2.1⟩
      obtain ⟨hR1, hb1, hc1, hc2⟩ := W1.out _ rfl
      have HR1 := hide hR1
      have HB1 := hide hb1
      clear hR1 hb1 W1 Y hpk
      by_cases h0 : l[k].lb = 0
      · have U1 := hide (LB.out.1 h0)
        have M1 := hide (MZ.out h0)
        clear LB UN MP MZ HH HK WP
        rw [h0] at HR1 HB1
        go_wp2_with fail
        go_roundw
        case rel => exact ⟨k + 1, by omega, by go_num, hide (by show World.ownsMap _ _ _ _ _ _ _; rw [M1.out]; exact World.ownsMap.mono HR1.out (Nat.le_succ _)), HB1.out, U1⟩
        case measure => simp [intOf]; omega
      · have HH1 := hide (HH.out h0)
        have MP1 := hide (MP.out h0)
        cases hf : fd (l.take k) l[k].lb with
        | some j =>
          rw [hf] at HH1
          have hhas : Maps.has (mp l k) (.int .i64 l[k].lb) = true := HH1.out
          have U1 := hide (UN.out h0 (by rw [hf]; exact fun h => by cases h))
          have HS := hide hhas
          clear LB UN MP MZ HH HH1 hhas WP MP1 hf
          go_wp2_with (first | (at_lookup; refine wpList_lookup_own_ok_int _ rfl _ _ 63 rfl 3 3 .i64 law3 Try.underlying63 Try.underlying3 (zero3 _) w.heap.size k (mp l k) rfl HR1.out _ _ rfl HK.out ?_; intro cc hat hwc; rw [HS.out]; clear hat hwc) | fail)
          go_ret2
          exact Or.inr ⟨U1.out, rfl, HB1.out⟩
        | none =>
          rw [hf] at HH1
          have hhas : Maps.has (mp l k) (.int .i64 l[k].lb) = false := HH1.out
          have U1 := hide (LB.out.2 hf)
          have HS := hide hhas
          clear LB UN MP MZ HH HH1 hhas hf
          go_wp2_with (first | (at_lookup; refine wpList_lookup_own_ok_int _ rfl _ _ 63 rfl 3 3 .i64 law3 Try.underlying63 Try.underlying3 (zero3 _) w.heap.size k (mp l k) rfl HR1.out _ _ rfl HK.out ?_; intro cc hat hwc; rw [HS.out]; clear hat hwc) | fail)
          refine gen_world (motive := fun x => Code.wp _ _ _ _ x) (fun V => LM w.heap.size l k V ∧ Below w.heap.size w V ∧ V.cell? ⟨g, k, none⟩ = some (.int .i64 p) ∧ V.cell? ⟨wr.heap.size, 7, none⟩ = some (.int .i64 l[k].lb)) ⟨HR1.out, HB1.out, hc1, hc2⟩ ?_
          clear HR1 HB1 hc1 hc2
          rintro V ⟨hR1, hb1, hc1, hc2⟩
          obtain ⟨w2, hrun, hown2, hgrow2⟩ := World.ownsMap.update (World.ownsMap.drew hR1) law3 Try.underlying63 (by unfold maxLen; omega) HK.out (plainElem_int Try.underlying3 WP.out)
          have O2 := hide hown2
          have B2 : Hid (Below w.heap.size w w2) := by
            have hb2 := hb1.drew
            exact hb2.grown hgrow2 hb2.size (fun j hj => by cases hj; exact Nat.le_refl _)
          clear hown2 hgrow2 hR1 hb1 HK WP d0 d1 d2 d3 d4 d5 d6 d7 d8 hR
          go_region
          go_wp2_with fail
          go_roundw
          case rel => exact ⟨k + 1, by omega, by go_num, hide (by show World.ownsMap _ _ _ _ _ _ _; rw [MP1.out]; exact O2.out), B2.out, U1⟩
          case measure => simp [intOf]; omega
    · have hkm : k = l.length := by omega
      subst hkm
      have ha : Uq l := fun j hj h => hA.out j hj hj h
      have HA := hide ha
      clear ha
      go_wp2_with fail
      go_ret2
      exact Or.inl ⟨HA.out, rfl, hR.out, hb⟩
theorem LM.kept {B k : Nat} {l : List It} {w w' : World} (h : LM B l k w) (b : Below w.heap.size w w') : LM B l k w' := by
  have hlt := World.ownsMap.lt h
  obtain ⟨es, clock, hb, F, hs, e⟩ := h
  exact ⟨es, clock, (b.block B hlt).trans hb, F, hs, e⟩
end Go.Proofs.Ytookbgnidinkoaa
/-
  The program's All writes instructions one behind the other, or refuses; the walk of the statement XcodeAll.
-/
namespace Go.Proofs.Ytookbgnidinkoaa.Xc
open Go.RowKit
set_option linter.unusedSimpArgs false
set_option linter.unusedVariables false

def AlIs (b off cap : Nat) (l : List Xi) (w : World) : Prop := Calls Try.prog 17 #[.slice (some ⟨b, off, none⟩) l.length cap] w fun e w' => e = .returned (.tuple #[.string (str (aS l)), .int .i64 (aE l)]) ∧ Below w.heap.size w w'
theorem write_is (B : Nat) (v : Value) (ls : List UInt8) (x : Xi) (w : World) (hB : B ≤ w.heap.size) (hr : BRow B v ls w) (hl : ls.length + 16 ≤ 140737488355328) (hx : rt x = true) (hn : I64 x.n) :
    Calls Try.prog 28 #[v, .agg #[.int .i64 x.op, .bool x.wide, .int .i64 x.r, .int .i64 x.b, .int .i64 x.i, .int .i64 x.c, .int .i64 x.n]] w fun e w' => ∃ v', e = .returned v' ∧ BRow B v' (ls ++ enc x) w' ∧ Below B w w' := write_any B v ls x w hB hr hl hx hn
set_option maxHeartbeats 4000000 in
theorem all_any (b off cap : Nat) (l : List Xi) (w : World) (hl : 56 * l.length ≤ 140737488351232) (hX : XL w.heap.size w b off l) : AlIs b off cap l w := by
  have HX := hide hX
  clear hX
  unfold AlIs
  go_enter Try.func17, Try.ntmps17
  go_wp2
  go_loopw [4, 9] (fun sv iv wr => ∃ k : Nat, k ≤ l.length ∧ iv = .int .i64 (k : Int) ∧ Hid (BRow w.heap.size sv (encs (l.take k)) wr ∧ (k = 0 → sv = .slice none 0 0)) ∧ Below w.heap.size w wr ∧ Hid (∀ j (hj : j < l.length), j < k → rt l[j] = true)) (fun _ iv _ => l.length - (intOf iv).toNat)
  case atStart => exact ⟨0, by omega, rfl, hide ⟨World.ownsRow_nil _ _ _ _, fun _ => rfl⟩, Below.refl _ _, hide (fun j hj h => absurd h (by omega))⟩
  case round =>
    obtain ⟨k, hk, rfl, hR, hb, hA⟩ := hrel
    by_cases hlt : k < l.length
    · obtain ⟨hbb, ho, c0, c1, c2, c3, c4, c5, c6⟩ := HX.out k hlt
      have d0 := (hb.cell (p := ⟨b, off + k * 7, none⟩) hbb).trans c0
      have d1 := (hb.cell (p := ⟨b, off + k * 7 + 1, none⟩) hbb).trans c1
      have d2 := (hb.cell (p := ⟨b, off + k * 7 + 2, none⟩) hbb).trans c2
      have d3 := (hb.cell (p := ⟨b, off + k * 7 + 3, none⟩) hbb).trans c3
      have d4 := (hb.cell (p := ⟨b, off + k * 7 + 4, none⟩) hbb).trans c4
      have d5 := (hb.cell (p := ⟨b, off + k * 7 + 5, none⟩) hbb).trans c5
      have d6 := (hb.cell (p := ⟨b, off + k * 7 + 6, none⟩) hbb).trans c6
      clear c0 c1 c2 c3 c4 c5 c6
      have hn : I64 l[k].n := ho.2.2.2.2.2
      have hi : I64 l[k].i := ho.2.2.2.1
      have HBX := hide (Bx.made wr l[k])
      have HB1 := hide (bel_al hb (.cells (xc l[k]) 40))
      cases hq : rt l[k]
      · have HN := hide (aOk_no hlt hq)
        have RI := hide (fun U => right_is l[k].op l[k].wide l[k].r l[k].b l[k].i l[k].c l[k].n U hi hq)
        have r1 : aS l = [] := by simp [aS, HN.out]
        have r2 : aE l = 4 := by simp [aE, HN.out]
        have HR1 := hide r1
        have HR2 := hide r2
        clear hq ho hn hi r1 r2
        go_wp2_with fail
        refine (RI.out _).mono ?_
        rintro e w1 ⟨rfl, b1⟩
        go_wp2_with fail
        go_ret2
        exact ⟨by rw [HR1.out, HR2.out]; rfl, bel_tr HB1.out b1⟩
      · have RI := hide (fun U => right_is l[k].op l[k].wide l[k].r l[k].b l[k].i l[k].c l[k].n U hi hq)
        have HS := hide (encs_snoc l k hlt)
        have hln : Hid ((encs (l.take k)).length + 16 ≤ 140737488355328) := by
          show _ ≤ _
          have h1 := encs_len (l.take k)
          have h3 : (l.take k).length ≤ l.length := by simp; omega
          omega
        have hA2 : Hid (∀ j (hj : j < l.length), j < k + 1 → rt l[j] = true) := fun j hj h => by
          rcases Nat.lt_or_ge j k with h' | h'
          · exact hA.out j hj h'
          · have : j = k := by omega
            subst this; exact hq
        have HQ := hide hq
        have HN := hide hn
        clear hq ho hn hi hA
        go_wp2_with fail
        refine (RI.out _).mono ?_
        rintro e w1 ⟨rfl, b1⟩
        have R1 := hide ((hR.out.1.alloc (.cells (xc l[k]) 40)).kept b1)
        have B1 := hide (bel_tr HB1.out b1)
        have X1 := HBX.out.kept b1
        clear b1 HB1 HBX hR d0 d1 d2 d3 d4 d5 d6
        obtain ⟨x0, x1, x2, x3, x4, x5, x6⟩ := X1.cells
        clear X1
        go_wp2_with fail
        refine (write_is w.heap.size _ _ l[k] _ B1.out.size R1.out hln.out HQ.out HN.out).mono ?_
        rintro e w2 ⟨v2, rfl, R2, b2⟩
        have hb2 := B1.out.trans b2
        clear b2 R1 B1 x0 x1 x2 x3 x4 x5 x6
        go_wp2_with fail
        go_roundw
        case rel => exact ⟨k + 1, by omega, by go_num, hide ⟨by rw [HS.out]; exact R2, fun h => absurd h (by omega)⟩, hb2, hA2⟩
        case measure => simp [intOf]; omega
    · have hkm : k = l.length := by omega
      subst hkm
      have ha : aOk l = true := aOk_yes fun j hj => hA.out j hj hj
      have r1 : aS l = encs l := by simp [aS, ha]
      have r2 : aE l = 0 := by simp [aE, ha]
      have HR1 := hide r1
      have HR2 := hide r2
      clear ha r1 r2
      rw [List.take_length] at hR
      by_cases h0 : l.length = 0
      · obtain rfl := hR.out.2 h0
        have he : Hid (encs l = []) := by show _ = _; rw [List.length_eq_zero_iff.1 h0]; rfl
        have hcv := cv_nil wr
        clear hR
        go_wp2_with fail
        go_ret2
        exact ⟨by rw [HR1.out, HR2.out, he.out]; rfl, hb⟩
      · have hcv := run_own hR.out.1 (encs_pos l (by omega))
        have hv := hR.out.1.2
        rcases hv with ⟨_, hz⟩ | ⟨g, cp, cur, hv, _⟩
        · have := encs_pos l (by omega); omega
        · subst hv
          clear hR
          go_wp2_with fail
          go_ret2
          exact ⟨by rw [HR1.out, HR2.out]; rfl, hb⟩
end Go.Proofs.Ytookbgnidinkoaa.Xc
/-
  What comes in by value: an instruction: what it reads as; no condition.
-/
namespace Go.Proofs.Ytookbgnidinkoaa.Xc
open Go.ChangeShapes Go.WideShapes Go.ChangeAt Go.RowKit Go.Joins

theorem Try.cells40 : Try.prog.cellsOf 40 = 7 := by kernel_rfl
theorem Try.c3 : Try.prog.cellsOf 3 = 1 := by kernel_rfl
theorem Try.c4 : Try.prog.cellsOf 4 = 1 := by kernel_rfl
theorem wf_i64 {x : Int} (h : (Lit.int .i64 x).wf = true) : I64 x := by
  simp [Lit.wf, IntKind.min, IntKind.max, IntKind.signed, IntKind.bits] at h
  exact ⟨by omega, by omega⟩
section
variable {H : Type} {enc : TypeId × Value → H} {W : World}
/-- One instruction, out of its seven cells. -/
theorem open_seven {n : Nat} {cs : List Value} {x : DataW H × List MemPlace} (hl : cs.length = 7) (h : DataW.trod enc Try.prog W 0 (fun _ => true) true n 40 cs = some x) :
    ∃ y : Xi, cs = (xc y).toList ∧ y.ok := by
  obtain ⟨xs, k, _, _, _, hxl, hf⟩ := DataW.trod_struct Try.underlying40 h
  match cs, hl with
  | [v0, v1, v2, v3, v4, v5, v6], _ =>
    match xs, hxl with
    | [y0, y1, y2, y3, y4, y5, y6], _ =>
      have g0 := hf 0 _ rfl
      have g1 := hf 1 _ rfl
      have g2 := hf 2 _ rfl
      have g3 := hf 3 _ rfl
      have g4 := hf 4 _ rfl
      have g5 := hf 5 _ rfl
      have g6 := hf 6 _ rfl
      simp [Try.c3, Try.c4] at g0 g1 g2 g3 g4 g5 g6
      obtain ⟨a0, e0, _, w0⟩ := DataW.trod_int Try.underlying3 g0
      obtain ⟨a1, e1, _⟩ := DataW.trod_bool Try.underlying4 g1
      obtain ⟨a2, e2, _, w2⟩ := DataW.trod_int Try.underlying3 g2
      obtain ⟨a3, e3, _, w3⟩ := DataW.trod_int Try.underlying3 g3
      obtain ⟨a4, e4, _, w4⟩ := DataW.trod_int Try.underlying3 g4
      obtain ⟨a5, e5, _, w5⟩ := DataW.trod_int Try.underlying3 g5
      obtain ⟨a6, e6, _, w6⟩ := DataW.trod_int Try.underlying3 g6
      simp at e0 e1 e2 e3 e4 e5 e6
      subst e0 e1 e2 e3 e4 e5 e6
      exact ⟨⟨a0, a1, a2, a3, a4, a5, a6⟩, rfl, wf_i64 w0, wf_i64 w2, wf_i64 w3, wf_i64 w4, wf_i64 w5, wf_i64 w6⟩
/-- An instruction that comes in. -/
theorem open_x {base : Nat} {v : Value} {d : DataW H} {p : List MemPlace} (hv : Value.okWide Try.prog W .any base 40 v) (h : DataW.Trod enc Try.prog W 0 (fun _ => true) true 40 v d p) :
    ∃ y : Xi, v = xv y ∧ y.ok := by
  obtain ⟨cs, rfl, hsz⟩ := okWide_struct Try.underlying40 hv
  rw [Try.cells40] at hsz
  obtain ⟨fuel, hf0⟩ := h
  obtain ⟨y, e, hy⟩ := open_seven (by simpa [Value.cells] using hsz) hf0
  refine ⟨y, ?_, hy⟩
  have e' : cs = xc y := by
    apply Array.toList_inj.1
    simpa [Value.cells] using e
  rw [e']; rfl
end
end Go.Proofs.Ytookbgnidinkoaa.Xc
/-
  A list of instructions that comes in: what lies in its memory; no condition.
-/
namespace Go.Proofs.Ytookbgnidinkoaa.Xc
open Go.ChangeShapes Go.WideShapes Go.ChangeAt Go.RowKit Go.Joins
set_option linter.unusedSimpArgs false
set_option linter.unusedVariables false

theorem Try.bytes40 : Try.prog.bytesOf 40 = 56 := by kernel_rfl
theorem cell_lt {w : World} {a : Addr} {v : Value} (h : w.cell? a = some v) : a.block < w.heap.size := by
  unfold World.cell? at h
  cases hb : w.heap[a.block]? with
  | none => rw [hb] at h; cases h
  | some o => exact (Array.getElem?_eq_some_iff.1 hb).1
theorem add_lit7 (b off i : Nat) : (⟨b, off, none⟩ : Addr).add i = ⟨b, off + i, none⟩ := by
  unfold Addr.add; split <;> simp_all
/-- What a slice of instructions is: empty, or a row. -/
def XS (W : World) (a : Option Addr) (l : List Xi) : Prop := l = [] ∨ ∃ b off, a = some ⟨b, off, none⟩ ∧ XL W.heap.size W b off l
theorem open_xs {H : Type} {enc : TypeId × Value → H} {W : World} {base : Nat} {v : Value} {d : DataW H} {p : List MemPlace} (hv : Value.okWide Try.prog W .any base 46 v) (h : DataW.Trod enc Try.prog W 0 (fun _ => true) true 46 v d p) :
    ∃ (a : Option Addr) (l : List Xi) (c : Nat) (elems spare : List (DataW H)), v = .slice a (List.length l) c ∧ (l ≠ [] → d = .slice elems spare) ∧ XS W a l ∧ (l ≠ [] → elems.length = l.length) := by
  obtain ⟨a, len, cap, rfl⟩ := okWide_slice Try.underlying46 hv
  obtain ⟨fuel, hf⟩ := h
  rcases Deep.open_slice Try.underlying46 hf with ⟨hcs, hx⟩ | ⟨a, len', cap', m, n, D, Pl, hcs, _, hl, hm, hmm, hx, hcell⟩
  · simp [Value.cells] at hcs
    exact ⟨a, [], cap, [], [], by rw [hcs.2.1]; rfl, fun h => absurd rfl h, Or.inl rfl, fun h => absurd rfl h⟩
  · simp [Value.cells] at hcs
    obtain ⟨rfl, rfl, rfl⟩ := hcs
    rcases Nat.eq_zero_or_pos len with h0 | h0
    · subst h0
      exact ⟨some a, [], cap, [], [], rfl, fun h => absurd rfl h, Or.inl rfl, fun h => absurd rfl h⟩
    simp only [if_true] at hmm
    have each : ∀ i, i < len → ∃ q : Xi, q.ok ∧ ∀ k v, (xc q)[k]? = some v → W.cell? (a.add (i * 7 + k)) = some v := by
      intro i hi
      obtain ⟨cs', h1, h2⟩ := hcell i (by omega)
      rw [Try.cells40] at h1
      obtain ⟨_, hlen, hc⟩ := World.cells?_some h1
      obtain ⟨y, e, hy⟩ := open_seven hlen h2
      refine ⟨y, hy, fun k v hk => ?_⟩
      have hk7 : k < 7 := by
        have := (Array.getElem?_eq_some_iff.1 hk).1
        simpa [xc] using this
      have := hc k hk7
      rw [Deep.add_add] at this
      rw [this, e]
      simpa using hk
    haveI : Inhabited Xi := ⟨⟨0, false, 0, 0, 0, 0, 0⟩⟩
    obtain ⟨q, hq⟩ := Deep.choose_lt each
    obtain ⟨b, off, spot⟩ := a
    have hspot : spot = none := by simpa [Addr.add] using World.cell?_spot ((hq 0 h0).2 0 _ rfl)
    subst hspot
    have hx1 : d = .slice ((List.range len).map D) ((List.range (m - len)).map fun j => D (len + j)) := congrArg Prod.fst hx
    refine ⟨some ⟨b, off, none⟩, (List.range len).map q, cap, _, _, by simp, fun _ => hx1, Or.inr ⟨b, off, rfl, fun j hj => ?_⟩, by simp⟩
    have hj' : j < len := by simpa using hj
    have hc := (hq j hj').2
    have get : ((List.range len).map q)[j] = q j := by simp
    rw [get]
    have z := hc 0 _ rfl
    have cc := fun k v hk => by have := hc k v hk; rw [add_lit7] at this; exact this
    exact ⟨by have := cell_lt (cc 0 _ rfl); exact this, (hq j hj').1, cc 0 _ rfl, cc 1 _ rfl, cc 2 _ rfl, cc 3 _ rfl, cc 4 _ rfl, cc 5 _ rfl, cc 6 _ rfl⟩
theorem reach_xs {H : Type} {ts : List TypeId} {ds : List (DataW H)} (h : (DataW.weightsEach Try.prog ts ds).all (· ≤ reachBytes) = true) {j : Nat} {elems spare : List (DataW H)} (ht : ts[j]? = some 46) (hd : ds[j]? = some (.slice elems spare)) :
    56 * elems.length ≤ 140737488351232 := by
  have := sized_slice h ht hd Try.underlying46
  rw [Try.bytes40] at this
  simp only [reachBytes] at this
  omega
/-- All, of no instruction. -/
theorem all_nil (a : Option Addr) (cap : Nat) (w : World) : Calls Try.prog 17 #[.slice a 0 cap] w fun e w' => e = .returned (.tuple #[.string (str []), .int .i64 0]) ∧ Below w.heap.size w w' := by
  have hcv := cv_nil w
  go_enter Try.func17, Try.ntmps17
  go_wp2
  go_loopw [4, 9] (fun sv iv wr => sv = .slice none 0 0 ∧ iv = .int .i64 0 ∧ wr = w) (fun _ _ _ => 0)
  case atStart => exact ⟨rfl, rfl, rfl⟩
  case round =>
    obtain ⟨rfl, rfl, rfl⟩ := hrel
    go_wp2_with fail
    go_ret2
    exact ⟨rfl, Below.refl _ _⟩
theorem XS.below {W U : World} {a : Option Addr} {l : List Xi} (h : XS W a l) (k : Below W.heap.size W U) : XS U a l := by
  rcases h with h | ⟨b, off, e, hX⟩
  · exact Or.inl h
  · refine Or.inr ⟨b, off, e, fun j hj => ?_⟩
    obtain ⟨hb, ho, c0, c1, c2, c3, c4, c5, c6⟩ := hX j hj
    have cc : ∀ n v, W.cell? ⟨b, n, none⟩ = some v → U.cell? ⟨b, n, none⟩ = some v := fun n v h => (k.cell (p := ⟨b, n, none⟩) hb).trans h
    exact ⟨Nat.lt_of_lt_of_le hb k.size, ho, cc _ _ c0, cc _ _ c1, cc _ _ c2, cc _ _ c3, cc _ _ c4, cc _ _ c5, cc _ _ c6⟩
theorem all_xs (a : Option Addr) (l : List Xi) (cap : Nat) (w : World) (hX : XS w a l) (hl : 56 * l.length ≤ 140737488351232) :
    Calls Try.prog 17 #[.slice a l.length cap] w fun e w' => e = .returned (.tuple #[.string (str (aS l)), .int .i64 (aE l)]) ∧ Below w.heap.size w w' := by
  rcases hX with rfl | ⟨b, off, rfl, hX⟩
  · exact all_nil a cap w
  · exact all_any b off cap l w hl hX
end Go.Proofs.Ytookbgnidinkoaa.Xc
/-
  The program's assembleAt and Assemble.
-/
namespace Go.Proofs.Ytookbgnidinkoaa
open Go.RowKit Go.Maps
open Xc
set_option linter.unusedSimpArgs false
set_option linter.unusedVariables false
def xsl (L : List Xi) : List Value := L.flatMap fun x => (xc x).toList
theorem xsl_len (L : List Xi) : (xsl L).length = 7 * L.length := by
  induction L with
  | nil => rfl
  | cons x L ih =>
    have e : xsl (x :: L) = (xc x).toList ++ xsl L := rfl
    have e2 : (xc x).toList.length = 7 := rfl
    rw [e, List.length_append, ih, e2, List.length_cons]; omega
theorem xsl_snoc (L : List Xi) (x : Xi) : xsl (L ++ [x]) = xsl L ++ (xc x).toList := by simp [xsl]
theorem xsl_get : ∀ (L : List Xi) (j : Nat) (h : j < L.length) (i : Nat), i < 7 → (xsl L)[j * 7 + i]? = (xc L[j])[i]?
  | x :: L, 0, _, i, hi => by
    simp only [xsl, List.flatMap_cons]
    rw [List.getElem?_append_left (by simp [xc]; omega)]
    simp
  | x :: L, j + 1, h, i, hi => by
    have ih := xsl_get L j (by simpa using h) i hi
    simp only [xsl, List.flatMap_cons] at *
    rw [List.getElem?_append_right (by simp [xc]; omega)]
    have : (j + 1) * 7 + i - (xc x).toList.length = j * 7 + i := by simp [xc]; omega
    rw [this, ih]
    simp
/-- Instructions in a row of one's own. -/
def XV (B : Nat) (v : Value) (L : List Xi) (w : World) : Prop := w.ownsRow B 40 7 v L.length (xsl L)
theorem XV.nil (B : Nat) (w : World) : XV B (.slice none 0 0) [] w := World.ownsRow_nil _ _ _ _
theorem XV.kept {B : Nat} {v : Value} {L : List Xi} {w w' : World} (h : XV B v L w) (k : Below w.heap.size w w') : XV B v L w' := own_kept h k
theorem XV.xs {B : Nat} {v : Value} {L : List Xi} {w : World} (h : XV B v L w) (hok : ∀ j (hj : j < L.length), L[j].ok) : ∃ a c, v = .slice a L.length c ∧ XS w a L := by
  rcases h.2 with ⟨rfl, e⟩ | ⟨g, cap, cur, rfl, hb, hrest⟩
  · have : L = [] := List.length_eq_zero_iff.1 e
    subst this
    exact ⟨_, _, rfl, Or.inl rfl⟩
  · refine ⟨_, _, rfl, Or.inr ⟨g, 0, rfl, fun j hj => ?_⟩⟩
    have hlt := (h.lt g rfl).2
    have cc : ∀ i, i < 7 → ∀ v, (xc L[j])[i]? = some v → w.cell? ⟨g, 0 + j * 7 + i, none⟩ = some v := fun i hi v hv => by
      rw [Nat.zero_add, World.ownsRow.cellAt h (j * 7 + i) (by omega), xsl_get L j hj i hi, hv]
    exact ⟨hlt, hok j hj, cc 0 (by omega) _ rfl, cc 1 (by omega) _ rfl, cc 2 (by omega) _ rfl, cc 3 (by omega) _ rfl, cc 4 (by omega) _ rfl, cc 5 (by omega) _ rfl, cc 6 (by omega) _ rfl⟩
theorem info40 : (Try.prog.info? 40).map (fun i => (i.zero, i.size, i.bytes)) = some (some (.agg #[.int .i64 0, .bool false, .int .i64 0, .int .i64 0, .int .i64 0, .int .i64 0, .int .i64 0]), 7, 56) := by kernel_rfl
theorem new_x (w : World) (x : Xi) : ∀ j u, (xc x).toList[j]? = some u → (w.alloc (.cells (xc x) 40)).cell? ((⟨w.heap.size, 0, none⟩ : Addr).add j) = some u := by
  intro j u h
  have e := heap_alloc_new w (.cells (xc x) 40)
  rw [add_lit7, Nat.zero_add]
  have hj : (xc x)[j]? = some u := by simpa using h
  simp only [World.cell?, e]
  exact hj
theorem x_cell (x : Xi) : ∀ u, u ∈ (xc x).toList → u.oneCell' = true := by
  intro u h; simp [xc] at h
  rcases h with h | h | h | h | h | h | h <;> subst h <;> rfl
theorem oL_ok {l : List It} (hl : l.length ≤ 1000) (ho : ∀ j (hj : j < l.length), l[j].ok) : ∀ k, k ≤ l.length → ∀ j (hj : j < (oL l k).length), (oL l k)[j].ok
  | 0, _, j, hj => by simp [oL] at hj
  | k + 1, hk, j, hj => by
    have h : k < l.length := hk
    have key : ∀ x ∈ oL l (k + 1), x.ok := by
      rw [oL_succ h]
      intro x hx
      rcases List.mem_append.1 hx with hx | hx
      · obtain ⟨i, hi, rfl⟩ := List.getElem_of_mem hx
        exact oL_ok hl ho k (by omega) i hi
      · unfold one at hx
        split at hx
        · simp at hx; subst hx; exact jx_ok hl h (ho k h)
        · simp at hx
    exact key _ (List.getElem_mem hj)
theorem xi_op (a : Int) (b : Bool) (c d e f g : Int) : (⟨a, b, c, d, e, f, g⟩ : Xi).op = a := rfl
theorem xi_wide (a : Int) (b : Bool) (c d e f g : Int) : (⟨a, b, c, d, e, f, g⟩ : Xi).wide = b := rfl
theorem xi_r (a : Int) (b : Bool) (c d e f g : Int) : (⟨a, b, c, d, e, f, g⟩ : Xi).r = c := rfl
theorem xi_b (a : Int) (b : Bool) (c d e f g : Int) : (⟨a, b, c, d, e, f, g⟩ : Xi).b = d := rfl
theorem xi_i (a : Int) (b : Bool) (c d e f g : Int) : (⟨a, b, c, d, e, f, g⟩ : Xi).i = e := rfl
theorem xi_c (a : Int) (b : Bool) (c d e f g : Int) : (⟨a, b, c, d, e, f, g⟩ : Xi).c = f := rfl
theorem xi_n (a : Int) (b : Bool) (c d e f g : Int) : (⟨a, b, c, d, e, f, g⟩ : Xi).n = g := rfl
theorem one_no {l : List It} {k : Nat} {t : It} (h : t.lb ≠ 0) : one l k t = [] := by unfold one; rw [if_neg h]
theorem one_x {l : List It} {k : Nat} {t : It} (h : t.lb = 0) (h1 : t.tg = 0) : one l k t = [t.x] := by unfold one jx; rw [if_pos h, if_pos h1]
theorem one_j {l : List It} {k j : Nat} {t : It} (h : t.lb = 0) (h1 : t.tg ≠ 0) (hf : fd l t.tg = some j) : one l k t = [⟨t.x.op, t.x.wide, t.x.r, t.x.b, t.x.i, t.x.c, (pt l j : Int) - (pt l (k + 1) : Int)⟩] := by
  unfold one jx; rw [if_pos h, if_neg h1, hf]; rfl
theorem Row9.setN {g : Nat} {op : Int} {wd : Bool} {r b i c n lb tg : Int} {w : World} (h : Row9 g op wd r b i c n lb tg w) (n' : Int) : Row9 g op wd r b i c n' lb tg (w.setCell ⟨g, 6, none⟩ (.int .i64 n')) := by
  unfold Row9 at *; simp [World.setCell, Array.getElem?_modify, h]
theorem bel_set1 {w : World} {b : Nat} (hb : b = w.heap.size) (o : Obj) (k : Nat) (v : Value) : Below w.heap.size w ((w.alloc o).setCell ⟨b, k, none⟩ v) := bel_set (bel_one w o) (by omega) k v
/-- What lies there ahead of an append. -/
def Ah (B g : Nat) (v : Value) (L : List Xi) (x : Xi) (tg : Int) (w1 V : World) : Prop := XV B v L V ∧ Below B w1 V ∧ Row9 g x.op x.wide x.r x.b x.i x.c x.n 0 tg V
def AtIs (a : Option Addr) (cap : Nat) (l : List It) (g c : Nat) (w : World) : Prop := Calls Try.prog 20 #[.slice a l.length cap, .slice (some ⟨g, 0, none⟩) (l.length + 1) c] w fun e w' => e = .returned (.tuple #[.string (str (asS l)), .int .i64 (asE l)]) ∧ Below w.heap.size w w'
def Fnd (l : List It) (k : Nat) : Prop := ∀ j (h : j < l.length), j < k → l[j].lb = 0 → l[j].tg ≠ 0 → fd l l[j].tg ≠ none
set_option maxHeartbeats 4000000 in
set_option maxRecDepth 100000 in
theorem at_any (a : Option Addr) (cap : Nat) (l : List It) (g c : Nat) (w : World) (hl : l.length ≤ 1000) (hX : IS w a l) (hP : NC w g (pls l l.length)) (hok : pOk l = true) : AtIs a cap l g c w := by
  unfold AtIs
  have LP := hide (label_any a cap l g c w hl hX hP)
  have HX := hide hX
  have HP := hide hP
  have HOK := hide hok
  clear hX hP hok
  obtain ⟨i0, hi, hz0, hz1, hz2⟩ := info_parts info40
  go_enter Try.func20, Try.ntmps20
  go_wp2_with fail
  refine LP.out.mono ?_
  clear LP
  rintro e w1 (⟨hU, rfl, hM, b1⟩ | ⟨hU, rfl, b1⟩)
  case inr =>
    have R := hide (asR_no (l := l) fun h => hU h.2.1)
    clear hU
    go_wp2_with fail
    go_ret2
    exact ⟨by rw [R.out.1, R.out.2]; rfl, b1⟩
  case inl =>
    have HX1 := hide (HX.out.below b1)
    have HP1 := hide (HP.out.kept b1)
    have HM := hide hM
    have HU := hide hU
    clear HX HP hM hU
    go_wp2_with fail
    go_loopw [8, 23] (fun sv iv wr => ∃ k : Nat, k ≤ l.length ∧ iv = .int .i64 (k : Int) ∧ Hid (XV w1.heap.size sv (oL l k) wr) ∧ Below w1.heap.size w1 wr ∧ Hid (Fnd l k)) (fun _ iv _ => l.length - (intOf iv).toNat)
    case atStart => exact ⟨0, by omega, rfl, hide (XV.nil _ _), Below.refl _ _, hide (fun j hj h => absurd h (by omega))⟩
    case round =>
      obtain ⟨k, hk, rfl, hR, hb, hA⟩ := hrel
      by_cases hlt : k < l.length
      · rcases HX1.out with h | ⟨b, off, rfl, hX⟩
        · rw [h] at hlt; simp at hlt
        obtain ⟨hbb, ho, c0, c1, c2, c3, c4, c5, c6, c7, c8⟩ := hX k hlt
        have d0 := (hb.cell (p := ⟨b, off + k * 9, none⟩) hbb).trans c0
        have d1 := (hb.cell (p := ⟨b, off + k * 9 + 1, none⟩) hbb).trans c1
        have d2 := (hb.cell (p := ⟨b, off + k * 9 + 2, none⟩) hbb).trans c2
        have d3 := (hb.cell (p := ⟨b, off + k * 9 + 3, none⟩) hbb).trans c3
        have d4 := (hb.cell (p := ⟨b, off + k * 9 + 4, none⟩) hbb).trans c4
        have d5 := (hb.cell (p := ⟨b, off + k * 9 + 5, none⟩) hbb).trans c5
        have d6 := (hb.cell (p := ⟨b, off + k * 9 + 6, none⟩) hbb).trans c6
        have d7 := (hb.cell (p := ⟨b, off + k * 9 + 7, none⟩) hbb).trans c7
        have d8 := (hb.cell (p := ⟨b, off + k * 9 + 8, none⟩) hbb).trans c8
        clear c0 c1 c2 c3 c4 c5 c6 c7 c8
        have OS := hide (oL_succ hlt)
        have OLN := hide (oL_len l k)
        have htg : I64 l[k].tg := ho.2.2
        have HK := hide (keyOf_int_mk (P := Try.prog) (k := 3) Try.underlying3 (wf64 htg))
        have FN : Hid ((l[k].lb ≠ 0 ∨ l[k].tg = 0 ∨ fd l l[k].tg ≠ none) → Fnd l (k + 1)) := fun h j hj h1 h2 h3 => by
          rcases Nat.lt_or_ge j k with h' | h'
          · exact hA.out j hj h' h2 h3
          · have : j = k := by omega
            subst this
            rcases h with h | h | h
            · exact absurd h2 h
            · exact absurd h h3
            · exact h
        clear ho htg
        rcases hit : l[k] with ⟨⟨x1, x2, x3, x4, x5, x6, x7⟩, x8, x9⟩
        rw [hit] at OS FN HK d0 d1 d2 d3 d4 d5 d6 d7 d8
        simp only at FN HK d0 d1 d2 d3 d4 d5 d6 d7 d8
        by_cases h0 : x8 = 0
        · subst h0
          by_cases h1 : x9 = 0
          · subst h1
            have hF := hide (FN.out (Or.inr (Or.inl rfl)))
            have HO : Hid (oL l (k + 1) = oL l k ++ [⟨x1, x2, x3, x4, x5, x6, x7⟩]) := OS.out.trans (by rw [one_x rfl rfl])
            clear OS FN HK
            go_upto_region 14 with fail
            refine gen_world (motive := fun x => Code.wp _ _ _ _ x) (fun V => Ah w1.heap.size wr.heap.size u8 (oL l k) ⟨x1, x2, x3, x4, x5, x6, x7⟩ 0 w1 V) ⟨hR.out.kept (bel_one _ _), bel_al hb _, Row9.made wr x1 x2 x3 x4 x5 x6 x7 0 0⟩ ?_
            clear d0 d1 d2 d3 d4 d5 d6 d7 d8 hR hb
            rintro V ⟨hR1, hB1, hW⟩
            obtain ⟨e0, e1, e2, e3, e4, e5, e6, _, _⟩ := hW.cells
            clear hW
            have HBS : Hid (w1.heap.size ≤ (V.alloc (.cells (xc ⟨x1, x2, x3, x4, x5, x6, x7⟩) 40)).heap.size) := by have := hB1.size; show _ ≤ _; simp; omega
            have OWN : Hid ((V.alloc (.cells (xc ⟨x1, x2, x3, x4, x5, x6, x7⟩) 40)).ownsRow w1.heap.size 40 7 u8 (oL l k).length (xsl (oL l k))) := World.ownsRow.alloc hR1 (.cells (xc ⟨x1, x2, x3, x4, x5, x6, x7⟩) 40)
            have NX := hide (new_x V ⟨x1, x2, x3, x4, x5, x6, x7⟩)
            have XC := hide (x_cell ⟨x1, x2, x3, x4, x5, x6, x7⟩)
            have hon := OLN.out
            simp only [xc, xi_op, xi_wide, xi_r, xi_b, xi_i, xi_c, xi_n] at HBS OWN NX XC e0 e1 e2 e3 e4 e5 e6
            go_wp2_with (at_builtin; (refine wpList_append_own _ rfl (.tmp 52) (.tmp 55) 46 rfl w1.heap.size 40 i0 _ 7 56 Try.underlying46 hi hz0 hz1 hz2 rfl (by decide) _ (oL l k).length _ rfl OWN.out ⟨V.heap.size, 0, none⟩ 1 1 [.int .i64 x1, .bool x2, .int .i64 x3, .int .i64 x4, .int .i64 x5, .int .i64 x6, .int .i64 x7] rfl rfl NX.out XC.out (by unfold maxLen; omega) (by omega) HBS.out ?_))
            intro v' w3 hown hgrow _
            have R3 : Hid (XV w1.heap.size v' (oL l (k + 1)) w3) := by
              show w3.ownsRow _ _ _ _ _ _
              rw [HO.out, xsl_snoc, List.length_append]
              exact hown
            have B3 : Below w1.heap.size w1 w3 := (bel_al hB1 _).trans (own_bel OWN.out HBS.out hgrow)
            clear hown hgrow OWN HBS hR1 hB1 NX XC e0 e1 e2 e3 e4 e5 e6
            go_wp2_with fail
            go_roundw
            case rel => exact ⟨k + 1, by omega, by go_num, R3, B3, hF⟩
            case measure => simp [intOf]; omega
          · have HM0 : Hid (LM w.heap.size l l.length (wr.alloc (.cells #[.int .i64 x1, .bool x2, .int .i64 x3, .int .i64 x4, .int .i64 x5, .int .i64 x6, .int .i64 x7, .int .i64 0, .int .i64 x9] 42))) := HM.out.kept (bel_al hb _)
            have HS0 := mp_has l h1 l.length (Nat.le_refl _)
            rw [List.take_length] at HS0
            have HPc : (wr.alloc (.cells #[.int .i64 x1, .bool x2, .int .i64 x3, .int .i64 x4, .int .i64 x5, .int .i64 x6, .int .i64 x7, .int .i64 0, .int .i64 x9] 42)).cell? ⟨g, k + 1, none⟩ = some (.int .i64 (pt l (k + 1) : Int)) := by
              have := (HP1.out.kept (bel_al hb (.cells #[.int .i64 x1, .bool x2, .int .i64 x3, .int .i64 x4, .int .i64 x5, .int .i64 x6, .int .i64 x7, .int .i64 0, .int .i64 x9] 42))).2 (k + 1) (by rw [pls_len]; omega)
              rw [pls_get] at this; exact this
            cases hf : fd l x9 with
            | none =>
              rw [hf] at HS0
              have HS := hide HS0
              have R := hide (asR_no (l := l) fun h => h.2.2 ⟨k, hlt, by rw [hit], by rw [hit]; exact h1, by rw [hit]; exact hf⟩)
              clear HS0 hf OS FN HPc
              go_wp2_with (first | (at_lookup; refine wpList_lookup_own_ok_int _ rfl _ _ 63 rfl 3 3 .i64 law3 Try.underlying63 Try.underlying3 (zero3 _) w.heap.size l.length (mp l l.length) rfl HM0.out _ _ rfl HK.out ?_; intro cc hat hwc; rw [HS.out]; clear hat hwc) | fail)
              go_ret2
              exact ⟨by rw [R.out.1, R.out.2]; rfl, bel_tr b1 (bel_al hb _)⟩
            | some j =>
              rw [hf] at HS0
              have HS := hide HS0
              have hF := hide (FN.out (Or.inr (Or.inr (by rw [hf]; exact fun h => by cases h))))
              have HAT := hide (mp_at l h1 (.lit (.int .i64 0)) l.length (Nat.le_refl _) (fun j hj _ h => HU.out j hj h) j (by rw [List.take_length]; exact hf))
              have HO0 : Hid (oL l (k + 1) = oL l k ++ [⟨x1, x2, x3, x4, x5, x6, (pt l j : Int) - (pt l (k + 1) : Int)⟩]) := OS.out.trans (by rw [one_j rfl h1 hf])
              obtain ⟨hj1, _⟩ := fd_lt hf
              have q1 := pt_le l j
              have q2 := pt_le l (k + 1)
              have hpj : (0 : Int) ≤ (pt l j : Int) ∧ (pt l j : Int) ≤ 20000 := by omega
              have hpk : (0 : Int) ≤ (pt l (k + 1) : Int) ∧ (pt l (k + 1) : Int) ≤ 20000 := by omega
              clear HS0 hf OS FN q1 q2
              generalize (pt l (k + 1) : Int) = p at *
              generalize (pt l j : Int) = pj at *
              obtain ⟨p1, p2⟩ := hpk
              go_upto_region 11 with (first | (at_lookup; refine wpList_lookup_own_ok_int _ rfl _ _ 63 rfl 3 3 .i64 law3 Try.underlying63 Try.underlying3 (zero3 _) w.heap.size l.length (mp l l.length) rfl HM0.out _ _ rfl HK.out ?_; intro cc hat hwc; rw [HS.out]; clear hwc; rw [HAT.out] at hat) | fail)
              have hcc : pj = cc := by injection hat with hat; injection hat
              subst hcc
              clear hat HAT HM0 HS HK
              obtain ⟨j1, j2⟩ := hpj
              have HO := HO0
              clear HO0
              go_upto_region 14 with fail
              refine gen_world (motive := fun x => Code.wp _ _ _ _ x) (fun V => Ah w1.heap.size wr.heap.size u8 (oL l k) ⟨x1, x2, x3, x4, x5, x6, pj - p⟩ x9 w1 V) ⟨hR.out.kept (bel_one _ _), bel_al hb _, Row9.made wr x1 x2 x3 x4 x5 x6 (pj - p) 0 x9⟩ ?_
              clear d0 d1 d2 d3 d4 d5 d6 d7 d8 hR hb HPc
              rintro V ⟨hR1, hB1, hW⟩
              obtain ⟨e0, e1, e2, e3, e4, e5, e6, _, _⟩ := hW.cells
              clear hW
              have HBS : Hid (w1.heap.size ≤ (V.alloc (.cells (xc ⟨x1, x2, x3, x4, x5, x6, pj - p⟩) 40)).heap.size) := by have := hB1.size; show _ ≤ _; simp; omega
              have OWN : Hid ((V.alloc (.cells (xc ⟨x1, x2, x3, x4, x5, x6, pj - p⟩) 40)).ownsRow w1.heap.size 40 7 u8 (oL l k).length (xsl (oL l k))) := World.ownsRow.alloc hR1 (.cells (xc ⟨x1, x2, x3, x4, x5, x6, pj - p⟩) 40)
              have NX := hide (new_x V ⟨x1, x2, x3, x4, x5, x6, pj - p⟩)
              have XC := hide (x_cell ⟨x1, x2, x3, x4, x5, x6, pj - p⟩)
              have hon := OLN.out
              simp only [xc, xi_op, xi_wide, xi_r, xi_b, xi_i, xi_c, xi_n] at HBS OWN NX XC e0 e1 e2 e3 e4 e5 e6
              go_wp2_with (at_builtin; (refine wpList_append_own _ rfl (.tmp 52) (.tmp 55) 46 rfl w1.heap.size 40 i0 _ 7 56 Try.underlying46 hi hz0 hz1 hz2 rfl (by decide) _ (oL l k).length _ rfl OWN.out ⟨V.heap.size, 0, none⟩ 1 1 [.int .i64 x1, .bool x2, .int .i64 x3, .int .i64 x4, .int .i64 x5, .int .i64 x6, .int .i64 (pj - p)] rfl rfl NX.out XC.out (by unfold maxLen; omega) (by omega) HBS.out ?_))
              intro v' w3 hown hgrow _
              have R3 : Hid (XV w1.heap.size v' (oL l (k + 1)) w3) := by
                show w3.ownsRow _ _ _ _ _ _
                rw [HO.out, xsl_snoc, List.length_append]
                exact hown
              have B3 : Below w1.heap.size w1 w3 := (bel_al hB1 _).trans (own_bel OWN.out HBS.out hgrow)
              clear hown hgrow OWN HBS hR1 hB1 NX XC e0 e1 e2 e3 e4 e5 e6
              go_wp2_with fail
              go_roundw
              case rel => exact ⟨k + 1, by omega, by go_num, R3, B3, hF⟩
              case measure => simp [intOf]; omega
        · have hF := hide (FN.out (Or.inl h0))
          have HO : Hid (oL l (k + 1) = oL l k) := OS.out.trans (by rw [one_no h0, List.append_nil])
          clear OS FN HK
          go_wp2_with fail
          go_roundw
          case rel => exact ⟨k + 1, by omega, by go_num, hide (by show XV _ _ _ _; rw [HO.out]; exact hR.out.kept (bel_one _ _)), bel_al hb _, hF⟩
          case measure => simp [intOf]; omega
      · have hkm : k = l.length := by omega
        subst hkm
        have R := hide (asR_yes HOK.out HU.out fun ⟨j, hj, h1, h2, h3⟩ => hA.out j hj hj h1 h2 h3)
        have OKS : Hid (∀ j (hj : j < (oL l l.length).length), (oL l l.length)[j].ok) := oL_ok hl (fun j hj => by
          rcases HX1.out with h | ⟨b, off, rfl, hX⟩
          · rw [h] at hj; simp at hj
          · exact hX.ok hj) l.length (Nat.le_refl _)
        have OLN := hide (oL_len l l.length)
        obtain ⟨a9, c9, hv9, hxs⟩ := hR.out.xs OKS.out
        subst hv9
        have AL := hide (all_xs a9 (oL l l.length) c9 wr hxs (by have := OLN.out; omega))
        clear hxs OKS
        go_wp2_with fail
        refine AL.out.mono ?_
        rintro e w2 ⟨rfl, b2⟩
        go_wp2_with fail
        go_ret2
        exact ⟨by rw [R.out.1, R.out.2]; rfl, bel_tr (bel_tr b1 hb) b2⟩
set_option maxHeartbeats 2000000 in
/-- Assemble. -/
theorem assemble_any (a : Option Addr) (cap : Nat) (l : List It) (w : World) (hl : l.length ≤ 1000) (hX : IS w a l) : Calls Try.prog 12 #[.slice a l.length cap] w fun e w' => e = .returned (.tuple #[.string (str (asS l)), .int .i64 (asE l)]) ∧ Below w.heap.size w w' := by
  have PL := hide (places_any a cap l w hl hX)
  have HX := hide hX
  clear hX
  go_enter Try.func12, Try.ntmps12
  go_wp2_with fail
  refine PL.out.mono ?_
  rintro e w1 (⟨hp, v, rfl, hR, b1⟩ | ⟨hp, rfl, b1⟩)
  case inr =>
    have R := hide (asR_no (l := l) fun h => by rw [hp] at h; cases h.1)
    clear hp
    go_wp2_with fail
    go_ret2
    exact ⟨by rw [R.out.1, R.out.2]; rfl, b1⟩
  case inl =>
    obtain ⟨g, c, rfl, hg1, hg2, hgc⟩ := hR.at (by rw [pls_len]; omega)
    rw [pls_len]
    have AT := hide (at_any a cap l g c w1 hl (HX.out.below b1) ⟨hg2, hgc⟩ hp)
    unfold AtIs at AT
    clear hR hgc hp HX PL
    go_wp2_with fail
    refine AT.out.mono ?_
    rintro e w2 ⟨rfl, b2⟩
    go_wp2_with fail
    go_ret2
    exact ⟨rfl, bel_tr b1 b2⟩
end Go.Proofs.Ytookbgnidinkoaa
/-
  Two lists of numbers held against each other; the chapter's examples.
-/
namespace Go.Proofs.Ytookbgnidinkoaa
open Go.RowKit
open Xc
set_option linter.unusedSimpArgs false
set_option linter.unusedVariables false
/-- Numbers that can be read. -/
def RI (w : World) (a : Option Addr) (ns : List Int) : Prop := ns = [] ∨ ∃ b off, a = some ⟨b, off, none⟩ ∧ b < w.heap.size ∧ ∀ j (hj : j < ns.length), w.cell? ⟨b, off + j, none⟩ = some (.int .i64 ns[j])
theorem RI.kept {w w' : World} {a : Option Addr} {ns : List Int} (h : RI w a ns) (k : Below w.heap.size w w') : RI w' a ns := by
  rcases h with h | ⟨b, off, e, hb, h⟩
  · exact Or.inl h
  · exact Or.inr ⟨b, off, e, Nat.lt_of_lt_of_le hb k.size, fun j hj => (k.cell (p := ⟨b, off + j, none⟩) hb).trans (h j hj)⟩
theorem NR.ri {B : Nat} {v : Value} {ns : List Int} {w : World} (h : NR B v ns w) : ∃ a c, v = .slice a ns.length c ∧ RI w a ns := by
  rcases Nat.eq_zero_or_pos ns.length with h0 | h0
  · obtain ⟨a, c, e⟩ := h.form
    exact ⟨a, c, e, Or.inl (List.length_eq_zero_iff.1 h0)⟩
  · obtain ⟨g, c, e, hb, hlt, hc⟩ := h.at h0
    exact ⟨_, c, e, Or.inr ⟨g, 0, rfl, hlt, fun j hj => by rw [Nat.zero_add]; exact hc j hj⟩⟩
def NuIs (a1 : Option Addr) (c1 : Nat) (xs : List Int) (a2 : Option Addr) (c2 : Nat) (ys : List Int) (w : World) : Prop := Calls Try.prog 11 #[.slice a1 xs.length c1, .slice a2 ys.length c2] w fun e w' => e = .returned (.bool (decide (xs = ys))) ∧ Below w.heap.size w w'
set_option maxHeartbeats 2000000 in
theorem numbers_any (a1 : Option Addr) (c1 : Nat) (xs : List Int) (a2 : Option Addr) (c2 : Nat) (ys : List Int) (w : World) (hl : xs.length ≤ 2000000) (h1 : RI w a1 xs) (h2 : RI w a2 ys) : NuIs a1 c1 xs a2 c2 ys w := by
  unfold NuIs
  by_cases hn : xs.length = ys.length
  · have H1 := hide h1
    have H2 := hide h2
    have hnn : ((xs.length : Int) == (ys.length : Int)) = true := by simp [hn]
    clear h1 h2
    go_enter Try.func11, Try.ntmps11
    go_wp2_with fail
    go_loopw [5] (fun iv wr => ∃ k : Nat, k ≤ xs.length ∧ iv = .int .i64 (k : Int) ∧ Below w.heap.size w wr ∧ Hid (∀ j (hj : j < xs.length) (hj2 : j < ys.length), j < k → xs[j] = ys[j])) (fun iv _ => xs.length - (intOf iv).toNat)
    case atStart => exact ⟨0, by omega, rfl, Below.refl _ _, hide (fun j hj _ h => absurd h (by omega))⟩
    case round =>
      obtain ⟨k, hk, rfl, hb, hA⟩ := hrel
      by_cases hlt : k < xs.length
      · have hlt2 : k < ys.length := by omega
        rcases H1.out with h | ⟨b, off, rfl, hbb, h1⟩
        · rw [h] at hlt; simp at hlt
        rcases H2.out with h | ⟨b2, off2, rfl, hbb2, h2⟩
        · rw [h] at hlt2; simp at hlt2
        have c1 := (hb.cell (p := ⟨b, off + k, none⟩) hbb).trans (h1 k hlt)
        have c2 := (hb.cell (p := ⟨b2, off2 + k, none⟩) hbb2).trans (h2 k hlt2)
        by_cases he : xs[k] = ys[k]
        · have hA2 : Hid (∀ j (hj : j < xs.length) (hj2 : j < ys.length), j < k + 1 → xs[j] = ys[j]) := fun j hj hj2 h => by
            rcases Nat.lt_or_ge j k with h' | h'
            · exact hA.out j hj hj2 h'
            · have : j = k := by omega
              subst this; exact he
          clear hA h1 h2
          rw [← he] at c2
          generalize xs[k] = x at *
          clear he
          go_wp2_with fail
          go_region
          all_goals
            go_wp2_with fail
            go_roundw
            case rel => exact ⟨k + 1, by omega, by go_num, hb.drew, hA2⟩
            case measure => simp [intOf]; omega
        · have hD : Hid (decide (xs = ys) = false) := decide_eq_false fun h => he (by simp [h])
          have hne : (xs[k] == ys[k]) = false := by simpa using he
          clear hA h1 h2 he
          generalize xs[k] = x at *
          generalize ys[k] = y at *
          go_wp2_with fail
          go_region
          all_goals
            go_wp2_with fail
            go_ret
            exact ⟨by rw [hD.out]; rfl, hb.drew⟩
      · have hkm : k = xs.length := by omega
        subst hkm
        have hD : Hid (decide (xs = ys) = true) := decide_eq_true (List.ext_getElem hn fun j h1 h2 => hA.out j h1 h2 h1)
        clear hA
        go_wp2_with fail
        go_ret
        exact ⟨by rw [hD.out]; rfl, hb⟩
  · have hD : Hid (decide (xs = ys) = false) := decide_eq_false fun h => hn (by rw [h])
    have hnn : ((xs.length : Int) == (ys.length : Int)) = false := by simp; omega
    go_enter Try.func11, Try.ntmps11
    go_wp2_with fail
    go_ret
    exact ⟨by rw [hD.out]; rfl, Below.refl _ _⟩
def nulX : Xi := ⟨0, false, 0, 0, 0, 0, 0⟩
def ex1 : List It := [⟨nulX, 1, 0⟩, ⟨⟨20, false, 0, 0, 0, 0, 0⟩, 0, 0⟩, ⟨⟨17, false, 0, 0, 0, 0, 0⟩, 0, 1⟩]
def ex2 : List It := [⟨⟨17, false, 0, 0, 0, 0, 0⟩, 0, 2⟩]
def exO : List Xi := [⟨20, false, 0, 0, 0, 0, 0⟩, ⟨17, false, 0, 0, 0, 0, -6⟩]
theorem exO_gd : Gd exO := by
  intro x hx
  simp [exO] at hx
  rcases hx with rfl | rfl
  · exact ⟨by decide, by unfold I64; simp⟩
  · exact ⟨by decide, by unfold I64; simp⟩
theorem exO_enc : encs exO = [0xc3, 0xe9, 0xfa, 0xff, 0xff, 0xff] := by decide
theorem exO_offs : offs exO = [0, 1] := by decide
theorem ex1_o : oL ex1 3 = exO := rfl
theorem ex1_s : asS ex1 = [0xc3, 0xe9, 0xfa, 0xff, 0xff, 0xff] ∧ asE ex1 = 0 := by
  have h := asR_yes (l := ex1) (by decide) (fun k h hk => by
    match k, h with
    | 0, _ => rfl
    | 1, _ => exact absurd rfl hk
    | 2, _ => exact absurd rfl hk) (fun ⟨k, h, h1, h2, h3⟩ => by
    match k, h with
    | 0, _ => exact absurd h1 (by show ¬ ((1 : Int) = 0); decide)
    | 1, _ => exact absurd rfl h2
    | 2, _ => exact absurd h3 (by show ¬ (fd ex1 1 = none); decide))
  rw [h.1, h.2]
  show aS (oL ex1 3) = _ ∧ aE (oL ex1 3) = _
  rw [ex1_o]
  exact ⟨by decide, by decide⟩
theorem ex2_s : asE ex2 = 4 := (asR_no (l := ex2) fun h => h.2.2 ⟨0, by decide, rfl, by decide, by decide⟩).2
theorem made_items (w : World) (l : List It) (cs : Array Value) (hc : ∀ j (h : j < l.length) i, i < 9 → cs[j * 9 + i]? = #[.int .i64 l[j].x.op, .bool l[j].x.wide, .int .i64 l[j].x.r, .int .i64 l[j].x.b, .int .i64 l[j].x.i, .int .i64 l[j].x.c, .int .i64 l[j].x.n, .int .i64 l[j].lb, .int .i64 l[j].tg][i]?) (ho : ∀ j (h : j < l.length), l[j].ok) : IS (w.alloc (.cells cs 42)) (some ⟨w.heap.size, 0, none⟩) l := by
  refine Or.inr ⟨w.heap.size, 0, rfl, fun j hj => ?_⟩
  have e := heap_alloc_new w (.cells cs 42)
  have cc : ∀ i v, i < 9 → #[Value.int .i64 l[j].x.op, .bool l[j].x.wide, .int .i64 l[j].x.r, .int .i64 l[j].x.b, .int .i64 l[j].x.i, .int .i64 l[j].x.c, .int .i64 l[j].x.n, .int .i64 l[j].lb, .int .i64 l[j].tg][i]? = some v → (w.alloc (.cells cs 42)).cell? ⟨w.heap.size, 0 + j * 9 + i, none⟩ = some v := fun i v hi h => by
    simp only [World.cell?, e, Nat.zero_add]
    rw [hc j hj i hi]; exact h
  exact ⟨by simp, ho j hj, cc 0 _ (by omega) rfl, cc 1 _ (by omega) rfl, cc 2 _ (by omega) rfl, cc 3 _ (by omega) rfl, cc 4 _ (by omega) rfl, cc 5 _ (by omega) rfl, cc 6 _ (by omega) rfl, cc 7 _ (by omega) rfl, cc 8 _ (by omega) rfl⟩
theorem ok_small {op : Int} {a b : Int} (h0 : 0 ≤ op) (h1 : op ≤ 100) (h2 : 0 ≤ a) (h3 : a ≤ 100) (h4 : 0 ≤ b) (h5 : b ≤ 100) : It.ok ⟨⟨op, false, 0, 0, 0, 0, 0⟩, a, b⟩ := by
  unfold It.ok Xi.ok I64
  simp only
  omega
def exA1 : Array Value := #[.int .i64 0, .bool false, .int .i64 0, .int .i64 0, .int .i64 0, .int .i64 0, .int .i64 0, .int .i64 1, .int .i64 0, .int .i64 20, .bool false, .int .i64 0, .int .i64 0, .int .i64 0, .int .i64 0, .int .i64 0, .int .i64 0, .int .i64 0, .int .i64 17, .bool false, .int .i64 0, .int .i64 0, .int .i64 0, .int .i64 0, .int .i64 0, .int .i64 0, .int .i64 1]
def exA2 : Array Value := #[.int .i64 17, .bool false, .int .i64 0, .int .i64 0, .int .i64 0, .int .i64 0, .int .i64 0, .int .i64 0, .int .i64 2]
theorem exA1_is (w : World) : IS (w.alloc (.cells exA1 42)) (some ⟨w.heap.size, 0, none⟩) ex1 := made_items w ex1 exA1 (fun j h i hi => by
  match j, h with
  | 0, _ => match i, hi with
    | 0, _ | 1, _ | 2, _ | 3, _ | 4, _ | 5, _ | 6, _ | 7, _ | 8, _ => rfl
  | 1, _ => match i, hi with
    | 0, _ | 1, _ | 2, _ | 3, _ | 4, _ | 5, _ | 6, _ | 7, _ | 8, _ => rfl
  | 2, _ => match i, hi with
    | 0, _ | 1, _ | 2, _ | 3, _ | 4, _ | 5, _ | 6, _ | 7, _ | 8, _ => rfl) (fun j h => by
  match j, h with
  | 0, _ => exact ok_small (by decide) (by decide) (by decide) (by decide) (by decide) (by decide)
  | 1, _ => exact ok_small (by decide) (by decide) (by decide) (by decide) (by decide) (by decide)
  | 2, _ => exact ok_small (by decide) (by decide) (by decide) (by decide) (by decide) (by decide))
theorem exA2_is (w : World) : IS (w.alloc (.cells exA2 42)) (some ⟨w.heap.size, 0, none⟩) ex2 := made_items w ex2 exA2 (fun j h i hi => by
  match j, h with
  | 0, _ => match i, hi with
    | 0, _ | 1, _ | 2, _ | 3, _ | 4, _ | 5, _ | 6, _ | 7, _ | 8, _ => rfl) (fun j h => by
  match j, h with
  | 0, _ => exact ok_small (by decide) (by decide) (by decide) (by decide) (by decide) (by decide))
def exB : ByteArray := { data := #[195, 233, 250, 255, 255, 255] }
theorem starts_ex (w : World) : Calls Try.prog 14 #[.string exB] w fun e w' => ∃ v, e = .returned (.tuple #[v, .int .i64 0]) ∧ NR w.heap.size v [0, 1] w' ∧ Below w.heap.size w w' := by
  refine (starts_any exB w (by decide)).mono ?_
  rintro e w' (⟨o, v, g, h, rfl, hR, b⟩ | ⟨h, _⟩)
  · refine ⟨v, rfl, ?_, b⟩
    have h' : encs exO ++ [] = encs o := by rw [List.append_nil, exO_enc, h]; rfl
    obtain ⟨o2, e, f⟩ := uniq exO o [] exO_gd g h'
    have : o2 = [] := by
      have := len_le o2
      rw [f] at this
      exact List.length_eq_zero_iff.1 (by simpa using this)
    rw [this, List.append_nil] at e
    rw [e, exO_offs] at hR
    exact hR
  · exact absurd ⟨exO, exO_gd, by rw [exO_enc]; rfl⟩ h
theorem two_made (w : World) : RI (w.alloc (.cells #[.int .i64 0, .int .i64 1] 3)) (some ⟨w.heap.size, 0, none⟩) [0, 1] := by
  refine Or.inr ⟨w.heap.size, 0, rfl, by simp, fun j hj => ?_⟩
  have e := heap_alloc_new w (.cells #[.int .i64 0, .int .i64 1] 3)
  match j, hj with
  | 0, _ => simp only [World.cell?, e]; rfl
  | 1, _ => simp only [World.cell?, e]; rfl
set_option maxHeartbeats 2000000 in
theorem examples_any (w : World) : Calls Try.prog 8 #[] w fun e w' => e = .returned (.bool true) ∧ Below w.heap.size w w' := by
  have A1 := hide (fun U => assemble_any _ 3 ex1 _ (by decide) (exA1_is U))
  have A2 := hide (fun U => assemble_any _ 1 ex2 _ (by decide) (exA2_is U))
  rw [ex1_s.1, ex1_s.2] at A1
  rw [ex2_s] at A2
  have ST := hide starts_ex
  have T2 := hide two_made
  unfold exA1 at A1
  unfold exA2 at A2
  unfold exB at ST
  have hs : ((str [195, 233, 250, 255, 255, 255]).toList == [195, 233, 250, 255, 255, 255]) = true := by kernel_rfl
  go_enter Try.func8, Try.ntmps8
  go_wp2_with fail
  refine (A1.out _).mono ?_
  rintro e w1 ⟨rfl, b1⟩
  have B1 := hide (bel_tr (bel_one w _) b1)
  clear b1
  go_wp2_with fail
  refine (ST.out _).mono ?_
  rintro e w2 ⟨v, rfl, hR, b2⟩
  have B2 := hide (bel_tr B1.out b2)
  obtain ⟨a, c, rfl, hRI⟩ := hR.ri
  clear b2 B1 hR
  have NU := hide (numbers_any a c [0, 1] (some ⟨w2.heap.size, 0, none⟩) 2 [0, 1] _ (by decide) (hRI.kept (bel_one w2 (.cells #[.int .i64 0, .int .i64 1] 3))) (T2.out w2))
  unfold NuIs at NU
  clear hRI T2
  go_wp2_with fail
  refine NU.out.mono ?_
  rintro e w3 ⟨rfl, b3⟩
  have B3 := hide (bel_tr (bel_al B2.out _) b3)
  clear b3 B2 NU
  go_wp2_with fail
  refine (A2.out _).mono ?_
  rintro e w4 ⟨rfl, b4⟩
  have B4 := hide (bel_tr (bel_al B3.out _) b4)
  clear b4 B3
  go_wp2_with fail
  go_ret
  exact ⟨rfl, B4.out⟩
end Go.Proofs.Ytookbgnidinkoaa
/-
  Plain: items without labels behind others; bytes of instructions in one way.
-/
namespace Go.Proofs.Ytookbgnidinkoaa
open Go.RowKit
open Xc
set_option linter.unusedSimpArgs false
set_option linter.unusedVariables false
/-- An instruction as an item. -/
def pl (x : Xi) : It := ⟨x, 0, 0⟩
theorem pl_sOk (x : Xi) : sOk (pl x) = rt x := by simp [pl, sOk]
theorem all_gd {o : List Xi} (h : aOk o = true) (hn : ∀ x ∈ o, I64 x.n) : Gd o := fun x hx => ⟨by
  unfold aOk at h
  rw [List.all_eq_true] at h
  exact h x hx, hn x hx⟩
theorem two_pt {l : List It} (m : List Xi) {k : Nat} (h : k ≤ l.length) : pt (l ++ m.map pl) k = pt l k := by
  unfold pt
  rw [List.take_append_of_le_length h]
theorem pl_lb {m : List Xi} {k : Nat} (h : k < (m.map pl).length) : (m.map pl)[k].lb = 0 ∧ (m.map pl)[k].tg = 0 := by
  rw [List.getElem_map]; exact ⟨rfl, rfl⟩
theorem fd_pl (m : List Xi) {y : Int} (hy : y ≠ 0) : fd (m.map pl) y = none := by
  unfold fd
  rw [List.findIdx?_eq_none_iff]
  intro t ht
  obtain ⟨x, _, rfl⟩ := List.mem_map.1 ht
  simp [pl]; omega
theorem fd_two (l : List It) (m : List Xi) {y : Int} (hy : y ≠ 0) : fd (l ++ m.map pl) y = fd l y := by
  have h := fd_pl m hy
  unfold fd at *
  rw [List.findIdx?_append, h]
  simp
theorem oL_two (l : List It) (m : List Xi) : ∀ k, k ≤ l.length → oL (l ++ m.map pl) k = oL l k
  | 0, _ => rfl
  | k + 1, hk => by
    have h : k < l.length := hk
    rw [oL_succ (l := l ++ m.map pl) (by simp; omega), oL_succ h, oL_two l m k (by omega), List.getElem_append_left h]
    congr 1
    unfold one
    split
    · unfold jx
      split
      · rfl
      · rename_i h2
        rw [fd_two l m h2, two_pt m hk]
        have : pt (l ++ m.map pl) ((fd l l[k].tg).getD 0) = pt l ((fd l l[k].tg).getD 0) := two_pt m (by
          cases hf : fd l l[k].tg with
          | none => simp
          | some j => obtain ⟨hj, _⟩ := fd_lt hf; simp; omega)
        rw [this]
    · rfl
theorem oL_more (l : List It) (m : List Xi) : ∀ k, k ≤ m.length → oL (l ++ m.map pl) (l.length + k) = oL l l.length ++ m.take k
  | 0, _ => by rw [Nat.add_zero, oL_two l m _ (Nat.le_refl _)]; simp
  | k + 1, hk => by
    have h : k < m.length := hk
    rw [← Nat.add_assoc, oL_succ (l := l ++ m.map pl) (by simp; omega), oL_more l m k (by omega), List.getElem_append_right (by omega), List.append_assoc, List.take_succ_eq_append_getElem h]
    congr 2
    simp [one, jx, pl]
theorem two_asR {l : List It} {m : List Xi} {o : List Xi} (h : asR l = some o) (hm : aOk m = true) : asR (l ++ m.map pl) = some (o ++ m) := by
  unfold asR at h
  split at h
  · rename_i hc
    obtain ⟨h1, h2, h3⟩ := hc
    obtain rfl := Option.some.inj h
    have c1 : pOk (l ++ m.map pl) = true := by
      unfold pOk at *
      rw [List.all_append, h1, Bool.true_and, List.all_map]
      unfold aOk at hm
      rw [List.all_eq_true] at hm ⊢
      intro x hx
      show sOk (pl x) = true
      rw [pl_sOk]; exact hm x hx
    have c2 : Uq (l ++ m.map pl) := fun k hk h0 => by
      rcases Nat.lt_or_ge k l.length with h' | h'
      · rw [List.getElem_append_left h'] at h0 ⊢
        rw [List.take_append_of_le_length (by omega)]
        exact h2 k h' h0
      · rw [List.getElem_append_right h'] at h0
        exact absurd (pl_lb _).1 h0
    have c3 : ¬ Lost (l ++ m.map pl) := fun ⟨k, hk, a1, a2, a3⟩ => by
      rcases Nat.lt_or_ge k l.length with h' | h'
      · rw [List.getElem_append_left h'] at a1 a2 a3
        rw [fd_two l m a2] at a3
        exact h3 ⟨k, h', a1, a2, a3⟩
      · rw [List.getElem_append_right h'] at a2
        exact absurd (pl_lb _).2 a2
    unfold asR
    rw [if_pos ⟨c1, c2, c3⟩]
    have := oL_more l m m.length (Nat.le_refl _)
    rw [List.take_length] at this
    rw [List.length_append, List.length_map, this]
  · cases h
/-- What was assembled is instructions. -/
theorem as_ok {l : List It} (h : asE l = 0) : ∃ o, asR l = some o ∧ aOk o = true ∧ asS l = encs o := by
  unfold asE at h
  cases hr : asR l with
  | none => rw [hr] at h; cases h
  | some o =>
    rw [hr] at h
    simp only [aE] at h
    have ha : aOk o = true := by
      cases hq : aOk o
      · rw [hq] at h; simp at h
      · rfl
    exact ⟨o, rfl, ha, by simp [asS, hr, aS, ha]⟩
theorem two_as {l : List It} {m o : List Xi} (h : asR l = some o) (ho : aOk o = true) (hm : aOk m = true) : asS (l ++ m.map pl) = encs o ++ encs m ∧ asE (l ++ m.map pl) = 0 := by
  have hr := two_asR h hm
  have ha : aOk (o ++ m) = true := by unfold aOk at *; rw [List.all_append, ho, hm]; rfl
  exact ⟨by simp [asS, hr, aS, ha, encs_app], by simp [asE, hr, aE, ha]⟩
theorem gd_one {o o' : List Xi} (g : Gd o) (g' : Gd o') (h : encs o = encs o') : o' = o := by
  obtain ⟨o2, e, f⟩ := uniq o o' [] g g' (by rw [List.append_nil]; exact h)
  have : o2 = [] := by
    have := len_le o2
    rw [f] at this
    exact List.length_eq_zero_iff.1 (by simpa using this)
  rw [e, this, List.append_nil]
theorem offs_app (o p : List Xi) : offs (o ++ p) = offs o ++ (offs p).map fun x => ((encs o).length : Int) + x := by
  apply List.ext_getElem
  · simp [offs_len]
  · intro j h1 h2
    rw [offs_get]
    rw [offs_len] at h1
    by_cases hj : j < o.length
    · rw [List.getElem_append_left (by rw [offs_len]; exact hj), offs_get, List.take_append_of_le_length (by omega)]
    · rw [List.getElem_append_right (by rw [offs_len]; omega), List.getElem_map, offs_get, offs_len, List.take_append, List.take_of_length_le (by omega), encs_app, List.length_append]
      simp
theorem starts_gd (o : List Xi) (g : Gd o) (w : World) (hl : (encs o).length ≤ 1048576) : Calls Try.prog 14 #[.string (str (encs o))] w fun e w' => ∃ v, e = .returned (.tuple #[v, .int .i64 0]) ∧ NR w.heap.size v (offs o) w' ∧ Below w.heap.size w w' := by
  refine (starts_any (str (encs o)) w (by rw [str_size]; exact hl)).mono ?_
  rw [str_data]
  rintro e w' (⟨o', v, g', h, rfl, hR, b⟩ | ⟨h, _⟩)
  · rw [gd_one g g' h.symm] at hR
    exact ⟨v, rfl, hR, b⟩
  · exact absurd ⟨o, g, rfl⟩ h
end Go.Proofs.Ytookbgnidinkoaa
