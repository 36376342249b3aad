/-
  Merged: Rl Rp Rf T Y Za.
-/
import Derived.Test.YtookbgnidinkoaaLA
import Derived.Test.YtookbgnidinkoaaCREnc
/-
  The document's length of an item.
-/
namespace Go.Proofs.Ytookbgnidinkoaa
open Go.RowKit
open Xc
set_option linter.unusedSimpArgs false
set_option linter.unusedVariables false
theorem bel_drewN {B : Nat} {a w : World} (h : Below B a w) (n : Nat) : Below B a (w.drewN n) := ⟨h.os, h.tape, h.output, h.size, h.block⟩
set_option maxHeartbeats 2000000 in
theorem rlen_1 (op : Int) (wd : Bool) (r b i c n lb tg : Int) (w : World) (h0 : lb ≠ 0) : Calls Try.prog 19 #[.agg #[.int .i64 op, .bool wd, .int .i64 r, .int .i64 b, .int .i64 i, .int .i64 c, .int .i64 n, .int .i64 lb, .int .i64 tg]] w fun e w' => e = .returned (.tuple #[.int .i64 0, .bool (isL ⟨⟨op, wd, r, b, i, c, n⟩, lb, tg⟩)]) ∧ Below w.heap.size w w' := by
  have hq := fun w => eql_x op wd r b i c n 0 false 0 0 0 0 0 w
  have e : isL ⟨⟨op, wd, r, b, i, c, n⟩, lb, tg⟩ = (decide (0 < lb) && (xeq ⟨op, wd, r, b, i, c, n⟩ ⟨0, false, 0, 0, 0, 0, 0⟩ && tg == 0)) := rfl
  have E := hide e
  clear e
  generalize xeq ⟨op, wd, r, b, i, c, n⟩ ⟨0, false, 0, 0, 0, 0, 0⟩ = q at *
  by_cases h1 : 0 < lb
  · by_cases h2 : tg = 0
    · subst h2
      have E2 : Hid (isL ⟨⟨op, wd, r, b, i, c, n⟩, lb, 0⟩ = q) := E.out.trans (by simp [h1])
      have hd : decide (0 < lb) = true := decide_eq_true h1
      clear E
      go_enter Try.func19, Try.ntmps19
      go_wp2_with fail
      go_quiet (fail)
      go_wp2_with fail
      go_ret2
      exact ⟨by rw [E2.out]; rfl, bel_drewN (bel_one w _) _⟩
    · have E2 : Hid (isL ⟨⟨op, wd, r, b, i, c, n⟩, lb, tg⟩ = false) := E.out.trans (by simp [h2])
      have hd : decide (0 < lb) = true := decide_eq_true h1
      have h2' : (tg == 0) = false := by simpa using h2
      clear E
      go_enter Try.func19, Try.ntmps19
      go_wp2_with fail
      go_quiet (fail)
      go_wp2_with fail
      go_ret2
      exact ⟨by rw [E2.out]; rfl, bel_drewN (bel_one w _) _⟩
  · have E2 : Hid (isL ⟨⟨op, wd, r, b, i, c, n⟩, lb, tg⟩ = false) := E.out.trans (by simp [h1])
    have hd : decide (0 < lb) = false := decide_eq_false h1
    clear E
    go_enter Try.func19, Try.ntmps19
    go_wp2_with fail
    go_quiet (fail)
    go_wp2_with fail
    go_ret2
    exact ⟨by rw [E2.out]; rfl, bel_drewN (bel_one w _) _⟩
set_option maxHeartbeats 4000000 in
theorem rlen_2 (op : Int) (wd : Bool) (r b i c n tg : Int) (w : World) (hn : I64 n) {q : Bool} {m : Int} (hq : sOk ⟨⟨op, wd, r, b, i, c, n⟩, 0, tg⟩ = q) (hm : ((sN ⟨⟨op, wd, r, b, i, c, n⟩, 0, tg⟩ : Nat) : Int) = m) : Calls Try.prog 19 #[.agg #[.int .i64 op, .bool wd, .int .i64 r, .int .i64 b, .int .i64 i, .int .i64 c, .int .i64 n, .int .i64 0, .int .i64 tg]] w fun e w' => e = .returned (.tuple #[.int .i64 m, .bool q]) ∧ Below w.heap.size w w' := by
  have RE := hide (fun U => renc_any ⟨op, wd, r, b, i, c, n⟩ U hn)
  unfold ReIs reB at RE
  have HY : Hid ((tg = 0 ∨ mG ⟨⟨op, wd, r, b, i, c, n⟩, 0, tg⟩ = true) → q = rt ⟨op, wd, r, b, i, c, n⟩ ∧ m = ((enS ⟨op, wd, r, b, i, c, n⟩).length : Int)) := fun h => by
    have hs : sOk ⟨⟨op, wd, r, b, i, c, n⟩, 0, tg⟩ = rt ⟨op, wd, r, b, i, c, n⟩ := by
      unfold sOk; simp only [if_true]
      rcases h with h | h
      · rw [if_pos h]
      · rw [h, Bool.true_and]; simp
    refine ⟨by rw [← hq, hs], ?_⟩
    rw [← hm]
    unfold sN enS
    rw [hs]
    simp only [if_true]
    cases rt ⟨op, wd, r, b, i, c, n⟩ <;> simp
  have HN : Hid (tg ≠ 0 → mG ⟨⟨op, wd, r, b, i, c, n⟩, 0, tg⟩ = false → q = false ∧ m = 0) := fun h1 h2 => by
    have hs : sOk ⟨⟨op, wd, r, b, i, c, n⟩, 0, tg⟩ = false := by
      unfold sOk; simp only [if_true]
      rw [if_neg h1, h2]; rfl
    refine ⟨by rw [← hq, hs], ?_⟩
    rw [← hm]
    unfold sN
    rw [hs]; simp
  clear hq hm hn
  have sp : op = 17 ∨ op = 18 ∨ op = 19 ∨ (op ≠ 17 ∧ op ≠ 18 ∧ op ≠ 19) := by omega
  by_cases h0 : tg = 0
  · have Y := hide (HY.out (Or.inl h0))
    subst h0
    clear HY HN
    rcases sp with rfl | rfl | rfl | ⟨p1, p2, p3⟩
    · go_enter Try.func19, Try.ntmps19
      go_wp2_with fail
      refine (RE.out _).mono ?_
      rintro e w1 ⟨rfl, b1⟩
      go_wp2_with fail
      go_ret2
      exact ⟨by rw [Y.out.1, Y.out.2]; simp [str_size], bel_tr (bel_one _ _) b1⟩
    · go_enter Try.func19, Try.ntmps19
      go_wp2_with fail
      refine (RE.out _).mono ?_
      rintro e w1 ⟨rfl, b1⟩
      go_wp2_with fail
      go_ret2
      exact ⟨by rw [Y.out.1, Y.out.2]; simp [str_size], bel_tr (bel_one _ _) b1⟩
    · go_enter Try.func19, Try.ntmps19
      go_wp2_with fail
      refine (RE.out _).mono ?_
      rintro e w1 ⟨rfl, b1⟩
      go_wp2_with fail
      go_ret2
      exact ⟨by rw [Y.out.1, Y.out.2]; simp [str_size], bel_tr (bel_one _ _) b1⟩
    · go_enter Try.func19, Try.ntmps19
      go_wp2_with fail
      refine (RE.out _).mono ?_
      rintro e w1 ⟨rfl, b1⟩
      go_wp2_with fail
      go_ret2
      exact ⟨by rw [Y.out.1, Y.out.2]; simp [str_size], bel_tr (bel_one _ _) b1⟩
  by_cases h1 : tg < 0
  · have Y := hide (HN.out h0 (by simp [mG]; intro _ h; omega))
    clear HY HN RE
    rcases sp with rfl | rfl | rfl | ⟨p1, p2, p3⟩
    · go_enter Try.func19, Try.ntmps19
      go_wp2_with fail
      go_ret2
      exact ⟨by rw [Y.out.1, Y.out.2]; rfl, bel_one _ _⟩
    · go_enter Try.func19, Try.ntmps19
      go_wp2_with fail
      go_ret2
      exact ⟨by rw [Y.out.1, Y.out.2]; rfl, bel_one _ _⟩
    · go_enter Try.func19, Try.ntmps19
      go_wp2_with fail
      go_ret2
      exact ⟨by rw [Y.out.1, Y.out.2]; rfl, bel_one _ _⟩
    · go_enter Try.func19, Try.ntmps19
      go_wp2_with fail
      go_ret2
      exact ⟨by rw [Y.out.1, Y.out.2]; rfl, bel_one _ _⟩
  have h2 : 0 < tg := by omega
  rcases sp with rfl | rfl | rfl | ⟨p1, p2, p3⟩
  · by_cases hn0 : n = 0
    · have Y := hide (HY.out (Or.inr (by simp [mG, jmp, h2, hn0])))
      subst hn0
      clear HY HN
      go_enter Try.func19, Try.ntmps19
      go_wp2_with fail
      refine (RE.out _).mono ?_
      rintro e w1 ⟨rfl, b1⟩
      go_wp2_with fail
      go_ret2
      exact ⟨by rw [Y.out.1, Y.out.2]; simp [str_size], bel_tr (bel_one _ _) b1⟩
    · have Y := hide (HN.out h0 (by simp [mG, hn0]))
      clear HY HN RE
      go_enter Try.func19, Try.ntmps19
      go_wp2_with fail
      go_ret2
      exact ⟨by rw [Y.out.1, Y.out.2]; rfl, bel_one _ _⟩
  · by_cases hn0 : n = 0
    · have Y := hide (HY.out (Or.inr (by simp [mG, jmp, h2, hn0])))
      subst hn0
      clear HY HN
      go_enter Try.func19, Try.ntmps19
      go_wp2_with fail
      refine (RE.out _).mono ?_
      rintro e w1 ⟨rfl, b1⟩
      go_wp2_with fail
      go_ret2
      exact ⟨by rw [Y.out.1, Y.out.2]; simp [str_size], bel_tr (bel_one _ _) b1⟩
    · have Y := hide (HN.out h0 (by simp [mG, hn0]))
      clear HY HN RE
      go_enter Try.func19, Try.ntmps19
      go_wp2_with fail
      go_ret2
      exact ⟨by rw [Y.out.1, Y.out.2]; rfl, bel_one _ _⟩
  · by_cases hn0 : n = 0
    · have Y := hide (HY.out (Or.inr (by simp [mG, jmp, h2, hn0])))
      subst hn0
      clear HY HN
      go_enter Try.func19, Try.ntmps19
      go_wp2_with fail
      refine (RE.out _).mono ?_
      rintro e w1 ⟨rfl, b1⟩
      go_wp2_with fail
      go_ret2
      exact ⟨by rw [Y.out.1, Y.out.2]; simp [str_size], bel_tr (bel_one _ _) b1⟩
    · have Y := hide (HN.out h0 (by simp [mG, hn0]))
      clear HY HN RE
      go_enter Try.func19, Try.ntmps19
      go_wp2_with fail
      go_ret2
      exact ⟨by rw [Y.out.1, Y.out.2]; rfl, bel_one _ _⟩
  · have Y := hide (HN.out h0 (by simp [mG, jmp, p1, p2, p3]))
    clear HY HN RE
    go_enter Try.func19, Try.ntmps19
    go_wp2_with fail
    go_ret2
    exact ⟨by rw [Y.out.1, Y.out.2]; rfl, bel_one _ _⟩
theorem rlen_any (t : It) (w : World) (ho : t.ok) : Calls Try.prog 19 #[iv t] w fun e w' => e = .returned (.tuple #[.int .i64 (sN t : Int), .bool (sOk t)]) ∧ Below w.heap.size w w' := by
  obtain ⟨⟨op, wd, r, b, i, c, n⟩, lb, tg⟩ := t
  by_cases h0 : lb = 0
  · subst h0
    exact rlen_2 op wd r b i c n tg w ho.1.2.2.2.2.2 rfl rfl
  · have e1 : sN ⟨⟨op, wd, r, b, i, c, n⟩, lb, tg⟩ = 0 := by simp [sN, h0]
    have e2 : sOk ⟨⟨op, wd, r, b, i, c, n⟩, lb, tg⟩ = isL ⟨⟨op, wd, r, b, i, c, n⟩, lb, tg⟩ := by simp [sOk, h0]
    rw [e1, e2]
    exact rlen_1 op wd r b i c n lb tg w h0
end Go.Proofs.Ytookbgnidinkoaa
/-
  The document's Places.
-/
namespace Go.Proofs.Ytookbgnidinkoaa
open Go.RowKit
open Xc
set_option linter.unusedSimpArgs false
set_option linter.unusedVariables false
theorem lit_row (w : World) : NR w.heap.size (.slice (some ⟨w.heap.size, 0, none⟩) 1 1) [0] (w.alloc (.cells #[.int .i64 0] 3)) :=
  ⟨rfl, Or.inr ⟨w.heap.size, 1, #[.int .i64 0], rfl, Nat.le_refl _, heap_alloc_new w _, by simp, by unfold maxLen; omega, by simp, by simp⟩⟩
def RpEnds (l : List It) (w : World) (e : Ending) (w' : World) : Prop :=
  (pOk l = true ∧ ∃ v, e = .returned (.tuple #[v, .bool true]) ∧ NR w.heap.size v (pls l l.length) w' ∧ Below w.heap.size w w') ∨ (pOk l = false ∧ e = .returned (.tuple #[.slice none 0 0, .bool false]) ∧ Below w.heap.size w w')
set_option maxHeartbeats 4000000 in
theorem rplaces_any (a : Option Addr) (cap : Nat) (l : List It) (w : World) (hl : l.length ≤ 1000) (hX : IS w a l) : Calls Try.prog 10 #[.slice a l.length cap] w (RpEnds l w) := by
  have HX := hide hX
  clear hX
  obtain ⟨i0, hi, hz0, hz1, hz2⟩ := info_parts info3
  have LR := hide (lit_row w)
  go_enter Try.func10, Try.ntmps10
  go_wp2
  go_loopw [4, 5] (fun sv iv wr => ∃ k : Nat, k ≤ l.length ∧ iv = .int .i64 (k : Int) ∧ Hid (NR w.heap.size sv (pls l k) wr) ∧ Below w.heap.size w wr ∧ Hid (∀ j (hj : j < l.length), j < k → sOk l[j] = true)) (fun _ iv _ => l.length - (intOf iv).toNat)
  case atStart => exact ⟨0, by omega, rfl, hide (by show NR _ _ _ _; simpa [pls, pt_0] using LR.out), bel_one _ _, hide (fun j hj h => absurd h (by omega))⟩
  case round =>
    obtain ⟨k, hk, rfl, hR, hb, hA⟩ := hrel
    clear LR
    obtain ⟨g, c, rfl, hg1, hg2, hgc⟩ := hR.out.at (by rw [pls_len]; omega)
    rw [pls_len] at hR ⊢
    by_cases hlt : k < l.length
    · rcases HX.out with h | ⟨b, off, rfl, hX⟩
      · rw [h] at hlt; simp at hlt
      obtain ⟨hbb, ho, c0, c1, c2, c3, c4, c5, c6, c7, c8⟩ := hX k hlt
      have d0 := (hb.cell (p := ⟨b, off + k * 9, none⟩) hbb).trans c0
      have d1 := (hb.cell (p := ⟨b, off + k * 9 + 1, none⟩) hbb).trans c1
      have d2 := (hb.cell (p := ⟨b, off + k * 9 + 2, none⟩) hbb).trans c2
      have d3 := (hb.cell (p := ⟨b, off + k * 9 + 3, none⟩) hbb).trans c3
      have d4 := (hb.cell (p := ⟨b, off + k * 9 + 4, none⟩) hbb).trans c4
      have d5 := (hb.cell (p := ⟨b, off + k * 9 + 5, none⟩) hbb).trans c5
      have d6 := (hb.cell (p := ⟨b, off + k * 9 + 6, none⟩) hbb).trans c6
      have d7 := (hb.cell (p := ⟨b, off + k * 9 + 7, none⟩) hbb).trans c7
      have d8 := (hb.cell (p := ⟨b, off + k * 9 + 8, none⟩) hbb).trans c8
      clear c0 c1 c2 c3 c4 c5 c6 c7 c8
      have hpk := hgc k (by rw [pls_len]; omega)
      rw [pls_get] at hpk
      have SZ := hide (fun U => rlen_any l[k] U ho)
      unfold iv at SZ
      have PS := hide (pt_succ hlt)
      have hp1 := pt_le l k
      have hs1 := sN_le l[k]
      have hp : (0 : Int) ≤ (pt l k : Int) ∧ (pt l k : Int) ≤ 13000 := by omega
      have hs : (0 : Int) ≤ (sN l[k] : Int) ∧ (sN l[k] : Int) ≤ 13 := by omega
      obtain ⟨hp2, hp3⟩ := hp
      obtain ⟨hs2, hs3⟩ := hs
      have PSI : Hid ((pt l k : Int) + (sN l[k] : Int) = (pt l (k + 1) : Int)) := by show _ = _; rw [PS.out]; simp
      have PLS := hide (pls_snoc l k)
      clear hp1 hs1 ho hgc
      cases hq : sOk l[k]
      · have HN := hide (pOk_no hlt hq)
        rw [hq] at SZ
        clear hq
        go_wp2_with fail
        refine (SZ.out _).mono ?_
        rintro e w1 ⟨rfl, b1⟩
        go_wp2_with fail
        go_ret2
        exact Or.inr ⟨HN.out, rfl, bel_tr hb b1⟩
      · rw [hq] at SZ
        have hA2 : Hid (∀ j (hj : j < l.length), j < k + 1 → sOk l[j] = true) := fun j hj h => by
          rcases Nat.lt_or_ge j k with h' | h'
          · exact hA.out j hj h'
          · have : j = k := by omega
            subst this; exact hq
        clear hq hA
        generalize (sN l[k] : Int) = m at *
        generalize hP : (pt l k : Int) = p at *
        have W1 : Hid (∀ w1, Below wr.heap.size wr w1 → Hid (NR w.heap.size (.slice (some ⟨g, 0, none⟩) (k + 1) c) (pls l k) w1) ∧ Below w.heap.size w w1 ∧ w1.cell? ⟨g, k, none⟩ = some (.int .i64 p)) := fun w1 b1 => by
          exact ⟨hR.out.kept b1, bel_tr hb b1, (b1.cell (p := ⟨g, k, none⟩) hg2).trans hpk⟩
        go_wp2_with fail
        refine (SZ.out _).mono ?_
        rintro e w1 ⟨rfl, b1⟩
        obtain ⟨hR1, hb1, hc1⟩ := W1.out w1 b1
        have HBS : Hid (w.heap.size ≤ (w1.alloc (.cells #[.int .i64 (p + m)] 3)).heap.size) := by have := hb1.size; show _ ≤ _; simp; omega
        have OWN : Hid ((w1.alloc (.cells #[.int .i64 (p + m)] 3)).ownsRow w.heap.size 3 1 (.slice (some ⟨g, 0, none⟩) (k + 1) c) (k + 1) ((pls l k).map (Value.int .i64))) := by
          have := World.ownsRow.alloc hR1.out (.cells #[.int .i64 (p + m)] 3)
          rw [pls_len] at this; exact this
        clear b1 W1 hR hpk d0 d1 d2 d3 d4 d5 d6 d7 d8
        go_wp2_with (at_builtin; (refine wpList_append_own _ rfl (.tmp 25) (.tmp 32) 24 rfl w.heap.size 3 i0 _ 1 8 Try.underlying24 hi hz0 hz1 hz2 rfl (by decide) _ (k + 1) _ rfl OWN.out ⟨w1.heap.size, 0, none⟩ 1 1 [.int .i64 (p + m)] rfl rfl (one_at3 w1 (p + m)) (one_cell3 (p + m)) (by unfold maxLen; omega) (by omega) HBS.out ?_))
        intro v' w3 hown hgrow _
        have R3 : Hid (NR w.heap.size v' (pls l (k + 1)) w3) := by
          show w3.ownsRow _ _ _ _ _ _
          rw [PLS.out, ← PSI.out, List.map_append, List.length_append, pls_len]
          exact hown
        have B3 : Below w.heap.size w w3 := (bel_al hb1 _).trans (own_bel OWN.out HBS.out hgrow)
        clear hown hgrow OWN HBS hc1 hR1 hb1
        go_wp2_with fail
        go_roundw
        case rel => exact ⟨k + 1, by omega, by go_num, R3, B3, hA2⟩
        case measure => simp [intOf]; omega
    · have hkm : k = l.length := by omega
      subst hkm
      have ha : pOk l = true := pOk_yes fun j hj => hA.out j hj hj
      go_wp2_with fail
      go_ret2
      exact Or.inl ⟨ha, _, rfl, hR.out, hb⟩
end Go.Proofs.Ytookbgnidinkoaa
/-
  The document's find: the item of a label, or none.
-/
namespace Go.Proofs.Ytookbgnidinkoaa
open Go.RowKit
open Xc
set_option linter.unusedSimpArgs false
set_option linter.unusedVariables false
/-- What is found in the first items: none: two; below 0: nothing yet. -/
def ff (l : List It) (y : Int) : Nat → Option Int
  | 0 => some (-1)
  | k + 1 => match ff l y k, l[k]? with
    | none, _ => none
    | some p, none => some p
    | some p, some t => if t.lb = y then (if 0 ≤ p then none else some (k : Int)) else some p
theorem ff_none {l : List It} {y : Int} {k : Nat} (h : ff l y k = none) : ∀ n, k ≤ n → ff l y n = none
  | 0, hn => by have : k = 0 := by omega
                subst this; exact h
  | n + 1, hn => by
    rcases Nat.lt_or_ge k (n + 1) with h' | h'
    · have := ff_none h n (by omega)
      simp only [ff, this]
    · have : k = n + 1 := by omega
      rw [← this]; exact h
theorem ff_other {l : List It} {y p : Int} {k : Nat} (h : ff l y k = some p) (hk : k < l.length) (hy : l[k].lb ≠ y) : ff l y (k + 1) = some p := by
  simp only [ff, h, List.getElem?_eq_getElem hk, hy, if_false]
theorem ff_two {l : List It} {y p : Int} {k : Nat} (h : ff l y k = some p) (hk : k < l.length) (hy : l[k].lb = y) (hp : 0 ≤ p) : ff l y (k + 1) = none := by
  simp only [ff, h, List.getElem?_eq_getElem hk, hy, hp, if_true]
theorem ff_new {l : List It} {y p : Int} {k : Nat} (h : ff l y k = some p) (hk : k < l.length) (hy : l[k].lb = y) (hp : ¬ 0 ≤ p) : ff l y (k + 1) = some (k : Int) := by
  simp only [ff, h, List.getElem?_eq_getElem hk, hy, hp, if_true, if_false]
set_option maxHeartbeats 2000000 in
theorem rfind_any (a : Option Addr) (cap : Nat) (l : List It) (y : Int) (w : World) (hl : l.length ≤ 1000) (hX : IS w a l) : Calls Try.prog 21 #[.slice a l.length cap, .int .i64 y] w fun e w' => e = .returned (.int .i64 ((ff l y l.length).getD (-1))) ∧ w' = w := by
  have HX := hide hX
  clear hX
  go_enter Try.func21, Try.ntmps21
  go_wp2
  go_loopw [5, 6] (fun pv iv wr => ∃ (k : Nat) (p : Int), k ≤ l.length ∧ iv = .int .i64 (k : Int) ∧ pv = .int .i64 p ∧ Hid (ff l y k = some p) ∧ wr = w) (fun _ iv _ => l.length - (intOf iv).toNat)
  case atStart => exact ⟨0, -1, by omega, rfl, rfl, hide rfl, rfl⟩
  case round =>
    obtain ⟨k, p, hk, rfl, rfl, hF, rfl⟩ := hrel
    by_cases hlt : k < l.length
    · rcases HX.out with h | ⟨b, off, rfl, hX⟩
      · rw [h] at hlt; simp at hlt
      obtain ⟨hbb, ho, c0, c1, c2, c3, c4, c5, c6, c7, c8⟩ := hX k hlt
      clear c0 c1 c2 c3 c4 c5 c6 c8 ho
      by_cases hy : l[k].lb = y
      · by_cases hp : 0 ≤ p
        · have HN := hide (ff_none (ff_two hF.out hlt hy hp) l.length hlt)
          clear hF
          rw [hy] at c7
          clear hy
          go_wp2_with fail
          go_ret
          exact ⟨by rw [HN.out]; rfl, rfl⟩
        · have HN := hide (ff_new hF.out hlt hy hp)
          clear hF
          rw [hy] at c7
          clear hy
          go_wp2_with fail
          go_roundw
          case rel => exact ⟨k + 1, _, by omega, by go_num, rfl, HN, trivial⟩
          case measure => simp [intOf]; omega
      · have HN := hide (ff_other hF.out hlt hy)
        have hy' : (l[k].lb == y) = false := by simpa using hy
        clear hF
        generalize l[k].lb = z at *
        go_wp2_with fail
        go_roundw
        case rel => exact ⟨k + 1, _, by omega, by go_num, rfl, HN, trivial⟩
        case measure => simp [intOf]; omega
    · have hkm : k = l.length := by omega
      subst hkm
      go_wp2_with fail
      go_ret
      exact ⟨by rw [hF.out]; rfl, rfl⟩
end Go.Proofs.Ytookbgnidinkoaa
/-
  The program's Starts: where instructions begin.
-/
namespace Go.Proofs.Ytookbgnidinkoaa
open Go.RowKit
open Xc
set_option linter.unusedSimpArgs false
set_option linter.unusedVariables false
/-- Instructions that may be written. -/
def Gd (o : List Xi) : Prop := ∀ x ∈ o, rt x = true ∧ I64 x.n
theorem encs_nil : encs [] = [] := rfl
theorem encs_cons (x : Xi) (o : List Xi) : encs (x :: o) = enc x ++ encs o := by simp [encs]
theorem encs_app (o p : List Xi) : encs (o ++ p) = encs o ++ encs p := by simp [encs]
/-- Bytes are instructions in one way. -/
theorem uniq : ∀ (o o' : List Xi) (r : List UInt8), Gd o → Gd o' → encs o ++ r = encs o' → ∃ o2, o' = o ++ o2 ∧ encs o2 = r
  | [], o', r, _, _, h => ⟨o', rfl, by rw [encs_nil, List.nil_append] at h; exact h.symm⟩
  | x :: o, [], r, _, _, h => by
    have := (enc_len x).1
    rw [encs_cons, encs_nil] at h
    have := congrArg List.length h
    simp only [List.length_append, List.length_nil] at this; omega
  | x :: o, y :: o', r, g, g', h => by
    obtain ⟨a1, a2⟩ := g x (by simp)
    obtain ⟨b1, b2⟩ := g' y (by simp)
    have e1 : dcX (encs (x :: o) ++ r) = some x := dc_is a1 a2 (by rw [encs_cons, List.append_assoc]; exact List.prefix_append _ _)
    have e2 : dcX (encs (y :: o')) = some y := dc_is b1 b2 (by rw [encs_cons]; exact List.prefix_append _ _)
    rw [h, e2] at e1
    obtain rfl := Option.some.inj e1
    rw [encs_cons, encs_cons, List.append_assoc] at h
    obtain ⟨o2, e, f⟩ := uniq o o' r (fun z hz => g z (by simp [hz])) (fun z hz => g' z (by simp [hz])) (List.append_cancel_left h)
    exact ⟨o2, by rw [e]; rfl, f⟩
/-- Where they begin. -/
def offs (o : List Xi) : List Int := (List.range o.length).map fun j => ((encs (o.take j)).length : Int)
theorem offs_len (o : List Xi) : (offs o).length = o.length := by simp [offs]
theorem offs_get (o : List Xi) (j : Nat) (h : j < (offs o).length) : (offs o)[j] = ((encs (o.take j)).length : Int) := by simp [offs]
theorem offs_snoc (o : List Xi) (x : Xi) : offs (o ++ [x]) = offs o ++ [((encs o).length : Int)] := by
  apply List.ext_getElem
  · simp [offs_len]
  · intro j h1 h2
    rw [offs_get]
    rw [offs_len] at h1
    simp at h1
    by_cases hj : j < o.length
    · rw [List.getElem_append_left (by rw [offs_len]; exact hj), offs_get, List.take_append_of_le_length (by omega)]
    · have : j = o.length := by omega
      subst this
      rw [List.getElem_append_right (by rw [offs_len]; omega)]
      simp
theorem len_le : ∀ (o : List Xi), o.length ≤ (encs o).length
  | [] => Nat.le_refl _
  | x :: o => by
    have := (enc_len x).1
    have := len_le o
    rw [encs_cons]; simp; omega
theorem dE_eq (b : List UInt8) : dE b = if (dcX b).isSome then 0 else 6 := by unfold dE; cases dcX b <;> rfl
theorem dX_none {b : List UInt8} (h : dcX b = none) : dE b = 6 := by unfold dE; rw [h]; rfl
theorem dX_some {b : List UInt8} {x : Xi} (h : dcX b = some x) : dX b = x ∧ dN b = ((enc x).length : Int) ∧ dE b = 0 := by
  unfold dX dN dE; rw [h]; exact ⟨rfl, rfl, rfl⟩
theorem drop_data (t : ByteArray) (k : Nat) : (t.extract k t.size).data.toList = t.data.toList.drop k := by
  simp [ByteArray.data_extract, Array.toList_extract]
  exact List.take_of_length_le (by simp)
def StEnds (c : List UInt8) (w : World) (e : Ending) (w' : World) : Prop :=
  (∃ o v, Gd o ∧ encs o = c ∧ e = .returned (.tuple #[v, .int .i64 0]) ∧ NR w.heap.size v (offs o) w' ∧ Below w.heap.size w w') ∨ ((¬ ∃ o, Gd o ∧ encs o = c) ∧ e = .returned (.tuple #[.slice none 0 0, .int .i64 6]) ∧ Below w.heap.size w w')
set_option maxHeartbeats 4000000 in
theorem starts_any (t : ByteArray) (w : World) (hl : t.size ≤ 1048576) : Calls Try.prog 14 #[.string t] w (StEnds t.data.toList w) := by
  obtain ⟨i0, hi, hz0, hz1, hz2⟩ := info_parts info3
  have hz : t.data.toList.length = t.size := by simp
  have HZ := hide hz
  clear hz
  go_enter Try.func14, Try.ntmps14
  go_wp2
  go_loopw [4, 5] (fun sv iv wr => ∃ (k : Nat) (o : List Xi), k ≤ t.size ∧ iv = .int .i64 (k : Int) ∧ Hid (NR w.heap.size sv (offs o) wr) ∧ Below w.heap.size w wr ∧ Hid (Gd o ∧ encs o ++ t.data.toList.drop k = t.data.toList ∧ (encs o).length = k)) (fun _ iv _ => t.size - (intOf iv).toNat)
  case atStart => exact ⟨0, [], by omega, rfl, hide (World.ownsRow_nil _ _ _ _), Below.refl _ _, hide ⟨fun x hx => by simp at hx, by simp [encs_nil], rfl⟩⟩
  case round =>
    obtain ⟨k, o, hk, rfl, hR, hb, hG⟩ := hrel
    by_cases hlt : k < t.size
    · have DI := hide (fun U => decode_any (t.extract k t.size) U)
      have DD := hide (drop_data t k)
      unfold DcIs at DI
      rw [DD.out] at DI
      cases hd : dcX (t.data.toList.drop k) with
      | none =>
        have NO : Hid (¬ ∃ o, Gd o ∧ encs o = t.data.toList) := fun ⟨o', g', e'⟩ => by
          obtain ⟨g1, e1, _⟩ := hG.out
          obtain ⟨o2, e2, f2⟩ := uniq o o' _ g1 g' (e1.trans e'.symm)
          cases o2 with
          | nil =>
            have := congrArg List.length f2
            have := HZ.out
            simp [encs_nil] at *; omega
          | cons z o2 =>
            have gz := g' z (by rw [e2]; simp)
            rw [dc_is gz.1 gz.2 (by rw [← f2, encs_cons]; exact List.prefix_append _ _)] at hd
            cases hd
        have hE := dX_none hd
        rw [hE] at DI
        clear hd hE hG hR
        generalize dX (t.data.toList.drop k) = xx at *
        generalize dN (t.data.toList.drop k) = nn at *
        obtain ⟨o1, o2, o3, o4, o5, o6, o7⟩ := xx
        unfold xv at DI
        simp only at DI
        go_wp2_with fail
        refine (DI.out _).mono ?_
        rintro e w1 ⟨rfl, b1⟩
        go_wp2_with fail
        go_ret2
        exact Or.inr ⟨NO.out, rfl, bel_al (bel_tr hb b1) _⟩
      | some x =>
        obtain ⟨hX, hN, hE⟩ := dX_some hd
        rw [hX, hN, hE] at DI
        obtain ⟨q1, q2, q3, q4⟩ := dc_some hd
        obtain ⟨g1, e1, e2⟩ := hG.out
        have hL : (enc x).length ≤ t.size - k := by
          have := q2.length_le
          have := HZ.out
          simp at *; omega
        have h1 := (enc_len x).1
        have G2 : Hid (Gd (o ++ [x]) ∧ encs (o ++ [x]) ++ t.data.toList.drop (k + (enc x).length) = t.data.toList ∧ (encs (o ++ [x])).length = k + (enc x).length) := by
          refine ⟨fun z hz => ?_, ?_, ?_⟩
          · rcases List.mem_append.1 hz with h | h
            · exact g1 z h
            · simp at h; subst h; exact ⟨q1, q3⟩
          · obtain ⟨r, hr⟩ := q2
            rw [encs_app, encs_cons, encs_nil, List.append_nil, List.append_assoc, ← List.drop_drop, ← hr, List.drop_left, hr, e1]
          · rw [encs_app, encs_cons, encs_nil, List.append_nil, List.length_append, e2]
        have PLS := hide (offs_snoc o x)
        have OL := hide (len_le o)
        have E2 := hide e2
        clear hX hN hE q1 q2 q3 q4 g1 e1 e2 hG hd
        generalize hm : (enc x).length = m at *
        clear hm
        have hkm : k + m ≤ t.size := by omega
        have hk0 : (0 : Int) ≤ (k : Int) ∧ (k : Int) ≤ 1048576 := by omega
        have hm0 : (0 : Int) ≤ (m : Int) ∧ (m : Int) ≤ 1048576 := by omega
        obtain ⟨hk1, hk2⟩ := hk0
        obtain ⟨hm1, hm2⟩ := hm0
        obtain ⟨o1, o2, o3, o4, o5, o6, o7⟩ := x
        unfold xv at DI
        simp only at DI
        go_wp2_with fail
        refine (DI.out _).mono ?_
        rintro e w1 ⟨rfl, b1⟩
        have hR1 := hR.out.kept b1
        have hB1 := bel_tr hb b1
        have HB1 := hide hB1
        have WA : Hid (∀ V, V = w1.alloc (.cells #[.int .i64 o1, .bool o2, .int .i64 o3, .int .i64 o4, .int .i64 o5, .int .i64 o6, .int .i64 o7] 40) → NR w.heap.size u4 (offs o) V ∧ Below w.heap.size w V) := fun V hV => by
          subst hV; exact ⟨hR1.kept (bel_one _ _), bel_al hB1 _⟩
        clear hR hb b1 hR1 hB1 DI DD
        go_upto_region 7 with fail
        refine gen_world (motive := fun x => Code.wp _ _ _ _ x) (fun V => NR w.heap.size u4 (offs o) V ∧ Below w.heap.size w V) (WA.out _ rfl) ?_
        clear WA HB1
        rintro V ⟨hR1, hB1⟩
        have HBS : Hid (w.heap.size ≤ (V.alloc (.cells #[.int .i64 (k : Int)] 3)).heap.size) := by have := hB1.size; show _ ≤ _; simp; omega
        have OWN : Hid ((V.alloc (.cells #[.int .i64 (k : Int)] 3)).ownsRow w.heap.size 3 1 u4 o.length ((offs o).map (Value.int .i64))) := by
          have := World.ownsRow.alloc hR1 (.cells #[.int .i64 (k : Int)] 3)
          rw [offs_len] at this; exact this
        have hol : o.length ≤ 1048576 := by have := OL.out; have := E2.out; omega
        go_wp2_with (at_builtin; (refine wpList_append_own _ rfl (.tmp 23) (.tmp 25) 24 rfl w.heap.size 3 i0 _ 1 8 Try.underlying24 hi hz0 hz1 hz2 rfl (by decide) _ o.length _ rfl OWN.out ⟨V.heap.size, 0, none⟩ 1 1 [.int .i64 (k : Int)] rfl rfl (one_at3 V (k : Int)) (one_cell3 (k : Int)) (by unfold maxLen; omega) (by omega) HBS.out ?_))
        intro v' w3 hown hgrow _
        have R3 : Hid (NR w.heap.size v' (offs (o ++ [⟨o1, o2, o3, o4, o5, o6, o7⟩])) w3) := by
          show w3.ownsRow _ _ _ _ _ _
          rw [PLS.out, E2.out, List.map_append, List.length_append, offs_len]
          exact hown
        have B3 : Below w.heap.size w w3 := (bel_al hB1 _).trans (own_bel OWN.out HBS.out hgrow)
        clear hown hgrow OWN HBS hR1 hB1 PLS
        go_wp2_with fail
        go_roundw
        case rel => exact ⟨k + m, o ++ [⟨o1, o2, o3, o4, o5, o6, o7⟩], by omega, by go_num, R3, B3, G2⟩
        case measure => simp [intOf]; omega
    · have hkm : k = t.size := by omega
      subst hkm
      obtain ⟨g1, e1, e2⟩ := hG.out
      have e3 : encs o = t.data.toList := by
        rw [← e1, ← HZ.out, List.drop_length, List.append_nil]
      have G1 := hide g1
      have E3 := hide e3
      clear g1 e1 e2 e3 hG
      obtain ⟨a9, c9, hv9⟩ := hR.out.form
      subst hv9
      go_wp2_with fail
      go_ret2
      exact Or.inl ⟨o, _, G1.out, E3.out, rfl, hR.out, hb⟩
end Go.Proofs.Ytookbgnidinkoaa
/-
  Plain: items without labels behind others; bytes of instructions in one way.
-/
namespace Go.Proofs.Ytookbgnidinkoaa
open Go.RowKit
open Xc
set_option linter.unusedSimpArgs false
set_option linter.unusedVariables false
/-- An instruction as an item. -/
def pl (x : Xi) : It := ⟨x, 0, 0⟩
theorem pl_sOk (x : Xi) : sOk (pl x) = rt x := by simp [pl, sOk]
theorem all_gd {o : List Xi} (h : aOk o = true) (hn : ∀ x ∈ o, I64 x.n) : Gd o := fun x hx => ⟨by
  unfold aOk at h
  rw [List.all_eq_true] at h
  exact h x hx, hn x hx⟩
theorem two_pt {l : List It} (m : List Xi) {k : Nat} (h : k ≤ l.length) : pt (l ++ m.map pl) k = pt l k := by
  unfold pt
  rw [List.take_append_of_le_length h]
theorem pl_lb {m : List Xi} {k : Nat} (h : k < (m.map pl).length) : (m.map pl)[k].lb = 0 ∧ (m.map pl)[k].tg = 0 := by
  rw [List.getElem_map]; exact ⟨rfl, rfl⟩
theorem fd_pl (m : List Xi) {y : Int} (hy : y ≠ 0) : fd (m.map pl) y = none := by
  unfold fd
  rw [List.findIdx?_eq_none_iff]
  intro t ht
  obtain ⟨x, _, rfl⟩ := List.mem_map.1 ht
  simp [pl]; omega
theorem fd_two (l : List It) (m : List Xi) {y : Int} (hy : y ≠ 0) : fd (l ++ m.map pl) y = fd l y := by
  have h := fd_pl m hy
  unfold fd at *
  rw [List.findIdx?_append, h]
  simp
theorem oL_two (l : List It) (m : List Xi) : ∀ k, k ≤ l.length → oL (l ++ m.map pl) k = oL l k
  | 0, _ => rfl
  | k + 1, hk => by
    have h : k < l.length := hk
    rw [oL_succ (l := l ++ m.map pl) (by simp; omega), oL_succ h, oL_two l m k (by omega), List.getElem_append_left h]
    congr 1
    unfold one
    split
    · unfold jx
      split
      · rfl
      · rename_i h2
        rw [fd_two l m h2, two_pt m hk]
        have : pt (l ++ m.map pl) ((fd l l[k].tg).getD 0) = pt l ((fd l l[k].tg).getD 0) := two_pt m (by
          cases hf : fd l l[k].tg with
          | none => simp
          | some j => obtain ⟨hj, _⟩ := fd_lt hf; simp; omega)
        rw [this]
    · rfl
theorem oL_more (l : List It) (m : List Xi) : ∀ k, k ≤ m.length → oL (l ++ m.map pl) (l.length + k) = oL l l.length ++ m.take k
  | 0, _ => by rw [Nat.add_zero, oL_two l m _ (Nat.le_refl _)]; simp
  | k + 1, hk => by
    have h : k < m.length := hk
    rw [← Nat.add_assoc, oL_succ (l := l ++ m.map pl) (by simp; omega), oL_more l m k (by omega), List.getElem_append_right (by omega), List.append_assoc, List.take_succ_eq_append_getElem h]
    congr 2
    simp [one, jx, pl]
theorem two_asR {l : List It} {m : List Xi} {o : List Xi} (h : asR l = some o) (hm : aOk m = true) : asR (l ++ m.map pl) = some (o ++ m) := by
  unfold asR at h
  split at h
  · rename_i hc
    obtain ⟨h1, h2, h3⟩ := hc
    obtain rfl := Option.some.inj h
    have c1 : pOk (l ++ m.map pl) = true := by
      unfold pOk at *
      rw [List.all_append, h1, Bool.true_and, List.all_map]
      unfold aOk at hm
      rw [List.all_eq_true] at hm ⊢
      intro x hx
      show sOk (pl x) = true
      rw [pl_sOk]; exact hm x hx
    have c2 : Uq (l ++ m.map pl) := fun k hk h0 => by
      rcases Nat.lt_or_ge k l.length with h' | h'
      · rw [List.getElem_append_left h'] at h0 ⊢
        rw [List.take_append_of_le_length (by omega)]
        exact h2 k h' h0
      · rw [List.getElem_append_right h'] at h0
        exact absurd (pl_lb _).1 h0
    have c3 : ¬ Lost (l ++ m.map pl) := fun ⟨k, hk, a1, a2, a3⟩ => by
      rcases Nat.lt_or_ge k l.length with h' | h'
      · rw [List.getElem_append_left h'] at a1 a2 a3
        rw [fd_two l m a2] at a3
        exact h3 ⟨k, h', a1, a2, a3⟩
      · rw [List.getElem_append_right h'] at a2
        exact absurd (pl_lb _).2 a2
    unfold asR
    rw [if_pos ⟨c1, c2, c3⟩]
    have := oL_more l m m.length (Nat.le_refl _)
    rw [List.take_length] at this
    rw [List.length_append, List.length_map, this]
  · cases h
/-- What was assembled is instructions. -/
theorem as_ok {l : List It} (h : asE l = 0) : ∃ o, asR l = some o ∧ aOk o = true ∧ asS l = encs o := by
  unfold asE at h
  cases hr : asR l with
  | none => rw [hr] at h; cases h
  | some o =>
    rw [hr] at h
    simp only [aE] at h
    have ha : aOk o = true := by
      cases hq : aOk o
      · rw [hq] at h; simp at h
      · rfl
    exact ⟨o, rfl, ha, by simp [asS, hr, aS, ha]⟩
theorem two_as {l : List It} {m o : List Xi} (h : asR l = some o) (ho : aOk o = true) (hm : aOk m = true) : asS (l ++ m.map pl) = encs o ++ encs m ∧ asE (l ++ m.map pl) = 0 := by
  have hr := two_asR h hm
  have ha : aOk (o ++ m) = true := by unfold aOk at *; rw [List.all_append, ho, hm]; rfl
  exact ⟨by simp [asS, hr, aS, ha, encs_app], by simp [asE, hr, aE, ha]⟩
theorem gd_one {o o' : List Xi} (g : Gd o) (g' : Gd o') (h : encs o = encs o') : o' = o := by
  obtain ⟨o2, e, f⟩ := uniq o o' [] g g' (by rw [List.append_nil]; exact h)
  have : o2 = [] := by
    have := len_le o2
    rw [f] at this
    exact List.length_eq_zero_iff.1 (by simpa using this)
  rw [e, this, List.append_nil]
theorem offs_app (o p : List Xi) : offs (o ++ p) = offs o ++ (offs p).map fun x => ((encs o).length : Int) + x := by
  apply List.ext_getElem
  · simp [offs_len]
  · intro j h1 h2
    rw [offs_get]
    rw [offs_len] at h1
    by_cases hj : j < o.length
    · rw [List.getElem_append_left (by rw [offs_len]; exact hj), offs_get, List.take_append_of_le_length (by omega)]
    · rw [List.getElem_append_right (by rw [offs_len]; omega), List.getElem_map, offs_get, offs_len, List.take_append, List.take_of_length_le (by omega), encs_app, List.length_append]
      simp
theorem starts_gd (o : List Xi) (g : Gd o) (w : World) (hl : (encs o).length ≤ 1048576) : Calls Try.prog 14 #[.string (str (encs o))] w fun e w' => ∃ v, e = .returned (.tuple #[v, .int .i64 0]) ∧ NR w.heap.size v (offs o) w' ∧ Below w.heap.size w w' := by
  refine (starts_any (str (encs o)) w (by rw [str_size]; exact hl)).mono ?_
  rw [str_data]
  rintro e w' (⟨o', v, g', h, rfl, hR, b⟩ | ⟨h, _⟩)
  · rw [gd_one g g' h.symm] at hR
    exact ⟨v, rfl, hR, b⟩
  · exact absurd ⟨o, g, rfl⟩ h
end Go.Proofs.Ytookbgnidinkoaa
/-
  Plain: what the document's find tells of labels; what is assembled, item by item.
-/
namespace Go.Proofs.Ytookbgnidinkoaa
open Go.RowKit
open Xc
set_option linter.unusedSimpArgs false
set_option linter.unusedVariables false
theorem ff_spec (l : List It) (y : Int) : ∀ n, n ≤ l.length → (ff l y n = none ∧ ∃ i j, ∃ (hi : i < l.length) (hj : j < l.length), i < j ∧ l[i].lb = y ∧ l[j].lb = y) ∨ (ff l y n = some (-1) ∧ ∀ j (hj : j < l.length), j < n → l[j].lb ≠ y) ∨ (∃ p, ∃ hp : p < l.length, p < n ∧ ff l y n = some (p : Int) ∧ l[p].lb = y ∧ ∀ i (hi : i < l.length), i < n → l[i].lb = y → i = p)
  | 0, _ => Or.inr (Or.inl ⟨rfl, fun j _ h => absurd h (by omega)⟩)
  | n + 1, hn => by
    have hk : n < l.length := hn
    rcases ff_spec l y n (by omega) with ⟨h, d⟩ | ⟨h, d⟩ | ⟨p, hp, hpn, h, hy, d⟩
    · exact Or.inl ⟨ff_none h _ (by omega), d⟩
    · by_cases e : l[n].lb = y
      · refine Or.inr (Or.inr ⟨n, hk, by omega, ff_new h hk e (by omega), e, fun i hi hin he => ?_⟩)
        rcases Nat.lt_or_ge i n with h' | h'
        · exact absurd he (d i hi h')
        · omega
      · refine Or.inr (Or.inl ⟨ff_other h hk e, fun j hj hjn => ?_⟩)
        rcases Nat.lt_or_ge j n with h' | h'
        · exact d j hj h'
        · have : j = n := by omega
          subst this; exact e
    · by_cases e : l[n].lb = y
      · exact Or.inl ⟨ff_two h hk e (by omega), p, n, hp, hk, hpn, hy, e⟩
      · refine Or.inr (Or.inr ⟨p, hp, by omega, ff_other h hk e, hy, fun i hi hin he => ?_⟩)
        rcases Nat.lt_or_ge i n with h' | h'
        · exact d i hi h' he
        · have : i = n := by omega
          subst this; exact absurd he e
/-- What the document's find answers. -/
def fr (l : List It) (y : Int) : Int := (ff l y l.length).getD (-1)
theorem fd_first {l : List It} {y : Int} {p : Nat} (hp : p < l.length) (hy : l[p].lb = y) (hu : ∀ i (hi : i < l.length), l[i].lb = y → i = p) : fd l y = some p := by
  cases hf : fd l y with
  | none => exact absurd hy (fd_none hf p hp)
  | some j =>
    obtain ⟨hj, e⟩ := fd_lt hf
    rw [hu j hj e]
theorem fr_spec (l : List It) (y : Int) (h0 : y ≠ 0) : (fr l y = -1 ∧ fd l y ≠ none ∧ ¬ Uq l) ∨ (fr l y = -1 ∧ fd l y = none) ∨ (∃ p, ∃ hp : p < l.length, fr l y = (p : Int) ∧ fd l y = some p ∧ l[p].lb = y ∧ ∀ i (hi : i < l.length), l[i].lb = y → i = p) := by
  rcases ff_spec l y l.length (Nat.le_refl _) with ⟨h, i, j, hi, hj, hij, ei, ej⟩ | ⟨h, d⟩ | ⟨p, hp, hpn, h, hy, d⟩
  · refine Or.inl ⟨by simp [fr, h], fun hn => fd_none hn i hi ei, fun hU => ?_⟩
    have := hU j hj (by rw [ej]; exact h0)
    rw [ej] at this
    have hi' : i < (l.take j).length := by simp; omega
    exact fd_none this i hi' (by rw [List.getElem_take]; exact ei)
  · refine Or.inr (Or.inl ⟨by simp [fr, h], ?_⟩)
    cases hf : fd l y with
    | none => rfl
    | some j =>
      obtain ⟨hj, e⟩ := fd_lt hf
      exact absurd e (d j hj hj)
  · exact Or.inr (Or.inr ⟨p, hp, by simp [fr, h], fd_first hp hy (fun i hi he => d i hi hi he), hy, fun i hi he => d i hi hi he⟩)
/-- The first k items have been laid. -/
def Lay (l : List It) (k : Nat) : Prop := aOk (oL l k) = true ∧ ∀ j (hj : j < l.length), j < k → (l[j].lb ≠ 0 → ∀ i (hi : i < l.length), l[i].lb = l[j].lb → i = j) ∧ (l[j].lb = 0 → l[j].tg ≠ 0 → fd l l[j].tg ≠ none)
theorem Lay.start (l : List It) : Lay l 0 := ⟨rfl, fun j _ h => absurd h (by omega)⟩
theorem Lay.fin {l : List It} (h : Lay l l.length) (hp : pOk l = true) : asS l = encs (oL l l.length) ∧ asE l = 0 := by
  have hU : Uq l := fun k hk h0 => by
    cases hf : fd (l.take k) l[k].lb with
    | none => rfl
    | some i =>
      obtain ⟨hi, e⟩ := fd_lt hf
      rw [List.getElem_take] at e
      have hi' : i < k := by simp at hi; omega
      have := (h.2 k hk hk).1 h0 i (by omega) e
      omega
  have hL : ¬ Lost l := fun ⟨k, hk, a1, a2, a3⟩ => (h.2 k hk hk).2 a1 a2 a3
  have := asR_yes hp hU hL
  exact ⟨by rw [this.1]; simp [aS, h.1], by rw [this.2]; simp [aE, h.1]⟩
theorem aOk_app (a b : List Xi) : aOk (a ++ b) = (aOk a && aOk b) := by unfold aOk; rw [List.all_append]
theorem oL_app {l : List It} : ∀ (n k : Nat), ∃ r, oL l (k + n) = oL l k ++ r
  | 0, k => ⟨[], by simp⟩
  | n + 1, k => by
    obtain ⟨r, e⟩ := oL_app (l := l) n k
    by_cases h : k + n < l.length
    · exact ⟨r ++ one l (k + n) l[k + n], by rw [← Nat.add_assoc, oL_succ h, e, List.append_assoc]⟩
    · exact ⟨r, by rw [← Nat.add_assoc]; simp only [oL, List.getElem?_eq_none (by omega : l.length ≤ k + n), List.append_nil, e]⟩
/-- One instruction that may not be fells all. -/
theorem bad_one {l : List It} {k : Nat} (hk : k < l.length) (h : aOk (one l k l[k]) = false) : asS l = [] ∧ asE l = 4 := by
  by_cases hc : pOk l = true ∧ Uq l ∧ ¬ Lost l
  · have := asR_yes hc.1 hc.2.1 hc.2.2
    obtain ⟨r, e⟩ := oL_app (l := l) (l.length - (k + 1)) (k + 1)
    have e2 : k + 1 + (l.length - (k + 1)) = l.length := by omega
    rw [e2, oL_succ hk] at e
    have : aOk (oL l l.length) = false := by rw [e, aOk_app, aOk_app, h]; simp
    rename_i hh
    rw [hh.1, hh.2]
    exact ⟨by simp [aS, this], by simp [aE, this]⟩
  · exact asR_no hc
end Go.Proofs.Ytookbgnidinkoaa
