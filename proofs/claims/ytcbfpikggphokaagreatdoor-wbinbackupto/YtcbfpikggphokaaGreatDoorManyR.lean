/-
  The program's many and some of functions once more: the row that they lie in is told too.
-/
import Derived.Test.YtcbfpikggphokaaGreatDoorMems
namespace Go.Proofs.YtcbfpikggphokaaGreatDoor
open Go.RowKit

theorem MI.done2 {α : Type} {e : TypeId} {sz : Nat} {C : (Nat → Prop) → World → List Value → α → Prop} {P : List UInt8 → Option (α × List UInt8)} {n : Nat} {w wr : World} {cs : List Value} {sk s : Option (List UInt8)}
    (h : MI e sz C P (s.bind (manyP P)) n w wr n cs sk) : rest s (manyP P) = sk ∧ ∀ x r, s.bind (manyP P) = some (x, r) → x.length = n ∧ ∀ j (h : j < x.length), C (NewT e w wr) wr ((cs.drop (j * sz)).take sz) x[j] := by
  rcases h with ⟨rfl, h⟩ | ⟨l, xs, rfl, hx, hM, he⟩
  · exact ⟨by unfold rest; rw [h]; rfl, fun x r hh => by rw [h] at hh; cases hh⟩
  · rw [Nat.sub_self] at hM
    simp only [repP, Option.map_some, List.append_nil] at hM
    refine ⟨by unfold rest; rw [hM]; rfl, fun x r hh => ?_⟩
    rw [hM] at hh
    cases hh
    exact ⟨hx, he⟩
set_option maxRecDepth 100000 in
set_option maxHeartbeats 3200000 in
theorem many_fnr (g : FuncId) (q : Nat) (P : List UInt8 → Option (Fn × List UInt8)) (hg : ∀ args w, (callFunc g args).run Tryz.prog w = .ok (.enter g args) w) (hR : REfn g q P)
    (s : Option (List UInt8)) (w : World) (h : RS w q s) :
    Calls Tryz.prog 145 #[ptr q, .func (.func g) #[] #[]] w fun e w' => ∃ v n cs, e = .returned v ∧ w'.ownsRow w.heap.size 50 4 v n cs ∧ RS w' q (rest s (manyP P)) ∧ But (One q) w w' ∧ ∀ x r, s.bind (manyP P) = some (x, r) → x.length = n ∧ ∀ j (h : j < x.length), Cfn (NewT 50 w w') w' ((cs.drop (j * 4)).take 4) x[j] := by
  obtain ⟨i0, hi0, hprod⟩ := Option.map_eq_some_iff.1 Tryz.parts50
  simp only [Prod.mk.injEq] at hprod
  obtain ⟨hz0, hz1, hz2⟩ := hprod
  have HQ := hide h.lt
  have NU := hide (number_any q s w h)
  have HR := hide hR
  clear h hR
  go_enter Tryz.func145, Tryz.ntmps145
  go_wp2_with fail
  refine NU.out.mono ?_
  rintro e w1 ⟨n0, rfl, hn0, hn1, hx, hs, b1⟩
  obtain ⟨n, rfl⟩ := Int.eq_ofNat_of_zero_le hn0
  have HX := hide hx
  have HS := hide hs
  clear hx hs NU
  go_wp2_with fail
  go_loopw [5, 8] (fun ov iv wr => ∃ (k : Nat) (cs : List Value) (sk : Option (List UInt8)), k ≤ n ∧ iv = .int .i64 k ∧ Hid (wr.ownsRow w.heap.size 50 4 ov k cs) ∧ Hid (RS wr q sk) ∧ But (One q) w wr ∧ Hid (MI 50 4 Cfn P (s.bind (manyP P)) n w wr k cs sk)) (fun _ iv _ => n - (intOf iv).toNat)
  case atStart =>
    exact ⟨0, [], rest s numP, by omega, rfl, hide ⟨rfl, Or.inl ⟨rfl, rfl⟩⟩, HS, b1, hide (MI.start _ _ _ _ _ HX.out)⟩
  case round =>
    obtain ⟨k, cs, sk, hk, rfl, hown, hst, hbt, hE⟩ := hrel
    have hbs := hbt.size
    have hq := HQ.out
    clear HX
    by_cases hlt : k < n
    · cases sk with
      | none =>
        obtain ⟨p, hp, row, hf⟩ := id hst.out
        have c1 := row.c 1 _ rfl
        have RN : Hid (s.bind (manyP P) = none) := hide (by
          rcases hE.out with ⟨_, h⟩ | ⟨_, _, h, _⟩
          · exact h
          · cases h)
        clear row hf hE
        unfold flt at c1
        go_wp2_with fail
        go_ret
        refine ⟨u5, _, _, rfl, hown.out, ?_, hbt, ?_⟩
        · rw [rest_none RN.out]; exact hst.out
        · intro x r e; rw [RN.out] at e; cases e
      | some l =>
        have c1 := hst.out.2.c 1 _ rfl
        have CF := hide (HR.out (some l) wr hst.out)
        go_wp2_with fail
        refine CF.out.mono ?_
        rintro e w2 ⟨i1, t1, a1, n1, m1, a2, n2, m2, rfl, hs2, b2, hxi⟩
        have ow := own_row hown.out
        have hown2 := hown.out.kept (b2.grown (q := q) (fun _ h => h)) (by
          cases hb' : u5.ownBlock with
          | none => exact Or.inl rfl
          | some j => exact Or.inr (fun e => by cases e; have := (ow q hb').1; omega))
        have HX2 := hide hxi
        have HS2 := hide hs2
        have B2 := hide (hbt.trans b2)
        have hsz := B2.out.size
        have S1 := hide (newT_keep (e := 50) hq b2)
        clear hxi hs2 b2 CF hown c1 ow
        have hown := hown2
        go_wp2_with (at_builtin; refine wpList_append_own _ rfl (.tmp 15) (.tmp 19) 24 rfl w.heap.size 50 i0 (.agg #[.int .i64 0, .bool false, .slice none 0 0, .slice none 0 0]) 4 64 Tryz.underlying24 hi0 hz0 hz1 hz2 rfl (by decide) _ _ _ rfl (hown.alloc _) ⟨w2.heap.size, 0, none⟩ 1 1 [.int .i64 i1, .bool t1, .slice a1 n1 m1, .slice a2 n2 m2] rfl rfl (at_cells _ _ _) (fun x hx => by simp at hx; rcases hx with rfl | rfl | rfl | rfl <;> rfl) (by unfold maxLen; omega) (by omega) (by simp; omega) ?_)
        intro v' w3 hown' hgrow _
        have ow := own_row (hown.alloc (.cells #[.int .i64 i1, .bool t1, .slice a1 n1 m1, .slice a2 n2 m2] 50))
        have hs3 := hide ((HS2.out.kept (bel_one w2 (.cells #[.int .i64 i1, .bool t1, .slice a1 n1 m1, .slice a2 n2 m2] 50))).grow hgrow (e := 50) (by decide) (fun j hj => ⟨by have := (ow j hj).1; omega, (ow j hj).2⟩))
        have b3 := (B2.out.trans (But.of (bel_one w2 (.cells #[.int .i64 i1, .bool t1, .slice a1 n1 m1, .slice a2 n2 m2] 50)))).grow hgrow (fun j hj => (ow j hj).1)
        have G1 : ∀ W : World, Same (NewT 50 W w2) w2 w3 := fun W i hi => by
          have a1 : Same (NewT 50 W w2) w2 (w2.alloc (.cells #[.int .i64 i1, .bool t1, .slice a1 n1 m1, .slice a2 n2 m2] 50)) := fun i hi => same_below (bel_one w2 (.cells #[.int .i64 i1, .bool t1, .slice a1 n1 m1, .slice a2 n2 m2] 50)) i hi.new.2
          exact (newT_grow (w := W) hgrow (fun j hj => (ow j hj).2) i (newT_more a1 i hi)).trans (a1 i hi)
        have hE2 := hide (hE.out.step (w2 := w2) (w3 := w3) (cs' := [.int .i64 i1, .bool t1, .slice a1 n1 m1, .slice a2 n2 m2]) keepsC_fn hlt hown.1 rfl (fun i hi => (G1 w i (newT_more S1.out i hi)).trans (S1.out i hi)) hbs HX2.out (G1 wr))
        have hown4 := hide hown'
        clear hown' hgrow hown hE hst ow B2 HS2 HX2 S1 G1
        go_wp2
        go_roundw
        case rel => exact ⟨k + 1, cs ++ [.int .i64 i1, .bool t1, .slice a1 n1 m1, .slice a2 n2 m2], rest (some l) P, by omega, by go_num, hown4, hs3, b3, hE2⟩
        case measure => simp [intOf]; omega
    · have e0 : k = n := by omega
      subst e0
      have RN := hide (hE.out.done2)
      clear hE
      go_wp2_with fail
      go_ret
      refine ⟨u5, _, _, rfl, hown.out, ?_, hbt, RN.out.2⟩
      rw [RN.out.1]; exact hst.out
theorem some_fnr (g : FuncId) (q : Nat) (P : List UInt8 → Option (Fn × List UInt8)) (hg : ∀ args w, (callFunc g args).run Tryz.prog w = .ok (.enter g args) w) (hR : REfn g q P)
    (s : Option (List UInt8)) (w : World) (h : RS w q s) :
    Calls Tryz.prog 125 #[ptr q, .func (.func g) #[] #[]] w fun e w' => ∃ v n cs, e = .returned v ∧ w'.ownsRow w.heap.size 50 4 v n cs ∧ RS w' q (rest s (someP P)) ∧ But (One q) w w' ∧ ∀ x r, s.bind (someP P) = some (x, r) → x.length = n ∧ ∀ j (h : j < x.length), Cfn (NewT 50 w w') w' ((cs.drop (j * 4)).take 4) x[j] := by
  have hq := h.lt
  have T := hide (many_fnr g q P hg hR s w h)
  clear h hR hg
  go_enter Tryz.func125, Tryz.ntmps125
  go_wp2_with fail
  refine T.out.mono ?_
  rintro e w1 ⟨v1, n1, cs, rfl, hown, hs, b1, hx⟩
  obtain ⟨a1, m1, hv⟩ := own_slice hown
  subst hv
  have OW := hide hown
  clear hown
  have HX := hide hx
  have HS := hide hs
  clear hx hs T
  by_cases hn : n1 = 0
  · subst hn
    have RN : Hid (s.bind (someP P) = none) := hide (by
      rw [some_bind]
      cases ho : s.bind (manyP P) with
      | none => rfl
      | some y =>
        have := (HX.out y.1 y.2 ho).1.symm
        simp only [Option.bind_some]
        rw [if_pos this.symm])
    obtain ⟨_, ev, row⟩ := HS.out.row
    have FA := hide (fail_any q _ _ w1 row)
    clear row HX HS
    go_wp2_with fail
    refine FA.out.mono ?_
    rintro e w2 ⟨rfl, h2, b2⟩
    go_wp2_with fail
    go_ret
    refine ⟨_, _, _, rfl, OW.out.kept (b2.grown (q := q) (fun _ h => h)) (by
      cases hb' : (Value.slice a1 0 m1).ownBlock with
      | none => exact Or.inl rfl
      | some j => exact Or.inr (fun e => by cases e; have := (own_row OW.out q hb').1; omega)), ?_, b1.trans b2, ?_⟩
    · rw [rest_none RN.out]; exact h2
    · intro x r e; rw [RN.out] at e; cases e
  · have RN : Hid (s.bind (someP P) = s.bind (manyP P)) := hide (by
      rw [some_bind]
      cases ho : s.bind (manyP P) with
      | none => rfl
      | some y =>
        have := (HX.out y.1 y.2 ho).1.symm
        simp only [Option.bind_some]
        rw [if_neg (by omega)])
    have g1 : decide ((n1 : Int) = 0) = false := by simp; omega
    have g2 : ((n1 : Int) == 0) = false := by simp; omega
    go_wp2_with fail
    go_ret
    refine ⟨_, _, _, rfl, OW.out, ?_, b1, ?_⟩
    · have e : rest s (someP P) = rest s (manyP P) := by unfold rest; rw [show s.bind (someP P) = _ from RN.out]
      rw [e]; exact HS.out
    · rw [RN.out]; exact HX.out
end Go.Proofs.YtcbfpikggphokaaGreatDoor
