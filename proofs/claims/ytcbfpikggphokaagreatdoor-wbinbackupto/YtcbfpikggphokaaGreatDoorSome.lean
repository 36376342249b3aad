/-
  The program's some: many, at least one, of each type of things.
-/
import Derived.Test.YtcbfpikggphokaaGreatDoorElem
namespace Go.Proofs.YtcbfpikggphokaaGreatDoor
open Go.RowKit

def someP {α : Type} (P : List UInt8 → Option (α × List UInt8)) (l : List UInt8) : Option (List α × List UInt8) := (manyP P l).bind fun x => if x.1.length = 0 then none else some x
theorem some_bind {α : Type} (P : List UInt8 → Option (α × List UInt8)) (s : Option (List UInt8)) : s.bind (someP P) = (s.bind (manyP P)).bind fun x => if x.1.length = 0 then none else some x := by
  cases s <;> rfl
theorem Sl.len {α : Type} {sz : Nat} {R : (Nat → Prop) → World → Nat → Nat → α → Prop} {S : Nat → Prop} {W : World} {a : Option Addr} {n c : Nat} {l : List α} (h : Sl sz R S W (.slice a n c) l) : n = l.length := by
  obtain ⟨a', c', e, _⟩ := h
  cases e
  rfl
theorem some_sg (g : FuncId) (q : Nat) (P : List UInt8 → Option (Sg × List UInt8)) (hg : ∀ args w, (callFunc g args).run Tryz.prog w = .ok (.enter g args) w) (hR : REsg g q P)
    (s : Option (List UInt8)) (w : World) (h : RS w q s) :
    Calls Tryz.prog 122 #[ptr q, .func (.func g) #[] #[]] w fun e w' => ∃ v, e = .returned v ∧ (∃ a n c, v = .slice a n c) ∧ RS w' q (rest s (someP P)) ∧ But (One q) w w' ∧ ∀ x r, s.bind (someP P) = some (x, r) → Sl 2 ESg (New w w') w' v x := by
  have T := hide (many_sg g q P hg hR s w h)
  clear h hR hg
  go_enter Tryz.func122, Tryz.ntmps122
  go_wp2_with fail
  refine T.out.mono ?_
  rintro e w1 ⟨v1, rfl, ⟨a1, n1, m1, rfl⟩, hs, b1, hx⟩
  have HX := hide hx
  have HS := hide hs
  clear hx hs T
  by_cases hn : n1 = 0
  · subst hn
    have RN : Hid (s.bind (someP P) = none) := hide (by
      rw [some_bind]
      cases ho : s.bind (manyP P) with
      | none => rfl
      | some y =>
        have := (HX.out y.1 y.2 ho).len
        simp only [Option.bind_some]
        rw [if_pos this.symm])
    obtain ⟨_, ev, row⟩ := HS.out.row
    have FA := hide (fail_any q _ _ w1 row)
    clear row HX HS
    go_wp2_with fail
    refine FA.out.mono ?_
    rintro e w2 ⟨rfl, h2, b2⟩
    go_wp2_with fail
    go_ret
    refine ⟨_, rfl, ⟨_, _, _, rfl⟩, ?_, b1.trans b2, ?_⟩
    · rw [rest_none RN.out]; exact h2
    · intro x r e; rw [RN.out] at e; cases e
  · have RN : Hid (s.bind (someP P) = s.bind (manyP P)) := hide (by
      rw [some_bind]
      cases ho : s.bind (manyP P) with
      | none => rfl
      | some y =>
        have := (HX.out y.1 y.2 ho).len
        simp only [Option.bind_some]
        rw [if_neg (by omega)])
    have g1 : decide ((n1 : Int) = 0) = false := by simp; omega
    have g2 : ((n1 : Int) == 0) = false := by simp; omega
    go_wp2_with fail
    go_ret
    refine ⟨_, rfl, ⟨_, _, _, rfl⟩, ?_, b1, ?_⟩
    · have e : rest s (someP P) = rest s (manyP P) := by unfold rest; rw [show s.bind (someP P) = _ from RN.out]
      rw [e]; exact HS.out
    · rw [RN.out]; exact HX.out
theorem some_fn (g : FuncId) (q : Nat) (P : List UInt8 → Option (Fn × List UInt8)) (hg : ∀ args w, (callFunc g args).run Tryz.prog w = .ok (.enter g args) w) (hR : REfn g q P)
    (s : Option (List UInt8)) (w : World) (h : RS w q s) :
    Calls Tryz.prog 125 #[ptr q, .func (.func g) #[] #[]] w fun e w' => ∃ v, e = .returned v ∧ (∃ a n c, v = .slice a n c) ∧ RS w' q (rest s (someP P)) ∧ But (One q) w w' ∧ ∀ x r, s.bind (someP P) = some (x, r) → Sl 4 EFn (New w w') w' v x := by
  have T := hide (many_fn g q P hg hR s w h)
  clear h hR hg
  go_enter Tryz.func125, Tryz.ntmps125
  go_wp2_with fail
  refine T.out.mono ?_
  rintro e w1 ⟨v1, rfl, ⟨a1, n1, m1, rfl⟩, hs, b1, hx⟩
  have HX := hide hx
  have HS := hide hs
  clear hx hs T
  by_cases hn : n1 = 0
  · subst hn
    have RN : Hid (s.bind (someP P) = none) := hide (by
      rw [some_bind]
      cases ho : s.bind (manyP P) with
      | none => rfl
      | some y =>
        have := (HX.out y.1 y.2 ho).len
        simp only [Option.bind_some]
        rw [if_pos this.symm])
    obtain ⟨_, ev, row⟩ := HS.out.row
    have FA := hide (fail_any q _ _ w1 row)
    clear row HX HS
    go_wp2_with fail
    refine FA.out.mono ?_
    rintro e w2 ⟨rfl, h2, b2⟩
    go_wp2_with fail
    go_ret
    refine ⟨_, rfl, ⟨_, _, _, rfl⟩, ?_, b1.trans b2, ?_⟩
    · rw [rest_none RN.out]; exact h2
    · intro x r e; rw [RN.out] at e; cases e
  · have RN : Hid (s.bind (someP P) = s.bind (manyP P)) := hide (by
      rw [some_bind]
      cases ho : s.bind (manyP P) with
      | none => rfl
      | some y =>
        have := (HX.out y.1 y.2 ho).len
        simp only [Option.bind_some]
        rw [if_neg (by omega)])
    have g1 : decide ((n1 : Int) = 0) = false := by simp; omega
    have g2 : ((n1 : Int) == 0) = false := by simp; omega
    go_wp2_with fail
    go_ret
    refine ⟨_, rfl, ⟨_, _, _, rfl⟩, ?_, b1, ?_⟩
    · have e : rest s (someP P) = rest s (manyP P) := by unfold rest; rw [show s.bind (someP P) = _ from RN.out]
      rw [e]; exact HS.out
    · rw [RN.out]; exact HX.out
theorem some_gl (g : FuncId) (q : Nat) (P : List UInt8 → Option (Gl × List UInt8)) (hg : ∀ args w, (callFunc g args).run Tryz.prog w = .ok (.enter g args) w) (hR : REgl g q P)
    (s : Option (List UInt8)) (w : World) (h : RS w q s) :
    Calls Tryz.prog 128 #[ptr q, .func (.func g) #[] #[]] w fun e w' => ∃ v, e = .returned v ∧ (∃ a n c, v = .slice a n c) ∧ RS w' q (rest s (someP P)) ∧ But (One q) w w' ∧ ∀ x r, s.bind (someP P) = some (x, r) → Sl 2 EGl (New w w') w' v x := by
  have T := hide (many_gl g q P hg hR s w h)
  clear h hR hg
  go_enter Tryz.func128, Tryz.ntmps128
  go_wp2_with fail
  refine T.out.mono ?_
  rintro e w1 ⟨v1, rfl, ⟨a1, n1, m1, rfl⟩, hs, b1, hx⟩
  have HX := hide hx
  have HS := hide hs
  clear hx hs T
  by_cases hn : n1 = 0
  · subst hn
    have RN : Hid (s.bind (someP P) = none) := hide (by
      rw [some_bind]
      cases ho : s.bind (manyP P) with
      | none => rfl
      | some y =>
        have := (HX.out y.1 y.2 ho).len
        simp only [Option.bind_some]
        rw [if_pos this.symm])
    obtain ⟨_, ev, row⟩ := HS.out.row
    have FA := hide (fail_any q _ _ w1 row)
    clear row HX HS
    go_wp2_with fail
    refine FA.out.mono ?_
    rintro e w2 ⟨rfl, h2, b2⟩
    go_wp2_with fail
    go_ret
    refine ⟨_, rfl, ⟨_, _, _, rfl⟩, ?_, b1.trans b2, ?_⟩
    · rw [rest_none RN.out]; exact h2
    · intro x r e; rw [RN.out] at e; cases e
  · have RN : Hid (s.bind (someP P) = s.bind (manyP P)) := hide (by
      rw [some_bind]
      cases ho : s.bind (manyP P) with
      | none => rfl
      | some y =>
        have := (HX.out y.1 y.2 ho).len
        simp only [Option.bind_some]
        rw [if_neg (by omega)])
    have g1 : decide ((n1 : Int) = 0) = false := by simp; omega
    have g2 : ((n1 : Int) == 0) = false := by simp; omega
    go_wp2_with fail
    go_ret
    refine ⟨_, rfl, ⟨_, _, _, rfl⟩, ?_, b1, ?_⟩
    · have e : rest s (someP P) = rest s (manyP P) := by unfold rest; rw [show s.bind (someP P) = _ from RN.out]
      rw [e]; exact HS.out
    · rw [RN.out]; exact HX.out
theorem some_da (g : FuncId) (q : Nat) (P : List UInt8 → Option (Da × List UInt8)) (hg : ∀ args w, (callFunc g args).run Tryz.prog w = .ok (.enter g args) w) (hR : REda g q P)
    (s : Option (List UInt8)) (w : World) (h : RS w q s) :
    Calls Tryz.prog 131 #[ptr q, .func (.func g) #[] #[]] w fun e w' => ∃ v, e = .returned v ∧ (∃ a n c, v = .slice a n c) ∧ RS w' q (rest s (someP P)) ∧ But (One q) w w' ∧ ∀ x r, s.bind (someP P) = some (x, r) → Sl 3 EDa (New w w') w' v x := by
  have T := hide (many_da g q P hg hR s w h)
  clear h hR hg
  go_enter Tryz.func131, Tryz.ntmps131
  go_wp2_with fail
  refine T.out.mono ?_
  rintro e w1 ⟨v1, rfl, ⟨a1, n1, m1, rfl⟩, hs, b1, hx⟩
  have HX := hide hx
  have HS := hide hs
  clear hx hs T
  by_cases hn : n1 = 0
  · subst hn
    have RN : Hid (s.bind (someP P) = none) := hide (by
      rw [some_bind]
      cases ho : s.bind (manyP P) with
      | none => rfl
      | some y =>
        have := (HX.out y.1 y.2 ho).len
        simp only [Option.bind_some]
        rw [if_pos this.symm])
    obtain ⟨_, ev, row⟩ := HS.out.row
    have FA := hide (fail_any q _ _ w1 row)
    clear row HX HS
    go_wp2_with fail
    refine FA.out.mono ?_
    rintro e w2 ⟨rfl, h2, b2⟩
    go_wp2_with fail
    go_ret
    refine ⟨_, rfl, ⟨_, _, _, rfl⟩, ?_, b1.trans b2, ?_⟩
    · rw [rest_none RN.out]; exact h2
    · intro x r e; rw [RN.out] at e; cases e
  · have RN : Hid (s.bind (someP P) = s.bind (manyP P)) := hide (by
      rw [some_bind]
      cases ho : s.bind (manyP P) with
      | none => rfl
      | some y =>
        have := (HX.out y.1 y.2 ho).len
        simp only [Option.bind_some]
        rw [if_neg (by omega)])
    have g1 : decide ((n1 : Int) = 0) = false := by simp; omega
    have g2 : ((n1 : Int) == 0) = false := by simp; omega
    go_wp2_with fail
    go_ret
    refine ⟨_, rfl, ⟨_, _, _, rfl⟩, ?_, b1, ?_⟩
    · have e : rest s (someP P) = rest s (manyP P) := by unfold rest; rw [show s.bind (someP P) = _ from RN.out]
      rw [e]; exact HS.out
    · rw [RN.out]; exact HX.out
theorem some_int (g : FuncId) (q : Nat) (lo hi : Int) (P : List UInt8 → Option (Int × List UInt8)) (hg : ∀ args w, (callFunc g args).run Tryz.prog w = .ok (.enter g args) w) (hR : RI g q lo hi P) (hb : -9223372036854775808 ≤ lo ∧ hi ≤ 9223372036854775807)
    (s : Option (List UInt8)) (w : World) (h : RS w q s) :
    Calls Tryz.prog 124 #[ptr q, .func (.func g) #[] #[]] w fun e w' => ∃ v, e = .returned v ∧ (∃ a n c, v = .slice a n c) ∧ RS w' q (rest s (someP P)) ∧ But (One q) w w' ∧ ∀ x r, s.bind (someP P) = some (x, r) → Sl 1 EInt (New3 w w') w' v x := by
  have T := hide (many_int g q lo hi P hg hR hb s w h)
  clear h hR hg
  go_enter Tryz.func124, Tryz.ntmps124
  go_wp2_with fail
  refine T.out.mono ?_
  rintro e w1 ⟨v1, rfl, ⟨a1, n1, m1, rfl⟩, hs, b1, hx⟩
  have HX := hide hx
  have HS := hide hs
  clear hx hs T
  by_cases hn : n1 = 0
  · subst hn
    have RN : Hid (s.bind (someP P) = none) := hide (by
      rw [some_bind]
      cases ho : s.bind (manyP P) with
      | none => rfl
      | some y =>
        have := (HX.out y.1 y.2 ho).len
        simp only [Option.bind_some]
        rw [if_pos this.symm])
    obtain ⟨_, ev, row⟩ := HS.out.row
    have FA := hide (fail_any q _ _ w1 row)
    clear row HX HS
    go_wp2_with fail
    refine FA.out.mono ?_
    rintro e w2 ⟨rfl, h2, b2⟩
    go_wp2_with fail
    go_ret
    refine ⟨_, rfl, ⟨_, _, _, rfl⟩, ?_, b1.trans b2, ?_⟩
    · rw [rest_none RN.out]; exact h2
    · intro x r e; rw [RN.out] at e; cases e
  · have RN : Hid (s.bind (someP P) = s.bind (manyP P)) := hide (by
      rw [some_bind]
      cases ho : s.bind (manyP P) with
      | none => rfl
      | some y =>
        have := (HX.out y.1 y.2 ho).len
        simp only [Option.bind_some]
        rw [if_neg (by omega)])
    have g1 : decide ((n1 : Int) = 0) = false := by simp; omega
    have g2 : ((n1 : Int) == 0) = false := by simp; omega
    go_wp2_with fail
    go_ret
    refine ⟨_, rfl, ⟨_, _, _, rfl⟩, ?_, b1, ?_⟩
    · have e : rest s (someP P) = rest s (manyP P) := by unfold rest; rw [show s.bind (someP P) = _ from RN.out]
      rw [e]; exact HS.out
    · rw [RN.out]; exact HX.out
end Go.Proofs.YtcbfpikggphokaaGreatDoor
