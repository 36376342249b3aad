/-
  Plain: behind an Unreachable a body that may be still may be: whatever is popped in a dead frame is less, and there is less of it. No walk.
-/
import Derived.Test.YtamofhkmhjckaaaGreatDoorNopP
import Derived.Test.YtamofhkmhjckaaaGreatDoorChkF
namespace Go.Proofs.YtamofhkmhjckaaaGreatDoor
open Go.RowKit

/-- a type that may stand for another one -/
def tle (a b : Int) : Prop := a = -1 ∨ (b ≠ -1 ∧ fl a b = true)
theorem tle_refl {t : Int} (h : ty t) : tle t t := by
  by_cases e : t = -1
  · exact .inl e
  · refine .inr ⟨e, ?_⟩
    rw [fl_self]
    exact ri_of_ty ⟨by have := h.1; omega, h.2⟩
theorem tle_m1 (t : Int) : tle (-1) t := .inl rfl
theorem fl_wi {a b : Int} (h : fl a b = true) : wi a = wi b := by
  simp only [fl, Bool.and_eq_true, beq_iff_eq] at h; exact h.1.2
theorem tle_se {a b : Int} (h : tle a b) (h' : se a = true) : se b = true := by
  rcases h with rfl | ⟨_, h⟩
  · simp [se] at h'
  · exact fl_se h h'
theorem tle_wi {a b : Int} (h : tle a b) (h' : wi a = true) : wi b = true := by
  rcases h with rfl | ⟨_, h⟩
  · simp [wi] at h'
  · rw [← fl_wi h]; exact h'
theorem tle_fl {a b c : Int} (h : tle a b) (h' : b = -1 ∨ fl b c = true) : a = -1 ∨ fl a c = true := by
  rcases h with rfl | ⟨e, h⟩
  · exact .inl rfl
  · exact .inr (fl_trans h (h'.resolve_left e))
theorem tle_relab {a b : Int} (h : tle a b) (k : Bool) : tle (relab a k) (relab b k) := by
  rcases h with rfl | ⟨e, h⟩
  · exact .inl rfl
  · unfold relab
    by_cases ha : a = -1
    · rw [if_pos ha]; exact .inl rfl
    · rw [if_neg ha, if_neg e, fl_wi h]
      exact tle_refl (ty0_ot _ _).ty
theorem tle_ot {w b b' : Bool} (h : b = true → b' = true) : tle (ot w b) (ot w b') := by
  cases w <;> cases b <;> cases b' <;> simp at h <;> exact .inr ⟨by decide, by decide⟩
theorem tle_up {a b : Int} (h : tle a b) : tle a (relab b true) := by
  rcases h with rfl | ⟨e, h⟩
  · exact .inl rfl
  · unfold relab
    rw [if_neg e]
    refine .inr ⟨?_, ?_⟩
    · have := ty0_ot (wi b) true; have := this.1; omega
    · obtain ⟨r1, r2⟩ := fl_types h
      simp only [fl, Bool.and_eq_true, beq_iff_eq, Bool.or_eq_true]
      obtain ⟨a1, a2, a3⟩ := ot_tells (wi b) true
      rw [a1, a2, a3]
      exact ⟨⟨⟨r1, rfl⟩, fl_wi h⟩, .inl rfl⟩
theorem tle_join {r r' q q' t : Int} (hr : tle r' r) (hq : tle q' q) (h : joinW r q = .ok t) : ∃ t', joinW r' q' = .ok t' ∧ tle t' t := by
  unfold joinW at h ⊢
  by_cases q1 : q' = -1
  · rw [if_pos q1]
    refine ⟨r', rfl, ?_⟩
    by_cases q0 : q = -1
    · rw [if_pos q0] at h; cases h; exact hr
    · rw [if_neg q0] at h
      by_cases r0 : r = -1
      · rw [if_pos r0] at h; cases h
        rcases hr with e | ⟨e, _⟩
        · exact .inl e
        · exact absurd r0 e
      · rw [if_neg r0] at h
        split at h
        · rename_i hj
          cases h
          rcases hr with e | ⟨_, e⟩
          · exact .inl e
          · have := fl_trans e (jn_up hj).1
            refine .inr ⟨fun e1 => ?_, this⟩
            have := (fl_types this).2
            rw [e1] at this; revert this; decide
        · cases h
  · rw [if_neg q1]
    have q0 : q ≠ -1 := fun e => by
      rcases hq with e1 | ⟨e1, _⟩
      · exact q1 e1
      · exact e1 e
    rw [if_neg q0] at h
    have hq2 := (hq.resolve_left q1).2
    by_cases r1 : r' = -1
    · rw [if_pos r1]
      refine ⟨q', rfl, ?_⟩
      by_cases r0 : r = -1
      · rw [if_pos r0] at h; cases h; exact hq
      · rw [if_neg r0] at h
        split at h
        · rename_i hj
          cases h
          have := fl_trans hq2 (jn_up hj).2.1
          refine .inr ⟨fun e1 => ?_, this⟩
          have := (fl_types this).2
          rw [e1] at this; revert this; decide
        · cases h
    · rw [if_neg r1]
      have r0 : r ≠ -1 := fun e => by
        rcases hr with e1 | ⟨e1, _⟩
        · exact r1 e1
        · exact e1 e
      rw [if_neg r0] at h
      have hr2 := (hr.resolve_left r1).2
      split at h
      · rename_i hj
        cases h
        obtain ⟨a, b⟩ := jn_least (fl_trans hr2 (jn_up hj).1) (fl_trans hq2 (jn_up hj).2.1)
        rw [if_pos a]
        refine ⟨_, rfl, .inr ⟨fun e1 => ?_, b⟩⟩
        have := (fl_types b).2
        rw [e1] at this; revert this; decide
      · cases h
/-- element by element -/
def All2 : List Int → List Int → Prop
  | [], [] => True
  | a :: l, b :: m => tle a b ∧ All2 l m
  | _, _ => False
theorem All2.len : ∀ {l m : List Int}, All2 l m → l.length = m.length
  | [], [], _ => rfl
  | _ :: _, _ :: _, h => by simp [h.2.len]
  | [], _ :: _, h => h.elim
  | _ :: _, [], h => h.elim
theorem All2.refl : ∀ {l : List Int}, (∀ t ∈ l, ty t) → All2 l l
  | [], _ => trivial
  | a :: l, h => ⟨tle_refl (h a (by simp)), All2.refl fun t ht => h t (List.mem_cons_of_mem _ ht)⟩
theorem All2.app : ∀ {l m l' m' : List Int}, All2 l m → All2 l' m' → All2 (l ++ l') (m ++ m')
  | [], [], _, _, _, h => h
  | _ :: _, _ :: _, _, _, h, h' => ⟨h.1, h.2.app h'⟩
  | [], _ :: _, _, _, h, _ => h.elim
  | _ :: _, [], _, _, h, _ => h.elim
/-- the values of a frame: in a dead one there may be fewer, the uppermost ones -/
def Seg (dead : Bool) (a b : List Int) : Prop := ∃ top ex, b = top ++ ex ∧ All2 a top ∧ (dead = false → ex = [])
theorem Seg.len {d : Bool} {a b : List Int} (h : Seg d a b) : a.length ≤ b.length := by
  obtain ⟨top, ex, rfl, h1, _⟩ := h; rw [h1.len]; simp
theorem Seg.cons {d : Bool} {a b : List Int} (h : Seg d a b) {l m : List Int} (hl : All2 l m) : Seg d (l ++ a) (m ++ b) := by
  obtain ⟨top, ex, rfl, h1, h2⟩ := h
  exact ⟨m ++ top, ex, by simp, hl.app h1, h2⟩
theorem Seg.none {d : Bool} {a : List Int} (h : Seg d a []) : a = [] := by
  have := h.len; simp at this; exact this
/-- the frames of a body, and of the one with more that is dead -/
def Sim : List Fm → List Fm → List Int → List Int → Prop
  | [], [], a, b => All2 a b
  | f :: r, g :: q, a, b => f.op = g.op ∧ f.br = g.br ∧ (g.dead = true → f.dead = true) ∧ ∃ a1 a2 b1 b2, a = a1 ++ a2 ∧ b = b1 ++ b2 ∧ a2.length = f.base ∧ b2.length = g.base ∧ Seg f.dead a1 b1 ∧ Sim r q a2 b2
  | _, _, _, _ => False
theorem Sim.len : ∀ {r q : List Fm} {a b : List Int}, Sim r q a b → a.length ≤ b.length
  | [], [], _, _, h => by rw [All2.len h]; exact Nat.le_refl _
  | _ :: _, _ :: _, _, _, h => by
    obtain ⟨_, _, _, a1, a2, b1, b2, rfl, rfl, _, _, h1, h2⟩ := h
    have := h1.len
    have := h2.len
    simp; omega
  | [], _ :: _, _, _, h => h.elim
  | _ :: _, [], _, _, h => h.elim
/-- more is pushed -/
theorem Sim.push {r q : List Fm} {a b l m : List Int} (h : Sim r q a b) (hl : All2 l m) : Sim r q (l ++ a) (m ++ b) := by
  match r, q, h with
  | [], [], h => exact All2.app hl h
  | f :: r, g :: q, h =>
    obtain ⟨e1, e2, e3, a1, a2, b1, b2, rfl, rfl, l1, l2, h1, h2⟩ := h
    exact ⟨e1, e2, e3, l ++ a1, a2, m ++ b1, b2, by simp, by simp, l1, l2, h1.cons hl, h2⟩
/-- both bodies' states -/
def Si (s' s : Wk) : Prop := Sim s'.fr s.fr s'.st s.st
theorem Si.pushL {s' s s1 : Wk} {l' l : List Int} (h : Si s' s) (hl : All2 l' l) (e : pushL l s = .ok s1) : ∃ s1', Go.Proofs.YtamofhkmhjckaaaGreatDoor.pushL l' s' = .ok s1' ∧ Si s1' s1 := by
  unfold Go.Proofs.YtamofhkmhjckaaaGreatDoor.pushL at e ⊢
  have := Sim.len h
  have hll := hl.len
  split at e
  · cases e
  · cases e
    rw [if_neg (by omega)]
    refine ⟨_, rfl, ?_⟩
    have hrev : ∀ {l' l : List Int}, All2 l' l → All2 l'.reverse l.reverse := by
      intro l' l h
      induction l' generalizing l with
      | nil => cases l with
        | nil => trivial
        | cons => exact h.elim
      | cons x r ih => cases l with
        | nil => exact h.elim
        | cons y m =>
          rw [List.reverse_cons, List.reverse_cons]
          exact (ih h.2).app ⟨h.1, trivial⟩
    exact Sim.push h (hrev hl)
theorem Si.popW {s' s s1 : Wk} {t : Int} (h : Si s' s) (e : popW s = .ok (t, s1)) : ∃ t' s1', Go.Proofs.YtamofhkmhjckaaaGreatDoor.popW s' = .ok (t', s1') ∧ tle t' t ∧ Si s1' s1 ∧ s1'.fr = s'.fr ∧ s1.fr = s.fr := by
  obtain ⟨st', fr'⟩ := s'
  obtain ⟨st, fr⟩ := s
  unfold Go.Proofs.YtamofhkmhjckaaaGreatDoor.popW at e ⊢
  simp only [Si] at h
  match fr', fr, h with
  | [], [], h => simp only at e; cases e
  | f :: r, g :: q, h =>
    obtain ⟨e1, e2, e3, a1, a2, b1, b2, rfl, rfl, l1, l2, h1, h2⟩ := h
    simp only at e ⊢
    cases b1 with
    | nil =>
      have := h1.none
      subst this
      simp only [List.nil_append] at e ⊢
      rw [if_pos (by omega)] at e
      rw [if_pos (by omega)]
      split at e
      · rename_i hd
        cases e
        rw [if_pos (e3 hd)]
        exact ⟨-1, _, rfl, .inl rfl, ⟨e1, e2, e3, [], a2, [], b2, rfl, rfl, l1, l2, h1, h2⟩, by simp⟩
      · cases e
    | cons y b1 =>
      rw [if_neg (by simp; omega)] at e
      simp only [List.cons_append] at e
      cases e
      cases a1 with
      | nil =>
        have hd : f.dead = true := by
          cases hf : f.dead
          · obtain ⟨top, ex, et, ht, hx⟩ := h1
            rw [hx hf, List.append_nil] at et
            subst et
            exact ht.elim
          · rfl
        simp only [List.nil_append]
        rw [if_pos (by omega), if_pos hd]
        refine ⟨-1, _, rfl, .inl rfl, ⟨e1, e2, e3, [], a2, b1, b2, rfl, rfl, l1, l2, ⟨[], b1, rfl, trivial, fun hf => ?_⟩, h2⟩, by simp⟩
        rw [hd] at hf; cases hf
      | cons x a1 =>
        rw [if_neg (by simp; omega)]
        simp only [List.cons_append]
        obtain ⟨top, ex, et, ht, hx⟩ := h1
        cases top with
        | nil => exact ht.elim
        | cons z top =>
          simp only [List.cons_append, List.cons.injEq] at et
          obtain ⟨rfl, rfl⟩ := et
          exact ⟨x, _, rfl, ht.1, ⟨e1, e2, e3, a1, a2, _, b2, rfl, rfl, l1, l2, ⟨top, ex, rfl, ht.2, hx⟩, h2⟩, by simp⟩
theorem Si.popF : ∀ {l : List Int} {s' s s1 : Wk} {b0' b0 b : Bool}, Si s' s → (b0' = true → b0 = true) → popF l b0 s = .ok (b, s1) → ∃ b' s1', Go.Proofs.YtamofhkmhjckaaaGreatDoor.popF l b0' s' = .ok (b', s1') ∧ (b' = true → b = true) ∧ Si s1' s1 ∧ s1'.fr = s'.fr ∧ s1.fr = s.fr
  | [], s', s, s1, b0', b0, b, h, hb, e => by
    cases e; exact ⟨b0', s', rfl, hb, h, rfl, rfl⟩
  | tt :: r, s', s, s1, b0', b0, b, h, hb, e => by
    obtain ⟨⟨bo, so⟩, e1, e2⟩ := bnd_yes e
    obtain ⟨⟨t, s2⟩, e3, e4⟩ := bnd_yes e1
    obtain ⟨t', s2', p1, p2, p3, p4, p5⟩ := h.popW e3
    simp only at e4
    split at e4
    · rename_i hf
      cases e4
      obtain ⟨b', s1', q1, q2, q3, q4, q5⟩ := Si.popF (l := r) (b0' := b0' || se t') (b0 := b0 || se t) p3 (fun hh => by
        rcases Bool.or_eq_true _ _ ▸ hh with h1 | h1
        · rw [hb h1]; rfl
        · rw [tle_se p2 h1]; simp) e2
      refine ⟨b', s1', ?_, q2, q3, q4.trans p4, q5.trans p5⟩
      show bnd (oneW tt s') _ = _
      have : oneW tt s' = .ok (se t', s2') := by
        unfold oneW
        rw [p1]
        show (if t' = -1 ∨ fl t' tt = true then _ else _) = _
        rw [if_pos (tle_fl p2 hf)]
      rw [this]; exact q1
    · cases e4
theorem Si.popTo {l : List Int} {s' s s1 : Wk} {b : Bool} (h : Si s' s) (e : popTo l s = .ok (b, s1)) : ∃ b' s1', Go.Proofs.YtamofhkmhjckaaaGreatDoor.popTo l s' = .ok (b', s1') ∧ (b' = true → b = true) ∧ Si s1' s1 ∧ s1'.fr = s'.fr ∧ s1.fr = s.fr := Si.popF h (fun x => x) e
theorem Si.popN : ∀ {k : Nat} {t : Int} {s' s s1 : Wk} {b0' b0 b : Bool}, Si s' s → (b0' = true → b0 = true) → popN k t b0 s = .ok (b, s1) → ∃ b' s1', Go.Proofs.YtamofhkmhjckaaaGreatDoor.popN k t b0' s' = .ok (b', s1') ∧ (b' = true → b = true) ∧ Si s1' s1
  | 0, t, s', s, s1, b0', b0, b, h, hb, e => by cases e; exact ⟨b0', s', rfl, hb, h⟩
  | k + 1, t, s', s, s1, b0', b0, b, h, hb, e => by
    obtain ⟨⟨bo, so⟩, e1, e2⟩ := bnd_yes e
    obtain ⟨b', s1', p1, p2, p3, _, _⟩ := h.popTo e1
    obtain ⟨b2, s2, q1, q2, q3⟩ := Si.popN (b0' := b0' || b') p3 (fun hh => by
      rcases Bool.or_eq_true _ _ ▸ hh with h1 | h1
      · rw [hb h1]; rfl
      · rw [p2 h1]; simp) e2
    refine ⟨b2, s2, ?_, q2, q3⟩
    show bnd (Go.Proofs.YtamofhkmhjckaaaGreatDoor.popTo [t] s') _ = _
    rw [p1]; exact q1
theorem Si.die {s' s : Wk} (h : Si s' s) : Si (dieW s') (dieW s) := by
  obtain ⟨st', fr'⟩ := s'
  obtain ⟨st, fr⟩ := s
  simp only [Si] at h
  match fr', fr, h with
  | [], [], h => exact h
  | f :: r, g :: q, h =>
    obtain ⟨e1, e2, e3, a1, a2, b1, b2, rfl, rfl, l1, l2, h1, h2⟩ := h
    have x1 : (a1 ++ a2).drop ((a1 ++ a2).length - f.base) = a2 := by
      rw [List.length_append, ← l1, Nat.add_sub_cancel, List.drop_left]
    have x2 : (b1 ++ b2).drop ((b1 ++ b2).length - g.base) = b2 := by
      rw [List.length_append, ← l2, Nat.add_sub_cancel, List.drop_left]
    show Sim (⟨f.op, f.br, f.base, true⟩ :: r) (⟨g.op, g.br, g.base, true⟩ :: q) ((a1 ++ a2).drop ((a1 ++ a2).length - f.base)) ((b1 ++ b2).drop ((b1 ++ b2).length - g.base))
    rw [x1, x2]
    exact ⟨e1, e2, fun _ => rfl, [], a2, [], b2, rfl, rfl, l1, l2, ⟨[], [], rfl, trivial, fun _ => rfl⟩, h2⟩
theorem Si.opens {s' s : Wk} (h : Si s' s) (x : In) : Si (openW x s') (openW x s) :=
  ⟨rfl, rfl, fun h => h, [], s'.st, [], s.st, rfl, rfl, rfl, rfl, ⟨[], [], rfl, trivial, fun _ => rfl⟩, h⟩
/-- the frame has what it brings, and nothing beside it -/
theorem Si.fill {s' s s1 : Wk} (h : Si s' s) (e : fillW s = .ok s1) : ∃ s1' f r g q, fillW s' = .ok s1' ∧ s1'.fr = f :: r ∧ s1.fr = g :: q ∧ f.op = g.op ∧ f.br = g.br ∧ s1'.st.length = f.base ∧ s1.st.length = g.base ∧ Sim r q s1'.st s1.st := by
  unfold fillW at e ⊢
  have h0 : Sim s'.fr s.fr s'.st s.st := h
  cases hg : s.fr with
  | nil => rw [hg] at e; cases e
  | cons g q =>
    cases hf : s'.fr with
    | nil => rw [hg, hf] at h0; exact h0.elim
    | cons f r =>
      rw [hg] at e
      simp only at e ⊢
      rw [hf, hg] at h0
      have ebr : f.br = g.br := h0.2.1
      have eop : f.op = g.op := h0.1
      obtain ⟨⟨b, s2⟩, e1, e2⟩ := bnd_yes e
      obtain ⟨b', s2', p1, _, p3, p4, p5⟩ := h.popTo e1
      simp only at e2
      split at e2
      · rename_i hl
        cases e2
        have h3 : Sim s2'.fr s1.fr s2'.st s1.st := p3
        rw [p4, p5, hf, hg] at h3
        obtain ⟨_, _, _, a1, a2, b1, b2, x1, x2, l1, l2, h1, h2⟩ := h3
        have hb1 : b1 = [] := by
          rw [x2, List.length_append, l2] at hl
          exact List.length_eq_zero_iff.1 (by omega)
        subst hb1
        have ha1 := h1.none
        subst ha1
        rw [List.nil_append] at x1 x2
        refine ⟨s2', f, r, g, q, ?_, p4.trans hf, p5.trans hg, eop, ebr, by rw [x1]; exact l1, by rw [x2]; exact l2, by rw [x1, x2]; exact h2⟩
        rw [ebr, p1]
        show (if s2'.st.length = f.base then _ else _) = _
        rw [if_pos (by rw [x1]; exact l1)]
      · cases e2
theorem Si.turn {s' s s1 : Wk} (h : Si s' s) (e : turnW s = .ok s1) : ∃ s1', turnW s' = .ok s1' ∧ Si s1' s1 := by
  obtain ⟨s2, e1, e2⟩ := bnd_yes e
  obtain ⟨s2', f, r, g, q, p1, p2, p3, p4, p5, p6, p7, p8⟩ := h.fill e1
  rw [p3] at e2
  cases e2
  refine ⟨⟨s2'.st, ⟨5, f.br, f.base, false⟩ :: r⟩, ?_, ?_⟩
  · show bnd (fillW s') _ = _
    rw [p1]
    show (match s2'.fr with | [] => _ | f :: r => _) = _
    rw [p2]
  · exact ⟨rfl, p5, fun h => h, [], s2'.st, [], s2.st, rfl, rfl, p6, p7, ⟨[], [], rfl, trivial, fun _ => rfl⟩, p8⟩
theorem Si.close {s' s s1 : Wk} (h : Si s' s) (hw : WF s) (e : closeW s = .ok s1) : ∃ s1', closeW s' = .ok s1' ∧ Si s1' s1 := by
  obtain ⟨s2, e1, e2⟩ := bnd_yes e
  obtain ⟨w2, _, _⟩ := fill_ok hw e1
  obtain ⟨s2', f, r, g, q, p1, p2, p3, p4, p5, p6, p7, p8⟩ := h.fill e1
  have hbr := (w2.br g (by rw [p3]; simp)).2
  rw [p3] at e2
  simp only at e2
  split at e2
  · cases e2
  · rename_i hc
    have hs : Si ⟨s2'.st, r⟩ ⟨s2.st, q⟩ := p8
    obtain ⟨s3, q1, q2⟩ := hs.pushL (l' := g.br) (All2.refl fun t ht => (hbr t ht).ty) e2
    refine ⟨s3, ?_, q2⟩
    show bnd (fillW s') _ = _
    rw [p1]
    show (match s2'.fr with | [] => _ | f :: r => _) = _
    rw [p2]
    simp only
    rw [p4, p5, if_neg hc]
    exact q1
theorem Si.get {s' s : Wk} (h : Si s' s) : ∀ n : Nat, (∀ f, s.fr[n]? = some f → ∃ f', s'.fr[n]? = some f' ∧ f'.op = f.op ∧ f'.br = f.br) := by
  obtain ⟨st', fr'⟩ := s'
  obtain ⟨st, fr⟩ := s
  simp only [Si] at h
  show ∀ n : Nat, (∀ f, fr[n]? = some f → ∃ f', fr'[n]? = some f' ∧ f'.op = f.op ∧ f'.br = f.br)
  induction fr' generalizing fr st st' with
  | nil => cases fr with
    | nil => intro n f hf; simp at hf
    | cons => exact h.elim
  | cons f r ih => cases fr with
    | nil => exact h.elim
    | cons g q =>
      obtain ⟨e1, e2, e3, a1, a2, b1, b2, rfl, rfl, l1, l2, h1, h2⟩ := h
      intro n x hx
      cases n with
      | zero => simp at hx; subst hx; exact ⟨f, by simp, e1, e2⟩
      | succ n =>
        have := ih _ _ _ h2 n x (by simpa using hx)
        simpa using this
theorem Si.bot {s' s : Wk} (h : Si s' s) : (bottom s').br = (bottom s).br := by
  obtain ⟨st', fr'⟩ := s'
  obtain ⟨st, fr⟩ := s
  simp only [Si] at h
  show (fr'.getLastD fm0).br = (fr.getLastD fm0).br
  have key : ∀ (fr' fr : List Fm) (st' st : List Int) (f0 g0 : Fm), f0.br = g0.br → Sim fr' fr st' st → (fr'.getLastD f0).br = (fr.getLastD g0).br := by
    intro fr'
    induction fr' with
    | nil => intro fr st' st f0 g0 e h; cases fr with
      | nil => exact e
      | cons => exact h.elim
    | cons f r ih => intro fr st' st f0 g0 e h; cases fr with
      | nil => exact h.elim
      | cons g q =>
        obtain ⟨_, e2, _, a1, a2, b1, b2, _, _, _, _, _, h2⟩ := h
        rw [List.getLastD_cons, List.getLastD_cons]
        exact ih q a2 b2 f g e2 h2
  exact key _ _ _ _ _ _ rfl h
theorem Si.tgt {s' s : Wk} {n : Int} {f : Fm} (h : Si s' s) (e : tgtW n s = .ok f) : ∃ f', tgtW n s' = .ok f' ∧ takes f' = takes f := by
  unfold tgtW at e ⊢
  cases hx : s.fr[n.toNat]? with
  | none => rw [hx] at e; cases e
  | some g =>
    rw [hx] at e
    cases e
    obtain ⟨f', h1, h2, h3⟩ := h.get _ _ hx
    rw [h1]
    exact ⟨f', rfl, by unfold takes; rw [h2, h3]⟩
theorem Si.refl : ∀ {fr : List Fm} {st : List Int}, Mono st.length fr → (∀ t ∈ st, ty t) → Sim fr fr st st
  | [], st, _, ht => All2.refl ht
  | f :: r, st, m, ht => by
    have m1 : f.base ≤ st.length := m.1
    have hl : (st.drop (st.length - f.base)).length = f.base := by rw [List.length_drop]; omega
    refine ⟨rfl, rfl, fun h => h, st.take (st.length - f.base), st.drop (st.length - f.base), st.take (st.length - f.base), st.drop (st.length - f.base), by simp, by simp, hl, hl, ⟨_, [], by simp, All2.refl fun t h => ht t (List.mem_of_mem_take h), fun _ => rfl⟩, ?_⟩
    exact Si.refl (by rw [hl]; exact m.2) fun t h => ht t (List.mem_of_mem_drop h)
/-- where an Unreachable was laid in -/
theorem Si.dead {s : Wk} (h : WF s) : Si (dieW s) s := by
  obtain ⟨st, fr⟩ := s
  have m := h.mono
  have ht := h.st
  cases fr with
  | nil => exact All2.refl ht
  | cons f r =>
    have m1 : f.base ≤ st.length := m.1
    have hl : (st.drop (st.length - f.base)).length = f.base := by rw [List.length_drop]; omega
    refine ⟨rfl, rfl, fun _ => rfl, [], st.drop (st.length - f.base), st.take (st.length - f.base), st.drop (st.length - f.base), rfl, by simp, hl, hl, ⟨[], _, rfl, trivial, fun h => by cases h⟩, ?_⟩
    exact Si.refl (by rw [hl]; exact m.2) fun t h => ht t (List.mem_of_mem_drop h)
theorem one2 {a b : Int} (h : tle a b) : All2 [a] [b] := ⟨h, trivial⟩
/-- one instruction -/
theorem Si.ins {C : Cx} (hC : CxOk C) {x : In} {s' s s1 : Wk} (h : Si s' s) (hw : WF s) (e : insW C x s = .ok s1) : ∃ s1', insW C x s' = .ok s1' ∧ Si s1' s1 := by
  have self : ∀ {l : List Int}, (∀ t ∈ l, ty0 t) → All2 l l := fun hl => All2.refl fun t ht => (hl t ht).ty
  have self1 : ∀ {t : Int}, ty0 t → All2 [t] [t] := fun ht => one2 (tle_refl ht.ty)
  delta insW at e ⊢
  rcases ite_or e with ⟨c, e⟩ | ⟨c, e⟩
  · rw [if_pos c]; cases e; exact ⟨s', rfl, h⟩
  rw [if_neg c]; clear c
  rcases ite_or e with ⟨c, e⟩ | ⟨c, e⟩
  · rw [if_pos c]; cases e; exact ⟨_, rfl, h.die⟩
  rw [if_neg c]; clear c
  rcases ite_or e with ⟨c, e⟩ | ⟨c, e⟩
  · rw [if_pos c]
    obtain ⟨⟨b, s2⟩, e1, e2⟩ := bnd_yes e
    cases e2
    obtain ⟨b', s2', p1, _, p3, _, _⟩ := h.popTo e1
    rw [p1]; exact ⟨_, rfl, p3.opens x⟩
  rw [if_neg c]; clear c
  rcases ite_or e with ⟨c, e⟩ | ⟨c, e⟩
  · rw [if_pos c]; cases e; exact ⟨_, rfl, h.opens x⟩
  rw [if_neg c]; clear c
  rcases ite_or e with ⟨c, e⟩ | ⟨c, e⟩
  · rw [if_pos c]; exact h.turn e
  rw [if_neg c]; clear c
  rcases ite_or e with ⟨c, e⟩ | ⟨c, e⟩
  · rw [if_pos c]; exact h.close hw e
  rw [if_neg c]; clear c
  rcases ite_or e with ⟨c, e⟩ | ⟨c, e⟩
  · rw [if_pos c]
    obtain ⟨f, e1, e2⟩ := bnd_yes e
    obtain ⟨⟨b, s2⟩, e3, e4⟩ := bnd_yes e2
    cases e4
    obtain ⟨f', q1, q2⟩ := h.tgt e1
    obtain ⟨b', s2', p1, _, p3, _, _⟩ := h.popTo e3
    unfold brW
    rw [q1, bnd_ok, q2, p1]; exact ⟨_, rfl, p3.die⟩
  rw [if_neg c]; clear c
  rcases ite_or e with ⟨c, e⟩ | ⟨c, e⟩
  · rw [if_pos c]
    obtain ⟨⟨b, s2⟩, e1, e2⟩ := bnd_yes e
    obtain ⟨f, e3, e4⟩ := bnd_yes e2
    obtain ⟨⟨b3, s3⟩, e5, e6⟩ := bnd_yes e4
    obtain ⟨w2, _, _⟩ := popTo_ok hw e1
    obtain ⟨b', s2', p1, _, p3, _, _⟩ := h.popTo e1
    obtain ⟨f', q1, q2⟩ := p3.tgt e3
    obtain ⟨b'', s3', r1, _, r3, _, _⟩ := p3.popTo e5
    obtain ⟨s4', u1, u2⟩ := r3.pushL (self (takes_ty w2 (tgt_mem e3))) e6
    unfold brIfW
    rw [p1, bnd_ok]
    simp only
    rw [q1, bnd_ok, q2, r1, bnd_ok]
    exact ⟨s4', u1, u2⟩
  rw [if_neg c]; clear c
  rcases ite_or e with ⟨c, e⟩ | ⟨c, e⟩
  · rw [if_pos c]
    obtain ⟨⟨b, s2⟩, e1, e2⟩ := bnd_yes e
    cases e2
    obtain ⟨b', s2', p1, _, p3, _, _⟩ := h.popTo e1
    unfold retW
    rw [h.bot, p1]; exact ⟨_, rfl, p3.die⟩
  rw [if_neg c]; clear c
  rcases ite_or e with ⟨c, e⟩ | ⟨c, e⟩
  · rw [if_pos c]
    unfold callW at e ⊢
    cases hc : callee C.M x.n with
    | none => rw [hc] at e; cases e
    | some p =>
      obtain ⟨g, hh, t⟩ := p
      rw [hc] at e
      simp only at e ⊢
      split at e
      · cases e
      · rename_i hn
        rw [if_neg hn]
        obtain ⟨⟨b, s2⟩, e1, e2⟩ := bnd_yes e
        obtain ⟨b', s2', p1, _, p3, _, _⟩ := h.popTo e1
        obtain ⟨s3', u1, u2⟩ := p3.pushL (self (hC.sg g (cal_mem hc)).2.2.2) e2
        rw [p1]; exact ⟨s3', u1, u2⟩
  rw [if_neg c]; clear c
  rcases ite_or e with ⟨c, e⟩ | ⟨c, e⟩
  · rw [if_pos c]
    obtain ⟨⟨t, s2⟩, e1, e2⟩ := bnd_yes e
    cases e2
    obtain ⟨t', s2', p1, _, p3, _, _⟩ := h.popW e1
    rw [p1]; exact ⟨_, rfl, p3⟩
  rw [if_neg c]; clear c
  rcases ite_or e with ⟨c, e⟩ | ⟨c, e⟩
  · rw [if_pos c]
    obtain ⟨⟨t, s2⟩, e1, e2⟩ := bnd_yes e
    obtain ⟨t', s2', p1, p2, p3, _, _⟩ := h.popW e1
    obtain ⟨w2, ty2, _, _⟩ := popW_ok hw e1
    simp only at e2
    split at e2
    · cases e2
    · rename_i hwi
      obtain ⟨⟨tq, s3⟩, e3, e4⟩ := bnd_yes e2
      obtain ⟨tq', s3', q1, q2, q3, _, _⟩ := p3.popW e3
      obtain ⟨w3, ty3, _, _⟩ := popW_ok w2 e3
      obtain ⟨⟨tr, s4⟩, e5, e6⟩ := bnd_yes e4
      obtain ⟨tr', s4', r1, r2, r3, _, _⟩ := q3.popW e5
      obtain ⟨w4, ty4, _, _⟩ := popW_ok w3 e5
      obtain ⟨tj, e7, e8⟩ := bnd_yes e6
      obtain ⟨tj', j1, j2⟩ := tle_join r2 q2 e7
      have hle : tle (if se t' = true then relab tj' true else tj') (if se t = true then relab tj true else tj) := by
        by_cases h1 : se t' = true
        · rw [if_pos h1, if_pos (tle_se p2 h1)]; exact tle_relab j2 true
        · rw [if_neg h1]
          split
          · exact tle_up j2
          · exact j2
      obtain ⟨s5', u1, u2⟩ := r3.pushL (one2 hle) e8
      unfold chooseW
      rw [p1, bnd_ok]
      simp only
      rw [if_neg (fun hx => hwi (tle_wi p2 hx)), q1, bnd_ok]
      simp only
      rw [r1, bnd_ok]
      simp only
      rw [j1, bnd_ok]
      exact ⟨s5', u1, u2⟩
  rw [if_neg c]; clear c
  rcases ite_or e with ⟨c, e⟩ | ⟨c, e⟩
  · rw [if_pos c]
    obtain ⟨t, e1, e2⟩ := bnd_yes e
    obtain ⟨s3', u1, u2⟩ := h.pushL (self1 (loc_ty hC e1)) e2
    rw [e1]; exact ⟨s3', u1, u2⟩
  rw [if_neg c]; clear c
  rcases ite_or e with ⟨c, e⟩ | ⟨c, e⟩
  · rw [if_pos c]
    obtain ⟨t, e1, e2⟩ := bnd_yes e
    obtain ⟨⟨b, s2⟩, e3, e4⟩ := bnd_yes e2
    cases e4
    obtain ⟨b', s2', p1, _, p3, _, _⟩ := h.popTo e3
    rw [e1, bnd_ok, p1]; exact ⟨_, rfl, p3⟩
  rw [if_neg c]; clear c
  rcases ite_or e with ⟨c, e⟩ | ⟨c, e⟩
  · rw [if_pos c]
    obtain ⟨t, e1, e2⟩ := bnd_yes e
    obtain ⟨⟨b, s2⟩, e3, e4⟩ := bnd_yes e2
    obtain ⟨b', s2', p1, _, p3, _, _⟩ := h.popTo e3
    obtain ⟨s3', u1, u2⟩ := p3.pushL (self1 (loc_ty hC e1)) e4
    rw [e1, bnd_ok, p1]; exact ⟨s3', u1, u2⟩
  rw [if_neg c]; clear c
  rcases ite_or e with ⟨c, e⟩ | ⟨c, e⟩
  · rw [if_pos c]
    obtain ⟨t, e1, e2⟩ := bnd_yes e
    obtain ⟨s3', u1, u2⟩ := h.pushL (self1 (glo_ty hC e1)) e2
    rw [e1]; exact ⟨s3', u1, u2⟩
  rw [if_neg c]; clear c
  rcases ite_or e with ⟨c, e⟩ | ⟨c, e⟩
  · rw [if_pos c]
    obtain ⟨t, e1, e2⟩ := bnd_yes e
    obtain ⟨⟨b, s2⟩, e3, e4⟩ := bnd_yes e2
    cases e4
    obtain ⟨b', s2', p1, _, p3, _, _⟩ := h.popTo e3
    rw [e1, bnd_ok, p1]; exact ⟨_, rfl, p3⟩
  rw [if_neg c]; clear c
  have ld : ∀ {wide : Bool} {s1 : Wk}, loadW C wide x.m s = .ok s1 → ∃ s1', loadW C wide x.m s' = .ok s1' ∧ Si s1' s1 := by
    intro wide s1 e
    unfold loadW at e ⊢
    split at e
    · cases e
    · rename_i hm
      rw [if_neg hm]
      obtain ⟨⟨b, s2⟩, e1, e2⟩ := bnd_yes e
      obtain ⟨b', s2', p1, _, p3, _, _⟩ := h.popTo e1
      obtain ⟨s3', u1, u2⟩ := p3.pushL (self1 (ty0_ot _ _)) e2
      rw [p1]; exact ⟨s3', u1, u2⟩
  have stw : ∀ {wide : Bool} {s1 : Wk}, storeW C wide x.m s = .ok s1 → ∃ s1', storeW C wide x.m s' = .ok s1' ∧ Si s1' s1 := by
    intro wide s1 e
    unfold storeW at e ⊢
    split at e
    · cases e
    · rename_i hm
      rw [if_neg hm]
      obtain ⟨⟨b, s2⟩, e1, e2⟩ := bnd_yes e
      cases e2
      obtain ⟨b', s2', p1, _, p3, _, _⟩ := h.popTo e1
      rw [p1]; exact ⟨_, rfl, p3⟩
  rcases ite_or e with ⟨c, e⟩ | ⟨c, e⟩
  · rw [if_pos c]; exact ld e
  rw [if_neg c]; clear c
  rcases ite_or e with ⟨c, e⟩ | ⟨c, e⟩
  · rw [if_pos c]; exact ld e
  rw [if_neg c]; clear c
  rcases ite_or e with ⟨c, e⟩ | ⟨c, e⟩
  · rw [if_pos c]; exact stw e
  rw [if_neg c]; clear c
  rcases ite_or e with ⟨c, e⟩ | ⟨c, e⟩
  · rw [if_pos c]; exact stw e
  rw [if_neg c]; clear c
  rcases ite_or e with ⟨c, e⟩ | ⟨c, e⟩
  · rw [if_pos c]; exact h.pushL (self1 ⟨by decide, by decide⟩) e
  rw [if_neg c]; clear c
  rcases ite_or e with ⟨c, e⟩ | ⟨c, e⟩
  · rw [if_pos c]; exact h.pushL (self1 ⟨by decide, by decide⟩) e
  rw [if_neg c]; clear c
  rcases ite_or e with ⟨c, e⟩ | ⟨c, e⟩
  · rw [if_pos c]
    obtain ⟨⟨t, s2⟩, e1, e2⟩ := bnd_yes e
    obtain ⟨t', s2', p1, p2, p3, _, _⟩ := h.popW e1
    obtain ⟨s3', u1, u2⟩ := p3.pushL (one2 (tle_relab p2 true)) e2
    rw [p1]; exact ⟨s3', u1, u2⟩
  rw [if_neg c]; clear c
  rcases ite_or e with ⟨c, e⟩ | ⟨c, e⟩
  · rw [if_pos c]
    split at e
    · rename_i ht
      rw [if_pos ht]
      obtain ⟨⟨t, s2⟩, e1, e2⟩ := bnd_yes e
      obtain ⟨t', s2', p1, p2, p3, _, _⟩ := h.popW e1
      obtain ⟨s3', u1, u2⟩ := p3.pushL (one2 (tle_relab p2 false)) e2
      rw [p1]; exact ⟨s3', u1, u2⟩
    · cases e
  rw [if_neg c]; clear c
  obtain ⟨⟨b, s2⟩, e1, e2⟩ := bnd_yes e
  obtain ⟨b', s2', p1, p2, p3⟩ := h.popN (fun x => x) e1
  obtain ⟨s3', u1, u2⟩ := p3.pushL (one2 (tle_ot p2)) e2
  unfold reckW
  rw [p1]; exact ⟨s3', u1, u2⟩
theorem Si.body {C : Cx} (hC : CxOk C) : ∀ {l : List In} {i : Int} {s' s : Wk} {h : List Int} (j : Int), (∀ x ∈ l, rtI x = true) → Si s' s → WF s → bodyW C l i s = .ok h → ∃ h', bodyW C l j s' = .ok h'
  | [], _, _, _, _, _, _, _, _, _ => ⟨[], rfl⟩
  | x :: r, i, s', s, h, j, hr, hs, hw, e => by
    cases hi : insW C x s with
    | error c => rw [bodyW_err hi] at e; cases e
    | ok s1 =>
      rw [bodyW_ok hi] at e
      obtain ⟨s1', p1, p2⟩ := hs.ins hC hw hi
      cases hb : bodyW C r (i + 1) s1 with
      | error c => rw [hb] at e; cases e
      | ok l =>
        obtain ⟨h', q⟩ := Si.body hC (j + 1) (fun y hy => hr y (List.mem_cons_of_mem _ hy)) p2 (ins_ok hC (hr x (by simp)) hw hi).1 hb
        rw [bodyW_ok p1, q]; exact ⟨_, rfl⟩
/-- a body in two parts, with what stands between them -/
theorem body_mid {C : Cx} (hC : CxOk C) : ∀ {l1 l2 : List In} {i : Int} {s : Wk} {h : List Int}, l2 ≠ [] → (∀ x ∈ l1, rtI x = true) → WF s → s.fr ≠ [] → cl s.fr.length (l1 ++ l2) = true → bodyW C (l1 ++ l2) i s = .ok h →
    ∃ s1 h1 h2, WF s1 ∧ s1.fr ≠ [] ∧ h1.length = l1.length ∧ bodyW C l2 (i + l1.length) s1 = .ok h2 ∧ ∀ (l : List In) (j : Int) (h' : List Int), bodyW C l (j + l1.length) s1 = .ok h' → bodyW C (l1 ++ l) j s = .ok (h1 ++ h')
  | [], l2, i, s, h, _, _, hw, hf, _, e => ⟨s, [], h, hw, hf, rfl, by simpa using e, fun l j h' e' => by simpa using e'⟩
  | x :: r, l2, i, s, h, hn, hr, hw, hf, hc, e => by
    rw [List.cons_append] at e hc
    cases hi : insW C x s with
    | error c => rw [bodyW_err hi] at e; cases e
    | ok s' =>
      rw [bodyW_ok hi] at e
      obtain ⟨w1, n1⟩ := ins_ok hC (hr x (by simp)) hw hi
      have hc' : (if nxt (s.fr.length : Int) x.op = 0 then (r ++ l2).isEmpty else cl (nxt (s.fr.length : Int) x.op) (r ++ l2)) = true := hc
      rw [← n1] at hc'
      have hne : s'.fr ≠ [] ∧ cl s'.fr.length (r ++ l2) = true := by
        split at hc'
        · simp [hn] at hc'
        · rename_i h0
          exact ⟨fun e => h0 (by rw [e]; rfl), hc'⟩
      cases hb : bodyW C (r ++ l2) (i + 1) s' with
      | error c => rw [hb] at e; cases e
      | ok l =>
        obtain ⟨s1, h1, h2, e0, e1, e2, e3, e4⟩ := body_mid hC hn (fun y hy => hr y (List.mem_cons_of_mem _ hy)) w1 hne.1 hne.2 hb
        refine ⟨s1, hgt s :: h1, h2, e0, e1, by simp [e2], ?_, fun l j h' e' => ?_⟩
        · rw [List.length_cons]
          have : i + ((r.length + 1 : Nat) : Int) = i + 1 + r.length := by push_cast; omega
          rw [this]; exact e3
        · rw [List.cons_append, bodyW_ok hi]
          have := e4 l (j + 1) h' (by
            have hh : j + (((x :: r).length : Nat) : Int) = j + 1 + r.length := by simp; omega
            rw [hh] at e'; exact e')
          rw [this]; simp [comb]
theorem hgt_dead {s : Wk} (h : s.fr ≠ []) : hgt (dieW s) = -1 := by
  obtain ⟨st, fr⟩ := s
  cases fr with
  | nil => exact absurd rfl h
  | cons f r => simp [hgt, dieW]
theorem dead_body {C : Cx} (hC : CxOk C) {l : List In} {i : Int} {s : Wk} {h : List Int} {k : Nat} (hk : k < l.length) (hr : ∀ x ∈ l, rtI x = true) (hw : WF s) (hf : s.fr ≠ []) (hc : cl s.fr.length l = true) (e : bodyW C l i s = .ok h) :
    ∃ g, bodyW C (insI l k unrI) i s = .ok g ∧ g.length = l.length + 1 ∧ g[k + 1]? = some (-1) := by
  have hd : l.drop k ≠ [] := by intro e; have := congrArg List.length e; simp at this; omega
  have el := List.take_append_drop k l
  rw [← el] at e hc
  obtain ⟨s1, h1, h2, w1, f1, e2, e3, e4⟩ := body_mid hC hd (fun x hx => hr x (List.mem_of_mem_take hx)) hw hf hc e
  have hl1 : (l.take k).length = k := by simp; omega
  rw [hl1] at e2
  have hi : insW C unrI s1 = .ok (dieW s1) := rfl
  obtain ⟨h3, q⟩ := Si.body hC (i + (l.take k).length + 1) (fun x hx => hr x (List.mem_of_mem_drop hx)) (Si.dead w1) w1 e3
  have hl3 := body_len q
  have := e4 (unrI :: l.drop k) i (hgt s1 :: h3) (by rw [bodyW_ok hi, q]; rfl)
  refine ⟨_, this, ?_, ?_⟩
  · simp only [List.length_append, List.length_cons, e2, hl3, List.length_drop]; omega
  · rw [List.getElem?_append_right (by omega), e2, show k + 1 - k = 0 + 1 by omega, List.getElem?_cons_succ]
    cases hdr : l.drop k with
    | nil => exact absurd hdr hd
    | cons y r =>
      rw [hdr] at q
      cases hy : insW C y (dieW s1) with
      | error c => rw [bodyW_err hy] at q; cases q
      | ok s2 =>
        rw [bodyW_ok hy] at q
        cases hb : bodyW C r (i + (l.take k).length + 1 + 1) s2 with
        | error c => rw [hb] at q; cases q
        | ok u =>
          rw [hb] at q
          cases q
          simp [hgt_dead f1]
theorem dead_chk {M : Mo} {h : List (List Int)} (e : chkM M = .ok h) {k p : Nat} {f : Fn} (hf : M.funcs[k]? = some f) (hp : p < f.body.length) (hb : f.body.length < 200) :
    ∃ g, g.length = f.body.length + 1 ∧ g[p + 1]? = some (-1) ∧ k < h.length ∧ chkM (bdM M k (insI f.body p unrI)) = .ok (h.set k g) := by
  obtain ⟨a, s, d, fu⟩ := chk_ok e
  obtain ⟨hl, hg⟩ := funs_get fu
  obtain ⟨g, hg1, hg2⟩ := hg k f hf
  rw [Nat.zero_add] at hg2
  obtain ⟨n1, b1⟩ := funW_body hg2
  have FF := fit_facts a
  have F := FF.fn f (List.mem_of_getElem? hf)
  obtain ⟨i1, i2, i3, i4⟩ := ins_facts hp (x := unrI) (by decide) (by decide) F.2.2.1 F.2.2.2.1 n1
  have hC := FF.cx f (List.mem_of_getElem? hf)
  have hbr : (M.sigs.getD f.sig.toNat sg0).results.length ≤ 1 ∧ ∀ t ∈ (M.sigs.getD f.sig.toNat sg0).results, ty0 t := by
    obtain ⟨z, hz1, hz2⟩ := sig_of s FF (List.mem_of_getElem? hf)
    have : M.sigs.getD f.sig.toNat sg0 = M.sigs[z] := by rw [hz2]; simp [hz1]
    rw [this]
    have := hC.sg M.sigs[z] (List.getElem_mem hz1)
    exact ⟨this.2.1, this.2.2.2⟩
  obtain ⟨u, u1, u2, u3⟩ := dead_body hC hp F.2.2.1 (beg_wf hbr) (by simp [begW]) (by simpa [begW] using F.2.2.2.1) b1
  refine ⟨u, u2, u3, (List.getElem?_eq_some_iff.1 hg1).1, bd_chk e (by omega) i1 i2 fun f' hf' => ?_⟩
  rw [hf] at hf'
  cases hf'
  unfold funW
  rw [if_neg (by rw [show (bdF f (insI f.body p unrI)).body = insI f.body p unrI from rfl, i3]; simp)]
  exact u1
end Go.Proofs.YtamofhkmhjckaaaGreatDoor
