/-
  Plain: what a body that may be holds: indices that there are, memories that there are, heights between -1 and 16. No walk.
-/
import Derived.Test.YtamofhkmhjckaabGreatDoorNopP
import Derived.Test.YtamofhkmhjckaabGreatDoorChkF
namespace Go.Proofs.YtamofhkmhjckaabGreatDoor
open Go.RowKit

theorem get_lt {α : Type} {l : List α} {k : Nat} {r : Except Int α} (h : (match l[k]? with | some t => Except.ok t | none => (Except.error 3 : Except Int α)) = r) {t : α} (e : r = .ok t) : k < l.length := by
  subst e
  cases hx : l[k]? with
  | none => rw [hx] at h; cases h
  | some y => exact (List.getElem?_eq_some_iff.1 hx).1
theorem loc_lt {C : Cx} {n t : Int} (h : locW C n = .ok t) : n.toNat < C.L.length := by
  unfold locW at h
  split at h
  · rename_i hx; exact (List.getElem?_eq_some_iff.1 hx).1
  · cases h
theorem glo_lt {C : Cx} {n t : Int} (h : gloW C n = .ok t) : n.toNat < C.M.globals.length := by
  unfold gloW at h
  split at h
  · rename_i hx; exact (List.getElem?_eq_some_iff.1 hx).1
  · cases h
/-- what an instruction that was let by has -/
structure InOk (C : Cx) (x : In) : Prop where
  loc : x.op = 32 ∨ x.op = 33 ∨ x.op = 34 → x.n.toNat < C.L.length
  glo : x.op = 35 ∨ x.op = 36 → x.n.toNat < C.M.globals.length
  mem : x.op = 40 ∨ x.op = 41 ∨ x.op = 54 ∨ x.op = 55 → memOf C.M x.m ≠ 0
  cal : x.op = 16 → callee C.M x.n ≠ none
theorem ins_in {C : Cx} {x : In} {s s' : Wk} (h : insW C x s = .ok s') : InOk C x := by
  refine ⟨fun e => ?_, fun e => ?_, fun e => ?_, fun e => ?_⟩
  · rcases e with e | e | e
    · have q : insW C x s = bnd (locW C x.n) fun t => pushL [t] s := by simp [insW, e]
      rw [q] at h
      obtain ⟨t, h1, _⟩ := bnd_yes h
      exact loc_lt h1
    · have q : insW C x s = bnd (locW C x.n) fun t => bnd (popTo [t] s) fun p => .ok p.2 := by simp [insW, e]
      rw [q] at h
      obtain ⟨t, h1, _⟩ := bnd_yes h
      exact loc_lt h1
    · have q : insW C x s = bnd (locW C x.n) fun t => bnd (popTo [t] s) fun p => pushL [t] p.2 := by simp [insW, e]
      rw [q] at h
      obtain ⟨t, h1, _⟩ := bnd_yes h
      exact loc_lt h1
  · rcases e with e | e
    · have q : insW C x s = bnd (gloW C x.n) fun t => pushL [t] s := by simp [insW, e]
      rw [q] at h
      obtain ⟨t, h1, _⟩ := bnd_yes h
      exact glo_lt h1
    · have q : insW C x s = bnd (gloW C x.n) fun t => bnd (popTo [t] s) fun p => .ok p.2 := by simp [insW, e]
      rw [q] at h
      obtain ⟨t, h1, _⟩ := bnd_yes h
      exact glo_lt h1
  · intro e0
    have ld : ∀ wide, loadW C wide x.m s = .error 3 := fun wide => by unfold loadW; rw [if_pos e0]
    have st : ∀ wide, storeW C wide x.m s = .error 3 := fun wide => by unfold storeW; rw [if_pos e0]
    rcases e with e | e | e | e
    · have q : insW C x s = loadW C false x.m s := by simp [insW, e]
      rw [q, ld] at h; cases h
    · have q : insW C x s = loadW C true x.m s := by simp [insW, e]
      rw [q, ld] at h; cases h
    · have q : insW C x s = storeW C false x.m s := by simp [insW, e]
      rw [q, st] at h; cases h
    · have q : insW C x s = storeW C true x.m s := by simp [insW, e]
      rw [q, st] at h; cases h
  · intro hn
    have q : insW C x s = callW C x.n s := by simp [insW, e]
    rw [q] at h
    unfold callW at h
    rw [hn] at h; cases h
theorem hgt_lim {s : Wk} (h : WF s) : -1 ≤ hgt s ∧ hgt s ≤ 16 := by
  have := h.small
  unfold hgt; split <;> omega
theorem body_hts {C : Cx} (hC : CxOk C) : ∀ {l : List In} {i : Int} {s : Wk} {h : List Int}, (∀ x ∈ l, rtI x = true) → WF s → bodyW C l i s = .ok h → ∀ t ∈ h, -1 ≤ t ∧ t ≤ 16
  | [], _, _, _, _, _, e => by cases e; simp
  | x :: r, i, s, h, hr, hw, e => by
    cases hi : insW C x s with
    | error c => rw [bodyW_err hi] at e; cases e
    | ok s1 =>
      rw [bodyW_ok hi] at e
      cases hb : bodyW C r (i + 1) s1 with
      | error c => rw [hb] at e; cases e
      | ok l =>
        rw [hb] at e
        cases e
        intro t ht
        rcases List.mem_cons.1 ht with rfl | ht
        · exact hgt_lim hw
        · exact body_hts hC (fun y hy => hr y (List.mem_cons_of_mem _ hy)) (ins_ok hC (hr x (by simp)) hw hi).1 hb t ht
/-- what a valid module's function has -/
structure FnOk (M : Mo) (f : Fn) (g : List Int) : Prop where
  sig : ∃ z : Nat, f.sig = z ∧ z < M.sigs.length
  len : g.length = f.body.length
  ins : ∀ x ∈ f.body, InOk (cxOf M f) x
  hts : ∀ t ∈ g, -1 ≤ t ∧ t ≤ 16
theorem shape_chk {M : Mo} {h : List (List Int)} (e : chkM M = .ok h) : h.length = M.funcs.length ∧ ∀ (j : Nat) (f : Fn), M.funcs[j]? = some f → ∃ g, h[j]? = some g ∧ FnOk M f g := by
  obtain ⟨a, s, d, fu⟩ := chk_ok e
  obtain ⟨hl, hg⟩ := funs_get fu
  have F := fit_facts a
  refine ⟨hl, fun j f hf => ?_⟩
  obtain ⟨g, hg1, hg2⟩ := hg j f hf
  have hm := List.mem_of_getElem? hf
  obtain ⟨n1, b1⟩ := funW_body hg2
  obtain ⟨z, hz1, hz2⟩ := sig_of s F hm
  have hC := F.cx f hm
  have hbr : (M.sigs.getD f.sig.toNat sg0).results.length ≤ 1 ∧ ∀ t ∈ (M.sigs.getD f.sig.toNat sg0).results, ty0 t := by
    have : M.sigs.getD f.sig.toNat sg0 = M.sigs[z] := by rw [hz2]; simp [hz1]
    rw [this]
    have := hC.sg M.sigs[z] (List.getElem_mem hz1)
    exact ⟨this.2.1, this.2.2.2⟩
  refine ⟨g, hg1, ⟨z, hz2, hz1⟩, body_len b1, fun x hx => ?_, body_hts hC (F.fn f hm).2.2.1 (beg_wf hbr) b1⟩
  obtain ⟨s1, s2, hi⟩ := bodyW_each b1 x hx
  exact ins_in hi
end Go.Proofs.YtamofhkmhjckaabGreatDoor
