/-
  Plain: a module with one instruction laid into a body. No walk.
-/
import Derived.Test.YtamofhkmhjckaabGreatDoorNAround
import Derived.Test.YtamofhkmhjckaabGreatDoorTrustP
namespace Go.Proofs.YtamofhkmhjckaabGreatDoor
open Go.RowKit

/-- another body of the same function -/
def bdF (f : Fn) (b : List In) : Fn := { f with body := b }
def bdM (M : Mo) (k : Nat) (b : List In) : Mo := { M with funcs := M.funcs.modify k (fun f => bdF f b) }
theorem bd_get (M : Mo) (k : Nat) (b : List In) (j : Nat) : (bdM M k b).funcs[j]? = (M.funcs[j]?).map (fun f => if k = j then bdF f b else f) := by
  show (M.funcs.modify k (fun f => bdF f b))[j]? = _
  rw [List.getElem?_modify]
  by_cases h : k = j
  · simp [h]
  · simp [h]
theorem bd_len (M : Mo) (k : Nat) (b : List In) : (bdM M k b).funcs.length = M.funcs.length := by
  show (M.funcs.modify k (fun f => bdF f b)).length = _
  simp
theorem bd_callee (M : Mo) (k : Nat) (b : List In) (n : Int) : callee (bdM M k b) n = callee M n := by
  unfold callee
  rw [bd_len]
  show (if n < 0 ∨ (M.imports.length + M.funcs.length : Int) ≤ n then none else if n < M.imports.length then _ else _) = _
  split
  · rfl
  · split
    · rfl
    · rw [show (bdM M k b).imports = M.imports from rfl, show (bdM M k b).sigs = M.sigs from rfl, bd_get]
      cases M.funcs[n.toNat - M.imports.length]? with
      | none => rfl
      | some f =>
        simp only [Option.map_some, Option.bind_some]
        by_cases h : k = n.toNat - M.imports.length <;> simp [h, bdF]
def bdC (C : Cx) (k : Nat) (b : List In) : Cx := ⟨bdM C.M k b, C.tr, C.L⟩
theorem bd_ins (C : Cx) (k : Nat) (b : List In) (x : In) (s : Wk) : insW (bdC C k b) x s = insW C x s := by
  by_cases h16 : x.op = 16
  · have e : ∀ D, insW D x s = callW D x.n s := fun D => by simp [insW, h16]
    rw [e, e]
    unfold callW
    show (match callee (bdM C.M k b) x.n with | none => _ | some (g, _, t) => _) = _
    rw [bd_callee]; rfl
  · unfold insW
    simp only [h16, if_false]
    rfl
theorem bd_body (C : Cx) (k : Nat) (b : List In) : ∀ (l : List In) (i : Int) (s : Wk), bodyW (bdC C k b) l i s = bodyW C l i s
  | [], _, _ => rfl
  | x :: r, i, s => by
    cases hi : insW C x s with
    | error c => rw [bodyW_err hi, bodyW_err (by rw [bd_ins]; exact hi)]
    | ok s' => rw [bodyW_ok hi, bodyW_ok (by rw [bd_ins]; exact hi), bd_body C k b r]
theorem bd_cx (M : Mo) (k : Nat) (b : List In) (f : Fn) : cxOf (bdM M k b) f = bdC (cxOf M f) k b := rfl
theorem bd_fun (M : Mo) (k : Nat) (b : List In) (j : Nat) (f : Fn) : funW (bdM M k b) j f = funW M j f := by
  unfold funW
  rw [bd_cx, bd_body]; rfl
/-- an error's place plays no part where there is none -/
theorem body_at {C : Cx} : ∀ {l : List In} {i : Int} {s : Wk} {h : List Int} (j : Int), bodyW C l i s = .ok h → bodyW C l j s = .ok h
  | [], _, _, _, _, h => h
  | x :: r, i, s, hh, j, h => by
    cases hi : insW C x s with
    | error c => rw [bodyW_err hi] at h; cases h
    | ok s' =>
      rw [bodyW_ok hi] at h ⊢
      cases hr : bodyW C r (i + 1) s' with
      | error c => rw [hr] at h; cases h
      | ok l => rw [hr] at h; rw [body_at (j + 1) hr]; exact h
theorem body_len {C : Cx} : ∀ {l : List In} {i : Int} {s : Wk} {h : List Int}, bodyW C l i s = .ok h → h.length = l.length
  | [], _, _, _, h => by cases h; rfl
  | x :: r, i, s, hh, h => by
    cases hi : insW C x s with
    | error c => rw [bodyW_err hi] at h; cases h
    | ok s' =>
      rw [bodyW_ok hi] at h
      cases hr : bodyW C r (i + 1) s' with
      | error c => rw [hr] at h; cases h
      | ok l => rw [hr] at h; cases h; simp [body_len hr]
/-- a body in two parts -/
theorem body_two {C : Cx} : ∀ {l1 l2 : List In} {i : Int} {s : Wk} {h : List Int}, bodyW C (l1 ++ l2) i s = .ok h →
    ∃ s1 h1 h2, h = h1 ++ h2 ∧ h1.length = l1.length ∧ bodyW C l2 (i + l1.length) s1 = .ok h2 ∧ ∀ (l : List In) (j : Int) (h' : List Int), bodyW C l (j + l1.length) s1 = .ok h' → bodyW C (l1 ++ l) j s = .ok (h1 ++ h')
  | [], l2, i, s, h, e => ⟨s, [], h, rfl, rfl, by simpa using e, fun l j h' e' => by simpa using e'⟩
  | x :: r, l2, i, s, h, e => by
    rw [List.cons_append] at e
    cases hi : insW C x s with
    | error c => rw [bodyW_err hi] at e; cases e
    | ok s' =>
      rw [bodyW_ok hi] at e
      cases hr : bodyW C (r ++ l2) (i + 1) s' with
      | error c => rw [hr] at e; cases e
      | ok l =>
        rw [hr] at e
        cases e
        obtain ⟨s1, h1, h2, e1, e2, e3, e4⟩ := body_two hr
        refine ⟨s1, hgt s :: h1, h2, by simp [e1], by simp [e2], ?_, fun l j h' e' => ?_⟩
        · rw [List.length_cons]
          have : i + ((r.length + 1 : Nat) : Int) = i + 1 + r.length := by push_cast; omega
          rw [this]; exact e3
        · rw [List.cons_append, bodyW_ok hi]
          have := e4 l (j + 1) h' (by
            have hh : j + (((x :: r).length : Nat) : Int) = j + 1 + r.length := by simp; omega
            rw [hh] at e'; exact e')
          rw [this]; simp [comb]
def insI (l : List In) (k : Nat) (x : In) : List In := l.take k ++ x :: l.drop k
theorem cl_ins {x : In} (hx : ∀ o, nxt o x.op = o) : ∀ {l1 l2 : List In} {o : Int}, l2 ≠ [] → o ≠ 0 → cl o (l1 ++ l2) = true → cl o (l1 ++ x :: l2) = true
  | [], l2, o, _, ho, h => by
    show (if nxt o x.op = 0 then l2.isEmpty else cl (nxt o x.op) l2) = true
    rw [hx, if_neg ho]; exact h
  | y :: r, l2, o, hn, ho, h => by
    have h' : (if nxt o y.op = 0 then (r ++ l2).isEmpty else cl (nxt o y.op) (r ++ l2)) = true := h
    show (if nxt o y.op = 0 then (r ++ x :: l2).isEmpty else cl (nxt o y.op) (r ++ x :: l2)) = true
    split at h'
    · simp [hn] at h'
    · rename_i h0
      rw [if_neg h0]
      exact cl_ins hx hn h0 h'
/-- all that Fits and the body ask of a module with one instruction more -/
theorem bd_fit {M : Mo} {k : Nat} {b : List In} (hf : fitE M = 0) (hb : b.length ≤ 200) (hr : ∀ x ∈ b, rtI x = true) (hc : cl 1 b = true) : fitE (bdM M k b) = 0 := by
  obtain ⟨h1, h2⟩ := fit_both hf
  have e1 : small (bdM M k b) = true := by
    simp only [small, Bool.and_eq_true, List.all_eq_true] at h1 ⊢
    rw [bd_len]
    refine ⟨h1.1, h1.2.1, h1.2.2.1, h1.2.2.2.1, h1.2.2.2.2.1, h1.2.2.2.2.2.1, fun f hf => ?_, h1.2.2.2.2.2.2.2⟩
    obtain ⟨j, hj⟩ := List.mem_iff_getElem?.1 hf
    rw [bd_get] at hj
    cases hm : M.funcs[j]? with
    | none => rw [hm] at hj; cases hj
    | some g =>
      rw [hm] at hj
      have hg := h1.2.2.2.2.2.2.1 g (List.mem_of_getElem? hm)
      simp only [Option.map_some, Option.some.injEq] at hj
      rw [← hj]
      split
      · rw [show smFn (bdF g b) = (decide (g.locals.length ≤ 8) && decide (b.length ≤ 200)) from rfl]
        simp only [smFn, Bool.and_eq_true, decide_eq_true_eq] at hg
        simp [hg.1, hb]
      · exact hg
  have e2 : whole (bdM M k b) = true := by
    simp only [whole, Bool.and_eq_true, List.all_eq_true] at h2 ⊢
    refine ⟨h2.1, h2.2.1, fun f hf => ?_, h2.2.2.2⟩
    obtain ⟨j, hj⟩ := List.mem_iff_getElem?.1 hf
    rw [bd_get] at hj
    cases hm : M.funcs[j]? with
    | none => rw [hm] at hj; cases hj
    | some g =>
      rw [hm] at hj
      have hg := h2.2.2.1 g (List.mem_of_getElem? hm)
      simp only [Option.map_some, Option.some.injEq] at hj
      rw [← hj]
      split
      · rw [show whFn (bdF g b) = (idx g.sig && (g.locals.all ri && (b.all rtI && cl 1 b))) from rfl]
        simp only [whFn, Bool.and_eq_true] at hg
        rw [hg.1, hg.2.1, hc, List.all_eq_true.2 hr]; rfl
      · exact hg
  unfold fitE
  rw [e1, e2]; rfl
theorem bd_sigs {M : Mo} {k : Nat} {b : List In} (h : sigsOk M = true) : sigsOk (bdM M k b) = true := by
  simp only [sigsOk, Bool.and_eq_true, List.all_eq_true] at h ⊢
  refine ⟨h.1, fun f hf => ?_⟩
  obtain ⟨j, hj⟩ := List.mem_iff_getElem?.1 hf
  rw [bd_get] at hj
  cases hm : M.funcs[j]? with
  | none => rw [hm] at hj; cases hj
  | some g =>
    rw [hm] at hj
    have hg := h.2 g (List.mem_of_getElem? hm)
    simp only [Option.map_some, Option.some.injEq] at hj
    rw [← hj]
    split
    · exact hg
    · exact hg
/-- the heights of each function -/
theorem funs_get {M : Mo} : ∀ {l : List Fn} {k : Nat} {h : List (List Int)}, funsW M k l = .ok h → h.length = l.length ∧ ∀ j (f : Fn), l[j]? = some f → ∃ g, h[j]? = some g ∧ funW M (k + j) f = .ok g
  | [], _, _, h => by cases h; exact ⟨rfl, fun j f e => by simp at e⟩
  | f :: r, k, hh, h => by
    cases hi : funW M k f with
    | error c => rw [funsW_err hi] at h; cases h
    | ok s' =>
      rw [funsW_ok hi] at h
      cases hr : funsW M (k + 1) r with
      | error c => rw [hr] at h; cases h
      | ok l =>
        rw [hr] at h
        cases h
        obtain ⟨a, b⟩ := funs_get hr
        refine ⟨by simp [a], fun j g e => ?_⟩
        cases j with
        | zero => simp at e; subst e; exact ⟨s', by simp, hi⟩
        | succ j =>
          simp at e
          obtain ⟨u, hu, hv⟩ := b j g e
          refine ⟨u, by simpa using hu, ?_⟩
          rw [show k + (j + 1) = k + 1 + j by omega]; exact hv
theorem funs_of {M : Mo} : ∀ {l : List Fn} {k : Nat} {h : List (List Int)}, h.length = l.length → (∀ j (f : Fn) g, l[j]? = some f → h[j]? = some g → funW M (k + j) f = .ok g) → funsW M k l = .ok h
  | [], _, h, e, _ => by rw [List.length_eq_zero_iff.1 e]; rfl
  | f :: r, k, [], e, _ => by simp at e
  | f :: r, k, g :: h, e, hh => by
    have h0 := hh 0 f g (by simp) (by simp)
    rw [Nat.add_zero] at h0
    rw [funsW_ok h0, funs_of (k := k + 1) (h := h) (by simpa using e) (fun j f' g' e1 e2 => by
      have := hh (j + 1) f' g' (by simpa using e1) (by simpa using e2)
      rw [show k + 1 + j = k + (j + 1) by omega]; exact this)]
    rfl
theorem bd_funs {M : Mo} {k : Nat} {b : List In} {h : List (List Int)} {g : List Int} (e : funsW M 0 M.funcs = .ok h) (hb : ∀ f, M.funcs[k]? = some f → funW M k (bdF f b) = .ok g) : funsW (bdM M k b) 0 (bdM M k b).funcs = .ok (h.set k g) := by
  obtain ⟨hl, hg⟩ := funs_get e
  refine funs_of (by rw [List.length_set, bd_len, hl]) fun j f u e1 e2 => ?_
  rw [bd_get] at e1
  cases hm : M.funcs[j]? with
  | none => rw [hm] at e1; cases e1
  | some f0 =>
    rw [hm] at e1
    simp only [Option.map_some, Option.some.injEq] at e1
    rw [bd_fun, Nat.zero_add]
    by_cases hk : k = j
    · subst hk
      have hlt : k < h.length := by rw [hl]; exact (List.getElem?_eq_some_iff.1 hm).1
      rw [List.getElem?_set_self hlt] at e2
      cases e2
      rw [← e1, if_pos rfl]
      exact hb f0 hm
    · rw [List.getElem?_set_ne hk] at e2
      obtain ⟨v, hv, hw⟩ := hg j f0 hm
      rw [hv] at e2
      cases e2
      rw [← e1, if_neg hk]
      rw [Nat.zero_add] at hw
      exact hw
theorem bd_chk {M : Mo} {k : Nat} {b : List In} {h : List (List Int)} {g : List Int} (e : chkM M = .ok h) (hb : b.length ≤ 200) (hr : ∀ x ∈ b, rtI x = true) (hc : cl 1 b = true)
    (hf : ∀ f, M.funcs[k]? = some f → funW M k (bdF f b) = .ok g) : chkM (bdM M k b) = .ok (h.set k g) := by
  obtain ⟨a, s, d, f⟩ := chk_ok e
  rw [chk_funs (bd_fit a hb hr hc) (bd_sigs s) d]
  exact bd_funs f hf
/-- an instruction that opens and closes nothing, laid into a body that may be -/
theorem ins_facts {l : List In} {k : Nat} {x : In} (hk : k < l.length) (hp : Nest.prt x.op = false) (hx : rtI x = true) (hr : ∀ y ∈ l, rtI y = true) (hc : cl 1 l = true) (hn : Nest.er (opsF l) l.length = 0) :
    (∀ y ∈ insI l k x, rtI y = true) ∧ cl 1 (insI l k x) = true ∧ Nest.er (opsF (insI l k x)) (insI l k x).length = 0 ∧ (insI l k x).length = l.length + 1 := by
  have hd : l.drop k ≠ [] := by intro e; have := congrArg List.length e; simp at this; omega
  have e : l.take k ++ l.drop k = l := List.take_append_drop k l
  have hnx : ∀ o, nxt o x.op = o := by
    intro o
    simp only [Nest.prt, Bool.or_eq_false_iff, beq_eq_false_iff_ne] at hp
    obtain ⟨⟨⟨⟨h2, h3⟩, h4⟩, h5⟩, h11⟩ := hp
    simp [nxt, h2, h3, h4, h11]
  refine ⟨fun y hy => ?_, ?_, ?_, ?_⟩
  · unfold insI at hy
    rcases List.mem_append.1 hy with h | h
    · exact hr y (List.mem_of_mem_take h)
    · rcases List.mem_cons.1 h with rfl | h
      · exact hx
      · exact hr y (List.mem_of_mem_drop h)
  · exact cl_ins hnx hd (by decide) (by rw [e]; exact hc)
  · rw [Nest.er_list] at hn ⊢
    rw [← e, List.map_append] at hn
    unfold insI
    rw [List.map_append, List.map_cons, Nest.ins_nest hp (by simpa using hd) hn]
    exact hn
  · unfold insI; simp; omega
def nopI : In := ⟨1, 0, 0⟩
def unrI : In := ⟨0, 0, 0⟩
theorem nop_body {C : Cx} {l : List In} {i : Int} {s : Wk} {h : List Int} {k : Nat} (hk : k < l.length) (e : bodyW C l i s = .ok h) : bodyW C (insI l k nopI) i s = .ok (h.take k ++ h.getD k 0 :: h.drop k) := by
  rw [← List.take_append_drop k l] at e
  obtain ⟨s1, h1, h2, e1, e2, e3, e4⟩ := body_two e
  have hl1 : (l.take k).length = k := by simp; omega
  rw [hl1] at e2
  have hi : insW C nopI s1 = .ok s1 := rfl
  have h2l := body_len e3
  have := e4 (nopI :: l.drop k) i (hgt s1 :: h2) (by
    rw [bodyW_ok hi, body_at _ e3]; rfl)
  unfold insI
  rw [this]
  subst e1
  have t1 : (h1 ++ h2).take k = h1 := by rw [← e2]; simp
  have t2 : (h1 ++ h2).drop k = h2 := by rw [← e2]; simp
  rw [t1, t2]
  congr 3
  cases hd : l.drop k with
  | nil => have := congrArg List.length hd; simp at this; omega
  | cons y r =>
    rw [hd] at e3
    cases hy : insW C y s1 with
    | error c => rw [bodyW_err hy] at e3; cases e3
    | ok s' =>
      rw [bodyW_ok hy] at e3
      cases hr : bodyW C r (i + (l.take k).length + 1) s' with
      | error c => rw [hr] at e3; cases e3
      | ok u =>
        rw [hr] at e3
        cases e3
        rw [List.getD_eq_getElem?_getD, List.getElem?_append_right (by omega), e2, Nat.sub_self]
        rfl
theorem nop_chk {M : Mo} {h : List (List Int)} (e : chkM M = .ok h) {k p : Nat} {f : Fn} (hf : M.funcs[k]? = some f) (hp : p < f.body.length) (hb : f.body.length < 200) :
    ∃ g, h[k]? = some g ∧ g.length = f.body.length ∧ chkM (bdM M k (insI f.body p nopI)) = .ok (h.set k (g.take p ++ g.getD p 0 :: g.drop p)) := by
  obtain ⟨a, s, d, fu⟩ := chk_ok e
  obtain ⟨hl, hg⟩ := funs_get fu
  obtain ⟨g, hg1, hg2⟩ := hg k f hf
  rw [Nat.zero_add] at hg2
  obtain ⟨n1, b1⟩ := funW_body hg2
  have F := (fit_facts a).fn f (List.mem_of_getElem? hf)
  obtain ⟨i1, i2, i3, i4⟩ := ins_facts hp (x := nopI) (by decide) (by decide) F.2.2.1 F.2.2.2.1 n1
  refine ⟨g, hg1, body_len b1, bd_chk e (by omega) i1 i2 fun f' hf' => ?_⟩
  rw [hf] at hf'
  cases hf'
  have hu := nop_body hp b1
  unfold funW
  rw [if_neg (by rw [show (bdF f (insI f.body p nopI)).body = insI f.body p nopI from rfl, i3]; simp)]
  exact hu
end Go.Proofs.YtamofhkmhjckaabGreatDoor
