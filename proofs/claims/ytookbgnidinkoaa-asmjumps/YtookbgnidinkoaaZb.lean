/-
  Plain: what was assembled is instructions, in their order, at their places.
-/
import Derived.Test.YtookbgnidinkoaaZa
import Derived.Test.YtookbgnidinkoaaS
namespace Go.Proofs.Ytookbgnidinkoaa
open Go.RowKit
open Xc
set_option linter.unusedSimpArgs false
set_option linter.unusedVariables false
/-- A jump has as many bytes wherever it goes. -/
theorem enc_jump {x : Xi} (h : jmp x.op = true) (n : Int) : (enc { x with n := n }).length = (enc x).length := by
  obtain ⟨op, wd, r, b, i, c, m⟩ := x
  simp only [jmp, Bool.or_eq_true, beq_iff_eq] at h
  rcases h with rfl | rfl | rfl <;> simp [enc, rx, cod, mrs, nmb, mid, inx, fR2, fRR, fB, fP, h32, bys_len]
theorem jx_len {l : List It} {k : Nat} (hk : k < l.length) (hs : sOk l[k] = true) (h0 : l[k].lb = 0) : (enc (jx l k l[k])).length = sN l[k] := by
  have e : sN l[k] = (enc l[k].x).length := by unfold sN; rw [if_pos h0, if_pos hs]
  rw [e]
  unfold jx
  split
  · rfl
  · rename_i h1
    have hj : jmp l[k].x.op = true := by
      unfold sOk at hs
      rw [if_pos h0, if_neg h1] at hs
      unfold mG at hs
      simp only [Bool.and_eq_true] at hs
      exact hs.1.1
    exact enc_jump hj _
theorem sN_lb {t : It} (h : t.lb ≠ 0) : sN t = 0 := by unfold sN; rw [if_neg h]
/-- The bytes of the first items end where the next one stands. -/
theorem oL_pt {l : List It} (hp : pOk l = true) : ∀ k, k ≤ l.length → (encs (oL l k)).length = pt l k
  | 0, _ => by rw [pt_0]; rfl
  | k + 1, hk => by
    have h : k < l.length := hk
    rw [oL_succ h, encs_app, List.length_append, oL_pt hp k (by omega), pt_succ h]
    congr 1
    unfold one
    split
    · rename_i h0
      rw [encs_cons, encs_nil, List.append_nil]
      exact jx_len h (pOk_at hp h) h0
    · rename_i h0
      rw [sN_lb h0]; rfl
theorem oL_pre {l : List It} {k n : Nat} (h : k ≤ n) : ∃ r, oL l n = oL l k ++ r := by
  have := oL_app (l := l) (n - k) k
  rwa [Nat.add_sub_cancel' h] at this
/-- Where the k-th item's instruction begins. -/
theorem offs_at {l : List It} (hp : pOk l = true) {k : Nat} (hk : k ≤ l.length) (j : Nat) (hj : j = (oL l k).length) (h : j < (offs (oL l l.length)).length) : (offs (oL l l.length))[j] = (pt l k : Int) := by
  subst hj
  rw [offs_get]
  obtain ⟨r, e⟩ := oL_pre (l := l) hk
  rw [e, List.take_left, oL_pt hp k hk]
theorem oL_lt {l : List It} {k : Nat} (hk : k < l.length) (h0 : l[k].lb = 0) : (oL l k).length < (oL l l.length).length := by
  obtain ⟨r, e⟩ := oL_pre (l := l) (k := k + 1) (n := l.length) hk
  rw [e, oL_succ hk]
  unfold one
  rw [if_pos h0]
  simp
theorem oL_len1 {l : List It} {k : Nat} (hk : k < l.length) (h0 : l[k].lb = 0) : (oL l (k + 1)).length = (oL l k).length + 1 := by
  rw [oL_succ hk]
  unfold one
  rw [if_pos h0]
  simp
theorem oL_len0 {l : List It} {k : Nat} (hk : k < l.length) (h0 : l[k].lb ≠ 0) : (oL l (k + 1)).length = (oL l k).length := by
  rw [oL_succ hk]
  unfold one
  rw [if_neg h0]
  simp
/-- The bytes behind the k-th item's place begin with its instruction. -/
theorem oL_drop {l : List It} (hp : pOk l = true) {k : Nat} (hk : k < l.length) (h0 : l[k].lb = 0) : enc (jx l k l[k]) <+: (encs (oL l l.length)).drop (pt l k) := by
  obtain ⟨r, e⟩ := oL_pre (l := l) (k := k + 1) (n := l.length) hk
  have e1 : oL l (k + 1) = oL l k ++ [jx l k l[k]] := by
    rw [oL_succ hk]; unfold one; rw [if_pos h0]
  rw [e, e1, List.append_assoc, encs_app, ← oL_pt hp k (by omega), List.drop_left, encs_app, encs_cons, encs_nil, List.append_nil]
  exact List.prefix_append _ _
/-- What was assembled. -/
structure Ass (l : List It) : Prop where
  pk : pOk l = true
  uq : Uq l
  lost : ¬ Lost l
  ok : aOk (oL l l.length) = true
  s : asS l = encs (oL l l.length)
theorem as_yes {l : List It} (h : asE l = 0) : Ass l := by
  obtain ⟨o, hr, ha, hs⟩ := as_ok h
  unfold asR at hr
  split at hr
  · rename_i hc
    obtain rfl := Option.some.inj hr
    exact ⟨hc.1, hc.2.1, hc.2.2, ha, hs⟩
  · cases hr
theorem as_e (l : List It) : asE l = 0 ∨ (asE l = 4 ∧ asS l = []) := by
  unfold asE asS
  cases asR l with
  | none => exact Or.inr ⟨rfl, rfl⟩
  | some o =>
    simp only [aE, aS]
    cases aOk o
    · exact Or.inr ⟨rfl, rfl⟩
    · exact Or.inl rfl
theorem Ass.rt {l : List It} (h : Ass l) {k : Nat} (hk : k < l.length) (h0 : l[k].lb = 0) : rt (jx l k l[k]) = true := by
  obtain ⟨r, e⟩ := oL_pre (l := l) (k := k + 1) (n := l.length) hk
  have e1 : oL l (k + 1) = oL l k ++ [jx l k l[k]] := by
    rw [oL_succ hk]; unfold one; rw [if_pos h0]
  have ha := h.ok
  rw [e, e1] at ha
  unfold aOk at ha
  rw [List.all_eq_true] at ha
  exact ha _ (by simp)
theorem Ass.dc {l : List It} (h : Ass l) (hl : l.length ≤ 1000) {k : Nat} (hk : k < l.length) (h0 : l[k].lb = 0) (ho : l[k].ok) : dcX ((asS l).drop (pt l k)) = some (jx l k l[k]) := by
  rw [h.s]
  exact dc_is (h.rt hk h0) (jx_ok hl hk ho).2.2.2.2.2 (oL_drop h.pk hk h0)
theorem Ass.gd {l : List It} (h : Ass l) (hl : l.length ≤ 1000) (ho : ∀ j (hj : j < l.length), l[j].ok) : Gd (oL l l.length) := fun x hx => by
  have ha := h.ok
  unfold aOk at ha
  rw [List.all_eq_true] at ha
  obtain ⟨i, hi, rfl⟩ := List.getElem_of_mem hx
  exact ⟨ha _ hx, (oL_ok hl ho l.length (Nat.le_refl _) i hi).2.2.2.2.2⟩
/-- A jump: its label is there. -/
theorem Ass.there {l : List It} (h : Ass l) {k : Nat} (hk : k < l.length) (h0 : l[k].lb = 0) (h1 : l[k].tg ≠ 0) : ∃ j, ∃ hj : j < l.length, l[j].lb = l[k].tg ∧ jx l k l[k] = ⟨l[k].x.op, l[k].x.wide, l[k].x.r, l[k].x.b, l[k].x.i, l[k].x.c, (pt l j : Int) - (pt l (k + 1) : Int)⟩ ∧ l[k].x.n = 0 ∧ 0 < l[k].tg := by
  cases hf : fd l l[k].tg with
  | none => exact absurd ⟨k, hk, h0, h1, hf⟩ h.lost
  | some j =>
    obtain ⟨hj, e⟩ := fd_lt hf
    have hs := pOk_at h.pk hk
    unfold sOk at hs
    rw [if_pos h0, if_neg h1] at hs
    unfold mG at hs
    simp only [Bool.and_eq_true, decide_eq_true_eq, beq_iff_eq] at hs
    refine ⟨j, hj, e, ?_, hs.1.2.2, hs.1.2.1⟩
    unfold jx
    rw [if_neg h1, hf]
    rfl
theorem Ass.plain {l : List It} {k : Nat} (hk : k < l.length) (h1 : l[k].tg = 0) : jx l k l[k] = l[k].x := by unfold jx; rw [if_pos h1]
end Go.Proofs.Ytookbgnidinkoaa
