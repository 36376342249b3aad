/-
  Plain: what the document's find tells of labels; what is assembled, item by item.
-/
import Derived.Test.YtookbgnidinkoaaRf
import Derived.Test.YtookbgnidinkoaaY
namespace Go.Proofs.Ytookbgnidinkoaa
open Go.RowKit
open Xc
set_option linter.unusedSimpArgs false
set_option linter.unusedVariables false
theorem ff_spec (l : List It) (y : Int) : ∀ n, n ≤ l.length → (ff l y n = none ∧ ∃ i j, ∃ (hi : i < l.length) (hj : j < l.length), i < j ∧ l[i].lb = y ∧ l[j].lb = y) ∨ (ff l y n = some (-1) ∧ ∀ j (hj : j < l.length), j < n → l[j].lb ≠ y) ∨ (∃ p, ∃ hp : p < l.length, p < n ∧ ff l y n = some (p : Int) ∧ l[p].lb = y ∧ ∀ i (hi : i < l.length), i < n → l[i].lb = y → i = p)
  | 0, _ => Or.inr (Or.inl ⟨rfl, fun j _ h => absurd h (by omega)⟩)
  | n + 1, hn => by
    have hk : n < l.length := hn
    rcases ff_spec l y n (by omega) with ⟨h, d⟩ | ⟨h, d⟩ | ⟨p, hp, hpn, h, hy, d⟩
    · exact Or.inl ⟨ff_none h _ (by omega), d⟩
    · by_cases e : l[n].lb = y
      · refine Or.inr (Or.inr ⟨n, hk, by omega, ff_new h hk e (by omega), e, fun i hi hin he => ?_⟩)
        rcases Nat.lt_or_ge i n with h' | h'
        · exact absurd he (d i hi h')
        · omega
      · refine Or.inr (Or.inl ⟨ff_other h hk e, fun j hj hjn => ?_⟩)
        rcases Nat.lt_or_ge j n with h' | h'
        · exact d j hj h'
        · have : j = n := by omega
          subst this; exact e
    · by_cases e : l[n].lb = y
      · exact Or.inl ⟨ff_two h hk e (by omega), p, n, hp, hk, hpn, hy, e⟩
      · refine Or.inr (Or.inr ⟨p, hp, by omega, ff_other h hk e, hy, fun i hi hin he => ?_⟩)
        rcases Nat.lt_or_ge i n with h' | h'
        · exact d i hi h' he
        · have : i = n := by omega
          subst this; exact absurd he e
/-- What the document's find answers. -/
def fr (l : List It) (y : Int) : Int := (ff l y l.length).getD (-1)
theorem fd_first {l : List It} {y : Int} {p : Nat} (hp : p < l.length) (hy : l[p].lb = y) (hu : ∀ i (hi : i < l.length), l[i].lb = y → i = p) : fd l y = some p := by
  cases hf : fd l y with
  | none => exact absurd hy (fd_none hf p hp)
  | some j =>
    obtain ⟨hj, e⟩ := fd_lt hf
    rw [hu j hj e]
theorem fr_spec (l : List It) (y : Int) (h0 : y ≠ 0) : (fr l y = -1 ∧ fd l y ≠ none ∧ ¬ Uq l) ∨ (fr l y = -1 ∧ fd l y = none) ∨ (∃ p, ∃ hp : p < l.length, fr l y = (p : Int) ∧ fd l y = some p ∧ l[p].lb = y ∧ ∀ i (hi : i < l.length), l[i].lb = y → i = p) := by
  rcases ff_spec l y l.length (Nat.le_refl _) with ⟨h, i, j, hi, hj, hij, ei, ej⟩ | ⟨h, d⟩ | ⟨p, hp, hpn, h, hy, d⟩
  · refine Or.inl ⟨by simp [fr, h], fun hn => fd_none hn i hi ei, fun hU => ?_⟩
    have := hU j hj (by rw [ej]; exact h0)
    rw [ej] at this
    have hi' : i < (l.take j).length := by simp; omega
    exact fd_none this i hi' (by rw [List.getElem_take]; exact ei)
  · refine Or.inr (Or.inl ⟨by simp [fr, h], ?_⟩)
    cases hf : fd l y with
    | none => rfl
    | some j =>
      obtain ⟨hj, e⟩ := fd_lt hf
      exact absurd e (d j hj hj)
  · exact Or.inr (Or.inr ⟨p, hp, by simp [fr, h], fd_first hp hy (fun i hi he => d i hi hi he), hy, fun i hi he => d i hi hi he⟩)
/-- The first k items have been laid. -/
def Lay (l : List It) (k : Nat) : Prop := aOk (oL l k) = true ∧ ∀ j (hj : j < l.length), j < k → (l[j].lb ≠ 0 → ∀ i (hi : i < l.length), l[i].lb = l[j].lb → i = j) ∧ (l[j].lb = 0 → l[j].tg ≠ 0 → fd l l[j].tg ≠ none)
theorem Lay.start (l : List It) : Lay l 0 := ⟨rfl, fun j _ h => absurd h (by omega)⟩
theorem Lay.fin {l : List It} (h : Lay l l.length) (hp : pOk l = true) : asS l = encs (oL l l.length) ∧ asE l = 0 := by
  have hU : Uq l := fun k hk h0 => by
    cases hf : fd (l.take k) l[k].lb with
    | none => rfl
    | some i =>
      obtain ⟨hi, e⟩ := fd_lt hf
      rw [List.getElem_take] at e
      have hi' : i < k := by simp at hi; omega
      have := (h.2 k hk hk).1 h0 i (by omega) e
      omega
  have hL : ¬ Lost l := fun ⟨k, hk, a1, a2, a3⟩ => (h.2 k hk hk).2 a1 a2 a3
  have := asR_yes hp hU hL
  exact ⟨by rw [this.1]; simp [aS, h.1], by rw [this.2]; simp [aE, h.1]⟩
theorem aOk_app (a b : List Xi) : aOk (a ++ b) = (aOk a && aOk b) := by unfold aOk; rw [List.all_append]
theorem oL_app {l : List It} : ∀ (n k : Nat), ∃ r, oL l (k + n) = oL l k ++ r
  | 0, k => ⟨[], by simp⟩
  | n + 1, k => by
    obtain ⟨r, e⟩ := oL_app (l := l) n k
    by_cases h : k + n < l.length
    · exact ⟨r ++ one l (k + n) l[k + n], by rw [← Nat.add_assoc, oL_succ h, e, List.append_assoc]⟩
    · exact ⟨r, by rw [← Nat.add_assoc]; simp only [oL, List.getElem?_eq_none (by omega : l.length ≤ k + n), List.append_nil, e]⟩
/-- One instruction that may not be fells all. -/
theorem bad_one {l : List It} {k : Nat} (hk : k < l.length) (h : aOk (one l k l[k]) = false) : asS l = [] ∧ asE l = 4 := by
  by_cases hc : pOk l = true ∧ Uq l ∧ ¬ Lost l
  · have := asR_yes hc.1 hc.2.1 hc.2.2
    obtain ⟨r, e⟩ := oL_app (l := l) (l.length - (k + 1)) (k + 1)
    have e2 : k + 1 + (l.length - (k + 1)) = l.length := by omega
    rw [e2, oL_succ hk] at e
    have : aOk (oL l l.length) = false := by rw [e, aOk_app, aOk_app, h]; simp
    rename_i hh
    rw [hh.1, hh.2]
    exact ⟨by simp [aS, this], by simp [aE, this]⟩
  · exact asR_no hc
end Go.Proofs.Ytookbgnidinkoaa
