/-
  Plain: labels of other numbers make the same bytes.
-/
import Derived.Test.YtookbgnidinkoaaP
namespace Go.Proofs.Ytookbgnidinkoaa
open Go.RowKit
open Xc
set_option linter.unusedSimpArgs false
set_option linter.unusedVariables false
/-- An item whose labels are so much more. -/
def rn1 (y : Int) (t : It) : It := ⟨t.x, if 0 < t.lb then t.lb + y else t.lb, if 0 < t.tg then t.tg + y else t.tg⟩
theorem rn_lb {y : Int} (hy : 0 ≤ y) (t : It) : ((rn1 y t).lb = 0 ↔ t.lb = 0) ∧ (0 < (rn1 y t).lb ↔ 0 < t.lb) := by
  unfold rn1; simp only; split <;> omega
theorem rn_tg {y : Int} (hy : 0 ≤ y) (t : It) : ((rn1 y t).tg = 0 ↔ t.tg = 0) ∧ (0 < (rn1 y t).tg ↔ 0 < t.tg) := by
  unfold rn1; simp only; split <;> omega
theorem rn_sOk {y : Int} (hy : 0 ≤ y) (t : It) : sOk (rn1 y t) = sOk t := by
  have h1 := rn_lb hy t
  have h2 := rn_tg hy t
  have hx : (rn1 y t).x = t.x := rfl
  have e1 : ((rn1 y t).tg == 0) = (t.tg == 0) := by rw [Bool.eq_iff_iff]; simp [h2.1]
  have e2 : decide (0 < (rn1 y t).tg) = decide (0 < t.tg) := by rw [Bool.eq_iff_iff]; simp [h2.2]
  have e3 : decide (0 < (rn1 y t).lb) = decide (0 < t.lb) := by rw [Bool.eq_iff_iff]; simp [h1.2]
  unfold sOk mG isL
  simp only [hx, h1.1, h2.1, e1, e2, e3]
theorem rn_sN {y : Int} (hy : 0 ≤ y) (t : It) : sN (rn1 y t) = sN t := by
  have h1 := rn_lb hy t
  unfold sN
  rw [rn_sOk hy]
  simp only [h1.1]
  rfl
theorem rn_pt {y : Int} (hy : 0 ≤ y) (l : List It) (k : Nat) : pt (l.map (rn1 y)) k = pt l k := by
  unfold pt
  rw [← List.map_take, List.map_map]
  congr 1
  apply List.map_congr_left
  intro t _
  exact rn_sN hy t
theorem rn_pOk {y : Int} (hy : 0 ≤ y) (l : List It) : pOk (l.map (rn1 y)) = pOk l := by
  unfold pOk
  rw [List.all_map]
  congr 1
  funext t
  exact rn_sOk hy t
theorem sOk_pos {t : It} (h : sOk t = true) : 0 ≤ t.lb ∧ 0 ≤ t.tg := by
  unfold sOk at h
  split at h
  · rename_i h0
    split at h
    · omega
    · simp [mG] at h; omega
  · simp [isL] at h; omega
theorem rn_fd {y : Int} (hy : 0 ≤ y) {z : Int} (hz : 0 < z) : ∀ (l : List It), (∀ t ∈ l, 0 ≤ t.lb) → fd (l.map (rn1 y)) (z + y) = fd l z
  | [], _ => rfl
  | t :: l, h => by
    have ih := rn_fd hy hz l (fun u hu => h u (by simp [hu]))
    have h0 := h t (by simp)
    have e : ((rn1 y t).lb == z + y) = (t.lb == z) := by
      rw [Bool.eq_iff_iff]
      unfold rn1
      simp
      split <;> omega
    unfold fd at *
    rw [List.map_cons, List.findIdx?_cons, List.findIdx?_cons, e, ih]
theorem rn_asR {y : Int} (hy : 0 ≤ y) (l : List It) : asR (l.map (rn1 y)) = asR l := by
  by_cases hp : pOk l = true
  · have hpos : ∀ j (h : j < l.length), 0 ≤ l[j].lb ∧ 0 ≤ l[j].tg := fun j h => sOk_pos (pOk_at hp h)
    have hmem : ∀ t ∈ l, 0 ≤ t.lb := fun t ht => by
      obtain ⟨j, hj, rfl⟩ := List.getElem_of_mem ht
      exact (hpos j hj).1
    have hu : Uq (l.map (rn1 y)) ↔ Uq l := by
      unfold Uq
      constructor
      · intro h k hk h0
        have := h k (by simpa using hk)
        rw [List.getElem_map] at this
        have hp1 := (hpos k hk).1
        have hv : (rn1 y l[k]).lb = l[k].lb + y := by unfold rn1; simp only; rw [if_pos (by omega)]
        have := this (by rw [hv]; omega)
        rw [hv, ← List.map_take, rn_fd hy (by omega) _ (fun t ht => hmem t (List.mem_of_mem_take ht))] at this
        exact this
      · intro h k hk h0
        have hk' : k < l.length := by simpa using hk
        rw [List.getElem_map] at h0 ⊢
        have hp1 := (hpos k hk').1
        have h1 : l[k].lb ≠ 0 := fun e => h0 ((rn_lb hy _).1.2 e)
        have hv : (rn1 y l[k]).lb = l[k].lb + y := by unfold rn1; simp only; rw [if_pos (by omega)]
        rw [hv, ← List.map_take, rn_fd hy (by omega) _ (fun t ht => hmem t (List.mem_of_mem_take ht))]
        exact h k hk' h1
    have htv : ∀ k (h : k < l.length), l[k].tg ≠ 0 → fd (l.map (rn1 y)) (rn1 y l[k]).tg = fd l l[k].tg := fun k h h1 => by
      have hp1 := (hpos k h).2
      have hv : (rn1 y l[k]).tg = l[k].tg + y := by unfold rn1; simp only; rw [if_pos (by omega)]
      rw [hv, rn_fd hy (by omega) _ hmem]
    have hl : Lost (l.map (rn1 y)) ↔ Lost l := by
      unfold Lost
      constructor
      · rintro ⟨k, hk, h1, h2, h3⟩
        have hk' : k < l.length := by simpa using hk
        rw [List.getElem_map] at h1 h2 h3
        have t0 : l[k].tg ≠ 0 := fun e => h2 ((rn_tg hy _).1.2 e)
        rw [htv k hk' t0] at h3
        exact ⟨k, hk', (rn_lb hy _).1.1 h1, t0, h3⟩
      · rintro ⟨k, hk, h1, h2, h3⟩
        refine ⟨k, by simpa using hk, ?_, ?_, ?_⟩
        · rw [List.getElem_map]; exact (rn_lb hy _).1.2 h1
        · rw [List.getElem_map]; exact fun e => h2 ((rn_tg hy _).1.1 e)
        · rw [List.getElem_map, htv k hk h2]; exact h3
    have ho : ∀ k, k ≤ l.length → oL (l.map (rn1 y)) k = oL l k := by
      intro k
      induction k with
      | zero => intro _; rfl
      | succ k ih =>
        intro hk
        have h : k < l.length := hk
        rw [oL_succ (l := l) h, oL_succ (l := l.map (rn1 y)) (by simpa using h), ih (by omega), List.getElem_map]
        congr 1
        unfold one
        simp only [(rn_lb hy l[k]).1]
        split
        · unfold jx
          simp only [(rn_tg hy l[k]).1]
          split
          · rfl
          · rename_i h2
            rw [htv k h h2, rn_pt hy, rn_pt hy]
            rfl
        · rfl
    have hc : (pOk (l.map (rn1 y)) = true ∧ Uq (l.map (rn1 y)) ∧ ¬ Lost (l.map (rn1 y))) ↔ (pOk l = true ∧ Uq l ∧ ¬ Lost l) := by rw [rn_pOk hy, hu, hl]
    unfold asR
    by_cases hh : pOk l = true ∧ Uq l ∧ ¬ Lost l
    · rw [if_pos hh, if_pos (hc.2 hh), List.length_map, ho l.length (Nat.le_refl _)]
    · rw [if_neg hh, if_neg fun h => hh (hc.1 h)]
  · have h1 : ¬ (pOk (l.map (rn1 y)) = true ∧ Uq (l.map (rn1 y)) ∧ ¬ Lost (l.map (rn1 y))) := fun h => hp (by rw [← rn_pOk hy]; exact h.1)
    unfold asR
    rw [if_neg h1, if_neg fun h => hp h.1]
theorem rn_as {y : Int} (hy : 0 ≤ y) (l : List It) : asS (l.map (rn1 y)) = asS l ∧ asE (l.map (rn1 y)) = asE l := by
  unfold asS asE; rw [rn_asR hy]; exact ⟨rfl, rfl⟩
end Go.Proofs.Ytookbgnidinkoaa
