/-
  Plain: the least sets of what is live, and how they are come to, round by round. No program.
-/
import Derived.Test.YtjgaaofpfepfhaaDoorMath
namespace Go.Proofs.YtjgaaofpfepfhaaDoor
open Go.RowKit
set_option linter.unusedSimpArgs false
set_option linter.unusedVariables false
/-- Places, what comes behind each, what each reads and writes. -/
structure Sy where
  n : Nat
  nx : Nat → List Nat
  rd : Nat → Nat
  wr : Nat → Nat
structure Sy.ok (S : Sy) : Prop where
  nx : ∀ i, i < S.n → ∀ p ∈ S.nx i, p < S.n
  rd : ∀ i, i < S.n → S.rd i < lim
  wr : ∀ i, i < S.n → S.wr i < lim
def un (S : Sy) (A : Nat → Nat) (i : Nat) : Nat := ors ((S.nx i).map A)
def lv (S : Sy) (i f : Nat) : Nat := S.rd i ||| dn f (S.wr i)
def upd (A : Nat → Nat) (i v : Nat) : Nat → Nat := fun j => if j = i then v else A j
theorem upd_same (A : Nat → Nat) (i v : Nat) : upd A i v i = v := if_pos rfl
theorem upd_other (A : Nat → Nat) {i j : Nat} (v : Nat) (h : j ≠ i) : upd A i v j = A j := if_neg h
def Lm (S : Sy) (A : Nat → Nat) : Prop := ∀ i, i < S.n → A i < lim
structure Clo (S : Sy) (A F : Nat → Nat) : Prop where
  la : Lm S A
  lf : Lm S F
  f : ∀ i, i < S.n → ∀ p ∈ S.nx i, sub (A p) (F i)
  a : ∀ i, i < S.n → sub (lv S i (F i)) (A i)
structure Inv (S : Sy) (A F : Nat → Nat) : Prop where
  la : Lm S A
  lf : Lm S F
  fle : ∀ i, i < S.n → sub (F i) (un S A i)
  ale : ∀ i, i < S.n → sub (A i) (lv S i (F i))
  least : ∀ A' F', Clo S A' F' → ∀ i, i < S.n → sub (A i) (A' i) ∧ sub (F i) (F' i)
structure Sol (S : Sy) (A F : Nat → Nat) : Prop where
  la : Lm S A
  lf : Lm S F
  f : ∀ i, i < S.n → F i = un S A i
  a : ∀ i, i < S.n → A i = lv S i (F i)
  least : ∀ A' F', Clo S A' F' → ∀ i, i < S.n → sub (A i) (A' i) ∧ sub (F i) (F' i)
section
variable {S : Sy} {A F A' F' A0 : Nat → Nat} {i : Nat}
theorem Sol.clo (h : Sol S A F) : Clo S A F := ⟨h.la, h.lf, fun i hi p hp => by rw [h.f i hi]; exact sub_ors (List.mem_map.2 ⟨p, hp, rfl⟩), fun i hi => by rw [← h.a i hi]; exact sub.refl _⟩
theorem Sol.one (h : Sol S A F) (k : Sol S A' F') (hi : i < S.n) : A i = A' i ∧ F i = F' i :=
  ⟨((h.least _ _ k.clo i hi).1).antisymm (k.least _ _ h.clo i hi).1, ((h.least _ _ k.clo i hi).2).antisymm (k.least _ _ h.clo i hi).2⟩
theorem zero_sub (t : Nat) : sub 0 t := fun i h => by simp at h
theorem lv_lim (ok : S.ok) (hi : i < S.n) {f : Nat} (hf : f < lim) : lv S i f < lim := or_lim (ok.rd i hi) (dn_lim hf (ok.wr i hi))
theorem lv_sub (ok : S.ok) (hi : i < S.n) {f g : Nat} (hf : f < lim) (hg : g < lim) (h : sub f g) : sub (lv S i f) (lv S i g) := sub.or2 (sub.refl _) (sub.dn hf hg (ok.wr i hi) h)
theorem un_sub (h : ∀ p ∈ S.nx i, sub (A p) (A' p)) : sub (un S A i) (un S A' i) := ors_sub fun s hs => by
  obtain ⟨p, hp, rfl⟩ := List.mem_map.1 hs
  exact (h p hp).trans (sub_ors (List.mem_map.2 ⟨p, hp, rfl⟩))
theorem un_lim (ok : S.ok) (h : Lm S A) (hi : i < S.n) : un S A i < lim := ors_lim fun s hs => by
  obtain ⟨p, hp, rfl⟩ := List.mem_map.1 hs
  exact h p (ok.nx i hi p hp)
theorem Lm.upd (h : Lm S A) {v : Nat} (hv : v < lim) : Lm S (upd A i v) := fun j hj => by
  by_cases e : j = i
  · rw [e, upd_same]; exact hv
  · rw [upd_other A v e]; exact h j hj
theorem inv_zero : Inv S (fun _ => 0) (fun _ => 0) := ⟨fun _ _ => by decide, fun _ _ => by decide, fun _ _ => zero_sub _, fun _ _ => zero_sub _, fun _ _ _ _ _ => ⟨zero_sub _, zero_sub _⟩⟩
/-- What is behind grows, but not beyond what it may. -/
theorem Inv.setF (ok : S.ok) (h : Inv S A F) (hi : i < S.n) {v : Nat} (h1 : sub (F i) v) (h2 : sub v (un S A i)) : Inv S A (upd F i v) := by
  have hv : v < lim := Nat.lt_of_le_of_lt h2.le (un_lim ok h.la hi)
  refine ⟨h.la, h.lf.upd hv, fun j hj => ?_, fun j hj => ?_, fun A' F' hc j hj => ?_⟩
  · by_cases e : j = i
    · rw [e, upd_same]; exact h2
    · rw [upd_other F v e]; exact h.fle j hj
  · by_cases e : j = i
    · rw [e, upd_same]; exact (h.ale i hi).trans (lv_sub ok hi (h.lf i hi) hv h1)
    · rw [upd_other F v e]; exact h.ale j hj
  · refine ⟨(h.least _ _ hc j hj).1, ?_⟩
    by_cases e : j = i
    · rw [e, upd_same]
      refine h2.trans (ors_sub fun s hs => ?_)
      obtain ⟨p, hp, rfl⟩ := List.mem_map.1 hs
      exact ((h.least _ _ hc p (ok.nx i hi p hp)).1).trans (hc.f i hi p hp)
    · rw [upd_other F v e]; exact (h.least _ _ hc j hj).2
theorem sub_upd (h : Inv S A F) {v : Nat} (hv : sub (A i) v) (p : Nat) : sub (A p) (upd A i v p) := by
  by_cases e : p = i
  · rw [e, upd_same]; exact hv
  · rw [upd_other A v e]; exact sub.refl _
theorem Inv.setA (ok : S.ok) (h : Inv S A F) (hi : i < S.n) : Inv S (upd A i (lv S i (F i))) F := by
  have hv := lv_lim ok hi (h.lf i hi)
  refine ⟨h.la.upd hv, h.lf, fun j hj => (h.fle j hj).trans (un_sub fun p _ => sub_upd h (h.ale i hi) p), fun j hj => ?_, fun A' F' hc j hj => ⟨?_, (h.least _ _ hc j hj).2⟩⟩
  · by_cases e : j = i
    · rw [e, upd_same]; exact sub.refl _
    · rw [upd_other A _ e]; exact h.ale j hj
  · by_cases e : j = i
    · rw [e, upd_same]; exact (lv_sub ok hi (h.lf i hi) (hc.lf i hi) (h.least _ _ hc i hi).2).trans (hc.a i hi)
    · rw [upd_other A _ e]; exact (h.least _ _ hc j hj).1
/-- A sum, that grows. -/
def tot (A : Nat → Nat) : Nat → Nat
  | 0 => 0
  | k + 1 => tot A k + A k
theorem tot_le {A : Nat → Nat} : ∀ {n : Nat}, (∀ i, i < n → A i < lim) → tot A n ≤ n * lim
  | 0, _ => by simp [tot]
  | k + 1, h => by
    have := tot_le (n := k) fun i hi => h i (by omega)
    have := h k (by omega)
    simp only [tot, Nat.succ_mul]
    omega
theorem tot_mono {A B : Nat → Nat} : ∀ {n : Nat}, (∀ i, i < n → A i ≤ B i) → tot A n ≤ tot B n
  | 0, _ => Nat.le_refl _
  | k + 1, h => Nat.add_le_add (tot_mono fun i hi => h i (by omega)) (h k (by omega))
theorem tot_lt {A B : Nat → Nat} : ∀ {n : Nat}, (∀ i, i < n → A i ≤ B i) → ∀ {i}, i < n → A i < B i → tot A n < tot B n
  | 0, _, i, hi, _ => absurd hi (Nat.not_lt_zero _)
  | k + 1, h, i, hi, hl => by
    rcases Nat.lt_succ_iff_lt_or_eq.1 hi with e | e
    · exact Nat.add_lt_add_of_lt_of_le (tot_lt (fun j hj => h j (by omega)) e hl) (h k (by omega))
    · subst e; exact Nat.add_lt_add_of_le_of_lt (tot_mono fun j hj => h j (by omega)) hl
/-- One round, from the end on, as far as place i. -/
structure Pas (S : Sy) (A0 : Nat → Nat) (i : Nat) (ch : Bool) (A F : Nat → Nat) : Prop where
  inv : Inv S A F
  ge : tot A0 S.n ≤ tot A S.n
  no : ch = false → (∀ j, i ≤ j → j < S.n → (∀ p ∈ S.nx j, sub (A p) (F j)) ∧ A j = lv S j (F j))
  yes : ch = true → tot A0 S.n < tot A S.n
theorem Pas.start (h : Inv S A F) : Pas S A S.n false A F := ⟨h, Nat.le_refl _, fun _ j h1 h2 => by omega, fun e => by cases e⟩
/-- Behind the place i + 1, and what is behind place i gathered. -/
theorem Pas.next (ok : S.ok) {ch : Bool} (h : Pas S A0 (i + 1) ch A F) (hi : i < S.n) {G : Nat → Nat} (hG : Inv S A G) (ho : ∀ j, j ≠ i → G j = F j) (hg : ∀ p ∈ S.nx i, sub (A p) (G i)) :
    Pas S A0 i (ch || (lv S i (G i) != A i)) (upd A i (lv S i (G i))) G := by
  have hs := hG.ale i hi
  have hmono : ∀ j, j < S.n → A j ≤ upd A i (lv S i (G i)) j := fun j _ => (sub_upd hG hs j).le
  refine ⟨hG.setA ok hi, Nat.le_trans h.ge (tot_mono hmono), fun e => ?_, fun e => ?_⟩
  · rw [Bool.or_eq_false_iff] at e
    have e2 : lv S i (G i) = A i := by simpa using e.2
    have eA : upd A i (lv S i (G i)) = A := by
      funext j
      by_cases h : j = i
      · rw [h, upd_same, e2]
      · rw [upd_other A _ h]
    rw [eA]
    intro j h1 h2
    by_cases hj : j = i
    · subst hj; exact ⟨hg, e2.symm⟩
    · rw [ho j hj]; exact h.no e.1 j (by omega) h2
  · cases ch with
    | true => exact Nat.lt_of_lt_of_le (h.yes rfl) (tot_mono hmono)
    | false =>
      have e2 : lv S i (G i) ≠ A i := by simpa using e
      refine Nat.lt_of_le_of_lt h.ge (tot_lt hmono hi ?_)
      rw [upd_same]
      exact Nat.lt_of_le_of_ne hs.le (Ne.symm e2)
theorem Pas.sol (h : Pas S A0 0 false A F) : Sol S A F := by
  have k := h.no rfl
  refine ⟨h.inv.la, h.inv.lf, fun i hi => (h.inv.fle i hi).antisymm (ors_sub fun s hs => ?_), fun i hi => (k i (Nat.zero_le _) hi).2, h.inv.least⟩
  obtain ⟨p, hp, rfl⟩ := List.mem_map.1 hs
  exact (k i (Nat.zero_le _) hi).1 p hp
/-- What is gathered behind place i: k of its ways. -/
structure Gat (S : Sy) (A F : Nat → Nat) (i k : Nat) (G : Nat → Nat) : Prop where
  inv : Inv S A G
  ot : ∀ j, j ≠ i → G j = F j
  of_ : ∀ q (h : q < (S.nx i).length), q < k → sub (A (S.nx i)[q]) (G i)
theorem Gat.start (h : Inv S A F) : Gat S A F i 0 F := ⟨h, fun _ _ => rfl, fun q _ h => absurd h (Nat.not_lt_zero _)⟩
theorem Gat.next (ok : S.ok) {k : Nat} {G : Nat → Nat} (h : Gat S A F i k G) (hi : i < S.n) (hk : k < (S.nx i).length) : Gat S A F i (k + 1) (upd G i (G i ||| A (S.nx i)[k])) := by
  have hm : sub (A (S.nx i)[k]) (un S A i) := sub_ors (List.mem_map.2 ⟨_, List.getElem_mem hk, rfl⟩)
  refine ⟨h.inv.setF ok hi (sub.orl _ _) ((h.inv.fle i hi).or hm), fun j hj => by rw [upd_other G _ hj]; exact h.ot j hj, fun q hq hlt => ?_⟩
  rw [upd_same]
  rcases Nat.lt_succ_iff_lt_or_eq.1 hlt with e | e
  · exact (h.of_ q hq e).trans (sub.orl _ _)
  · subst e; exact sub.orr _ _
theorem Gat.all {k : Nat} {G : Nat → Nat} (h : Gat S A F i k G) (hk : (S.nx i).length ≤ k) : ∀ p ∈ S.nx i, sub (A p) (G i) := fun p hp => by
  obtain ⟨q, hq, rfl⟩ := List.mem_iff_getElem.1 hp
  exact h.of_ q hq (by omega)
end
end Go.Proofs.YtjgaaofpfepfhaaDoor
