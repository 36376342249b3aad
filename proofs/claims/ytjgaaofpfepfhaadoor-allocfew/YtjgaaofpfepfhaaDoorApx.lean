/-
  What the places that Alloc tells are: plain.
-/
import Derived.Test.YtjgaaofpfepfhaaDoorX4
namespace Go.Proofs.YtjgaaofpfepfhaaDoor
open Go.RowKit
set_option linter.unusedSimpArgs false
set_option linter.unusedVariables false
theorem nm_up {l : List Ir} {m : Nat} : ∀ k i, i ≤ k → sub (nmT l m i) (nmT l m k)
  | 0, i, h => by obtain rfl : i = 0 := by omega
                  exact sub.refl _
  | k + 1, i, h => by
    rcases Nat.lt_or_ge i (k + 1) with h1 | h1
    · rw [nmT_is]
      exact ((nm_up k i (by omega)).trans (sub.orl _ _)).trans (sub.orl _ _)
    · obtain rfl : i = k + 1 := by omega
      exact sub.refl _
theorem rd_nm {l : List Ir} {m i : Nat} (hi : i < l.length) : sub (rdS (l.getD i ir0)) (nmT l m l.length) := by
  have h : sub (rdS (l.getD i ir0)) (nmT l m (i + 1)) := by rw [nmT_is]; exact sub.orr _ _
  exact h.trans (nm_up _ _ hi)
theorem wr_nm {l : List Ir} {m i : Nat} (hi : i < l.length) : sub (wrS (l.getD i ir0)) (nmT l m l.length) := by
  have h : sub (wrS (l.getD i ir0)) (nmT l m (i + 1)) := by rw [nmT_is]; exact (sub.orr _ _).trans (sub.orl _ _)
  exact h.trans (nm_up _ _ hi)
theorem dn_sub {s t : Nat} (h : s < lim) (k : t < lim) : sub (dn s t) s := fun i hi => by
  rw [dn_bit h k, Bool.and_eq_true] at hi
  exact hi.1
/-- What is live is named. -/
theorem live_nm {l : List Ir} {A F : Nat → Nat} {m : Nat} (h : Sol (sy l) A F) (ho : Ok60 l) (hm : m ≤ 60) (i : Nat) (hi : i < l.length) : sub (A i) (nmT l m l.length) ∧ sub (F i) (nmT l m l.length) := by
  have hN := nmT_lim ho hm l.length (Nat.le_refl _)
  exact h.least (fun _ => nmT l m l.length) (fun _ => nmT l m l.length) ⟨fun _ _ => hN, fun _ _ => hN, fun _ _ _ _ => sub.refl _, fun j hj => sub.or (rd_nm hj) (dn_sub hN (wr_lim ho j hj))⟩ i hi
theorem cr_nm {l : List Ir} {A F : Nat → Nat} {m : Nat} (h : Sol (sy l) A F) (ho : Ok60 l) (hm : m ≤ 60) : ∀ k, k ≤ l.length → sub (crT l F k) (nmT l m l.length)
  | 0, _ => zero_sub _
  | k + 1, hk => by
    rw [crT_is]
    split
    · exact sub.or (cr_nm h ho hm k (by omega)) ((dn_sub (h.lf k hk) (wr_lim ho k hk)).trans (live_nm h ho hm k hk).2)
    · exact cr_nm h ho hm k (by omega)
theorem spo_nm {l : List Ir} {A F : Nat → Nat} {m a b : Nat} (h : Sol (sy l) A F) (ho : Ok60 l) (hm : m ≤ 60) (hb : spo l F (a : Int) (b : Int) = true) : (nmT l m l.length).testBit a = true ∧ (nmT l m l.length).testBit b = true := by
  unfold spo at hb
  obtain ⟨i, hi, e⟩ := List.any_eq_true.1 hb
  rw [List.mem_range] at hi
  unfold spl at e
  rw [Bool.and_eq_true, decide_eq_true_eq, and_one] at e
  refine ⟨(live_nm h ho hm i hi).2 a e.2, wr_nm hi b ?_⟩
  unfold wrS
  rw [e.1, if_neg (by omega), one_bit]
  simp
theorem full_nm {l : List Ir} {m a : Nat} (h : a < m) : (nmT l m l.length).testBit a = true := nm_up l.length 0 (Nat.zero_le _) a (by
  change (full m).testBit a = true
  rw [full_bit]; simpa using h)
theorem cls_nm {d : Cd} {l : List Ir} {A F : Nat → Nat} {m a b : Nat} (h : Sol (sy l) A F) (ho : Ok60 l) (hd : d.params = (m : Int)) (hm : m ≤ 60) (hb : cls d l A F (a : Int) (b : Int) = true) : (nmT l m l.length).testBit a = true ∧ (nmT l m l.length).testBit b = true := by
  unfold cls at hb
  rw [Bool.or_eq_true, Bool.or_eq_true] at hb
  rcases hb with hb | hb | hb
  · unfold giv at hb
    rw [Bool.and_eq_true, decide_eq_true_eq, hd] at hb
    exact ⟨full_nm (by omega), full_nm (by omega)⟩
  · exact spo_nm h ho hm hb
  · exact (spo_nm h ho hm hb).symm
/-- What a place is. -/
theorem plc_at {nm cr n : Nat} {S : Nat → Nat} {pl : Nat → Int} (h : Plc nm cr S n pl) (hc : sub cr nm) {i : Nat} (hi : i < n) :
    (nm.testBit i = true ∧ 0 ≤ pl i ∨ nm.testBit i = false ∧ pl i = -1) ∧ (cr.testBit i = true → 6 ≤ pl i) ∧ pl i ≤ 6 + (i : Int) := by
  obtain ⟨h0, h1⟩ := h i hi
  have hf := fsz_le cr i
  cases hb : nm.testBit i
  · have e := h0 hb
    refine ⟨Or.inr ⟨rfl, e⟩, fun hcr => ?_, by omega⟩
    have := hc i hcr
    rw [hb] at this; cases this
  · have g := h1 hb
    have gg := g.ge
    refine ⟨Or.inl ⟨rfl, by omega⟩, fun hcr => ?_, ?_⟩
    · have : fsz cr i = 6 := by unfold fsz; rw [if_pos hcr]
      omega
    · obtain ⟨k, hk⟩ : ∃ k : Nat, pl i = fsz cr i + (k : Int) := ⟨(pl i - fsz cr i).toNat, by omega⟩
      have := pig_tkn (pl := pl) (set := S i) (n := i) (k := k) (a := fsz cr i) fun q h1 h2 => g.all q h1 (by omega)
      omega
theorem plc_apart {d : Cd} {l : List Ir} {A F S : Nat → Nat} {nm cr n m a b : Nat} {pl : Nat → Int} (h : Plc nm cr S n pl) (hS : ∀ i, i < n → ∀ j, (S i).testBit j = mu (stB l A F m) n i j) (hd : d.params = (m : Int)) (hs : Sol (sy l) A F)
    (hnm : nm.testBit a = true) (hb : b < a) (ha : a < n) {A' F' : Nat → Nat} (k : Sol (sy l) A' F') (hc : cls d l A' F' (a : Int) (b : Int) = true) : pl a ≠ pl b := by
  intro e
  have g := ((h a ha).2 hnm).no
  rw [cls_two k hs] at hc
  have t : mu (stB l A F m) n b a = true := by
    rw [st_cls hd (by omega) ha, hc]
    simp; omega
  rw [mu_sym (by omega) ha] at t
  have : tkn pl (S a) a (pl a) = true := tkn_yes.2 ⟨b, hb, e.symm, by rw [hS a ha b]; exact t⟩
  rw [g] at this; cases this
/-- All that AllocApart asks. -/
structure ApF (d : Cd) (l : List Ir) (n nm cr : Nat) (pl : Nat → Int) : Prop where
  at_ : ∀ i, i < n → (nm.testBit i = true ∧ 0 ≤ pl i ∨ nm.testBit i = false ∧ pl i = -1) ∧ (cr.testBit i = true → 6 ≤ pl i) ∧ pl i ≤ 6 + (i : Int)
  apart : ∀ a, a < n → ∀ b, b < a → ∀ A F, Sol (sy l) A F → cls d l A F (a : Int) (b : Int) = true → pl a ≠ pl b
theorem fit_ok {d : Cd} {l : List Ir} (hf : fitb d l = true) : Ok60 l := by
  have FP := fit_parts hf
  have h := hf
  unfold fitb at h
  simp only [Bool.and_eq_true, decide_eq_true_eq] at h
  exact fit_60 h.2.2.1 fun x hx => by
    have := List.all_eq_true.1 h.2.2.2 x hx
    unfold okx at this
    rw [Bool.and_eq_true] at this
    exact this.1
theorem apf_of {d : Cd} {l : List Ir} {A F S : Nat → Nat} {n m : Nat} {pl : Nat → Int} (hf : fitb d l = true) (hn : d.cells = (n : Int)) (hd : d.params = (m : Int)) (hs : Sol (sy l) A F)
    (hS : ∀ i, i < n → ∀ j, (S i).testBit j = mu (stB l A F m) n i j) (hp : Plc (nmT l m l.length) (crT l F l.length) S n pl) : ApF d l n (nmT l m l.length) (crT l F l.length) pl := by
  have FP := fit_parts hf
  have ho := fit_ok hf
  have hm : m ≤ 60 := by omega
  exact ⟨fun i hi => plc_at hp (cr_nm hs ho hm _ (Nat.le_refl _)) hi, fun a ha b hb A' F' k hc => plc_apart hp hS hd hs (cls_nm k ho hd hm hc).1 hb ha k hc⟩
end Go.Proofs.YtjgaaofpfepfhaaDoor
