/-
  Plain: items without labels behind others; bytes of instructions in one way.
-/
import Derived.Test.YtookbgnidinkoaaT
namespace Go.Proofs.Ytookbgnidinkoaa
open Go.RowKit
open Xc
set_option linter.unusedSimpArgs false
set_option linter.unusedVariables false
/-- An instruction as an item. -/
def pl (x : Xi) : It := ⟨x, 0, 0⟩
theorem pl_sOk (x : Xi) : sOk (pl x) = rt x := by simp [pl, sOk]
theorem all_gd {o : List Xi} (h : aOk o = true) (hn : ∀ x ∈ o, I64 x.n) : Gd o := fun x hx => ⟨by
  unfold aOk at h
  rw [List.all_eq_true] at h
  exact h x hx, hn x hx⟩
theorem two_pt {l : List It} (m : List Xi) {k : Nat} (h : k ≤ l.length) : pt (l ++ m.map pl) k = pt l k := by
  unfold pt
  rw [List.take_append_of_le_length h]
theorem pl_lb {m : List Xi} {k : Nat} (h : k < (m.map pl).length) : (m.map pl)[k].lb = 0 ∧ (m.map pl)[k].tg = 0 := by
  rw [List.getElem_map]; exact ⟨rfl, rfl⟩
theorem fd_pl (m : List Xi) {y : Int} (hy : y ≠ 0) : fd (m.map pl) y = none := by
  unfold fd
  rw [List.findIdx?_eq_none_iff]
  intro t ht
  obtain ⟨x, _, rfl⟩ := List.mem_map.1 ht
  simp [pl]; omega
theorem fd_two (l : List It) (m : List Xi) {y : Int} (hy : y ≠ 0) : fd (l ++ m.map pl) y = fd l y := by
  have h := fd_pl m hy
  unfold fd at *
  rw [List.findIdx?_append, h]
  simp
theorem oL_two (l : List It) (m : List Xi) : ∀ k, k ≤ l.length → oL (l ++ m.map pl) k = oL l k
  | 0, _ => rfl
  | k + 1, hk => by
    have h : k < l.length := hk
    rw [oL_succ (l := l ++ m.map pl) (by simp; omega), oL_succ h, oL_two l m k (by omega), List.getElem_append_left h]
    congr 1
    unfold one
    split
    · unfold jx
      split
      · rfl
      · rename_i h2
        rw [fd_two l m h2, two_pt m hk]
        have : pt (l ++ m.map pl) ((fd l l[k].tg).getD 0) = pt l ((fd l l[k].tg).getD 0) := two_pt m (by
          cases hf : fd l l[k].tg with
          | none => simp
          | some j => obtain ⟨hj, _⟩ := fd_lt hf; simp; omega)
        rw [this]
    · rfl
theorem oL_more (l : List It) (m : List Xi) : ∀ k, k ≤ m.length → oL (l ++ m.map pl) (l.length + k) = oL l l.length ++ m.take k
  | 0, _ => by rw [Nat.add_zero, oL_two l m _ (Nat.le_refl _)]; simp
  | k + 1, hk => by
    have h : k < m.length := hk
    rw [← Nat.add_assoc, oL_succ (l := l ++ m.map pl) (by simp; omega), oL_more l m k (by omega), List.getElem_append_right (by omega), List.append_assoc, List.take_succ_eq_append_getElem h]
    congr 2
    simp [one, jx, pl]
theorem two_asR {l : List It} {m : List Xi} {o : List Xi} (h : asR l = some o) (hm : aOk m = true) : asR (l ++ m.map pl) = some (o ++ m) := by
  unfold asR at h
  split at h
  · rename_i hc
    obtain ⟨h1, h2, h3⟩ := hc
    obtain rfl := Option.some.inj h
    have c1 : pOk (l ++ m.map pl) = true := by
      unfold pOk at *
      rw [List.all_append, h1, Bool.true_and, List.all_map]
      unfold aOk at hm
      rw [List.all_eq_true] at hm ⊢
      intro x hx
      show sOk (pl x) = true
      rw [pl_sOk]; exact hm x hx
    have c2 : Uq (l ++ m.map pl) := fun k hk h0 => by
      rcases Nat.lt_or_ge k l.length with h' | h'
      · rw [List.getElem_append_left h'] at h0 ⊢
        rw [List.take_append_of_le_length (by omega)]
        exact h2 k h' h0
      · rw [List.getElem_append_right h'] at h0
        exact absurd (pl_lb _).1 h0
    have c3 : ¬ Lost (l ++ m.map pl) := fun ⟨k, hk, a1, a2, a3⟩ => by
      rcases Nat.lt_or_ge k l.length with h' | h'
      · rw [List.getElem_append_left h'] at a1 a2 a3
        rw [fd_two l m a2] at a3
        exact h3 ⟨k, h', a1, a2, a3⟩
      · rw [List.getElem_append_right h'] at a2
        exact absurd (pl_lb _).2 a2
    unfold asR
    rw [if_pos ⟨c1, c2, c3⟩]
    have := oL_more l m m.length (Nat.le_refl _)
    rw [List.take_length] at this
    rw [List.length_append, List.length_map, this]
  · cases h
/-- What was assembled is instructions. -/
theorem as_ok {l : List It} (h : asE l = 0) : ∃ o, asR l = some o ∧ aOk o = true ∧ asS l = encs o := by
  unfold asE at h
  cases hr : asR l with
  | none => rw [hr] at h; cases h
  | some o =>
    rw [hr] at h
    simp only [aE] at h
    have ha : aOk o = true := by
      cases hq : aOk o
      · rw [hq] at h; simp at h
      · rfl
    exact ⟨o, rfl, ha, by simp [asS, hr, aS, ha]⟩
theorem two_as {l : List It} {m o : List Xi} (h : asR l = some o) (ho : aOk o = true) (hm : aOk m = true) : asS (l ++ m.map pl) = encs o ++ encs m ∧ asE (l ++ m.map pl) = 0 := by
  have hr := two_asR h hm
  have ha : aOk (o ++ m) = true := by unfold aOk at *; rw [List.all_append, ho, hm]; rfl
  exact ⟨by simp [asS, hr, aS, ha, encs_app], by simp [asE, hr, aE, ha]⟩
theorem gd_one {o o' : List Xi} (g : Gd o) (g' : Gd o') (h : encs o = encs o') : o' = o := by
  obtain ⟨o2, e, f⟩ := uniq o o' [] g g' (by rw [List.append_nil]; exact h)
  have : o2 = [] := by
    have := len_le o2
    rw [f] at this
    exact List.length_eq_zero_iff.1 (by simpa using this)
  rw [e, this, List.append_nil]
theorem offs_app (o p : List Xi) : offs (o ++ p) = offs o ++ (offs p).map fun x => ((encs o).length : Int) + x := by
  apply List.ext_getElem
  · simp [offs_len]
  · intro j h1 h2
    rw [offs_get]
    rw [offs_len] at h1
    by_cases hj : j < o.length
    · rw [List.getElem_append_left (by rw [offs_len]; exact hj), offs_get, List.take_append_of_le_length (by omega)]
    · rw [List.getElem_append_right (by rw [offs_len]; omega), List.getElem_map, offs_get, offs_len, List.take_append, List.take_of_length_le (by omega), encs_app, List.length_append]
      simp
theorem starts_gd (o : List Xi) (g : Gd o) (w : World) (hl : (encs o).length ≤ 1048576) : Calls Try.prog 14 #[.string (str (encs o))] w fun e w' => ∃ v, e = .returned (.tuple #[v, .int .i64 0]) ∧ NR w.heap.size v (offs o) w' ∧ Below w.heap.size w w' := by
  refine (starts_any (str (encs o)) w (by rw [str_size]; exact hl)).mono ?_
  rw [str_data]
  rintro e w' (⟨o', v, g', h, rfl, hR, b⟩ | ⟨h, _⟩)
  · rw [gd_one g g' h.symm] at hR
    exact ⟨v, rfl, hR, b⟩
  · exact absurd ⟨o, g, rfl⟩ h
end Go.Proofs.Ytookbgnidinkoaa
