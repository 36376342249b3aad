/-
  Plain: what comes of both orders of Clash, what a loop over places gathers.
-/
import Derived.Test.YtjgaaofpfepfhaaDoorCls
namespace Go.Proofs.YtjgaaofpfepfhaaDoor
open Go.RowKit
set_option linter.unusedSimpArgs false
set_option linter.unusedVariables false
theorem giv_sym (d : Cd) (n : Nat) (A : Nat → Nat) (a b : Int) : giv d n A a b = giv d n A b a := by
  unfold giv
  rw [Int.max_comm, Nat.or_comm]
theorem giv_same {d : Cd} {n : Nat} {A A' : Nat → Nat} (h : ∀ i, i < n → A i = A' i) (a b : Int) : giv d n A a b = giv d n A' a b := by
  unfold giv
  rcases Nat.eq_zero_or_pos n with e | e
  · subst e; simp
  · rw [h 0 e]
theorem spo_same {l : List Ir} {F F' : Nat → Nat} (h : ∀ i, i < l.length → F i = F' i) (a b : Int) : spo l F a b = spo l F' a b := by
  unfold spo
  rw [Bool.eq_iff_iff, List.any_eq_true, List.any_eq_true]
  constructor
  · rintro ⟨i, hi, hs⟩
    refine ⟨i, hi, ?_⟩
    unfold spl at hs ⊢
    rw [← h i (List.mem_range.1 hi)]; exact hs
  · rintro ⟨i, hi, hs⟩
    refine ⟨i, hi, ?_⟩
    unfold spl at hs ⊢
    rw [h i (List.mem_range.1 hi)]; exact hs
theorem cls_two {d : Cd} {l : List Ir} {A F A' F' : Nat → Nat} (h : Sol (sy l) A F) (k : Sol (sy l) A' F') (a b : Int) : cls d l A F a b = cls d l A' F' b a := by
  have hA : ∀ i, i < l.length → A i = A' i := fun i hi => (h.one k hi).1
  have hF : ∀ i, i < l.length → F i = F' i := fun i hi => (h.one k hi).2
  unfold cls
  rw [giv_sym, giv_same hA, spo_same hF a b, spo_same hF b a, Bool.or_comm (spo l F' a b)]
theorem clash_two {d : Cd} {l : List Ir} {a b : Int} {w w1 w2 : World} {e e2 : Ending} (h : ClsEnds d l a b w e w1) (k : ClsEnds d l b a w1 e2 w2) :
    ∃ (v : Bool) (n : Int), e = .returned (.tuple #[.bool v, .int .i64 n]) ∧ e2 = .returned (.tuple #[.bool v, .int .i64 n]) ∧ Below w.heap.size w w1 ∧ Below w1.heap.size w1 w2 := by
  obtain ⟨v, n, rfl, b1, h⟩ := h
  obtain ⟨v', n', rfl, b2, k⟩ := k
  refine ⟨v, n, rfl, ?_, b1, b2⟩
  rcases h with ⟨h1, rfl, rfl⟩ | ⟨⟨h1, h2, h3⟩, rfl, h4⟩ <;> rcases k with ⟨k1, rfl, rfl⟩ | ⟨⟨k1, k2, k3⟩, rfl, k4⟩
  · rfl
  · rw [k1, k2, k3] at h1; simp at h1
  · rw [h1, h2, h3] at k1; simp at k1
  · rcases h4 with ⟨e1, rfl⟩ | ⟨e1, A, F, s1, rfl⟩ <;> rcases k4 with ⟨f1, rfl⟩ | ⟨f1, A', F', s2, rfl⟩
    · rfl
    · exact absurd e1.symm f1
    · exact absurd f1.symm e1
    · rw [cls_two s1 s2]
/-- What the first j of the places behind bring. -/
def unT (l : List Ir) (A : Nat → Nat) (k j : Nat) : Nat := ors ((((nxt l k).map Int.toNat).take j).map A)
theorem unT_zero (l : List Ir) (A : Nat → Nat) (k : Nat) : unT l A k 0 = 0 := rfl
theorem unT_succ {l : List Ir} {A : Nat → Nat} {k j : Nat} (h : j < (nxt l k).length) : unT l A k (j + 1) = unT l A k j ||| A ((nxt l k)[j]).toNat := by
  unfold unT
  rw [List.take_add_one, List.getElem?_eq_getElem (by simpa using h)]
  simp only [Option.toList_some, List.map_append, List.map_cons, List.map_nil, List.getElem_map]
  exact ors_snoc _ _
theorem unT_all (l : List Ir) (A : Nat → Nat) (k : Nat) : unT l A k (nxt l k).length = un (sy l) A k := by
  unfold unT un
  rw [List.take_of_length_le (by simp)]
  rfl
theorem unT_lim {l : List Ir} {A : Nat → Nat} (h : ∀ i, i < l.length → A i < lim) (k j : Nat) : unT l A k j < lim := ors_lim fun s hs => by
  obtain ⟨p, hp, rfl⟩ := List.mem_map.1 hs
  obtain ⟨y, hy, rfl⟩ := List.mem_map.1 (List.mem_of_mem_take hp)
  have := nxt_in y hy
  exact h _ (by omega)
end Go.Proofs.YtjgaaofpfepfhaaDoor
