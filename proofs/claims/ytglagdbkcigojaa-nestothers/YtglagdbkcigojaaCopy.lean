/-
  The cells of a list of instructions, as they are appended to another.
-/
import Derived.Test.YtglagdbkcigojaaLists
import Derived.Deep.CutRange
namespace Go.Proofs.Ytglagdbkcigojaa
open Go.RowKit

def lcl (fo fn fm : Nat → Int) (k : Nat) : List Value := (List.range k).flatMap fun j => [.int .i64 (fo j), .int .i64 (fn j), .int .i64 (fm j)]
section
variable {fo fn fm : Nat → Int}
theorem lcl_succ (k : Nat) : lcl fo fn fm (k + 1) = lcl fo fn fm k ++ [.int .i64 (fo k), .int .i64 (fn k), .int .i64 (fm k)] := by simp [lcl, List.range_succ, List.flatMap_append]
theorem lcl_len : ∀ k, (lcl fo fn fm k).length = k * 3
  | 0 => rfl
  | k + 1 => by rw [lcl_succ, List.length_append, lcl_len k]; simp; omega
theorem lcl_at : ∀ k j, j < k → (lcl fo fn fm k)[j * 3]? = some (.int .i64 (fo j)) ∧ (lcl fo fn fm k)[j * 3 + 1]? = some (.int .i64 (fn j)) ∧ (lcl fo fn fm k)[j * 3 + 2]? = some (.int .i64 (fm j))
  | 0, _, h => absurd h (by omega)
  | k + 1, j, h => by
    rw [lcl_succ]
    rcases Nat.lt_or_ge j k with hj | hj
    · rw [List.getElem?_append_left (by rw [lcl_len]; omega), List.getElem?_append_left (by rw [lcl_len]; omega), List.getElem?_append_left (by rw [lcl_len]; omega)]
      exact lcl_at k j hj
    · obtain rfl : j = k := by omega
      rw [List.getElem?_append_right (by rw [lcl_len]; omega), List.getElem?_append_right (by rw [lcl_len]; omega), List.getElem?_append_right (by rw [lcl_len]; omega), lcl_len]
      simp
theorem lcl_cell {m j : Nat} {u : Value} (h : (lcl fo fn fm m)[j]? = some u) : ∃ q, q < m ∧ ((j = q * 3 ∧ u = .int .i64 (fo q)) ∨ (j = q * 3 + 1 ∧ u = .int .i64 (fn q)) ∨ (j = q * 3 + 2 ∧ u = .int .i64 (fm q))) := by
  have hj : j < m * 3 := by rw [← lcl_len (fo := fo) (fn := fn) (fm := fm) m]; exact (List.getElem?_eq_some_iff.1 h).1
  refine ⟨j / 3, by omega, ?_⟩
  have H := lcl_at (fo := fo) (fn := fn) (fm := fm) m (j / 3) (by omega)
  have hr : j % 3 = 0 ∨ j % 3 = 1 ∨ j % 3 = 2 := by omega
  rcases hr with hr | hr | hr
  · have e : j = j / 3 * 3 := by omega
    refine .inl ⟨e, ?_⟩
    rw [e, H.1] at h
    exact (Option.some.inj h).symm
  · have e : j = j / 3 * 3 + 1 := by omega
    refine .inr (.inl ⟨e, ?_⟩)
    rw [e, H.2.1] at h
    exact (Option.some.inj h).symm
  · have e : j = j / 3 * 3 + 2 := by omega
    refine .inr (.inr ⟨e, ?_⟩)
    rw [e, H.2.2] at h
    exact (Option.some.inj h).symm
theorem lcl_one (m : Nat) : ∀ u ∈ lcl fo fn fm m, u.oneCell' = true := by
  intro u hu
  obtain ⟨j, hj, e⟩ := List.getElem_of_mem hu
  obtain ⟨q, _, h⟩ := lcl_cell (fo := fo) (fn := fn) (fm := fm) (m := m) (j := j) (u := u) (by rw [List.getElem?_eq_getElem hj, e])
  rcases h with ⟨_, rfl⟩ | ⟨_, rfl⟩ | ⟨_, rfl⟩ <;> rfl
theorem Lst.news {n₀ : Nat} {w : World} {b off n m : Nat} (h : Lst n₀ w (some ⟨b, off, none⟩) n fo fn fm) (hm : m ≤ n) : ∀ j u, (lcl fo fn fm m)[j]? = some u → w.cell? ((⟨b, off, none⟩ : Addr).add j) = some u := by
  intro j u hu
  obtain ⟨q, hq, hc⟩ := lcl_cell hu
  obtain ⟨b', off', e, _, c0, c1, c2⟩ := h q (by omega)
  cases e
  rw [Addr.add_lit]
  rcases hc with ⟨rfl, rfl⟩ | ⟨rfl, rfl⟩ | ⟨rfl, rfl⟩
  · exact c0
  · exact c1
  · exact c2
end
theorem Ops.of {n₀ : Nat} {w : World} {a : Option Addr} {n m : Nat} {f g : Nat → Int} (h : Ops n₀ w a n f) (hm : m ≤ n) (he : ∀ j, j < m → f j = g j) : Ops n₀ w a m g := fun j hj => by
  obtain ⟨b, off, e, hb, hc⟩ := h j (by omega)
  exact ⟨b, off, e, hb, by rw [← he j hj]; exact hc⟩
end Go.Proofs.Ytglagdbkcigojaa
