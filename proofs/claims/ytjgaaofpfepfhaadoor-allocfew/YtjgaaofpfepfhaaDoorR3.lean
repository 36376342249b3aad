/-
  The document's Uses: plain; a row that grows by a part of another one.
-/
import Derived.Test.YtjgaaofpfepfhaaDoorR1
import Derived.Test.YtjgaaofpfepfhaaDoorAsc
import Derived.Sort.OwnSortedInts
import Derived.Laws.AppendOwnNone
namespace Go.Proofs.YtjgaaofpfepfhaaDoor
open Go.RowKit Go.Sort
set_option linter.unusedSimpArgs false
set_option linter.unusedVariables false
/-- What it reads, as the document lists it. -/
def rav (x : Ir) : List Int :=
  if x.op = 15 then (if 0 ≤ x.a then [x.a] else [])
  else if x.op = 4 then [x.a, x.b, x.c]
  else if x.op = 3 ∨ x.op = 6 then [x.a, x.b]
  else if x.op = 2 ∨ x.op = 8 ∨ x.op = 11 ∨ x.op = 12 ∨ x.op = 13 ∨ x.op = 5 then [x.a]
  else []
theorem rav_mem (x : Ir) (y : Int) : y ∈ rav x ↔ y ∈ raw x := by
  unfold rav raw
  split
  · exact Iff.rfl
  · split
    · simp only [List.mem_cons, List.not_mem_nil, or_false]; omega
    · split
      · simp only [List.mem_cons, List.not_mem_nil, or_false]; omega
      · exact Iff.rfl
theorem rav_us (x : Ir) : sc (rav x) = us x := asc_uniq (sc_asc _) (show (us x).Pairwise (· < ·) from sc_asc _) fun y => by rw [sc_mem, us_mem, rav_mem]
theorem rav_len (x : Ir) : (rav x).length ≤ 3 := by
  unfold rav
  repeat' split
  all_goals simp
section
variable {ls : List Int} {i k : Nat}
theorem take_mem (hi : i < ls.length) (y : Int) : y ∈ ls.take (i + 1) ↔ y ∈ ls.take i ∨ y = ls[i] := by
  rw [List.take_add_one, List.getElem?_eq_getElem hi, List.mem_append]
  simp only [Option.toList_some, List.mem_singleton]
theorem ins_is (hi : i < ls.length) (A : ∀ j (hj : j < (sc (ls.take i)).length), k ≤ j → ls[i] < (sc (ls.take i))[j]) (B : ∀ j (hj : j < (sc (ls.take i)).length), j < k → (sc (ls.take i))[j] < ls[i]) :
    sc (ls.take (i + 1)) = (sc (ls.take i)).take k ++ ([ls[i]] ++ (sc (ls.take i)).drop k) := by
  have hs := sc_asc (ls.take i)
  have hm := fun y => sc_mem (ls.take i) y
  generalize sc (ls.take i) = L at *
  refine sc_is ?_ fun y => ?_
  · rw [List.pairwise_append, List.pairwise_append]
    refine ⟨hs.sublist (List.take_sublist _ _), ⟨by simp, hs.sublist (List.drop_sublist _ _), ?_⟩, ?_⟩
    · intro a ha b hb
      rw [List.mem_singleton] at ha
      subst ha
      obtain ⟨j, hj, rfl⟩ := List.mem_iff_getElem.1 hb
      rw [List.getElem_drop]
      exact A _ _ (by omega)
    · intro a ha b hb
      obtain ⟨j, hj, rfl⟩ := List.mem_iff_getElem.1 ha
      rw [List.length_take] at hj
      have h1 : L[j]'(by omega) < ls[i] := B j (by omega) (by omega)
      rw [List.getElem_take]
      rw [List.mem_append, List.mem_singleton] at hb
      rcases hb with rfl | hb
      · exact h1
      · obtain ⟨q, hq, rfl⟩ := List.mem_iff_getElem.1 hb
        rw [List.getElem_drop]
        rw [List.length_drop] at hq
        have := A (k + q) (by omega) (by omega)
        omega
  · rw [take_mem hi, ← hm y]
    conv => lhs; rw [← List.take_append_drop k L]
    simp only [List.mem_append, List.mem_singleton]
    constructor
    · rintro ((h | h) | h)
      · exact Or.inl h
      · exact Or.inr (Or.inr h)
      · exact Or.inr (Or.inl h)
    · rintro (h | h | h)
      · exact Or.inl (Or.inl h)
      · exact Or.inr h
      · exact Or.inl (Or.inr h)
theorem ins_same (hi : i < ls.length) (h : ls[i] ∈ sc (ls.take i)) : sc (ls.take (i + 1)) = sc (ls.take i) := by
  rw [sc_mem] at h
  refine asc_uniq (sc_asc _) (sc_asc _) fun y => ?_
  rw [sc_mem, sc_mem, take_mem hi]
  constructor
  · rintro (h' | rfl)
    · exact h'
    · exact h
  · exact Or.inl
end
theorem NR.down {B B' : Nat} {v : Value} {ns : List Int} {w : World} (h : NR B v ns w) (k : B' ≤ B) : NR B' v ns w := by
  refine ⟨h.1, ?_⟩
  rcases h.2 with h' | ⟨g, cap, cur, e, h1, h2⟩
  · exact Or.inl h'
  · exact Or.inr ⟨g, cap, cur, e, Nat.le_trans k h1, h2⟩
theorem NR.two {B : Nat} {v : Value} {ns : List Int} {w : World} (h : NR B v ns w) : (ns = [] ∧ v = .slice none 0 0) ∨ ∃ g c, v = .slice (some ⟨g, 0, none⟩) ns.length c ∧ B ≤ g ∧ g < w.heap.size ∧ ns.length ≤ c ∧ ∀ j (hj : j < ns.length), w.cell? ⟨g, j, none⟩ = some (.int .i64 ns[j]) := by
  rcases h.2 with ⟨rfl, e⟩ | ⟨g, cap, cur, rfl, hbase, hb, h1, h2, h3, h4⟩
  · exact Or.inl ⟨List.length_eq_zero_iff.1 e, rfl⟩
  · have hH := holds_of_blockI (ss := ns) hb (by simpa using h4)
    refine Or.inr ⟨g, cap, rfl, hbase, (Array.getElem?_eq_some_iff.1 hb).1, h1, fun j hj => ?_⟩
    have := (hH j (by simpa using hj)).1
    simpa [hj] using this
/-- More cells behind. -/
theorem AI.more {W U w3 : World} {v v' : Value} {ns ms : List Int} {k m : Nat} (h : AI W v ns U) (hk : ns.length = k) (hm : ms.length = m) (ho : w3.ownsRow W.heap.size 3 1 v' (k + m) (ns.map (Value.int .i64) ++ ms.map (Value.int .i64))) (hg : U.grownBy w3 v.ownBlock) : AI W v' (ns ++ ms) w3 := by
  have hn := h.n
  refine ⟨?_, h.b.trans (own_bel hn h.b.size hg)⟩
  unfold NR
  rw [List.length_append, List.map_append, hk, hm]; exact ho
theorem AI.own0 {W U : World} {v : Value} {ns : List Int} {k : Nat} (h : AI W v ns U) (hk : ns.length = k) : U.ownsRow W.heap.size 3 1 v k (ns.map (Value.int .i64)) := by
  have := h.n
  unfold NR at this
  rw [hk] at this; exact this
theorem int_cell (ms : List Int) : ∀ u ∈ ms.map (Value.int .i64), u.oneCell' = true := by
  intro u h
  obtain ⟨x, _, rfl⟩ := List.mem_map.1 h
  rfl
theorem reads_at {g o : Nat} {ms : List Int} {U : World} (h : ∀ j (hj : j < ms.length), U.cell? ⟨g, o + j, none⟩ = some (.int .i64 ms[j])) : ∀ j u, (ms.map (Value.int .i64))[j]? = some u → U.cell? ((⟨g, o, none⟩ : Addr).add j) = some u := by
  intro j u hu
  rw [List.getElem?_map] at hu
  have hj : j < ms.length := by
    rcases Nat.lt_or_ge j ms.length with h' | h'
    · exact h'
    · rw [List.getElem?_eq_none h'] at hu; cases hu
  rw [List.getElem?_eq_getElem hj] at hu
  simp at hu
  subst hu
  have e : (⟨g, o, none⟩ : Addr).add j = ⟨g, o + j, none⟩ := by unfold Addr.add; split <;> simp_all
  rw [e]; exact h j hj
end Go.Proofs.YtjgaaofpfepfhaaDoor
