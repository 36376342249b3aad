/-
  slices.Clone of a slice of numbers: the same numbers in new memory.
-/
import Derived.Test.YtglagdbkcigojaaDepth
namespace Go.Proofs.Ytglagdbkcigojaa
open Go.RowKit

/-- numbers in new memory -/
def Nw (B : Nat) (w : World) (v : Value) (l : List Nat) : Prop := ∃ a m c, v = .slice a m c ∧ m = l.length ∧ ∀ j, j < m → ∃ g, a = some ⟨g, 0, none⟩ ∧ B ≤ g ∧ g < w.heap.size ∧ w.cell? ⟨g, j, none⟩ = some (.int .i64 ((l.reverse.getD j 0 : Nat) : Int))
theorem own_nw {w : World} {B n : Nat} {v : Value} {l : List Nat} (h : w.ownsRow B 3 1 v n (ints l.reverse)) (hn : n = l.length) : Nw B w v l := by
  obtain ⟨a, c, rfl⟩ := own_slice h
  have hr := own_rd h hn rfl
  refine ⟨a, n, c, rfl, hn, fun j hj => ?_⟩
  obtain ⟨g, rfl, hc⟩ := hr.2.2 j hj
  obtain ⟨_, _, _, hb, _⟩ := own_some h (by omega)
  have := h.lt g rfl
  exact ⟨g, rfl, this.1, this.2, hc⟩
set_option maxHeartbeats 1000000 in
theorem clone_any (a : Option Addr) (m c : Nat) (l : List Nat) (w : World) (h : Rd w a m c l) (hm : m ≤ 1000) :
    Calls Try.prog 23 #[.slice a m c] w fun e w' => ∃ v, e = .returned v ∧ Nw w.heap.size w' v l ∧ Below w.heap.size w w' := by
  obtain ⟨i3, hi3, hz30, hz31, hz32⟩ := info_parts Try.info3
  have hnil : ∀ (ad : Addr) (w : World), (binOp .eql 32 (.slice (some ad) m c) (.slice none 0 0)).run Try.prog w = .ok (.bool false) w := fun ad w => by
    exact Lib.run_eql_slice_nil w 32 3 (some ad) m c 0 0 Try.underlying32
  have hnil0 : ∀ (w : World), (binOp .eql 32 (.slice none m c) (.slice none 0 0)).run Try.prog w = .ok (.bool true) w := fun w => by
    exact Lib.run_eql_slice_nil w 32 3 none m c 0 0 Try.underlying32
  cases a with
  | none =>
    have HR := hide h
    clear h
    go_enter Try.func23, Try.ntmps23
    go_wp2_with fail
    go_ret
    refine ⟨_, rfl, ⟨none, 0, 0, rfl, ?_, fun j hj => by omega⟩, Below.refl _ _⟩
    have h := HR.out
    rcases Nat.eq_zero_or_pos m with h0 | h0
    · rw [← h.1, h0]
    · obtain ⟨g, e, _⟩ := h.2.2 0 h0
      cases e
  | some ad =>
    have hnews : ∀ j u, (ints l.reverse)[j]? = some u → (w.alloc (.cells #[] 3)).cell? (ad.add j) = some u := by
      intro j u hu
      have hj : j < m := by
        have := (List.getElem?_eq_some_iff.1 hu).1
        rw [ints_len, List.length_reverse, ← h.1] at this
        exact this
      obtain ⟨g, e, hc⟩ := h.2.2 j hj
      cases e
      have hu' : u = .int .i64 ((l.reverse.getD j 0 : Nat) : Int) := by
        have hlt : j < l.reverse.length := by rw [List.length_reverse, ← h.1]; exact hj
        generalize l.reverse = q at hu hlt ⊢
        simp [ints, hlt] at hu
        simp [hlt, hu]
      subst hu'
      rw [Addr.add_lit, Nat.zero_add]
      exact ((bel_one w _).cell (p := ⟨g, j, none⟩) (World.block_lt_of_cell? w _ hc)).trans hc
    have hl1 : (ints l.reverse).length = m * 1 := by rw [ints_len, List.length_reverse, ← h.1, Nat.mul_one]
    have hone : ∀ u ∈ ints l.reverse, u.oneCell' = true := by
      intro u hu
      simp [ints] at hu
      obtain ⟨x, _, rfl⟩ := hu
      rfl
    have hown0 : (w.alloc (.cells #[] 3)).ownsRow w.heap.size 3 1 (.slice (some ⟨w.heap.size, 0, none⟩) 0 0) 0 [] := World.ownsRow_made w #[] 0 (Nat.le_refl _) (Nat.zero_le _) rfl
    have HM := hide h.1
    clear h
    go_enter Try.func23, Try.ntmps23
    go_wp2_with (at_builtin; refine wpList_append_own _ rfl (.tmp 5) (.tmp 6) 32 rfl w.heap.size 3 i3 (.int .i64 0) 1 8 Try.underlying32 hi3 hz30 hz31 hz32 rfl (by decide) _ _ _ rfl hown0 ad m c (ints l.reverse) rfl hl1 hnews hone (by unfold maxLen; omega) (by omega) (by simp) ?_)
    intro v' w1 own1 grow1 _
    have N1 : Hid (Nw w.heap.size w1 v' l) := hide (own_nw own1 HM.out)
    have L1 := hide ((bel_one w (.cells #[] 3)).grown grow1 (by simp) (fun k hk => by cases hk; exact Nat.le_refl _))
    clear own1 grow1 hnews hone hown0
    go_wp2_with fail
    go_ret
    exact ⟨_, rfl, N1.out, L1.out⟩
end Go.Proofs.Ytglagdbkcigojaa
