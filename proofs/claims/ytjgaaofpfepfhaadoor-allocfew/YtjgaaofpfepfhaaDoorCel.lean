/-
  The program's cells: those of a set, from the least on.
-/
import Derived.Test.YtjgaaofpfepfhaaDoorTz
import Derived.Test.YtjgaaofpfepfhaaDoorLab
namespace Go.Proofs.YtjgaaofpfepfhaaDoor
open Go.RowKit Go.Shelf Go.Maps
set_option linter.unusedSimpArgs false
set_option linter.unusedVariables false
/-- The cells of a set, in order. -/
def bitsL (s : Nat) : List Nat := (List.range 60).filter s.testBit
theorem bitsL_mem (s j : Nat) : j ∈ bitsL s ↔ j < 60 ∧ s.testBit j = true := by unfold bitsL; rw [List.mem_filter, List.mem_range]
theorem bitsL_asc (s : Nat) : (bitsL s).Pairwise (· < ·) := List.Pairwise.filter _ List.pairwise_lt_range
theorem ascn_uniq : ∀ {l m : List Nat}, l.Pairwise (· < ·) → m.Pairwise (· < ·) → (∀ y, y ∈ l ↔ y ∈ m) → l = m
  | [], [], _, _, _ => rfl
  | [], y :: m, _, _, h => absurd ((h y).2 (List.mem_cons_self ..)) (by simp)
  | x :: l, [], _, _, h => absurd ((h x).1 (List.mem_cons_self ..)) (by simp)
  | x :: l, y :: m, h1, h2, h => by
    rw [List.pairwise_cons] at h1 h2
    have hxy : x = y := by
      have hx := (h x).1 (List.mem_cons_self ..)
      have hy := (h y).2 (List.mem_cons_self ..)
      rw [List.mem_cons] at hx hy
      rcases hx with e | hx
      · exact e
      · rcases hy with e | hy
        · exact e.symm
        · have := h1.1 y hy; have := h2.1 x hx; omega
    subst hxy
    rw [ascn_uniq h1.2 h2.2 fun z => ?_]
    have hz := h z
    rw [List.mem_cons, List.mem_cons] at hz
    constructor
    · intro hm
      rcases hz.1 (Or.inr hm) with e | e
      · subst e; have := h1.1 z hm; omega
      · exact e
    · intro hm
      rcases hz.2 (Or.inr hm) with e | e
      · subst e; have := h2.1 z hm; omega
      · exact e
theorem bitsL_cons {r i : Nat} (hr : r < lim) (h : Low r i) : bitsL r = i :: bitsL (r &&& (r - 1)) := by
  refine ascn_uniq (bitsL_asc _) ?_ fun y => ?_
  · rw [List.pairwise_cons]
    refine ⟨fun y hy => ?_, bitsL_asc _⟩
    rw [bitsL_mem, and_pred h, Bool.and_eq_true, decide_eq_true_eq] at hy
    rcases Nat.lt_trichotomy y i with e | e | e
    · rw [h.2 y e] at hy; cases hy.2.1
    · exact absurd e hy.2.2
    · exact e
  · rw [List.mem_cons, bitsL_mem, bitsL_mem, and_pred h, Bool.and_eq_true, decide_eq_true_eq]
    constructor
    · rintro ⟨h1, h2⟩
      by_cases e : y = i
      · exact Or.inl e
      · exact Or.inr ⟨h1, h2, e⟩
    · rintro (rfl | ⟨h1, h2, _⟩)
      · exact ⟨low_lt hr h, h.1⟩
      · exact ⟨h1, h2⟩
theorem bitsL_zero : bitsL 0 = [] := by decide
/-- A cell of m. -/
abbrev Px (m : Nat) := { x : Nat // x < m }
def encN (m : Nat) (i : Px m) : Array Value := #[.int .i64 ((i.1 : Nat) : Int)]
def vls {m : Nat} (l : List (Px m)) : List Nat := l.map (·.1)
theorem vls_snoc {m : Nat} (l : List (Px m)) (x : Px m) : vls (l ++ [x]) = vls l ++ [x.1] := by simp [vls]
theorem and_u {a b : Nat} (ha : a < lim) (hb : b < lim) : bits .and .u64 (a : Int) (b : Int) = ((a &&& b : Nat) : Int) := by
  show IntKind.u64.wrap ((BitVec.ofInt 64 (a : Int) &&& BitVec.ofInt 64 (b : Int)).toNat : Int) = _
  rw [ofInt_lim, ofInt_lim, BitVec.toNat_and, toNat_lim ha, toNat_lim hb]
  exact lim_u (Nat.lt_of_le_of_lt Nat.and_le_left ha)
theorem Laid.kx {X : Nat → Prop} {n₀ : Nat} {W W' : World} (h : Laid W) (k : Kx X n₀ W W') (hn : 0 < n₀) (hx : ¬ X 0) : Laid W' := fun j hj => (k.cell hn hx j).trans (h j hj)
set_option maxRecDepth 100000 in
set_option maxHeartbeats 2000000 in
theorem cells1_in (n : Nat) (hn : 2 ≤ n) (X : Nat → Prop) (lp Bb n₀ : Nat) (s m : Nat) (hs : s < lim) (hsm : ∀ j, s.testBit j = true → j < m) (J Jx : List (Px m) → World → Prop)
    (hY : ∀ pre (x : Px m) W, J pre W → pre.length < (bitsL s).length → YieldAt Fence.wide (n - 1) Tryd.prog lp (encN m x) W fun e W' =>
      (e = .returned (.bool true) ∧ J (pre ++ [x]) W' ∧ Kx X n₀ W W') ∨ (e = .returned (.bool false) ∧ Jx (pre ++ [x]) W'))
    (W : World) (hB : Bb < n₀) (h0n : 0 < n₀) (hX0 : ¬ X 0) (hc : W.cell? ⟨Bb, 0, none⟩ = some (.int .i64 (s : Int))) (hT : Laid W) (h0 : J [] W) :
    CallsIn Fence.wide n Tryd.prog 42 #[.func (.yield lp) #[] #[], .pointer (some ⟨Bb, 0, none⟩)] W fun e W' => (∃ v, e = .returned v) ∧
      ((∃ ys, vls ys = bitsL s ∧ J ys W') ∨ (∃ pre, (∃ q, vls pre ++ q = bitsL s) ∧ Jx pre W')) := by
  have hu := lim_u hs
  refine callsIn_of_wp Tryd.func42 rfl trivial ?_ rfl
  simp only [Tryd.ntmps42, List.size_toArray, List.length_cons, List.length_nil, Nat.reduceAdd, Nat.reduceSub, Array.replicate_succ, Array.replicate_zero, List.push_toArray, List.append_toArray, List.nil_append, List.cons_append]
  gi_wp2
  gi_loopw [3] (fun i wr => ∃ (r : Nat) (pre : List (Px m)), i = .int .u64 (r : Int) ∧ r < lim ∧ vls pre ++ bitsL r = bitsL s ∧ J pre wr ∧ Kx X n₀ W wr)
    (fun i _ => (intOf i).toNat)
  case atStart => exact ⟨s, [], rfl, hs, rfl, h0, Kx.refl _ _ _⟩
  case round =>
    obtain ⟨r, pre, rfl, hr, hpre, hJs, hnx⟩ := hrel
    by_cases hz : r = 0
    · subst hz
      rw [bitsL_zero, List.append_nil] at hpre
      gi_wp2
      go_end0
      exact ⟨⟨_, rfl⟩, .inl ⟨_, hpre, hJs⟩⟩
    · obtain ⟨i, hl⟩ := low_is hz
      have hi := low_lt hr hl
      rw [bitsL_cons hr hl] at hpre
      have hlen : pre.length < (bitsL s).length := by rw [← hpre]; simp [vls]
      have him : i < m := hsm i (by
        have : i ∈ bitsL s := by rw [← hpre]; simp
        exact ((bitsL_mem s i).1 this).2)
      have hTr := hT.kx hnx h0n hX0
      obtain ⟨fn, tmps, assign, body, hy, hR⟩ := hY pre ⟨i, him⟩ wr hJs hlen
      have hR' := hR.mono (R' := fun e W' => ∃ b, e = .returned (.bool b) ∧ ((b = true ∧ J (pre ++ [⟨i, him⟩]) W' ∧ Kx X n₀ wr W') ∨ (b = false ∧ Jx (pre ++ [⟨i, him⟩]) W'))) (by
        rintro e W' (⟨rfl, h⟩ | ⟨rfl, h⟩)
        · exact ⟨true, rfl, .inl ⟨rfl, h⟩⟩
        · exact ⟨false, rfl, .inr ⟨rfl, h⟩⟩)
      unfold encN at hy
      have TZ := hide (tz_any r i wr hr hl hTr)
      have hp := low_pos hl
      have hr1 : r - 1 < lim := by omega
      have z0 : ¬ (r : Int) = 0 := by omega
      have zb : ((r : Int) != 0) = true := by rw [bne_iff_ne]; exact z0
      have hsub : IntKind.u64.wrap ((r : Int) - 1) = ((r - 1 : Nat) : Int) := by rw [show (r : Int) - 1 = ((r - 1 : Nat) : Int) by omega]; exact lim_u hr1
      have hand := and_u hr hr1
      have hle : r &&& (r - 1) ≤ r - 1 := Nat.and_le_right
      have hrl : r &&& (r - 1) < lim := by omega
      have hpre2 : vls (pre ++ [(⟨i, him⟩ : Px m)]) ++ bitsL (r &&& (r - 1)) = bitsL s := by rw [← hpre, vls_snoc]; simp
      clear hR
      generalize r &&& (r - 1) = r2 at *
      gi_wp2
      refine ⟨trivial, fun _ => by omega, (callsIn_wide.2 TZ.out).mono ?_⟩
      rintro e w' ⟨rfl, rfl⟩
      gi_wp2
      refine ⟨fun _ => by omega, hR'.mono ?_⟩
      rintro e W3 ⟨b, rfl, ⟨rfl, hJ3, hk3⟩ | ⟨rfl, hJx3⟩⟩
      · gi_wp2
        go_roundw
        case rel => exact ⟨r2, _, rfl, hrl, hpre2, hJ3, hnx.trans hk3⟩
        case measure => simp [intOf]; omega
      · gi_wp2
        refine bodyPost_ret (results_none rfl _ _ _) rfl ?_
        exact ⟨⟨_, rfl⟩, .inr ⟨_, ⟨_, hpre2⟩, hJx3⟩⟩
theorem cells_stops (n : Nat) (hn : 2 ≤ n) (X : Nat → Prop) (Bb n₀ : Nat) (s m : Nat) (hs : s < lim) (hsm : ∀ j, s.testBit j = true → j < m) (w : World) (hn₀ : n₀ ≤ w.heap.size) (hB : Bb < n₀) (h0n : 0 < n₀) (hX0 : ¬ X 0) (hc : w.cell? ⟨Bb, 0, none⟩ = some (.int .i64 (s : Int))) (hT : Laid w) :
    SeqStopsK Fence.wide n Tryd.prog 42 #[.pointer (some ⟨Bb, 0, none⟩)] (encN m) (Kx X n₀) (fun ys => vls ys = bitsL s) (fun pre => ∃ q, vls pre ++ q = bitsL s) (bitsL s).length w := fun lp J Jx W hW hJ _ hY h0 =>
  cells1_in n hn X lp Bb n₀ s m hs hsm J Jx hY W hB h0n hX0 (((hW.mono hn₀).cell (p := ⟨Bb, 0, none⟩) hB).trans hc) (hT.kept (hW.mono hn₀) h0n) h0
theorem cells_in (n : Nat) (s : Nat) (w : World) :
    CallsIn Fence.wide n Tryd.prog 23 #[.int .i64 (s : Int)] w fun e w' => e = .returned (.func (.func 42) #[] #[.pointer (some ⟨w.heap.size, 0, none⟩)]) ∧ w' = w.alloc (.cells #[.int .i64 (s : Int)] 3) := by
  refine callsIn_of_wp Tryd.func23 rfl trivial ?_ rfl
  simp only [Tryd.ntmps23, List.size_toArray, List.length_cons, List.length_nil, Nat.reduceAdd, Nat.reduceSub, Array.replicate_succ, Array.replicate_zero, List.push_toArray, List.append_toArray, List.nil_append, List.cons_append]
  gi_wp2
  go_ret
  exact ⟨rfl, rfl⟩
end Go.Proofs.YtjgaaofpfepfhaaDoor
