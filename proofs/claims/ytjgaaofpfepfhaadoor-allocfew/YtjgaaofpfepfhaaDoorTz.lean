/-
  The library's TrailingZeros64; the lowest cell of a set.
-/
import Derived.Test.YtjgaaofpfepfhaaDoorCpl
import Derived.Test.YtjgaaofpfepfhaaDoorLeaf
import Derived.Test.YtjgaaofpfepfhaaDoorRowz
namespace Go.Proofs.YtjgaaofpfepfhaaDoor
open Go.RowKit
set_option linter.unusedSimpArgs false
set_option linter.unusedVariables false
/-- The lowest bit. -/
def Low (s i : Nat) : Prop := s.testBit i = true ∧ ∀ j, j < i → s.testBit j = false
theorem low_is {s : Nat} (h : s ≠ 0) : ∃ i, Low s i := by
  have hex : ∃ i, s.testBit i = true := by
    refine Classical.byContradiction fun hn => h (Nat.eq_of_testBit_eq fun i => ?_)
    rw [Nat.zero_testBit]
    cases e : s.testBit i
    · rfl
    · exact absurd ⟨i, e⟩ hn
  obtain ⟨n, hn⟩ := hex
  induction n using Nat.strongRecOn with
  | ind n ih =>
    by_cases k : ∃ j, j < n ∧ s.testBit j = true
    · obtain ⟨j, hj, e⟩ := k; exact ih j hj e
    · refine ⟨n, hn, fun j hj => ?_⟩
      cases e : s.testBit j
      · rfl
      · exact absurd ⟨j, hj, e⟩ k
/-- A set by its lowest bit. -/
theorem low_form {s i : Nat} (h : Low s i) : ∃ m, s = 2 ^ (i + 1) * m + 2 ^ i := by
  refine ⟨s / 2 ^ (i + 1), ?_⟩
  have h1 := Nat.div_add_mod s (2 ^ (i + 1))
  have h2 : s % 2 ^ (i + 1) = 2 ^ i := by
    refine Nat.eq_of_testBit_eq fun j => ?_
    rw [Nat.testBit_mod_two_pow, Nat.testBit_two_pow]
    rcases Nat.lt_trichotomy j i with e | e | e
    · rw [h.2 j e]; simp; omega
    · subst e; rw [h.1]; simp
    · have : ¬ j < i + 1 := by omega
      simp [this]; omega
  omega
theorem pred_bit {s i : Nat} (h : Low s i) (j : Nat) : (s - 1).testBit j = if j < i then true else if j = i then false else s.testBit j := by
  obtain ⟨m, hm⟩ := low_form h
  have hp : 0 < 2 ^ i := Nat.pos_of_ne_zero (by simp)
  have hlt : 2 ^ i < 2 ^ (i + 1) := Nat.pow_lt_pow_right (by omega) (by omega)
  have e1 : s - 1 = 2 ^ (i + 1) * m + (2 ^ i - 1) := by omega
  rw [e1, Nat.testBit_two_pow_mul_add _ (by omega), hm, Nat.testBit_two_pow_mul_add _ hlt, Nat.testBit_two_pow_sub_one, Nat.testBit_two_pow]
  rcases Nat.lt_trichotomy j i with e | e | e
  · have : j < i + 1 := by omega
    simp [e, this]
  · subst e; simp
  · have a1 : ¬ j < i + 1 := by omega
    have a2 : ¬ j < i := by omega
    have a3 : ¬ j = i := by omega
    simp [a1, a2, a3]
/-- Without its lowest one. -/
theorem and_pred {s i : Nat} (h : Low s i) (j : Nat) : (s &&& (s - 1)).testBit j = (s.testBit j && decide (j ≠ i)) := by
  rw [Nat.testBit_and, pred_bit h]
  rcases Nat.lt_trichotomy j i with e | e | e
  · rw [h.2 j e]; simp
  · subst e; simp
  · have a2 : ¬ j < i := by omega
    have a3 : ¬ j = i := by omega
    simp [a2, a3]
theorem lim_u {s : Nat} (h : s < lim) : IntKind.u64.wrap (s : Int) = (s : Int) := by
  unfold lim at h
  simp [IntKind.wrap, IntKind.signed, IntKind.bits]
  omega
/-- The library's table. -/
def tbl : List Nat := [0, 1, 56, 2, 57, 49, 28, 3, 61, 58, 42, 50, 38, 29, 17, 4, 62, 47, 59, 36, 45, 43, 51, 22, 53, 39, 33, 30, 24, 18, 12, 5, 63, 55, 48, 27, 60, 41, 37, 16, 46, 35, 44, 21, 52, 32, 23, 11, 54, 26, 40, 15, 34, 20, 31, 10, 25, 14, 19, 9, 13, 8, 7, 6]
def idx (i : Nat) : Nat := (2 ^ i * 285870213051353865 % 18446744073709551616) / 288230376151711744
set_option maxRecDepth 100000 in
theorem tbl_idx : ∀ i, i < 60 → idx i < 64 ∧ tbl.getD (idx i) 0 = i := by decide
/-- The table lies where it was laid. -/
def Laid (W : World) : Prop := ∀ k, k < 64 → W.cell? ⟨0, k, none⟩ = some (.int .u8 ((tbl.getD k 0 : Nat) : Int))
theorem Laid.kept {W W' : World} {n : Nat} (h : Laid W) (k : Below n W W') (hn : 0 < n) : Laid W' := fun j hj => (k.cell (p := ⟨0, j, none⟩) hn).trans (h j hj)
theorem Laid.bt {X : Nat → Prop} {W W' : World} (h : Laid W) (k : Bt X W W') (hn : 0 < W.heap.size) (hx : ¬ X 0) : Laid W' := fun j hj => (k.cell hn hx j).trans (h j hj)
theorem low_lt {s i : Nat} (hs : s < lim) (h : Low s i) : i < 60 := by
  rcases Nat.lt_or_ge i 60 with e | e
  · exact e
  · have : s.testBit i = false := Nat.testBit_lt_two_pow (Nat.lt_of_lt_of_le hs (by rw [lim_is]; exact Nat.pow_le_pow_right (by omega) e))
    rw [h.1] at this; cases this
theorem low_pos {s i : Nat} (h : Low s i) : 0 < s := by
  rcases Nat.eq_zero_or_pos s with e | e
  · have := h.1; rw [e, Nat.zero_testBit] at this; cases this
  · exact e
theorem low_neg {s i : Nat} (hs : s < lim) (h : Low s i) : bits .and .u64 (s : Int) (IntKind.u64.wrap (-(s : Int))) = ((2 ^ i : Nat) : Int) := by
  have hp := low_pos h
  have hi := low_lt hs h
  have hl : s < 18446744073709551616 := by unfold lim at hs; omega
  have e1 : IntKind.u64.wrap (-(s : Int)) = ((18446744073709551616 - s : Nat) : Int) := by
    simp [IntKind.wrap, IntKind.signed, IntKind.bits]
    omega
  rw [e1]
  show IntKind.u64.wrap ((BitVec.ofInt 64 (s : Int) &&& BitVec.ofInt 64 ((18446744073709551616 - s : Nat) : Int)).toNat : Int) = _
  rw [ofInt_lim, ofInt_lim, BitVec.toNat_and, BitVec.toNat_ofNat, BitVec.toNat_ofNat, Nat.mod_eq_of_lt (by omega), Nat.mod_eq_of_lt (by omega)]
  have e2 : s &&& (18446744073709551616 - s) = 2 ^ i := by
    refine Nat.eq_of_testBit_eq fun j => ?_
    have e3 : (18446744073709551616 - s : Nat) = 2 ^ 64 - ((s - 1) + 1) := by
      have : (2 : Nat) ^ 64 = 18446744073709551616 := by decide
      omega
    rw [Nat.testBit_and, e3, Nat.testBit_two_pow_sub_succ (by have : (2 : Nat) ^ 64 = 18446744073709551616 := by decide
                                                              omega), pred_bit h, Nat.testBit_two_pow]
    rcases Nat.lt_trichotomy j i with e | e | e
    · rw [h.2 j e]; simp; omega
    · subst e
      have : j < 64 := by omega
      rw [h.1]; simp [this]
    · have a2 : ¬ j < i := by omega
      have a3 : ¬ j = i := by omega
      have a4 : ¬ i = j := by omega
      simp only [a2, a3, a4, if_false, decide_false]
      cases s.testBit j <;> simp
  rw [e2]
  have : (2 : Nat) ^ i < lim := by rw [lim_is]; exact Nat.pow_lt_pow_right (by omega) hi
  exact lim_u this
theorem idx_is (i : Nat) : IntKind.u64.wrap (((2 ^ i : Nat) : Int) * 285870213051353865) / 288230376151711744 = ((idx i : Nat) : Int) := by
  have e : ((2 ^ i : Nat) : Int) * 285870213051353865 = ((2 ^ i * 285870213051353865 : Nat) : Int) := by omega
  unfold idx
  rw [e]
  generalize 2 ^ i * 285870213051353865 = z
  simp [IntKind.wrap, IntKind.signed, IntKind.bits]
theorem tz_core (s z v : Int) (i k : Nat) (w : World) (hb : (s == 0) = false) (h0 : ¬ s = 0) (hneg : bits .and .u64 s (IntKind.u64.wrap (-s)) = z) (hmul : IntKind.u64.wrap (z * 285870213051353865) = v) (hidx : v / 288230376151711744 = (k : Int))
    (hx : w.cell? ⟨0, k, none⟩ = some (.int .u8 (i : Int))) (g1 : (0 : Int) ≤ (k : Int)) (g2 : (k : Int) < 64) (hi : i < 60) : Calls Tryd.prog 43 #[.int .u64 s] w fun e w' => e = .returned (.int .i64 (i : Int)) ∧ w' = w := by
  go_enter Tryd.func43, Tryd.ntmps43
  go_wp2_with fail
  go_ret
  exact ⟨rfl, rfl⟩
theorem tz_any (s i : Nat) (w : World) (hs : s < lim) (hl : Low s i) (hT : Laid w) : Calls Tryd.prog 43 #[.int .u64 (s : Int)] w fun e w' => e = .returned (.int .i64 (i : Int)) ∧ w' = w := by
  have hp := low_pos hl
  have hi := low_lt hs hl
  have h0 : ¬ (s : Int) = 0 := by omega
  obtain ⟨t1, t2⟩ := tbl_idx i hi
  have hx := hT (idx i) t1
  rw [t2] at hx
  exact tz_core (s : Int) _ _ i (idx i) w (by simpa using h0) h0 (low_neg hs hl) rfl (idx_is i) hx (by omega) (by omega) hi
end Go.Proofs.YtjgaaofpfepfhaaDoor
