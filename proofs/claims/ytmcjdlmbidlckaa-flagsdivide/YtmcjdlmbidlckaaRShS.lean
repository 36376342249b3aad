/-
  Plain facts (no program): one step of the document's Shift, by kind.
-/
import Derived.Test.YtmcjdlmbidlckaaRShP
namespace Go.Proofs.Ytmcjdlmbidlckaa
open Go.RowKit

theorem t31 : (2 : Nat) ^ (wd false - 1) = 2147483648 := by decide
theorem t63 : (2 : Nat) ^ (wd true - 1) = 9223372036854775808 := by decide
theorem p32 : (2 : Nat) ^ wd false = 4294967296 := by decide
theorem p64 : (2 : Nat) ^ wd true = 18446744073709551616 := by decide
theorem val_n (B : Nat) (h : B < 4294967296) : val false B = (B : Int) := by unfold val; rewrite [M_no]; omega
theorem tp_n (B P : Nat) (u : Int) (hu : u = (B : Int)) (h : B < 4294967296) (e : P = 2147483648) : tp false u = true ↔ P ≤ B := by
  simp only [tp, sn_no, decide_eq_true_iff, wrap32]; omega
theorem tp_w (B P : Nat) (u b : Int) (hb : b = (B : Int)) (hu : u = wrap64 b) (h : B < 18446744073709551616) (e : P = 9223372036854775808) : tp true u = true ↔ P ≤ B := by
  simp only [wrap64] at hu
  show decide (u < 0) = true ↔ _
  rewrite [decide_eq_true_iff]; omega
theorem tp_val (wide : Bool) (B : Nat) (h : B < 2 ^ wd wide) : tp wide (val wide B) = true ↔ 2 ^ (wd wide - 1) ≤ B := by
  cases wide
  · exact tp_n B _ _ (val_n B (p32 ▸ h)) (p32 ▸ h) t31
  · exact tp_w B _ _ _ rfl (val_yes B) (p64 ▸ h) t63
theorem dbl (B p : Nat) (h : B < 2 * p) : B % p * 2 + B / p = if B < p then B * 2 else (B - p) * 2 + 1 := by
  split
  · rename_i h1
    rw [Nat.mod_eq_of_lt h1, Nat.div_eq_of_lt h1, Nat.add_zero]
  · rename_i h1
    have e : B / p = 1 := by apply Nat.div_eq_of_lt_le <;> omega
    have e2 : B % p = B - p := by rw [Nat.mod_eq_sub_mod (by omega), Nat.mod_eq_of_lt (by omega)]
    rw [e, e2]
theorem dbl_no (B P : Nat) (ht : ¬ P ≤ B) : B % P * 2 + B / P = B * 2 := by
  rw [dbl B P (by omega)]; exact if_pos (by omega)
theorem dbl_yes (B P : Nat) (h : B < 2 * P) (ht : P ≤ B) : B % P * 2 + B / P = (B - P) * 2 + 1 := by
  rw [dbl B P h]; exact if_neg (by omega)
theorem tr_i64s (wide : Bool) (x : Int) : I64 (tr wide (wrap64 x)) := M_i64 wide x
theorem rol_nn (u : Int) (h0 : 0 ≤ u) (h : u < 2147483648) : tr false (wrap64 (u * 2)) = u * 2 := by
  simp only [tr_no, wrap64]; omega
theorem rol_nw (u b : Int) (hu : u = wrap64 b) (_h0 : 0 ≤ b) (_h : b < 9223372036854775808) : tr true (wrap64 (u * 2)) = wrap64 (b * 2) := by
  simp only [wrap64] at hu
  simp only [tr_yes, wrap64]; omega
theorem rol_yn (u : Int) (h0 : 2147483648 ≤ u) (h : u < 4294967296) : bits .or .i64 (tr false (wrap64 (u * 2))) 1 = (u - 2147483648) * 2 + 1 := by
  have e3 : tr false (wrap64 (u * 2)) % 2 = 0 := by simp only [tr_no, wrap64]; omega
  rewrite [or_one _ (tr_i64s false _) e3]
  simp only [tr_no, wrap64]; omega
theorem rol_yw (u b : Int) (hu : u = wrap64 b) (_h0 : 9223372036854775808 ≤ b) (_h : b < 18446744073709551616) : bits .or .i64 (tr true (wrap64 (u * 2))) 1 = wrap64 ((b - 9223372036854775808) * 2 + 1) := by
  simp only [wrap64] at hu
  have e3 : tr true (wrap64 (u * 2)) % 2 = 0 := by simp only [tr_yes, wrap64]; omega
  rewrite [or_one _ (tr_i64s true _) e3]
  simp only [tr_yes, wrap64]; omega
theorem rol_no (wide : Bool) (B : Nat) (h : B < 2 ^ wd wide) (ht : ¬ 2 ^ (wd wide - 1) ≤ B) :
    tr wide (wrap64 (val wide B * 2)) = val wide (B % 2 ^ (wd wide - 1) * 2 + B / 2 ^ (wd wide - 1)) := by
  rewrite [dbl_no B _ ht]
  cases wide
  · have e := t31
    generalize (2 : Nat) ^ (wd false - 1) = P at ht e
    rewrite [val_n B (by omega), val_n (B * 2) (by omega), Int.natCast_mul]
    exact rol_nn _ (by omega) (by omega)
  · have e := t63
    generalize (2 : Nat) ^ (wd true - 1) = P at ht e
    rewrite [val_yes (B * 2), Int.natCast_mul]
    exact rol_nw _ _ (val_yes B) (by omega) (by omega)
theorem rol_yes (wide : Bool) (B : Nat) (h : B < 2 ^ wd wide) (ht : 2 ^ (wd wide - 1) ≤ B) :
    bits .or .i64 (tr wide (wrap64 (val wide B * 2))) 1 = val wide (B % 2 ^ (wd wide - 1) * 2 + B / 2 ^ (wd wide - 1)) := by
  have e0 : (2 : Nat) ^ wd wide = 2 * 2 ^ (wd wide - 1) := by cases wide <;> decide
  rewrite [dbl_yes B _ (e0 ▸ h) ht]
  cases wide
  · have e := t31
    have h := p32 ▸ h
    generalize (2 : Nat) ^ (wd false - 1) = P at ht e ⊢
    rewrite [val_n B h, val_n ((B - P) * 2 + 1) (by omega)]
    refine (rol_yn _ (by omega) (by omega)).trans ?_
    omega
  · have e := t63
    have h := p64 ▸ h
    generalize (2 : Nat) ^ (wd true - 1) = P at ht e ⊢
    rewrite [val_yes ((B - P) * 2 + 1)]
    refine (rol_yw _ _ (val_yes B) (by omega) (by omega)).trans ?_
    congr 1; omega
theorem shr_n (u : Int) (h0 : 0 ≤ u) (h : u < 4294967296) : wrap64 (un u / 2) = u / 2 := by simp only [un, wrap64]; omega
theorem shr_w (u b : Int) (hu : u = wrap64 b) (h0 : 0 ≤ b) (h : b < 18446744073709551616) : wrap64 (un u / 2) = wrap64 (b / 2) := by
  simp only [wrap64] at hu; simp only [un, wrap64]; omega
theorem shr_val (wide : Bool) (B : Nat) (h : B < 2 ^ wd wide) : wrap64 (un (val wide B) / 2) = val wide (B / 2) := by
  cases wide
  · have h := p32 ▸ h
    rewrite [val_n B h, val_n (B / 2) (by omega)]
    refine (shr_n _ (by omega) (by omega)).trans ?_
    omega
  · have h := p64 ▸ h
    rewrite [val_yes (B / 2)]
    refine (shr_w _ _ (val_yes B) (by omega) (by omega)).trans ?_
    congr 1
theorem low_val (wide : Bool) (B : Nat) (h : B < 2 ^ wd wide) : (bits .and .i64 (val wide B) 1 == 1) = true ↔ B % 2 = 1 := by
  rewrite [and1, beq_iff_eq]
  cases wide
  · have h := p32 ▸ h
    have e := val_n B h
    generalize val false B = u at e
    omega
  · have h := p64 ▸ h
    have e := val_yes B
    generalize val true B = u at e
    generalize hb : (B : Int) = b at e
    simp only [wrap64] at e; omega
theorem ror_no (wide : Bool) (B : Nat) (h : B < 2 ^ wd wide) (hl : ¬ B % 2 = 1) : wrap64 (un (val wide B) / 2) = val wide (B / 2 + B % 2 * 2 ^ (wd wide - 1)) := by
  rewrite [shr_val wide B h, show B % 2 = 0 by omega, Nat.zero_mul, Nat.add_zero]; rfl
theorem ror_low (B : Nat) (h : B < 2 ^ wd false) (hl : B % 2 = 1) : bits .or .i64 (wrap64 (un (val false B) / 2)) 2147483648 = val false (B / 2 + B % 2 * 2 ^ (wd false - 1)) := by
  have h2 := p32 ▸ h
  have e := t31
  rewrite [shr_val false B h, hl, Nat.one_mul]
  generalize (2 : Nat) ^ (wd false - 1) = P at e
  rewrite [val_n (B / 2) (by omega), val_n (B / 2 + P) (by omega)]
  refine (or_top_no _ (by omega) (by omega)).trans ?_
  omega
theorem top_w (b z : Int) (h0 : 0 ≤ b) (h : b < 9223372036854775808) (hz : z = b + 9223372036854775808) : bits .or .i64 (wrap64 b) (-9223372036854775808) = wrap64 z := by
  have e : wrap64 b = b := by simp only [wrap64]; omega
  rewrite [e, or_top_yes b h0 h, hz]; simp only [wrap64]; omega
theorem ror_wide (B : Nat) (h : B < 2 ^ wd true) (hl : B % 2 = 1) : bits .or .i64 (wrap64 (un (val true B) / 2)) (-9223372036854775808) = val true (B / 2 + B % 2 * 2 ^ (wd true - 1)) := by
  have h2 := p64 ▸ h
  have e := t63
  rewrite [shr_val true B h, hl, Nat.one_mul]
  generalize (2 : Nat) ^ (wd true - 1) = P at e
  rewrite [val_yes (B / 2), val_yes (B / 2 + P)]
  exact top_w _ _ (by omega) (by omega) (by omega)

theorem A_back (wide : Bool) (X : Int) (hX : Wd wide X) : M wide ((R wide X : Nat) : Int) = X := by rw [M_R, M_wd wide X hX]
theorem sR_start (k : Int) (hk : sK k = true) (wide : Bool) (X : Int) (hX : Wd wide X) : sR k wide X 0 = X := by
  have hl := R_lt wide X
  simp only [sK, Bool.or_eq_true, beq_iff_eq] at hk
  rcases hk with (((rfl | rfl) | rfl) | rfl) | rfl
  · rw [sR_0, turn_zero _ _ hl]; exact A_back wide X hX
  · rw [sR_1, Nat.sub_zero, turn_all]; exact A_back wide X hX
  · rw [sR_4, Int.pow_zero, Int.mul_one]; exact M_wd wide X hX
  · rw [sR_5, Int.pow_zero, Int.ediv_one, un_R wide X hX]; exact A_back wide X hX
  · rw [sR_7, Int.pow_zero, Int.ediv_one]
    refine (M_eq wide _ X ?_).trans (M_wd wide X hX)
    cases wide
    · simp only [sn_no, md_no, wrap32]; omega
    · rw [sn_yes, Int.sub_self]; exact Int.dvd_zero _
section
variable (wide : Bool) (X : Int) (j : Nat)
theorem st0_bit (hj : j < wd wide) : tp wide (sR 0 wide X j) = true ↔ 2 ^ (wd wide - 1) ≤ turn (wd wide) (R wide X) j := by
  rw [sR_0]; exact tp_val wide _ (turn_lt _ _ _ (Nat.le_of_lt hj) (R_lt wide X))
theorem st0_no (hj : j < wd wide) (ht : tp wide (sR 0 wide X j) = false) : tr wide (wrap64 (sR 0 wide X j * 2)) = sR 0 wide X (j + 1) := by
  have hl := turn_lt _ _ _ (Nat.le_of_lt hj) (R_lt wide X)
  have ht := mt (st0_bit wide X j hj).mpr (by rw [ht]; decide)
  rw [sR_0, sR_0, turn_one _ _ _ hj (R_lt wide X)]; exact rol_no wide _ hl ht
theorem st0_yes (hj : j < wd wide) (ht : tp wide (sR 0 wide X j) = true) : bits .or .i64 (tr wide (wrap64 (sR 0 wide X j * 2))) 1 = sR 0 wide X (j + 1) := by
  have hl := turn_lt _ _ _ (Nat.le_of_lt hj) (R_lt wide X)
  have ht := (st0_bit wide X j hj).mp ht
  rw [sR_0, sR_0, turn_one _ _ _ hj (R_lt wide X)]; exact rol_yes wide _ hl ht
theorem st1_bit (_hj : j < wd wide) : (bits .and .i64 (sR 1 wide X j) 1 == 1) = true ↔ turn (wd wide) (R wide X) (wd wide - j) % 2 = 1 := by
  rw [sR_1]; exact low_val wide _ (turn_lt _ _ _ (Nat.sub_le _ _) (R_lt wide X))
theorem st1_no (hj : j < wd wide) (ht : (bits .and .i64 (sR 1 wide X j) 1 == 1) = false) : wrap64 (un (sR 1 wide X j) / 2) = sR 1 wide X (j + 1) := by
  have hl := turn_lt _ (R wide X) _ (Nat.sub_le (wd wide) j) (R_lt wide X)
  have ht := mt (st1_bit wide X j hj).mpr (by rw [ht]; decide)
  rw [sR_1, sR_1, turn_left _ _ _ hj (R_lt wide X)]; exact ror_no wide _ hl ht
theorem st4 : tr wide (wrap64 (sR 4 wide X j * 2)) = sR 4 wide X (j + 1) := by
  rw [sR_4, sR_4]
  show M wide _ = _
  apply M_eq
  have h := M_dvd wide (X * 2 ^ j)
  have e : M wide (X * 2 ^ j) * 2 - X * 2 ^ (j + 1) = -((X * 2 ^ j - M wide (X * 2 ^ j)) * 2) := by
    rw [Int.pow_succ, ← Int.mul_assoc]; omega
  rw [e]; exact (Int.dvd_neg).mpr (Int.dvd_mul_of_dvd_left h)
theorem st5 (hX : Wd wide X) : wrap64 (un (sR 5 wide X j) / 2) = sR 5 wide X (j + 1) := by
  have e : ∀ i : Nat, un X / 2 ^ i = ((R wide X / 2 ^ i : Nat) : Int) := fun i => by
    rw [un_R wide X hX, Int.natCast_ediv, Int.natCast_pow]; rfl
  rw [sR_5, sR_5, e, e, Nat.pow_succ, ← Nat.div_div_eq_div_mul]
  exact shr_val wide _ (Nat.lt_of_le_of_lt (Nat.div_le_self _ _) (R_lt wide X))
end
theorem st1_yn (X : Int) (j : Nat) (hj : j < wd false) (ht : (bits .and .i64 (sR 1 false X j) 1 == 1) = true) : bits .or .i64 (wrap64 (un (sR 1 false X j) / 2)) 2147483648 = sR 1 false X (j + 1) := by
  have hl := turn_lt _ (R false X) _ (Nat.sub_le (wd false) j) (R_lt false X)
  have ht := (st1_bit false X j hj).mp ht
  rw [sR_1, sR_1, turn_left _ _ _ hj (R_lt false X)]; exact ror_low _ hl ht
theorem st1_yw (X : Int) (j : Nat) (hj : j < wd true) (ht : (bits .and .i64 (sR 1 true X j) 1 == 1) = true) : bits .or .i64 (wrap64 (un (sR 1 true X j) / 2)) (-9223372036854775808) = sR 1 true X (j + 1) := by
  have hl := turn_lt _ (R true X) _ (Nat.sub_le (wd true) j) (R_lt true X)
  have ht := (st1_bit true X j hj).mp ht
  rw [sR_1, sR_1, turn_left _ _ _ hj (R_lt true X)]; exact ror_wide _ hl ht
theorem half (x : Int) (j : Nat) : x / 2 ^ (j + 1) = x / 2 ^ j / 2 := by
  rw [Int.pow_succ, Int.ediv_ediv_of_nonneg (Int.le_of_lt (Int.pow_pos (by decide)))]
theorem sn32 (x : Int) (j : Nat) : -2147483648 ≤ wrap32 x / 2 ^ j ∧ wrap32 x / 2 ^ j < 2147483648 := by
  have h : -2147483648 ≤ wrap32 x ∧ wrap32 x < 2147483648 := by simp only [wrap32]; omega
  have hp : (0 : Int) < 2 ^ j := Int.pow_pos (by decide)
  generalize wrap32 x = y at *
  constructor
  · apply Int.le_ediv_of_mul_le hp
    have h3 : (-2147483648 : Int) * 2 ^ j ≤ -2147483648 * 1 := Int.mul_le_mul_of_nonpos_left (by decide) hp
    omega
  · by_cases h0 : 0 ≤ y
    · exact Int.lt_of_le_of_lt (Int.ediv_le_self _ h0) h.2
    · exact Int.lt_trans (Int.ediv_neg_of_neg_of_pos (by omega) hp) (by decide)
theorem sar_n (s : Int) (h : -2147483648 ≤ s ∧ s < 2147483648) :
    tp false (M false s) = decide (s < 0) ∧ (¬ s < 0 → wrap64 (un (M false s) / 2) = M false (s / 2)) ∧ (s < 0 → bits .or .i64 (wrap64 (un (M false s) / 2)) 2147483648 = M false (s / 2)) := by
  refine ⟨?_, fun h0 => ?_, fun h0 => ?_⟩
  · simp only [tp, sn_no, M_no, wrap32]; congr 1; rw [eq_iff_iff]; omega
  · simp only [M_no, un, wrap64]; omega
  · rw [or_top_no _ (by simp only [M_no, un, wrap64]; omega) (by simp only [M_no, un, wrap64]; omega)]
    simp only [M_no, un, wrap64]; omega
theorem sar_w (s : Int) (h : I64 s) :
    tp true (M true s) = decide (s < 0) ∧ (¬ s < 0 → wrap64 (un (M true s) / 2) = M true (s / 2)) ∧ (s < 0 → bits .or .i64 (wrap64 (un (M true s) / 2)) (-9223372036854775808) = M true (s / 2)) := by
  obtain ⟨h1, h2⟩ := h
  refine ⟨?_, fun h0 => ?_, fun h0 => ?_⟩
  · rw [show tp true (M true s) = decide (M true s < 0) from rfl, M_yes]; simp only [wrap64]; congr 1; rw [eq_iff_iff]; omega
  · simp only [M_yes, un, wrap64]; omega
  · rw [or_top_yes _ (by simp only [M_yes, un, wrap64]; omega) (by simp only [M_yes, un, wrap64]; omega)]
    simp only [M_yes, un, wrap64]; omega
theorem st7_n (X : Int) (j : Nat) (b : Bool) (hb : tp false (sR 7 false X j) = b) :
    (b = false → wrap64 (un (sR 7 false X j) / 2) = sR 7 false X (j + 1)) ∧ (b = true → bits .or .i64 (wrap64 (un (sR 7 false X j) / 2)) 2147483648 = sR 7 false X (j + 1)) := by
  have h := sar_n (sn false X / 2 ^ j) (sn32 X j)
  rw [sR_7] at hb
  rw [sR_7, sR_7, half, ← hb, h.1]
  exact ⟨fun e => h.2.1 (of_decide_eq_false e), fun e => h.2.2 (of_decide_eq_true e)⟩
theorem st7_w (X : Int) (j : Nat) (b : Bool) (hX : I64 X) (hb : tp true (sR 7 true X j) = b) :
    (b = false → wrap64 (un (sR 7 true X j) / 2) = sR 7 true X (j + 1)) ∧ (b = true → bits .or .i64 (wrap64 (un (sR 7 true X j) / 2)) (-9223372036854775808) = sR 7 true X (j + 1)) := by
  have h := sar_w (sn true X / 2 ^ j) (ediv_i64 _ _ hX)
  rw [sR_7] at hb
  rw [sR_7, sR_7, half, ← hb, h.1]
  exact ⟨fun e => h.2.1 (of_decide_eq_false e), fun e => h.2.2 (of_decide_eq_true e)⟩
end Go.Proofs.Ytmcjdlmbidlckaa
