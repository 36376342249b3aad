/-
  Plain facts about the plain functions (no program): what is left of sums and products at a width; that each result is one of its width.
-/
import Derived.Test.YtfcdpjihhopfhaaOf
namespace Go.Proofs.Ytfcdpjihhopfhaa
open Go.RowKit

/-- how many values a width has -/
def md (wide : Bool) : Int := if wide then 18446744073709551616 else 4294967296
/-- the value of a width that a number is, modulo how many there are -/
def M (wide : Bool) (x : Int) : Int := tr wide (wrap64 x)

theorem md_no : md false = 4294967296 := rfl
theorem md_yes : md true = 18446744073709551616 := rfl
theorem M_no (x : Int) : M false x = x % 4294967296 := by
  simp only [M, tr, wrap64, Bool.false_eq_true, if_false]; omega
theorem M_yes (x : Int) : M true x = wrap64 x := by simp only [M, tr, if_true]

theorem M_dvd (wide : Bool) (x : Int) : md wide ∣ x - M wide x := by
  cases wide
  · rw [M_no, md_no]; omega
  · rw [M_yes, md_yes]; simp only [wrap64]; omega
theorem M_eq (wide : Bool) (x y : Int) (h : md wide ∣ x - y) : M wide x = M wide y := by
  cases wide
  · rw [md_no] at h; rw [M_no, M_no]; omega
  · rw [md_yes] at h; rw [M_yes, M_yes]; simp only [wrap64]; omega
theorem tr_M (wide : Bool) (x : Int) (h : I64 x) : tr wide x = M wide x := by
  obtain ⟨h1, h2⟩ := h
  have e : wrap64 x = x := by simp only [wrap64]; omega
  simp only [M, e]
theorem tr_dvd (wide : Bool) (x : Int) (h : I64 x) : md wide ∣ x - tr wide x := by rw [tr_M wide x h]; exact M_dvd wide x
theorem wd_M (wide : Bool) (x : Int) : Wd wide (M wide x) := by
  cases wide
  · rw [M_no]; simp only [Wd, Bool.false_eq_true, if_false]; omega
  · rw [M_yes]; simp only [Wd, if_true, wrap64]; exact ⟨by omega, by omega⟩
theorem M_wd (wide : Bool) (x : Int) (h : Wd wide x) : M wide x = x := by
  cases wide
  · simp only [Wd, Bool.false_eq_true, if_false] at h; rw [M_no]; omega
  · simp only [Wd, if_true] at h; obtain ⟨h1, h2⟩ := h; rw [M_yes]; simp only [wrap64]; omega
theorem tr_wd_id (wide : Bool) (x : Int) (h : Wd wide x) : tr wide x = x := by rw [tr_M wide x (wd_i64 h), M_wd wide x h]
theorem M_M (wide : Bool) (x : Int) : M wide (M wide x) = M wide x := M_wd wide _ (wd_M wide x)

theorem M_add (wide : Bool) (x y : Int) : M wide (M wide x + M wide y) = M wide (x + y) := by
  apply M_eq
  have h := Int.dvd_add (M_dvd wide x) (M_dvd wide y)
  have e : M wide x + M wide y - (x + y) = -(x - M wide x + (y - M wide y)) := by omega
  rw [e]; exact (Int.dvd_neg).mpr h
theorem M_sub (wide : Bool) (x y : Int) : M wide (M wide x - M wide y) = M wide (x - y) := by
  apply M_eq
  have h := Int.dvd_sub (M_dvd wide x) (M_dvd wide y)
  have e : M wide x - M wide y - (x - y) = -(x - M wide x - (y - M wide y)) := by omega
  rw [e]; exact (Int.dvd_neg).mpr h
theorem M_mul (wide : Bool) (x y : Int) : M wide (M wide x * M wide y) = M wide (x * y) := by
  apply M_eq
  have h1 : md wide ∣ (x - M wide x) * y := Int.dvd_mul_of_dvd_left (M_dvd wide x)
  have h2 : md wide ∣ M wide x * (y - M wide y) := Int.dvd_mul_of_dvd_right (M_dvd wide y)
  have h := Int.dvd_add h1 h2
  have e : M wide x * M wide y - x * y = -((x - M wide x) * y + M wide x * (y - M wide y)) := by
    rw [Int.sub_mul, Int.mul_sub]; omega
  rw [e]; exact (Int.dvd_neg).mpr h

theorem ee_add (wide : Bool) (a b : Int) (ha : I64 a) (hb : I64 b) : (ee 106 wide a b).1 = M wide (a + b) := by
  show tr wide (wrap64 (tr wide a + tr wide b)) = _
  rw [tr_M wide a ha, tr_M wide b hb]; exact M_add wide a b
theorem ee_sub (wide : Bool) (a b : Int) (ha : I64 a) (hb : I64 b) : (ee 107 wide a b).1 = M wide (a - b) := by
  show tr wide (wrap64 (tr wide a - tr wide b)) = _
  rw [tr_M wide a ha, tr_M wide b hb]; exact M_sub wide a b
theorem ee_mul (wide : Bool) (a b : Int) (ha : I64 a) (hb : I64 b) : (ee 108 wide a b).1 = M wide (a * b) := by
  show tr wide (wrap64 (tr wide a * tr wide b)) = _
  rw [tr_M wide a ha, tr_M wide b hb]; exact M_mul wide a b

theorem wrap_i64 (x : Int) : I64 (wrap64 x) := by simp only [wrap64]; exact ⟨by omega, by omega⟩
theorem i64_wrap (x : Int) : IntKind.i64.wrap x = wrap64 x := by
  simp [IntKind.wrap, IntKind.bits, IntKind.signed, wrap64]; omega
theorem bits_i64 (o : BinOp) (h : o = .and ∨ o = .or ∨ o = .xor) (a b : Int) : I64 (bits o .i64 a b) := by
  rcases h with rfl | rfl | rfl
  · show I64 (IntKind.i64.wrap _); rw [i64_wrap]; exact wrap_i64 _
  · show I64 (IntKind.i64.wrap _); rw [i64_wrap]; exact wrap_i64 _
  · show I64 (IntKind.i64.wrap _); rw [i64_wrap]; exact wrap_i64 _
theorem co_i64 (k a b : Int) : I64 (co k a b) := by
  simp only [co]
  split
  · exact wrap_i64 _
  split
  · exact wrap_i64 _
  split
  · exact wrap_i64 _
  split
  · exact bits_i64 _ (Or.inl rfl) _ _
  split
  · exact bits_i64 _ (Or.inr (Or.inl rfl)) _ _
  · exact bits_i64 _ (Or.inr (Or.inr rfl)) _ _
theorem ediv_i64 (x : Int) (n : Nat) (h : I64 x) : I64 (x / 2 ^ n) := by
  obtain ⟨h1, h2⟩ := h
  have hp : (0 : Int) < 2 ^ n := Int.pow_pos (by decide)
  constructor
  · apply Int.le_ediv_of_mul_le hp
    have : (1 : Int) ≤ 2 ^ n := hp
    have h3 : (-9223372036854775808 : Int) * 2 ^ n ≤ -9223372036854775808 * 1 := Int.mul_le_mul_of_nonpos_left (by decide) this
    omega
  · by_cases h0 : 0 ≤ x
    · exact Int.le_trans (Int.ediv_le_self _ h0) h2
    · exact Int.le_trans (Int.le_of_lt (Int.ediv_neg_of_neg_of_pos (by omega) hp)) (by decide)
theorem sh_i64 (k : Int) (wide : Bool) (a : Int) (n : Nat) (h : Wd wide a) : I64 (sh k wide a n) := by
  simp only [sh]
  split
  · exact wrap_i64 _
  split
  · exact ediv_i64 _ _ (sg_i64 h)
  split
  · exact wrap_i64 _
  split
  · exact wrap_i64 _
  · exact wrap_i64 _
theorem tmod_i64 (x y : Int) (h : I64 x) : I64 (x.tmod y) := by
  obtain ⟨h1, h2⟩ := h
  have h3 : (x.tmod y).natAbs ≤ x.natAbs := by rw [Int.natAbs_tmod]; exact Nat.mod_le _ _
  have h4 : 0 ≤ x → 0 ≤ x.tmod y := fun h => Int.tmod_nonneg y h
  have h5 : x < 0 → x.tmod y ≤ 0 := fun h => by
    have h6 := Int.tmod_nonneg (a := -x) y (by omega)
    rw [Int.neg_tmod] at h6; omega
  generalize x.tmod y = q at h3 h4 h5 ⊢
  constructor <;> omega
theorem dv_i64 (k : Int) (wide : Bool) (a b : Int) (ha : Wd wide a) : I64 (dv k wide a b).1 := by
  simp only [dv]
  split
  · exact ⟨by decide, by decide⟩
  split
  · exact wrap_i64 _
  split
  · exact wrap_i64 _
  split
  · exact tmod_i64 _ _ (sg_i64 ha)
  split
  · exact ⟨by decide, by decide⟩
  · rename_i hn
    show I64 ((sg wide a).tdiv (sg wide b))
    rw [← tdiv_i64 (sg wide a) (sg wide b) (sg_i64 ha) (least_i64 wide a b ha hn)]
    exact wrap_i64 _
theorem su_wd (k : Int) (wide : Bool) (a b : Int) (ha : I64 a) : Wd wide (su k wide a b).1 := by
  simp only [su]
  split
  · exact tr_wd wide _ (dv_i64 k wide _ _ (tr_wd wide a ha))
  split
  · exact tr_wd wide _ (sh_i64 k wide _ _ (tr_wd wide a ha))
  · exact tr_wd wide _ (co_i64 k _ _)
theorem b1_i64 (x : Bool) : I64 (b1 x) := by cases x <;> exact ⟨by decide, by decide⟩
theorem ee_i64 (k : Int) (wide : Bool) (a b : Int) (ha : I64 a) : I64 (ee k wide a b).1 := by
  simp only [ee]
  split
  · exact wd_i64 (su_wd k wide a b ha)
  · exact b1_i64 _
theorem M_i64 (wide : Bool) (x : Int) : I64 (M wide x) := wd_i64 (wd_M wide x)
end Go.Proofs.Ytfcdpjihhopfhaa
