/-
  Plain functions: what chapter 3 says of types, by numbers alone (no program): what is a type, wide, secret; the type of two answers; what flows; the join.
-/
import Derived.RowKit
import Derived.WalkKit
import Derived.Laws.BitsAllLaws
namespace Go.Proofs.Ytefjlfgpimiclaa
open Go.RowKit

def I64 (n : Int) : Prop := -9223372036854775808 ≤ n ∧ n ≤ 9223372036854775807

def ri (t : Int) : Bool := decide (0 ≤ t) && decide (t ≤ 3)
def wi (t : Int) : Bool := decide (t = 1) || decide (t = 3)
def se (t : Int) : Bool := decide (t = 2) || decide (t = 3)
def ot (wide secret : Bool) : Int := (if wide then 1 else 0) + (if secret then 2 else 0)
def jn (a b : Int) : Int × Bool := if ri a = true ∧ ri b = true ∧ wi a = wi b then (ot (wi a) (se a || se b), true) else (0, false)
def fl (a b : Int) : Bool := ri a && ri b && (wi a == wi b) && (se b || !se a)

theorem ri_iff (t : Int) : ri t = true ↔ t = 0 ∨ t = 1 ∨ t = 2 ∨ t = 3 := by
  simp only [ri, Bool.and_eq_true, decide_eq_true_eq]; omega
theorem ri_no {t : Int} (h : ri t = false) : t ≠ 0 ∧ t ≠ 1 ∧ t ≠ 2 ∧ t ≠ 3 := by
  have : ¬ ri t = true := by rw [h]; simp
  rw [ri_iff] at this; omega
theorem wi_no {t : Int} (h : ri t = false) : wi t = false := by
  have := ri_no h; simp [wi, this]
theorem se_no {t : Int} (h : ri t = false) : se t = false := by
  have := ri_no h; simp [se, this]

theorem low_of (x : BitVec 64) (h : x &&& ~~~(3#64) = 0#64) : x.toNat < 4 := by
  have e : x = x &&& 3#64 := by
    have e1 : x = (x &&& 3#64) ||| (x &&& ~~~(3#64)) := by
      rw [← BitVec.and_or_distrib_left]
      have : (3#64 ||| ~~~(3#64)) = BitVec.allOnes 64 := by decide
      rw [this, BitVec.and_allOnes]
    rw [h] at e1
    simpa using e1
  have e2 := congrArg BitVec.toNat e
  rw [BitVec.toNat_and] at e2
  have e3 : (3#64).toNat = 2 ^ 2 - 1 := by decide
  rw [e3, Nat.and_two_pow_sub_one_eq_mod] at e2
  omega

theorem andNot3 (t : Int) (ht : I64 t) : (bits .andNot .i64 t 3 == 0) = ri t := by
  cases hr : ri t
  · have hn := ri_no hr
    have hd : ¬ (0 ≤ t ∧ t ≤ 3) := by
      intro h
      have : ri t = true := by simp [ri, h]
      rw [hr] at this; cases this
    rw [beq_eq_false_iff_ne]
    intro h
    change IntKind.i64.wrap ((BitVec.ofInt 64 t &&& ~~~(BitVec.ofInt 64 3)).toNat : Int) = 0 at h
    obtain ⟨h1, h2⟩ := ht
    have hb : BitVec.ofInt 64 3 = 3#64 := by decide
    rw [hb] at h
    have hz : (BitVec.ofInt 64 t &&& ~~~(3#64)) = 0#64 := by
      apply BitVec.eq_of_toNat_eq
      have hlt := (BitVec.ofInt 64 t &&& ~~~(3#64)).isLt
      generalize (BitVec.ofInt 64 t &&& ~~~(3#64)).toNat = y at h hlt ⊢
      simp [IntKind.wrap, IntKind.bits, IntKind.signed] at h
      show y = 0
      omega
    have hl := low_of _ hz
    rw [BitVec.toNat_ofInt] at hl
    have e3 : ((2 ^ 64 : Nat) : Int) = 18446744073709551616 := by decide
    rw [e3] at hl
    omega
  · rcases (ri_iff t).mp hr with rfl | rfl | rfl | rfl <;> decide

theorem or_ot (a b : Int) (ha : ri a = true) (hb : ri b = true) (hw : wi a = wi b) : bits .or .i64 a b = ot (wi a) (se a || se b) := by
  rcases (ri_iff a).mp ha with rfl | rfl | rfl | rfl <;> rcases (ri_iff b).mp hb with rfl | rfl | rfl | rfl <;>
    first | decide | (exact absurd hw (by decide))

theorem fl_jn (a b : Int) : fl a b = ((jn a b).2 && ((jn a b).1 == b)) := by
  cases ha : ri a
  · simp [fl, jn, ha]
  cases hb : ri b
  · simp [fl, jn, hb]
  rcases (ri_iff a).mp ha with rfl | rfl | rfl | rfl <;> rcases (ri_iff b).mp hb with rfl | rfl | rfl | rfl <;> decide
theorem jn_no {a b : Int} (h : (jn a b).2 = false) : jn a b = (0, false) := by
  simp only [jn] at h ⊢
  split
  · rename_i hc; rw [if_pos hc] at h; cases h
  · rfl

/-- the plain facts of P3.3 -/
theorem fl_types {a b : Int} (h : fl a b = true) : ri a = true ∧ ri b = true := by
  simp only [fl, Bool.and_eq_true] at h; exact ⟨h.1.1.1, h.1.1.2⟩
theorem fl_trans {a b c : Int} (h : fl a b = true) (h' : fl b c = true) : fl a c = true := by
  obtain ⟨ha, hb⟩ := fl_types h
  obtain ⟨_, hc⟩ := fl_types h'
  rcases (ri_iff a).mp ha with rfl | rfl | rfl | rfl <;> rcases (ri_iff b).mp hb with rfl | rfl | rfl | rfl <;>
    rcases (ri_iff c).mp hc with rfl | rfl | rfl | rfl <;> revert h h' <;> decide
theorem fl_se {a b : Int} (h : fl a b = true) (h' : se a = true) : se b = true := by
  obtain ⟨ha, hb⟩ := fl_types h
  rcases (ri_iff a).mp ha with rfl | rfl | rfl | rfl <;> rcases (ri_iff b).mp hb with rfl | rfl | rfl | rfl <;> revert h h' <;> decide
theorem fl_same {a b : Int} (h : fl a b = true) (h' : fl b a = true) : a = b := by
  obtain ⟨ha, hb⟩ := fl_types h
  rcases (ri_iff a).mp ha with rfl | rfl | rfl | rfl <;> rcases (ri_iff b).mp hb with rfl | rfl | rfl | rfl <;> revert h h' <;> decide
theorem fl_self (a : Int) : fl a a = ri a := by
  cases h : ri a
  · simp [fl, h]
  · rcases (ri_iff a).mp h with rfl | rfl | rfl | rfl <;> decide
theorem jn_least {a b c : Int} (ha : fl a c = true) (hb : fl b c = true) : (jn a b).2 = true ∧ fl (jn a b).1 c = true := by
  obtain ⟨h1, h2⟩ := fl_types ha
  obtain ⟨h3, _⟩ := fl_types hb
  rcases (ri_iff a).mp h1 with rfl | rfl | rfl | rfl <;> rcases (ri_iff b).mp h3 with rfl | rfl | rfl | rfl <;>
    rcases (ri_iff c).mp h2 with rfl | rfl | rfl | rfl <;> revert ha hb <;> decide
theorem jn_yes {a b : Int} (h : (jn a b).2 = true) : ri a = true ∧ ri b = true ∧ wi a = wi b ∧ (jn a b).1 = ot (wi a) (se a || se b) := by
  simp only [jn] at h ⊢
  split
  · rename_i hc; exact ⟨hc.1, hc.2.1, hc.2.2, rfl⟩
  · rename_i hc; rw [if_neg hc] at h; cases h
theorem jn_up {a b : Int} (h : (jn a b).2 = true) : fl a (jn a b).1 = true ∧ fl b (jn a b).1 = true ∧ jn b a = ((jn a b).1, true) := by
  obtain ⟨h1, h2, _, _⟩ := jn_yes h
  rcases (ri_iff a).mp h1 with rfl | rfl | rfl | rfl <;> rcases (ri_iff b).mp h2 with rfl | rfl | rfl | rfl <;> revert h <;> decide
theorem ot_tells (wide secret : Bool) : ri (ot wide secret) = true ∧ wi (ot wide secret) = wide ∧ se (ot wide secret) = secret := by
  cases wide <;> cases secret <;> decide
theorem ot_back {t : Int} (h : ri t = true) : ot (wi t) (se t) = t := by
  rcases (ri_iff t).mp h with rfl | rfl | rfl | rfl <;> decide
theorem ri_i64 {t : Int} (h : ri t = true) : I64 t := by
  rcases (ri_iff t).mp h with rfl | rfl | rfl | rfl <;> exact ⟨by decide, by decide⟩
theorem jn_i64 (a b : Int) : I64 (jn a b).1 := by
  cases h : (jn a b).2
  · rw [jn_no h]; exact ⟨by decide, by decide⟩
  · rw [(jn_yes h).2.2.2]; exact ri_i64 (ot_tells _ _).1
end Go.Proofs.Ytefjlfgpimiclaa
