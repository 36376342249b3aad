/-
  What was stored is loaded as it was, what lies beside it stays, and of the same bytes the same memory is made again: the walk of the statement LinmemBack.
-/
import Derived.Test.YtcjojphajjoheaaHalves
import Derived.BigQuiet
import Derived.Deep.QuietTactic
namespace Go.Proofs.Ytcjojphajjoheaa
open Go.RowKit

theorem stv_len (l : List UInt8) (p n : Nat) (v : Int) (h : p + n ≤ l.length) : (stv l p n v).length = l.length := by
  simp [stv, bys_len]; omega
theorem stv_mid (l : List UInt8) (p n : Nat) (v : Int) (h : p + n ≤ l.length) : ((stv l p n v).drop p).take n = bys n v := by
  have h1 : (l.take p).length = p := by simp; omega
  unfold stv
  rw [List.drop_append_of_le_length (by omega), List.drop_of_length_le (by omega), List.nil_append, List.take_append_of_le_length (by rw [bys_len]; omega), List.take_of_length_le (by rw [bys_len]; omega)]
theorem stv_head (l : List UInt8) (p n : Nat) (v : Int) (h : p + n ≤ l.length) : (stv l p n v).take p = l.take p := by
  have h1 : (l.take p).length = p := by simp; omega
  unfold stv
  rw [List.take_append_of_le_length (by omega), List.take_of_length_le (by omega)]
theorem stv_tail (l : List UInt8) (p n : Nat) (v : Int) (h : p + n ≤ l.length) : (stv l p n v).drop (p + n) = l.drop (p + n) := by
  have h1 : (l.take p).length = p := by simp; omega
  unfold stv
  rw [← List.append_assoc, List.drop_append_of_le_length (by simp [bys_len]; omega), List.drop_of_length_le (by simp [bys_len]; omega), List.nil_append]
theorem pow4 : (256 : Int) ^ 4 = 4294967296 := by decide
theorem pow8 : (256 : Int) ^ 8 = 18446744073709551616 := by decide
/-- What is loaded of what was stored. -/
theorem back4 (l : List UInt8) (p : Nat) (v : Int) (h : p + 4 ≤ l.length) : ldv (stv l p 4 v) p 4 = v % 4294967296 := by
  unfold ldv
  rw [stv_mid _ _ _ _ h, le_bys, pow4, w64_id (by omega) (by omega)]
theorem back8 (l : List UInt8) (p : Nat) (v : Int) (hv : I64 v) (h : p + 8 ≤ l.length) : ldv (stv l p 8 v) p 8 = v := by
  obtain ⟨h1, h2⟩ := hv
  unfold ldv
  rw [stv_mid _ _ _ _ h, le_bys, pow8]
  unfold wrap64; omega
/-- Stored again as it was. -/
theorem again (l : List UInt8) (p n : Nat) (v : Int) (h : p + n ≤ l.length) (hn : n = 4 ∨ n = 8) : stv (stv l p n v) p n (ldv l p n) = l := by
  have e : bys n (ldv l p n) = (l.drop p).take n := by
    have hl : ((l.drop p).take n).length = n := by simp; omega
    have := bys_le ((l.drop p).take n) (ldv l p n)
    rw [hl] at this
    apply this
    have hlt := le_lt ((l.drop p).take n)
    rw [hl] at hlt
    unfold ldv
    rcases hn with rfl | rfl
    · rw [pow4]
      have h3 : (256 : Nat) ^ 4 = 4294967296 := by decide
      rw [w64_id (by omega) (by omega)]; omega
    · rw [pow8]
      have h3 : (256 : Nat) ^ 8 = 18446744073709551616 := by decide
      unfold wrap64; omega
  have h1 := stv_head l p n v h
  have h2 := stv_tail l p n v h
  show (stv l p n v).take p ++ (bys n (ldv l p n) ++ (stv l p n v).drop (p + n)) = l
  rw [h1, h2, e, ← List.append_assoc, ← List.take_add, List.take_append_drop]
theorem ldv_i64 (l : List UInt8) (p n : Nat) : I64 (ldv l p n) := by unfold ldv wrap64 I64; omega
/-- All of it, for a width. -/
def want (n : Nat) (v : Int) : Int := if n = 4 then v % 4294967296 else v
theorem back_is (l : List UInt8) (a o v : Int) (n : Nat) (hn : n = 4 ∨ n = 8) (hv : I64 v) :
    (stA l a o n v = ([], false) ∧ ldA l a o n = (0, false)) ∨
    ∃ (p : Nat) (X : List UInt8) (was : Int), a % 4294967296 + o % 4294967296 = (p : Int) ∧ p + n ≤ l.length ∧ stA l a o n v = (X, true) ∧ ldA l a o n = (was, true) ∧ ldA X a o n = (want n v, true) ∧ stA X a o n was = (l, true) ∧
      X.length = l.length ∧ X.take p = l.take p ∧ X.drop (p + n) = l.drop (p + n) ∧ I64 was := by
  have hb := adr_bd a o
  have hr : right (n : Int) = true := by rcases hn with rfl | rfl <;> rfl
  by_cases h : wit l.length (adr a o) n = true
  · right
    have hw := h
    simp only [wit, Bool.and_eq_true, decide_eq_true_eq] at hw
    have hfit : (adr a o).toNat + n ≤ l.length := by omega
    have hl := stv_len l (adr a o).toNat n v hfit
    have hX : wit (stv l (adr a o).toNat n v).length (adr a o) n = true := by rw [hl]; exact h
    refine ⟨(adr a o).toNat, stv l (adr a o).toNat n v, ldv l (adr a o).toNat n, ?_, hfit, ?_, ?_, ?_, ?_, hl, stv_head _ _ _ _ hfit, stv_tail _ _ _ _ hfit, ldv_i64 _ _ _⟩
    · rw [Int.toNat_of_nonneg hb.1]; rfl
    · rw [stA_yes ⟨hr, h⟩]; rfl
    · rw [ldA_yes ⟨hr, h⟩]; rfl
    · rw [ldA_yes ⟨hr, hX⟩]
      rcases hn with rfl | rfl
      · exact congrArg (·, true) (back4 _ _ _ hfit)
      · exact congrArg (·, true) (back8 _ _ _ hv hfit)
    · rw [stA_yes ⟨hr, hX⟩]
      exact congrArg (·, true) (again l _ n v hfit hn)
  · left
    exact ⟨stA_no (fun q => h q.2), ldA_no (fun q => h q.2)⟩
end Go.Proofs.Ytcjojphajjoheaa
