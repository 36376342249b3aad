/-
  Plain functions: what an instruction of chapter 2 makes of its values, by numbers alone (no program): what is left at a width, the signed number, the comparisons, the quotients, the shifts, the sums.
-/
import Derived.RowKit
import Derived.WalkKit
import Derived.Laws.BitsAllLaws
namespace Go.Proofs.Ytfcdpjihhopfhaa
open Go.RowKit

def I64 (n : Int) : Prop := -9223372036854775808 ≤ n ∧ n ≤ 9223372036854775807

def tr (wide : Bool) (v : Int) : Int := if wide then v else v % 4294967296
def sg (wide : Bool) (v : Int) : Int := if wide then v else if v < 2147483648 then v else v - 4294967296
def un (v : Int) : Int := v % 18446744073709551616
def wd (wide : Bool) : Nat := if wide then 64 else 32
def ls (wide : Bool) : Int := if wide then -9223372036854775808 else -2147483648
def b1 (b : Bool) : Int := if b then 1 else 0
def Wd (wide : Bool) (v : Int) : Prop := if wide then I64 v else 0 ≤ v ∧ v < 4294967296

def cm (k : Int) (wide : Bool) (a b : Int) : Bool :=
  if k = 69 then decide (a = 0) else if k = 70 then decide (a = b) else if k = 71 then decide (a ≠ b)
  else if k = 72 then decide (sg wide a < sg wide b) else if k = 73 then decide (un a < un b)
  else if k = 74 then decide (sg wide b < sg wide a) else if k = 75 then decide (un b < un a)
  else if k = 76 then decide (sg wide a ≤ sg wide b) else if k = 77 then decide (un a ≤ un b)
  else if k = 78 then decide (sg wide b ≤ sg wide a) else decide (un b ≤ un a)

def dv (k : Int) (wide : Bool) (a b : Int) : Int × Int :=
  if b = 0 then (0, 2) else if k = 110 then (wrap64 (un a / un b), 0) else if k = 112 then (wrap64 (un a % un b), 0)
  else if k = 111 then ((sg wide a).tmod (sg wide b), 0)
  else if sg wide a = ls wide ∧ sg wide b = -1 then (0, 3) else ((sg wide a).tdiv (sg wide b), 0)

def rt (wide : Bool) (a : Int) (n : Nat) : Int :=
  wrap64 (bits .or .u64 (un a * 2 ^ n % 18446744073709551616) (un a / 2 ^ (wd wide - n)))

def sh (k : Int) (wide : Bool) (a : Int) (n : Nat) : Int :=
  if k = 116 then wrap64 (a * 2 ^ n) else if k = 117 then sg wide a / 2 ^ n else if k = 118 then wrap64 (un a / 2 ^ n)
  else if k = 120 then rt wide a ((wd wide - n) % wd wide) else rt wide a n

def co (k a b : Int) : Int :=
  if k = 106 then wrap64 (a + b) else if k = 107 then wrap64 (a - b) else if k = 108 then wrap64 (a * b)
  else if k = 113 then bits .and .i64 a b else if k = 114 then bits .or .i64 a b else bits .xor .i64 a b

theorem tr_wd (wide : Bool) (v : Int) (h : I64 v) : Wd wide (tr wide v) := by
  obtain ⟨h1, h2⟩ := h
  cases wide
  · simp only [Wd, tr, Bool.false_eq_true, if_false]; omega
  · simpa only [Wd, tr, if_true] using ⟨h1, h2⟩

theorem wd_i64 {wide : Bool} {v : Int} (h : Wd wide v) : I64 v := by
  cases wide
  · simp only [Wd, Bool.false_eq_true, if_false] at h; exact ⟨by omega, by omega⟩
  · simpa only [Wd, if_true] using h

theorem sg_i64 {wide : Bool} {v : Int} (h : Wd wide v) : I64 (sg wide v) := by
  cases wide
  · simp only [Wd, sg, Bool.false_eq_true, if_false] at h ⊢; split <;> exact ⟨by omega, by omega⟩
  · simpa only [Wd, sg, if_true] using h

theorem and32 (v : Int) : bits .and .i64 v 4294967295 = v % 4294967296 := by
  show IntKind.i64.wrap ((BitVec.ofInt 64 v &&& BitVec.ofInt 64 4294967295).toNat : Int) = _
  rw [BitVec.toNat_and]
  have e : (BitVec.ofInt 64 4294967295).toNat = 2 ^ 32 - 1 := by decide
  rw [e, Nat.and_two_pow_sub_one_eq_mod, BitVec.toNat_ofInt]
  have h0 : (0 : Int) ≤ v % 18446744073709551616 := Int.emod_nonneg _ (by decide)
  have e2 : (((v % ((2 ^ 64 : Nat) : Int)).toNat % 2 ^ 32 : Nat) : Int) = v % 4294967296 := by
    have e3 : ((2 ^ 64 : Nat) : Int) = 18446744073709551616 := by decide
    rw [e3]; omega
  rw [e2]
  have h1 : 0 ≤ v % 4294967296 ∧ v % 4294967296 < 4294967296 := by omega
  generalize v % 4294967296 = x at h1 ⊢
  simp [IntKind.wrap, IntKind.bits, IntKind.signed]
  omega
end Go.Proofs.Ytfcdpjihhopfhaa
