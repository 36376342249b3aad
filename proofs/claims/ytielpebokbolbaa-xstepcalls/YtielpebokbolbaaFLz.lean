/-
  The library's contract of math/bits.LeadingZeros64, laid at this program: the library's own theorem, applied to the numbers that its functions and types have here; then what it says of the shifted number.
-/
import Derived.Shelf.Small.Bits
import Derived.Test.YtielpebokbolbaaRows
import Derived.Test.YtielpebokbolbaaFMath
namespace Go.Proofs.Ytielpebokbolbaa.Fg
open Go.Shelf Go.RowKit

def ren : Go.Shelf.Ren := ⟨fun | 129 => 88 | 134 => 87 | n => n, fun | 46 => 65 | 53 => 64 | n => n, fun | n => n⟩
theorem lays134 : Go.Proofs.Lays.n134 Try.prog ren := {
  mixed := by kernel_rfl
  f129 := Try.func88.trans (congrArg some (by kernel_rfl))
  f134 := Try.func87.trans (congrArg some (by kernel_rfl))
  t3 := Try.underlying3
  a3 := Try.isAgg3
  z3 := Try.sizeOf3
  v3 := Try.zeroValue3
  t4 := Try.underlying4
  a4 := Try.isAgg4
  z4 := Try.sizeOf4
  v4 := Try.zeroValue4
  t5 := Try.underlying5
  a5 := Try.isAgg5
  z5 := Try.sizeOf5
  v5 := Try.zeroValue5
  t9 := Try.underlying9
  a9 := Try.isAgg9
  z9 := Try.sizeOf9
  v9 := Try.zeroValue9
  t46 := Try.underlying65
  a46 := Try.isAgg65
  z46 := Try.sizeOf65
  v46 := Try.zeroValue65
  t53 := Try.underlying64
  a53 := Try.isAgg64
  z53 := Try.sizeOf64
  v53 := Try.zeroValue64 }
theorem lz_any (x : Int) (w : World) (h0 : 0 ≤ x) (h1 : x ≤ 18446744073709551615) :
    Calls Try.prog 87 #[.int .u64 x] w fun e w' => e = .returned (.int .i64 (64 - (Lib.bitLen x.toNat : Int))) ∧ w' = w :=
  Any.bits_LeadingZeros64 (P := Try.prog) (ρ := ren) lays134 x w h0 h1
/-- a number has as many bits as it needs -/
theorem len_pow (x : Nat) (h0 : x ≠ 0) (hx : x < 2 ^ 64) : ∃ k, k < 64 ∧ Lib.bitLen x = k + 1 ∧ 2 ^ k ≤ x ∧ x < 2 ^ (k + 1) := by
  have h1 := Lib.bitLen_le x 64 (Nat.le_refl _) hx
  refine ⟨Nat.log2 x, ?_, ?_, ?_, ?_⟩
  · exact (Nat.log2_lt h0).mpr hx
  · have hl : 2 ^ Nat.log2 x ≤ x := Nat.log2_self_le h0
    have hu : x < 2 ^ (Nat.log2 x + 1) := Nat.lt_log2_self
    rw [Lib.bitLen_shift (Nat.log2 x) x hl hx]
    have e : x / 2 ^ Nat.log2 x = 1 := by
      have hp := Nat.two_pow_pos (Nat.log2 x)
      rw [Nat.pow_succ] at hu
      generalize 2 ^ Nat.log2 x = P at hl hu hp ⊢
      apply Nat.div_eq_of_lt_le <;> omega
    rw [e]; rfl
  · exact Nat.log2_self_le h0
  · exact Nat.lt_log2_self
/-- how far a number is moved so that its topmost bit is 1 -/
theorem lz_is (Y : Nat) (h0 : Y ≠ 0) (hY : Y < 2 ^ 64) : ∃ s : Nat, s < 64 ∧ 2 ^ 63 ≤ Y * 2 ^ s ∧ Y * 2 ^ s < 2 ^ 64 ∧ ∀ w, Calls Try.prog 87 #[.int .u64 Y] w fun e w' => e = .returned (.int .i64 (s : Int)) ∧ w' = w := by
  obtain ⟨k, hk, hb, hl, hu⟩ := len_pow Y h0 hY
  refine ⟨63 - k, by omega, ?_, ?_, fun w => ?_⟩
  · have e : (2 : Nat) ^ 63 = 2 ^ k * 2 ^ (63 - k) := by rw [← Nat.pow_add]; congr 1; omega
    rw [e]; exact Nat.mul_le_mul_right _ hl
  · have e : (2 : Nat) ^ 64 = 2 ^ (k + 1) * 2 ^ (63 - k) := by rw [← Nat.pow_add]; congr 1; omega
    rw [e]; exact Nat.mul_lt_mul_of_pos_right hu (Nat.two_pow_pos _)
  · have h := lz_any (Y : Int) w (by omega) (by omega)
    have e : (64 : Int) - (Lib.bitLen (Y : Int).toNat : Int) = ((63 - k : Nat) : Int) := by
      rw [Int.toNat_natCast, hb]; omega
    rw [e] at h; exact h
end Go.Proofs.Ytielpebokbolbaa.Fg
