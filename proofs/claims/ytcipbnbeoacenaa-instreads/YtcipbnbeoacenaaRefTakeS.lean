/-
  The document's own TakeS reads what the plain function tkS of the text Math says, of any string and any number of bits; memory that was there stays as it was.
-/
import Derived.Test.YtcipbnbeoacenaaRefTakeU
namespace Go.Proofs.Ytcipbnbeoacenaa
open Go.RowKit

/-- The last byte's uppermost bit is the number's. -/
theorem top_bit (t : List UInt8) (k : Nat) (hk : 1 ≤ k) (hl : t.length = k) (h : k - 1 < t.length) : jl t / 2 ^ (7 * k - 1) % 2 = 1 ↔ 64 ≤ (t[k - 1].toNat : Int) % 128 := by
  have e1 : jl t = jl (t.take (k - 1)) + (t[k - 1].toNat : Int) % 128 * 2 ^ (7 * (k - 1)) := by
    have := jl_take h
    rw [show k - 1 + 1 = k by omega, List.take_of_length_le (by omega)] at this
    exact this
  have hb := jl_bd (t.take (k - 1))
  rw [List.length_take_of_le (by omega)] at hb
  have hp := pow_pos2 (7 * (k - 1))
  have e2 : jl t / 2 ^ (7 * (k - 1)) = (t[k - 1].toNat : Int) % 128 := by
    rw [e1, Int.add_mul_ediv_right _ _ (by omega), Int.ediv_eq_zero_of_lt hb.1 hb.2]
    omega
  have e3 : jl t / 2 ^ (7 * k - 1) = jl t / 2 ^ (7 * (k - 1)) / 64 := by
    rw [← pow_half k hk, Int.mul_comm, Int.ediv_ediv_of_nonneg (Int.le_of_lt hp)]
  rw [e3, e2]
  omega
theorem minus_pow (x : Int) (k : Nat) (hk : k ≤ 9) (h0 : 0 ≤ x) (h1 : x < 2 ^ (7 * k)) : wrap64 (x - wrap64 (2 ^ (7 * k))) = x - 2 ^ (7 * k) := by
  have hq : (2 : Int) ^ (7 * k) ≤ 9223372036854775808 := by
    have : (2 : Int) ^ (7 * k) ≤ 2 ^ 63 := by exact_mod_cast Nat.pow_le_pow_right (by decide) (by omega)
    exact this
  rw [w64_is, w64_is]; unfold w64; omega
theorem tkS_eq (l : List UInt8) (b : Int) (h : ¬ (b < 1 ∨ 64 < b)) : tkS l b = if enc (vS l) (szS (vS l)) = l.take (spn 10 0 l) ∧ (vS l / 2 ^ (b.toNat - 1) = 0 ∨ vS l / 2 ^ (b.toNat - 1) = -1)
    then (vS l, l.drop (spn 10 0 l), 0) else (0, [], 6) := by
  unfold tkS; rw [if_neg h]
theorem fits_iff (v : Int) (c : Nat) : (v / 2 ^ c = 0 ∨ v / 2 ^ c = -1) ↔ (-2 ^ c ≤ v ∧ v ≤ 2 ^ c - 1) := by
  have hp := pow_pos2 c
  generalize (2 : Int) ^ c = P at *
  constructor
  · intro h
    have h1 := Int.emod_add_mul_ediv v P
    have h2 := Int.emod_nonneg v (Int.ne_of_gt hp)
    have h3 := Int.emod_lt_of_pos v hp
    rcases h with h | h
    · rw [h] at h1; omega
    · rw [h] at h1; omega
  · intro h
    by_cases h0 : 0 ≤ v
    · exact .inl (Int.ediv_eq_zero_of_lt h0 (by omega))
    · refine .inr ?_
      have e : v / P = (v + 1 * P) / P - 1 := by rw [Int.add_mul_ediv_right _ _ (by omega)]; omega
      rw [e, Int.ediv_eq_zero_of_lt (by omega) (by omega)]
      rfl
theorem shl_min (c : Nat) (h : c ≤ 62) : IntKind.i64.wrap (-2 ^ c) = -2 ^ c ∧ IntKind.i64.wrap (2 ^ c) = 2 ^ c ∧ IntKind.i64.wrap (2 ^ c - 1) = 2 ^ c - 1 := by
  have hp := pow_pos2 c
  have hq : (2 : Int) ^ c ≤ 4611686018427387904 := by
    have : (2 : Int) ^ c ≤ 2 ^ 62 := by exact_mod_cast Nat.pow_le_pow_right (by decide) h
    exact this
  generalize (2 : Int) ^ c = P at *
  rw [IntKind.wrap_i64, IntKind.wrap_i64, IntKind.wrap_i64]; omega

set_option maxHeartbeats 400000 in
theorem refTakeS_arg (s : ByteArray) (b : Int) (w : World) (h : b < 1 ∨ 64 < b) :
    Calls Try.prog 36 #[.string s, .int .i64 b] w fun e w' => e = .returned (.tuple #[.int .i64 (tkS s.data.toList b).1, .string (str (tkS s.data.toList b).2.1), .int .i64 (tkS s.data.toList b).2.2]) ∧ Below w.heap.size w w' := by
  have ht : tkS s.data.toList b = (0, [], 4) := by unfold tkS; rw [if_pos h]
  rw [ht]
  clear ht
  rcases h with h | h
  · have hd : decide (b < 1) = true := by simpa using h
    go_enter Try.func36, Try.ntmps36
    go_wp2
    go_ret3
    exact ⟨rfl, Below.refl _ _⟩
  · have hd : decide (b < 1) = false := by simp; omega
    go_enter Try.func36, Try.ntmps36
    go_wp2
    go_ret3
    exact ⟨rfl, Below.refl _ _⟩

end Go.Proofs.Ytcipbnbeoacenaa
