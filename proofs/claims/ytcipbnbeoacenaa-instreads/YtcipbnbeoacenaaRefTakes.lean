/-
  Of any bytes and any number of bits the document's own function TakeS answers what the plain function tkS answers.
-/
import Derived.Test.YtcipbnbeoacenaaRefTakeSA
import Derived.Test.YtcipbnbeoacenaaRefTakeSB
import Derived.Test.YtcipbnbeoacenaaRefTakeSC
namespace Go.Proofs.Ytcipbnbeoacenaa
open Go.RowKit

theorem spd_bd (x : Int) (k : Nat) (hk : k ≤ 10) (h9 : 1 ≤ k → k ≤ 9 → 0 ≤ x ∧ x < 2 ^ (7 * k)) (hx : I64 x) : I64 (spd x k) := by
  unfold spd
  split
  · rename_i h
    have hb := h9 h.1 h.2.1
    have hq : (2 : Int) ^ (7 * k) ≤ 9223372036854775808 := by
      have : (2 : Int) ^ (7 * k) ≤ 2 ^ 63 := by exact_mod_cast Nat.pow_le_pow_right (by decide) (by omega)
      exact this
    unfold I64
    omega
  · exact hx
theorem vS_I64 (l : List UInt8) : I64 (vS l) :=
  spd_bd _ _ (span_le l).2 (fun _ h9 => jl_take_bd l _ h9) (w64_bd _)

set_option maxRecDepth 100000 in
set_option maxHeartbeats 400000 in
theorem refTakeS_none (s : ByteArray) (b : Int) (w : World) (h1 : 1 ≤ b) (h2 : b ≤ 64)
    (SP : Hid (∀ w, Calls Try.prog 46 #[.string s] w fun e w' => e = .returned (.int .i64 (0 : Nat)) ∧ w' = w)) :
    Calls Try.prog 36 #[.string s, .int .i64 b] w fun e w' => e = .returned (.tuple #[.int .i64 0, .string (str []), .int .i64 6]) ∧ Below w.heap.size w w' := by
  go_enter Try.func36, Try.ntmps36
  go_wp2_with (go_at_call 46; refine (SP.out _).mono ?_; rintro e w' ⟨rfl, rfl⟩)
  go_ret3
  exact ⟨rfl, Below.refl _ _⟩

theorem refTakeS_any (s : ByteArray) (b : Int) (w : World) (hs : s.size ≤ 9223372036854775807) :
    Calls Try.prog 36 #[.string s, .int .i64 b] w fun e w' => e = .returned (.tuple #[.int .i64 (tkS s.data.toList b).1, .string (str (tkS s.data.toList b).2.1), .int .i64 (tkS s.data.toList b).2.2]) ∧ Below w.heap.size w w' := by
  by_cases hbb : b < 1 ∨ 64 < b
  · exact refTakeS_arg s b w hbb
  have h1 : 1 ≤ b := by omega
  have h2 : b ≤ 64 := by omega
  have hle : spn 10 0 s.data.toList ≤ s.size := (span_le _).1
  have hle10 : spn 10 0 s.data.toList ≤ 10 := (span_le _).2
  have SP := hide (fun w => length_any s w hs)
  have HT := tkS_eq s.data.toList b hbb
  simp only [fits_iff] at HT
  have HI := vS_I64 s.data.toList
  have HV : spd (w64 (jl (s.data.toList.take (spn 10 0 s.data.toList)))) (spn 10 0 s.data.toList) = vS s.data.toList := rfl
  have HL : (s.data.toList.take (spn 10 0 s.data.toList)).length = spn 10 0 s.data.toList := List.length_take_of_le (by rw [list_length]; exact hle)
  have HB := jl_take_bd s.data.toList (spn 10 0 s.data.toList)
  by_cases k0 : spn 10 0 s.data.toList = 0
  · have hT : tkS s.data.toList b = (0, [], 6) := by
      rw [HT, if_neg]
      rintro ⟨h, _⟩
      have hl := congrArg List.length h
      rw [enc_length, HL, k0] at hl
      have := (szS_bd (vS s.data.toList)).1
      omega
    rw [hT]
    rw [k0] at SP
    exact refTakeS_none s b w h1 h2 SP
  have GT := hide (fun m (hm : m < s.size) (hk : m < spn 10 0 s.data.toList) => get_take s (spn 10 0 s.data.toList) m hm hk)
  have EQ := hide (fun l => str_eq_take l s (spn 10 0 s.data.toList))
  by_cases k10 : spn 10 0 s.data.toList = 10
  · refine refTakeS_C s b w _ _ _ _ h1 h2 hs hle (by omega) SP GT (hide HL) EQ (by omega) (hide ?_) (hide HI) (hide HT)
    rw [← HV]; unfold spd; rw [if_neg (by omega)]
  · have hb := HB (by omega)
    have hj : w64 (jl (s.data.toList.take (spn 10 0 s.data.toList))) = jl (s.data.toList.take (spn 10 0 s.data.toList)) := by
      have hj0 := jl_bd (s.data.toList.take (spn 10 0 s.data.toList))
      rw [HL] at hj0
      have hq : (2 : Int) ^ (7 * spn 10 0 s.data.toList) ≤ 9223372036854775808 := by
        have : (2 : Int) ^ (7 * spn 10 0 s.data.toList) ≤ 2 ^ 63 := by exact_mod_cast Nat.pow_le_pow_right (by decide) (by omega)
        exact this
      exact w64_id (by omega) (by omega)
    have hbit := top_bit (s.data.toList.take (spn 10 0 s.data.toList)) (spn 10 0 s.data.toList) (by omega) HL (by rw [HL]; omega)
    rw [GT.out (spn 10 0 s.data.toList - 1) (by omega) (by omega) (by rw [HL]; omega)] at hbit
    by_cases hx : (64 : Int) ≤ (s[spn 10 0 s.data.toList - 1].toNat : Int) % 128
    · refine refTakeS_A s b w _ _ _ _ h1 h2 hs hle (by omega) SP GT (hide HL) EQ (by omega) hx (hide ?_) (hide hb) (hide HI) (hide HT)
      rw [← HV]; unfold spd; rw [if_pos ⟨by omega, by omega, by rw [hj]; exact hbit.2 hx⟩]
    · refine refTakeS_B s b w _ _ _ _ h1 h2 hs hle (by omega) SP GT (hide HL) EQ (by omega) (by omega) (hide ?_) (hide HI) (hide HT)
      rw [← HV]; unfold spd; rw [if_neg (fun h => hx (hbit.1 (by rw [← hj]; exact h.2.2)))]
end Go.Proofs.Ytcipbnbeoacenaa
