/-
  The program's functions that only reckon: signAlone, Size, sizeU, span and join answer what the plain functions of the text Math answer, and change nothing.
-/
import Derived.Test.YtcbfpikggphokaaGreatDoorRows
import Derived.Test.YtcbfpikggphokaaGreatDoorMath
import Derived.WalkKit
import Derived.WalkSpells
import Derived.Handy
import Derived.PlainAid
namespace Go.Proofs.YtcbfpikggphokaaGreatDoor
open Go.RowKit

theorem hide {p : Prop} (h : p) : Hid p := h
theorem ret_int {k : IntKind} {a b : Int} (h : a = b) : Ending.returned (.int k a) = .returned (.int k b) := by rw [h]

set_option maxHeartbeats 400000 in
theorem alone_yes (n : Int) (w : World) (h : n = 0 ∨ n = -1) :
    Calls Tryz.prog 136 #[.int .i64 n] w fun e w' => e = .returned (.bool true) ∧ w' = w := by
  rcases h with rfl | rfl
  · go_enter Tryz.func136, Tryz.ntmps136
    go_wp2
    go_ret
    exact ⟨rfl, rfl⟩
  · go_enter Tryz.func136, Tryz.ntmps136
    go_wp2
    go_ret
    exact ⟨rfl, rfl⟩
set_option maxHeartbeats 400000 in
theorem alone_no (n : Int) (w : World) (h : ¬ (n = 0 ∨ n = -1)) :
    Calls Tryz.prog 136 #[.int .i64 n] w fun e w' => e = .returned (.bool false) ∧ w' = w := by
  have h0 : (n == 0) = false := by simp; omega
  have h1 : (n == -1) = false := by simp; omega
  go_enter Tryz.func136, Tryz.ntmps136
  go_wp2
  go_ret
  exact ⟨rfl, rfl⟩

set_option maxHeartbeats 400000 in
theorem size_any (n : Int) (w : World) :
    Calls Tryz.prog 116 #[.int .i64 n] w fun e w' => e = .returned (.int .i64 (szS n)) ∧ w' = w := by
  go_enter Tryz.func116, Tryz.ntmps116
  go_wp2
  go_loop [4] (fun i => ∃ k : Nat, k ≤ 9 ∧ i = .int .i64 k ∧ Hid (szS n = szA (9 - k) k (n / 2 ^ (7 * k)))) (fun i => 9 - (intOf i).toNat)
  case atStart => exact ⟨0, by omega, rfl, hide (by rw [div_zero]; rfl)⟩
  case round =>
    obtain ⟨k, hk, rfl, hz⟩ := hrel
    by_cases hlt : k < 9
    · by_cases hy : -64 ≤ n / 2 ^ (7 * k) ∧ n / 2 ^ (7 * k) ≤ 63
      · have hr := hide (szA_yes hlt hz.out hy)
        have h6 : n / 2 ^ (7 * k + 6) = 0 ∨ n / 2 ^ (7 * k + 6) = -1 := by rw [div_six]; omega
        have H6 := hide h6
        clear hy h6 hz
        go_wp2_with (go_at_call 136; refine (alone_yes _ _ H6.out).mono ?_; rintro e w' ⟨rfl, rfl⟩)
        go_ret
        exact ⟨ret_int (by rw [hr.out]; simp), rfl⟩
      · have hr := hide (szA_go hlt hz.out hy)
        have h6 : ¬ (n / 2 ^ (7 * k + 6) = 0 ∨ n / 2 ^ (7 * k + 6) = -1) := by rw [div_six]; omega
        have H6 := hide h6
        clear hy h6 hz
        go_wp2_with (go_at_call 136; refine (alone_no _ _ H6.out).mono ?_; rintro e w' ⟨rfl, rfl⟩)
        go_round
        case rel => exact ⟨k + 1, by omega, by go_num, hr⟩
        case measure => simp [intOf]; omega
    · have hr := hide (szA_end hlt hk hz.out)
      clear hz
      go_wp2
      go_ret
      exact ⟨ret_int (by rw [hr.out]; rfl), rfl⟩

set_option maxHeartbeats 400000 in
theorem sizeU_any (n : Int) (w : World) :
    Calls Tryz.prog 115 #[.int .i64 n] w fun e w' => e = .returned (.int .i64 (szU n)) ∧ w' = w := by
  go_enter Tryz.func115, Tryz.ntmps115
  go_wp2
  go_loop [4] (fun i => ∃ k : Nat, k ≤ 8 ∧ i = .int .i64 k ∧ Hid (szU n = uzA (8 - k) k (n / 2 ^ (7 * k)))) (fun i => 8 - (intOf i).toNat)
  case atStart => exact ⟨0, by omega, rfl, hide (by rw [div_zero]; rfl)⟩
  case round =>
    obtain ⟨k, hk, rfl, hz⟩ := hrel
    by_cases hlt : k < 8
    · by_cases hy : 0 ≤ n / 2 ^ (7 * k) ∧ n / 2 ^ (7 * k) ≤ 127
      · have hr := hide (uzA_yes hlt hz.out hy)
        have h6 : (n / 2 ^ (7 * k + 7) == 0) = true := by rw [div_seven]; simp; omega
        clear hy hz
        go_wp2
        go_ret
        exact ⟨ret_int (by rw [hr.out]; simp), rfl⟩
      · have hr := hide (uzA_go hlt hz.out hy)
        have h6 : (n / 2 ^ (7 * k + 7) == 0) = false := by rw [div_seven]; simp; omega
        clear hy hz
        go_wp2
        go_round
        case rel => exact ⟨k + 1, by omega, by go_num, hr⟩
        case measure => simp [intOf]; omega
    · have hr := hide (uzA_end hlt hk hz.out)
      clear hz
      go_wp2
      go_ret
      exact ⟨ret_int (by rw [hr.out]; rfl), rfl⟩
end Go.Proofs.YtcbfpikggphokaaGreatDoor
