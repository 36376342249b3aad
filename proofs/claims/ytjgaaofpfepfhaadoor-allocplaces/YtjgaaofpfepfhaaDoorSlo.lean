/-
  The program's Slots: how many slots the places need.
-/
import Derived.Test.YtjgaaofpfepfhaaDoorCrn
namespace Go.Proofs.YtjgaaofpfepfhaaDoor
open Go.RowKit
set_option linter.unusedSimpArgs false
set_option linter.unusedVariables false
/-- The greatest place of the first k, 5 at least. -/
def grt (pl : Nat → Int) : Nat → Int
  | 0 => 5
  | k + 1 => max (grt pl k) (pl k)
theorem grt_le {pl : Nat → Int} {n : Nat} {b : Int} (hb : 5 ≤ b) (h : ∀ i, i < n → pl i ≤ b) : ∀ k, k ≤ n → 5 ≤ grt pl k ∧ grt pl k ≤ b
  | 0, _ => ⟨by unfold grt; omega, by unfold grt; omega⟩
  | k + 1, hk => by
    have := grt_le hb h k (by omega)
    have := h k (by omega)
    unfold grt
    omega
set_option maxRecDepth 100000 in
set_option maxHeartbeats 6400000 in
theorem slots_any (r n c : Nat) (pl : Nat → Int) (w : World) (hn : n ≤ 1000) (hp : ∀ i, i < n → pl i ≤ 9223372036854775807) (hc : ∀ i, i < n → w.cell? ⟨r, i, none⟩ = some (.int .i64 (pl i))) :
    Calls Tryd.prog 14 #[.slice (some ⟨r, 0, none⟩) n c] w fun e w' => e = .returned (.int .i64 (grt pl n - 5)) ∧ w' = w := by
  have HC := hide hc
  have HG := hide (grt_le (b := 9223372036854775807) (by omega) hp)
  clear hc hp
  go_enter Tryd.func14, Tryd.ntmps14
  go_wp2_with fail
  go_loopw [3, 5, 8] (fun s3 _ s8 wr => ∃ k : Nat, k ≤ n ∧ s8 = .int .i64 (k : Int) ∧ s3 = .int .i64 (grt pl k) ∧ wr = w) (fun _ _ s8 _ => n - (intOf s8).toNat)
  case atStart => exact ⟨0, Nat.zero_le _, rfl, rfl, rfl⟩
  case round =>
    obtain ⟨k, hk, rfl, rfl, rfl⟩ := hrel
    by_cases hlt : k < n
    · have hx := HC.out k hlt
      have h1 : (k : Int) < (n : Int) := by omega
      have h0 : (0 : Int) ≤ (k : Int) := by omega
      have hg : Hid (grt pl (k + 1) = max (grt pl k) (pl k)) := rfl
      go_wp2_with fail
      go_roundw
      case rel => exact ⟨k + 1, hlt, by go_num, by rw [hg.out], trivial⟩
      case measure => simp [intOf]; omega
    · obtain rfl : k = n := by omega
      have h1 : ¬ (k : Int) < (k : Int) := by omega
      have hg := HG.out k (Nat.le_refl _)
      go_wp2_with fail

      go_ret
      refine ⟨?_, rfl⟩
      show Ending.returned (.int .i64 (grt pl k - 6 + 1)) = _
      rw [show grt pl k - 6 + 1 = grt pl k - 5 by omega]
set_option maxRecDepth 100000 in
set_option maxHeartbeats 6400000 in
/-- The document's own. -/
theorem rslots_any (r n c : Nat) (pl : Nat → Int) (w : World) (hn : n ≤ 1000) (hp : ∀ i, i < n → -1099511627776 ≤ pl i ∧ pl i ≤ 9223372036854775807) (hc : ∀ i, i < n → w.cell? ⟨r, i, none⟩ = some (.int .i64 (pl i))) :
    Calls Tryd.prog 15 #[.slice (some ⟨r, 0, none⟩) n c] w fun e w' => e = .returned (.int .i64 (grt pl n - 5)) ∧ w' = w := by
  have HC := hide hc
  have HP := hide hp
  have HG := hide (grt_le (b := 9223372036854775807) (by omega) (fun i hi => (hp i hi).2))
  clear hc hp
  go_enter Tryd.func15, Tryd.ntmps15
  go_wp2_with fail
  go_loopw [3, 4] (fun s3 s4 wr => ∃ k : Nat, k ≤ n ∧ s4 = .int .i64 (k : Int) ∧ s3 = .int .i64 (grt pl k - 5) ∧ wr = w) (fun _ s4 _ => n - (intOf s4).toNat)
  case atStart => exact ⟨0, Nat.zero_le _, rfl, rfl, rfl⟩
  case round =>
    obtain ⟨k, hk, rfl, rfl, rfl⟩ := hrel
    by_cases hlt : k < n
    · have hx := HC.out k hlt
      have h1 : (k : Int) < (n : Int) := by omega
      have h0 : (0 : Int) ≤ (k : Int) := by omega
      have hpk := HP.out k hlt
      have hg : Hid (grt pl (k + 1) - 5 = max (grt pl k - 5) (pl k - 5)) := by
        show max (grt pl k) (pl k) - 5 = _
        omega
      generalize pl k = pk at *
      go_wp2_with fail
      go_roundw
      case rel => exact ⟨k + 1, hlt, by go_num, by rw [hg.out], trivial⟩
      case measure => simp [intOf]; omega
    · obtain rfl : k = n := by omega
      have h1 : ¬ (k : Int) < (k : Int) := by omega
      go_wp2_with fail
      go_ret
      exact ⟨rfl, rfl⟩
end Go.Proofs.YtjgaaofpfepfhaaDoor
