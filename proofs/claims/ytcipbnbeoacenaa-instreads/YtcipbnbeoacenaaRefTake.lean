/-
  The document's own length finds how many bytes the number at a string's beginning has, as the plain function spn of the text Math says.
-/
import Derived.Test.YtcipbnbeoacenaaRefS
import Derived.Test.YtcipbnbeoacenaaTakeS
namespace Go.Proofs.Ytcipbnbeoacenaa
open Go.RowKit

set_option maxRecDepth 100000 in
set_option maxHeartbeats 800000 in
theorem length_any (s : ByteArray) (w : World) (hs : s.size ≤ 9223372036854775807) :
    Calls Try.prog 46 #[.string s] w fun e w' => e = .returned (.int .i64 (spn 10 0 s.data.toList)) ∧ w' = w := by
  go_enter Try.func46, Try.ntmps46
  go_wp2
  go_loop [3] (fun i => ∃ k : Nat, k ≤ s.size ∧ k ≤ 10 ∧ i = .int .i64 k ∧ Hid (spn 10 0 s.data.toList = spn (10 - k) k (s.data.toList.drop k))) (fun i => 10 - (intOf i).toNat)
  case atStart => exact ⟨0, by omega, by omega, rfl, hide rfl⟩
  case round =>
    obtain ⟨k, hk, hk10, rfl, hz⟩ := hrel
    by_cases hlt : k < s.size
    · have hd1 : decide ((k : Int) < (s.size : Int)) = true := by simpa using hlt
      by_cases h10 : k < 10
      · have hd2 : decide ((k : Int) < 10) = true := by simp; omega
        have hl : k < s.data.toList.length := by rw [list_length]; exact hlt
        have he := hide (get_list s k hlt hl)
        by_cases hc : (s[k].toNat : Int) < 128
        · have hr := hide (spn_yes (by omega) hl hz.out (by rw [← he.out]; exact hc))
          clear hz
          go_wp2
          go_ret
          exact ⟨ret_int (by rw [hr.out]; simp), rfl⟩
        · have hr := hide (spn_go (by omega) hl hz.out (by rw [← he.out]; omega))
          clear hz
          go_wp2
          go_round
          case rel => exact ⟨k + 1, by omega, by omega, by go_num, hr⟩
          case measure => simp [intOf]; omega
      · have hd2 : decide ((k : Int) < 10) = false := by simp; omega
        have hr := hide (spn_end (by omega) hz.out)
        clear hz
        go_wp2
        go_ret
        exact ⟨ret_int (by rw [hr.out]; rfl), rfl⟩
    · have hd1 : decide ((k : Int) < (s.size : Int)) = false := by simpa using hlt
      have hr := hide (spn_end (by rw [list_length]; omega) hz.out)
      clear hz
      go_wp2
      go_ret
      exact ⟨ret_int (by rw [hr.out]; rfl), rfl⟩

end Go.Proofs.Ytcipbnbeoacenaa
