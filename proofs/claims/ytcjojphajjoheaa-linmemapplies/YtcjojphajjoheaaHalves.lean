/-
  Eight bytes are four, and the four behind them: the walk of the statement LinmemHalves.
-/
import Derived.Test.YtcjojphajjoheaaEx
namespace Go.Proofs.Ytcjojphajjoheaa
open Go.RowKit

theorem cut_size (s : ByteArray) : (s.extract 0 (min (s.size : Int) 5000).toNat).size ≤ 140737488351232 := by simp; omega
set_option maxHeartbeats 1600000 in
theorem halves_walk (s : ByteArray) (a : Int) (w : World) (_hs : s.size ≤ 140737488351232) (_ha : I64 a) :
    Calls Try.prog 6 #[.string s, .int .i64 a] w fun e w' => e = .returned (.bool true) ∧ Below w.heap.size w w' := by
  have hc := hide (cut_size s)
  rcases halves_is (s.extract 0 (min (s.size : Int) 5000).toNat).data.toList a with ⟨h8, h4⟩ | ⟨x, y, h8, h0, h4, hx0, hx1⟩
  · have E8 := hide h8
    have F4 := hide h4
    obtain ⟨v, ok, h0⟩ : ∃ v ok, ldA (s.extract 0 (min (s.size : Int) 5000).toNat).data.toList a 0 4 = (v, ok) := ⟨_, _, rfl⟩
    have E4 := hide h0
    clear h0 h4 h8
    go_enter Try.func6, Try.ntmps6
    go_wp2_with (first | (go_at_call 9; refine (examples_any _).mono ?_; rintro e w1 ⟨rfl, hb1⟩) | (go_at_call 10; refine (load_any _ _ _ _ _ hc.out).mono ?_; first | (rw [E8.out]; rintro e w2 ⟨rfl, hb2⟩) | (rw [E4.out]; rintro e w3 ⟨rfl, hb3⟩) | (rw [F4.out]; rintro e w4 ⟨rfl, hb4⟩)))
    go_ret
    exact ⟨rfl, hb1.trans ((hb2.mono hb1.size).trans ((hb3.mono (Nat.le_trans hb1.size hb2.size)).trans (hb4.mono (Nat.le_trans hb1.size (Nat.le_trans hb2.size hb3.size)))))⟩
  · have E8 := hide h8
    have F4 := hide h4
    have E4 := hide h0
    clear h0 h4 h8
    go_enter Try.func6, Try.ntmps6
    go_wp2_with (first | (go_at_call 9; refine (examples_any _).mono ?_; rintro e w1 ⟨rfl, hb1⟩) | (go_at_call 10; refine (load_any _ _ _ _ _ hc.out).mono ?_; first | (rw [E8.out]; rintro e w2 ⟨rfl, hb2⟩) | (rw [E4.out]; rintro e w3 ⟨rfl, hb3⟩) | (rw [F4.out]; rintro e w4 ⟨rfl, hb4⟩)))
    go_ret
    exact ⟨rfl, hb1.trans ((hb2.mono hb1.size).trans ((hb3.mono (Nat.le_trans hb1.size hb2.size)).trans (hb4.mono (Nat.le_trans hb1.size (Nat.le_trans hb2.size hb3.size)))))⟩
end Go.Proofs.Ytcjojphajjoheaa
