/-
  The document's own S and Size write and measure any number of 64 bits as the plain functions enc and szS of the text Math say; memory that was there stays as it was.
-/
import Derived.Test.YtcbfpikggphokaaGreatDoorRefU
namespace Go.Proofs.YtcbfpikggphokaaGreatDoor
open Go.RowKit

theorem s_div_bd (n : Int) (hn : I64 n) (k : Nat) (h9 : k = 9) : -64 ≤ n / 2 ^ (7 * k) ∧ n / 2 ^ (7 * k) ≤ 63 := by
  subst h9
  have e : (2 : Int) ^ (7 * 9) = 9223372036854775808 := by decide
  rw [e]
  unfold I64 at hn
  omega
/-- How far a number is from none: what a step lowers. -/
def far (x : Int) : Nat := (if 0 ≤ x then x else -x - 1).toNat
theorem far_step (x : Int) (h : x < -64 ∨ 63 < x) : far (x / 128) < far x := by
  unfold far
  split <;> split <;> omega

set_option maxRecDepth 100000 in
set_option maxHeartbeats 1600000 in
theorem refS_any (n : Int) (w : World) (hn : I64 n) :
    Calls Tryz.prog 28 #[.int .i64 n] w fun e w' => e = .returned (.string (str (enc n (szS n)))) ∧ Below w.heap.size w w' := by
  obtain ⟨i0, hi, hz0, hz1, hz2⟩ := info_parts Tryz.info5
  have HN := hide hn
  clear hn
  go_enter Tryz.func28, Tryz.ntmps28
  go_wp2
  go_loopw [0, 3] (fun nv v wr => ∃ k : Nat, k ≤ 9 ∧ nv = .int .i64 (n / 2 ^ (7 * k)) ∧ wr.ownsRow w.heap.size 5 1 v k ((fst n k).map (Value.int .u8)) ∧ Below w.heap.size w wr ∧ Hid (szS n = szA (9 - k) k (n / 2 ^ (7 * k))))
    (fun nv _ _ => far (intOf nv))
  case atStart => exact ⟨0, by omega, by rw [div_zero], World.ownsRow_nil _ _ _ _, Below.refl _ _, hide (by rw [div_zero]; rfl)⟩
  case round =>
    obtain ⟨k, hk, rfl, hown, hb, hz⟩ := hrel
    have hbs := hb.size
    have hand := i64_and127 (n / 2 ^ (7 * k))
    have h256 : (n / 2 ^ (7 * k) % 128 + 128) % 256 = n / 2 ^ (7 * k) % 128 + 128 := by omega
    have h256' : n / 2 ^ (7 * k) % 128 % 256 = n / 2 ^ (7 * k) % 128 := by omega
    by_cases hlt : n / 2 ^ (7 * k) < -64 ∨ 63 < n / 2 ^ (7 * k)
    · have hk7 : k < 9 := by
        rcases Nat.lt_or_ge k 9 with h | h
        · exact h
        · have := s_div_bd n HN.out k (by omega); omega
      have HZ := hide (szA_go hk7 hz.out (by omega))
      have HD := hide (div_step n k)
      have HF := hide (far_step _ hlt)
      clear hz
      rcases hlt with hlt | hlt
      · have hd : decide (n / 2 ^ (7 * k) < -64) = true := by simpa using hlt
        go_wp2_with (at_builtin; refine wpList_append_own _ rfl (.tmp 10) (.tmp 15) 55 rfl w.heap.size 5 i0 (.int .u8 0) 1 1 Tryz.underlying55 hi hz0 hz1 hz2 rfl (by decide) _ _ _ rfl (hown.alloc _) ⟨wr.heap.size, 0, none⟩ 1 1 [.int .u8 (n / 2 ^ (7 * k) % 128 + 128)] rfl rfl (one_at _ _) (one_cell _) (by unfold maxLen; omega) (by omega) (by simp; omega) ?_)
        intro v' w1 hown' hgrow _
        have hbel : Below w.heap.size w w1 := (hb.alloc hbs _).grown hgrow (by simp; omega) (fun j hj => (hown.lt j hj).1)
        have hown2 : w1.ownsRow w.heap.size 5 1 v' (k + 1) ((fst n (k + 1)).map (Value.int .u8)) := by
          rw [fst_succ, List.map_append]; exact hown'
        clear hown' hgrow hown hb
        go_wp2
        go_roundw
        case rel => exact ⟨k + 1, by omega, by rw [HD.out], hown2, hbel, HZ⟩
        case measure => simp only [intOf]; exact HF.out
      · have hd : decide (n / 2 ^ (7 * k) < -64) = false := by simp; omega
        have hd2 : decide (63 < n / 2 ^ (7 * k)) = true := by simpa using hlt
        go_wp2_with (at_builtin; refine wpList_append_own _ rfl (.tmp 10) (.tmp 15) 55 rfl w.heap.size 5 i0 (.int .u8 0) 1 1 Tryz.underlying55 hi hz0 hz1 hz2 rfl (by decide) _ _ _ rfl (hown.alloc _) ⟨wr.heap.size, 0, none⟩ 1 1 [.int .u8 (n / 2 ^ (7 * k) % 128 + 128)] rfl rfl (one_at _ _) (one_cell _) (by unfold maxLen; omega) (by omega) (by simp; omega) ?_)
        intro v' w1 hown' hgrow _
        have hbel : Below w.heap.size w w1 := (hb.alloc hbs _).grown hgrow (by simp; omega) (fun j hj => (hown.lt j hj).1)
        have hown2 : w1.ownsRow w.heap.size 5 1 v' (k + 1) ((fst n (k + 1)).map (Value.int .u8)) := by
          rw [fst_succ, List.map_append]; exact hown'
        clear hown' hgrow hown hb
        go_wp2
        go_roundw
        case rel => exact ⟨k + 1, by omega, by rw [HD.out], hown2, hbel, HZ⟩
        case measure => simp only [intOf]; exact HF.out
    · have hkk : szS n = k + 1 := by
        rcases Nat.lt_or_ge k 9 with h | h
        · exact szA_yes h hz.out (by omega)
        · have e9 : k = 9 := by omega
          rw [szA_end (by omega) hk hz.out, e9]
      have HK := hide hkk
      have hd : decide (n / 2 ^ (7 * k) < -64) = false := by simp; omega
      have hd2 : decide (63 < n / 2 ^ (7 * k)) = false := by simp; omega
      clear hz hkk
      go_wp2_with (at_builtin; refine wpList_append_own _ rfl (.tmp 19) (.tmp 23) 55 rfl w.heap.size 5 i0 (.int .u8 0) 1 1 Tryz.underlying55 hi hz0 hz1 hz2 rfl (by decide) _ _ _ rfl (hown.alloc _) ⟨wr.heap.size, 0, none⟩ 1 1 [.int .u8 (n / 2 ^ (7 * k) % 128)] rfl rfl (one_at _ _) (one_cell _) (by unfold maxLen; omega) (by omega) (by simp; omega) ?_)
      intro v' w1 hown' hgrow _
      have hbel : Below w.heap.size w w1 := (hb.alloc hbs _).grown hgrow (by simp; omega) (fun j hj => (hown.lt j hj).1)
      have hcv : (convert 55 9 v').run Tryz.prog w1 = .ok (.string (str (enc n (szS n)))) w1 := by
        have he : (fst n k).map (Value.int .u8) ++ [Value.int .u8 (n / 2 ^ (7 * k) % 128)] = (enc n (szS n)).map fun b => Value.int .u8 (b.toNat : Int) := by
          rw [HK.out]
          have e2 := congrArg (List.map (Value.int .u8)) (fst_enc n k)
          rw [List.map_append, List.map_map] at e2
          exact e2
        refine string_own (B := w.heap.size) (l := enc n (szS n)) ?_ (by rw [enc_length, HK.out]; omega)
        rw [← he, enc_length, HK.out]
        exact hown'
      clear hown' hgrow hown hb
      go_wp2
      go_ret
      exact ⟨rfl, hbel⟩
end Go.Proofs.YtcbfpikggphokaaGreatDoor
