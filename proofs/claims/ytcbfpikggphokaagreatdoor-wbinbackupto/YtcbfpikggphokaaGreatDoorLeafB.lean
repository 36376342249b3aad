/-
  The program's functions that read a string's bytes and put bits together: span, join and spread answer what the plain functions of the text Math answer, and change nothing.
-/
import Derived.Test.YtcbfpikggphokaaGreatDoorLeaf
import Derived.Lib.Strings
namespace Go.Proofs.YtcbfpikggphokaaGreatDoor
open Go.RowKit

theorem w64_is (x : Int) : wrap64 x = w64 x := by unfold wrap64 w64; rfl
theorem w64_id {x : Int} (h0 : -9223372036854775808 ≤ x) (h1 : x ≤ 9223372036854775807) : w64 x = x := by unfold w64; omega
theorem w64_bd (x : Int) : -9223372036854775808 ≤ w64 x ∧ w64 x ≤ 9223372036854775807 := by unfold w64; omega

theorem or64 (a y : Int) (i : Nat) (hi : i ≤ 63) (h0 : 0 ≤ a) (h1 : a < 2 ^ i) (hy : y % 2 ^ i = 0) : bits .or .i64 a (wrap64 y) = w64 (a + y) := by
  have hp : (2 : Int) ^ i ≤ 9223372036854775808 := by
    have : (2 : Int) ^ i ≤ 2 ^ 63 := by exact_mod_cast Nat.pow_le_pow_right (by decide) hi
    exact this
  have hd : (2 : Int) ^ i ∣ 18446744073709551616 := by
    have : (2 : Int) ^ i ∣ 2 ^ 64 := ⟨2 ^ (64 - i), by rw [← Int.pow_add]; congr 1; omega⟩
    exact this
  have e1 : (BitVec.ofInt 64 a).toNat = a.toNat := by
    rw [BitVec.toNat_ofInt]
    show (a % 18446744073709551616).toNat = _
    rw [Int.emod_eq_of_lt h0 (by omega)]
  have e2 : (BitVec.ofInt 64 (wrap64 y)).toNat = (y % 18446744073709551616).toNat := by
    rw [BitVec.toNat_ofInt]
    show (wrap64 y % 18446744073709551616).toNat = _
    rw [w64_is]; unfold w64; congr 1; omega
  have e3 : (y % 18446744073709551616).toNat % 2 ^ i = 0 := by
    have h := Int.emod_emod_of_dvd y hd
    rw [hy] at h
    have h' : (((y % 18446744073709551616).toNat % 2 ^ i : Nat) : Int) = 0 := by
      rw [Int.natCast_emod, Int.toNat_of_nonneg (by omega), Int.natCast_pow]
      exact h
    exact Int.natCast_eq_zero.1 h'
  have e4 : a.toNat < 2 ^ i := by
    have : ((a.toNat : Nat) : Int) < ((2 ^ i : Nat) : Int) := by rw [Int.toNat_of_nonneg h0]; exact_mod_cast h1
    exact_mod_cast this
  show IntKind.i64.wrap ((BitVec.ofInt 64 a ||| BitVec.ofInt 64 (wrap64 y)).toNat : Nat) = _
  rw [BitVec.toNat_or, e1, e2, Nat.or_comm, nat_join i _ _ e3 e4, IntKind.wrap_i64]
  unfold w64
  omega

theorem and127 (c : UInt8) : bits .and .u8 (c.toNat : Int) 127 = (c.toNat : Int) % 128 := by
  have := c.toNat_lt
  exact bits_mask .u8 8 (by decide) wraps_u8 7 (by decide) _ (by omega) (by omega)

theorem and1 (n : Int) : bits .and .i64 n 1 = n % 2 := by
  have h1 : (BitVec.ofInt 64 1).toNat = 2 ^ 1 - 1 := by decide
  have key : (BitVec.ofInt 64 n &&& BitVec.ofInt 64 1).toNat = (n % ((2 ^ 64 : Nat) : Int)).toNat % 2 ^ 1 := by
    rw [BitVec.toNat_and, BitVec.toNat_ofInt, h1, Nat.and_two_pow_sub_one_eq_mod]
  show IntKind.i64.wrap ((BitVec.ofInt 64 n &&& BitVec.ofInt 64 1).toNat : Nat) = n % 2
  rw [key, IntKind.wrap_i64]
  omega

theorem get_list (s : ByteArray) (k : Nat) (_h : k < s.size) (_h' : k < s.data.toList.length) : s[k] = s.data.toList[k] := by
  simp [ByteArray.getElem_eq_getElem_data]
theorem list_length (s : ByteArray) : s.data.toList.length = s.size := by simp

theorem join_step (s : ByteArray) (k : Nat) (h : k < s.size) (h9 : k ≤ 9) :
    bits .or .i64 (w64 (jl (s.data.toList.take k))) (wrap64 (wrap64 (bits .and .u8 (s[k].toNat : Int) 127) * 2 ^ (7 * k))) = w64 (jl (s.data.toList.take (k + 1))) := by
  have hl : k < s.data.toList.length := by rw [list_length]; exact h
  have hb := jl_bd (s.data.toList.take k)
  rw [List.length_take_of_le (by omega)] at hb
  have hp : (2 : Int) ^ (7 * k) ≤ 9223372036854775808 := by
    have : (2 : Int) ^ (7 * k) ≤ 2 ^ 63 := by exact_mod_cast Nat.pow_le_pow_right (by decide) (by omega)
    exact this
  rw [w64_id (by omega) (by omega), and127, w64_is (_ % _), w64_id (by omega) (by omega), or64 _ _ (7 * k) (by omega) hb.1 hb.2 (Int.mul_emod_left _ _), jl_take hl, get_list s k h hl]

set_option maxHeartbeats 400000 in
theorem join_any (s : ByteArray) (w : World) (hs : s.size ≤ 10) :
    Calls Tryz.prog 154 #[.string s] w fun e w' => e = .returned (.int .i64 (w64 (jl s.data.toList))) ∧ w' = w := by
  go_enter Tryz.func154, Tryz.ntmps154
  go_wp2
  go_loop [3, 7] (fun t i => ∃ k : Nat, k ≤ s.size ∧ i = .int .i64 k ∧ t = .int .i64 (w64 (jl (s.data.toList.take k)))) (fun _ i => s.size - (intOf i).toNat)
  case atStart => exact ⟨0, by omega, rfl, rfl⟩
  case round =>
    obtain ⟨k, hk, rfl, rfl⟩ := hrel
    by_cases hlt : k < s.size
    · have hst := hide (join_step s k hlt (by omega))
      go_wp2
      go_round
      case rel => exact ⟨k + 1, by omega, by go_num, by rw [hst.out]⟩
      case measure => simp [intOf]; omega
    · go_wp2
      go_ret
      exact ⟨ret_int (by rw [List.take_of_length_le (by rw [list_length]; omega)]), rfl⟩

set_option maxRecDepth 100000 in
set_option maxHeartbeats 400000 in
theorem span_any (s : ByteArray) (w : World) (hs : s.size ≤ 9223372036854775807) :
    Calls Tryz.prog 153 #[.string s] w fun e w' => e = .returned (.int .i64 (spn 10 0 s.data.toList)) ∧ w' = w := by
  by_cases h10 : s.size ≤ 10
  · go_enter Tryz.func153, Tryz.ntmps153
    go_wp2
    go_loop [7] (fun i => ∃ k : Nat, k ≤ s.size ∧ i = .int .i64 k ∧ Hid (spn 10 0 s.data.toList = spn (10 - k) k (s.data.toList.drop k))) (fun i => s.size - (intOf i).toNat)
    case atStart => exact ⟨0, by omega, rfl, hide rfl⟩
    case round =>
      obtain ⟨k, hk, rfl, hz⟩ := hrel
      by_cases hlt : k < s.size
      · have hl : k < s.data.toList.length := by rw [list_length]; exact hlt
        have he := hide (get_list s k hlt hl)
        by_cases hc : (s[k].toNat : Int) < 128
        · have hr := hide (spn_yes (by omega) hl hz.out (by rw [← he.out]; exact hc))
          clear hz
          go_wp2
          go_ret
          exact ⟨ret_int (by rw [hr.out]; simp), rfl⟩
        · have hr := hide (spn_go (by omega) hl hz.out (by rw [← he.out]; omega))
          clear hz
          go_wp2
          go_round
          case rel => exact ⟨k + 1, by omega, by go_num, hr⟩
          case measure => simp [intOf]; omega
      · have hr := hide (spn_end (by rw [list_length]; omega) hz.out)
        clear hz
        go_wp2
        go_ret
        exact ⟨ret_int (by rw [hr.out]; rfl), rfl⟩
  · go_enter Tryz.func153, Tryz.ntmps153
    go_wp2
    go_loop [7] (fun i => ∃ k : Nat, k ≤ 10 ∧ i = .int .i64 k ∧ Hid (spn 10 0 s.data.toList = spn (10 - k) k (s.data.toList.drop k))) (fun i => 10 - (intOf i).toNat)
    case atStart => exact ⟨0, by omega, rfl, hide rfl⟩
    case round =>
      obtain ⟨k, hk, rfl, hz⟩ := hrel
      by_cases hlt : k < 10
      · have hls : k < s.size := by omega
        have hl : k < s.data.toList.length := by rw [list_length]; exact hls
        have he := hide (get_list s k hls hl)
        by_cases hc : (s[k].toNat : Int) < 128
        · have hr := hide (spn_yes (by omega) hl hz.out (by rw [← he.out]; exact hc))
          clear hz
          go_wp2
          go_ret
          exact ⟨ret_int (by rw [hr.out]; simp), rfl⟩
        · have hr := hide (spn_go (by omega) hl hz.out (by rw [← he.out]; omega))
          clear hz
          go_wp2
          go_round
          case rel => exact ⟨k + 1, by omega, by go_num, hr⟩
          case measure => simp [intOf]; omega
      · have hr := hide (spn_end (by omega) hz.out)
        clear hz
        go_wp2
        go_ret
        exact ⟨ret_int (by rw [hr.out]; rfl), rfl⟩

theorem spread_or (n : Int) (k : Nat) (h0 : 0 ≤ n) (h1 : n < 2 ^ (7 * k)) (hk : k ≤ 9) : bits .or .i64 n (wrap64 (-2 ^ (7 * k))) = n - 2 ^ (7 * k) := by
  have hp : (2 : Int) ^ (7 * k) ≤ 9223372036854775808 := by
    have : (2 : Int) ^ (7 * k) ≤ 2 ^ 63 := by exact_mod_cast Nat.pow_le_pow_right (by decide) (by omega)
    exact this
  rw [or64 n _ (7 * k) (by omega) h0 h1 (by rw [Int.neg_emod]; simp), w64_id (by omega) (by omega)]
  omega

set_option maxHeartbeats 400000 in
theorem spread_any (n : Int) (k : Nat) (w : World) (h1 : 1 ≤ k) (h9 : k ≤ 9) (hn : 0 ≤ n) (hb : n < 2 ^ (7 * k)) :
    Calls Tryz.prog 159 #[.int .i64 n, .int .i64 k] w fun e w' => e = .returned (.int .i64 (spd n k)) ∧ w' = w := by
  have hor := hide (spread_or n k hn hb h9)
  clear hb
  by_cases hy : n / 2 ^ (7 * k - 1) % 2 = 1
  · have hd := hide (show spd n k = n - 2 ^ (7 * k) by unfold spd; rw [if_pos ⟨h1, h9, hy⟩])
    have ha : (bits BinOp.and IntKind.i64 (n / 2 ^ (7 * k - 1)) 1 == 1) = true := by rw [and1, hy]; rfl
    clear hy
    go_enter Tryz.func159, Tryz.ntmps159
    go_wp2
    go_ret
    exact ⟨ret_int (by rw [hd.out]; exact hor.out), rfl⟩
  · have hd := hide (show spd n k = n by unfold spd; rw [if_neg (fun h => hy h.2.2)])
    have ha : (bits BinOp.and IntKind.i64 (n / 2 ^ (7 * k - 1)) 1 == 1) = false := by rw [and1]; simp; omega
    clear hy hor
    go_enter Tryz.func159, Tryz.ntmps159
    go_wp2
    go_ret
    exact ⟨ret_int (by rw [hd.out]), rfl⟩
end Go.Proofs.YtcbfpikggphokaaGreatDoor
