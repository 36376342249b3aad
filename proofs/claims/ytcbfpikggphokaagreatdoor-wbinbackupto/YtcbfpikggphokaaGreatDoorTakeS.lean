/-
  The program's function TakeS reads what the plain function tkS of the text Math says, of any string and any number of bits; memory that was there stays as it was.
-/
import Derived.Test.YtcbfpikggphokaaGreatDoorTakeU
import Derived.Deep.RegionWith
namespace Go.Proofs.YtcbfpikggphokaaGreatDoor
open Go.RowKit

set_option maxHeartbeats 400000 in
theorem spread_zero (n : Int) (w : World) :
    Calls Tryz.prog 159 #[.int .i64 n, .int .i64 (0 : Nat)] w fun e w' => e = .returned (.int .i64 n) ∧ w' = w := by
  go_enter Tryz.func159, Tryz.ntmps159
  go_wp2
  go_ret
  exact ⟨rfl, rfl⟩

theorem or_top (n : Int) (h0 : -9223372036854775808 ≤ n) (h1 : n ≤ 9223372036854775807) : bits .or .i64 n (wrap64 (-18446744073709551616)) = n := by
  have e : wrap64 (-18446744073709551616) = 0 := by rw [w64_is]; unfold w64; omega
  rw [e]
  have e2 : BitVec.ofInt 64 0 = 0#64 := by decide
  show IntKind.i64.wrap ((BitVec.ofInt 64 n ||| BitVec.ofInt 64 0).toNat : Nat) = n
  rw [e2, BitVec.or_zero, BitVec.toNat_ofInt, IntKind.wrap_i64]
  show (((n % 18446744073709551616).toNat : Int) + 9223372036854775808) % 18446744073709551616 - 9223372036854775808 = n
  omega

set_option maxHeartbeats 400000 in
theorem spread_ten (n : Int) (w : World) (h0 : -9223372036854775808 ≤ n) (h1 : n ≤ 9223372036854775807) :
    Calls Tryz.prog 159 #[.int .i64 n, .int .i64 (10 : Nat)] w fun e w' => e = .returned (.int .i64 n) ∧ w' = w := by
  have ho := hide (or_top n h0 h1)
  go_enter Tryz.func159, Tryz.ntmps159
  go_wp2
  all_goals go_ret
  · exact ⟨ret_int ho.out, rfl⟩
  · exact ⟨rfl, rfl⟩

theorem spread_all (n : Int) (k : Nat) (w : World) (hk : k ≤ 10) (h9 : 1 ≤ k → k ≤ 9 → 0 ≤ n ∧ n < 2 ^ (7 * k)) (h0 : -9223372036854775808 ≤ n) (h1 : n ≤ 9223372036854775807) :
    Calls Tryz.prog 159 #[.int .i64 n, .int .i64 k] w fun e w' => e = .returned (.int .i64 (spd n k)) ∧ w' = w := by
  by_cases e0 : k = 0
  · subst e0
    rw [show spd n 0 = n by unfold spd; rw [if_neg (by omega)]]
    exact spread_zero n w
  by_cases e10 : k = 10
  · subst e10
    rw [show spd n 10 = n by unfold spd; rw [if_neg (by omega)]]
    exact spread_ten n w h0 h1
  exact spread_any n k w (by omega) (by omega) (h9 (by omega) (by omega)).1 (h9 (by omega) (by omega)).2

set_option maxHeartbeats 400000 in
theorem takeS_arg (s : ByteArray) (b : Int) (w : World) (h : b < 1 ∨ 64 < b) :
    Calls Tryz.prog 155 #[.string s, .int .i64 b] w fun e w' => e = .returned (.tuple #[.int .i64 (tkS s.data.toList b).1, .string (str (tkS s.data.toList b).2.1), .int .i64 (tkS s.data.toList b).2.2]) ∧ Below w.heap.size w w' := by
  have ht : tkS s.data.toList b = (0, [], 4) := by unfold tkS; rw [if_pos h]
  rw [ht]
  clear ht
  rcases h with h | h
  · have hd : decide (b < 1) = true := by simpa using h
    go_enter Tryz.func155, Tryz.ntmps155
    go_wp2
    go_ret3
    exact ⟨rfl, Below.refl _ _⟩
  · have hd : decide (b < 1) = false := by simp; omega
    go_enter Tryz.func155, Tryz.ntmps155
    go_wp2
    go_ret3
    exact ⟨rfl, Below.refl _ _⟩

theorem jl_take_bd (l : List UInt8) (k : Nat) (h : k ≤ 9) : 0 ≤ w64 (jl (l.take k)) ∧ w64 (jl (l.take k)) < 2 ^ (7 * k) := by
  have hb := jl_bd (l.take k)
  have hl : (l.take k).length ≤ k := List.length_take_le _ _
  have hp : (2 : Int) ^ (7 * (l.take k).length) ≤ 2 ^ (7 * k) := by exact_mod_cast Nat.pow_le_pow_right (by decide) (by omega)
  have hq : (2 : Int) ^ (7 * k) ≤ 9223372036854775808 := by
    have : (2 : Int) ^ (7 * k) ≤ 2 ^ 63 := by exact_mod_cast Nat.pow_le_pow_right (by decide) (by omega)
    exact this
  rw [w64_id (by omega) (by omega)]
  omega

theorem below_of_drew {w w' : World} (h : Below w.drew.heap.size w.drew w') : Below w.heap.size w w' := ((Below.refl w.heap.size w).drew).trans h

set_option maxRecDepth 100000 in
set_option maxHeartbeats 1600000 in
theorem takeS_any (s : ByteArray) (b : Int) (w : World) (hs : s.size ≤ 9223372036854775807) :
    Calls Tryz.prog 155 #[.string s, .int .i64 b] w fun e w' => e = .returned (.tuple #[.int .i64 (tkS s.data.toList b).1, .string (str (tkS s.data.toList b).2.1), .int .i64 (tkS s.data.toList b).2.2]) ∧ Below w.heap.size w w' := by
  by_cases hbb : b < 1 ∨ 64 < b
  · exact takeS_arg s b w hbb
  have h1 : 1 ≤ b := by omega
  have h2 : b ≤ 64 := by omega
  have hle : spn 10 0 s.data.toList ≤ s.size := (span_le _).1
  have hle10 : spn 10 0 s.data.toList ≤ 10 := (span_le _).2
  have SP := hide (fun w => span_any s w hs)
  have hsz : (s.extract 0 (spn 10 0 s.data.toList)).size ≤ 10 := by simp; omega
  have JN := hide (fun w => join_any (s.extract 0 (spn 10 0 s.data.toList)) w hsz)
  rw [ext_take] at JN
  have SD := hide (fun w => spread_all (w64 (jl (s.data.toList.take (spn 10 0 s.data.toList)))) (spn 10 0 s.data.toList) w hle10 (fun _ h9 => jl_take_bd _ _ h9) (w64_bd _).1 (w64_bd _).2)
  have HT : Hid (tkS s.data.toList b = if enc (vS s.data.toList) (szS (vS s.data.toList)) = s.data.toList.take (spn 10 0 s.data.toList) ∧ (vS s.data.toList / 2 ^ (b.toNat - 1) = 0 ∨ vS s.data.toList / 2 ^ (b.toNat - 1) = -1)
    then (vS s.data.toList, s.data.toList.drop (spn 10 0 s.data.toList), 0) else (0, [], 6)) := by
    refine hide ?_
    unfold tkS
    rw [if_neg hbb]
  have ev : spd (w64 (jl (s.data.toList.take (spn 10 0 s.data.toList)))) (spn 10 0 s.data.toList) = vS s.data.toList := rfl
  rw [ev] at SD
  clear ev
  generalize vS s.data.toList = v at *
  generalize w64 (jl (s.data.toList.take (spn 10 0 s.data.toList))) = z at *
  generalize spn 10 0 s.data.toList = k at *
  generalize tkS s.data.toList b = T at *
  clear hsz hbb
  have hwr : IntKind.i64.wrap (b - 1) = b - 1 := IntWalk.i64_in _ ⟨by omega, by omega⟩
  have hb0 : 0 ≤ b - 1 := by omega
  have hb1 : b - 1 ≤ 64 := by omega
  by_cases he : enc v (szS v) = s.data.toList.take k
  · have hq : ((str (enc v (szS v))).toList == (s.extract 0 k).toList) = true := by rw [beq_iff_eq]; exact (str_eq_take _ _ _).2 he
    by_cases ha : v / 2 ^ (b.toNat - 1) = 0 ∨ v / 2 ^ (b.toNat - 1) = -1
    · have hT : T = (v, s.data.toList.drop k, 0) := by rw [HT.out, if_pos ⟨he, ha⟩]
      subst hT
      have HA := hide ha
      clear HT he ha
      go_enter Tryz.func155, Tryz.ntmps155
      go_wp2_with (first | (go_at_call 153; refine (SP.out _).mono ?_; rintro e w' ⟨rfl, rfl⟩) | (go_at_call 154; refine (JN.out _).mono ?_; rintro e w' ⟨rfl, rfl⟩) | (go_at_call 159; refine (SD.out _).mono ?_; rintro e w' ⟨rfl, rfl⟩))
      go_region_with (first | (go_at_call 95; refine (S_any v _).mono ?_; rintro e w1 ⟨rfl, hb⟩) | (go_at_call 136; refine (alone_yes (v / 2 ^ (b.toNat - 1)) _ HA.out).mono ?_; rintro e w' ⟨rfl, rfl⟩))
      go_wp2
      go_quiet (fail)
      go_wp2
      go_ret3
      exact ⟨ret3 rfl (ext_drop s k) rfl, below_drewN (below_of_drew (by assumption)) _⟩
    · have hT : T = (0, [], 6) := by rw [HT.out, if_neg (fun h => ha h.2)]
      subst hT
      have HA := hide ha
      clear HT he ha
      go_enter Tryz.func155, Tryz.ntmps155
      go_wp2_with (first | (go_at_call 153; refine (SP.out _).mono ?_; rintro e w' ⟨rfl, rfl⟩) | (go_at_call 154; refine (JN.out _).mono ?_; rintro e w' ⟨rfl, rfl⟩) | (go_at_call 159; refine (SD.out _).mono ?_; rintro e w' ⟨rfl, rfl⟩))
      go_region_with (first | (go_at_call 95; refine (S_any v _).mono ?_; rintro e w1 ⟨rfl, hb⟩) | (go_at_call 136; refine (alone_no (v / 2 ^ (b.toNat - 1)) _ HA.out).mono ?_; rintro e w' ⟨rfl, rfl⟩))
      go_wp2
      go_ret3
      exact ⟨rfl, below_of_drew (by assumption)⟩
  · have hq : ((str (enc v (szS v))).toList == (s.extract 0 k).toList) = false := by rw [beq_eq_false_iff_ne]; exact fun h => he ((str_eq_take _ _ _).1 h)
    have hT : T = (0, [], 6) := by rw [HT.out, if_neg (fun h => he h.1)]
    subst hT
    clear HT he
    go_enter Tryz.func155, Tryz.ntmps155
    go_wp2_with (first | (go_at_call 153; refine (SP.out _).mono ?_; rintro e w' ⟨rfl, rfl⟩) | (go_at_call 154; refine (JN.out _).mono ?_; rintro e w' ⟨rfl, rfl⟩) | (go_at_call 159; refine (SD.out _).mono ?_; rintro e w' ⟨rfl, rfl⟩))
    first | go_region_with (go_at_call 95; refine (S_any v _).mono ?_; rintro e w1 ⟨rfl, hb⟩) | fail
    all_goals
      go_wp2
      go_ret3
      exact ⟨rfl, below_of_drew (by assumption)⟩
end Go.Proofs.YtcbfpikggphokaaGreatDoor
