/-
  The walk of the statement LebSizes, in its four cases by the two numbers' signs, for all numbers.
-/
import Derived.Test.YtkebbcabmpappaaSizes
namespace Go.Proofs.Ytkebbcabmpappaa
open Go.RowKit

set_option maxRecDepth 100000 in
set_option maxHeartbeats 3000000 in
theorem sizes_pp (N M : Int) (w : World) (hN0 : 0 ≤ N) (hN1 : N ≤ 9223372036854775807) (hM0 : 0 ≤ M) (hM1 : M ≤ 9223372036854775807) :
    Calls Try.prog 8 #[.int .i64 N, .int .i64 M] w fun e w' => e = .returned (.bool true) ∧ Below w.heap.size w w' := by
  have eN := neg_one hN0 hN1
  have eM := neg_one hM0 hM1
  have bd := szS_bd N
  have hl := len_strS N
  have HNEG := hide (szS_neg N)
  have HMON := hide (fun h : N ≤ M => szS_mono hN0 h)
  have HSH := hide (fun (h1 : 1 ≤ N) (h2 : N < 36028797018963968) => szS_shift h1 h2)
  have BM := hide (byte_more N)
  have BL := hide (byte_last N)
  go_enter Try.func8, Try.ntmps8
  go_wp2_with fail
  refine (examples_any _).mono ?_
  rintro e w1 ⟨rfl, b1⟩
  go_wp2_with fail
  refine (S_any N _).mono ?_
  rintro e w2 ⟨rfl, b2⟩
  go_wp2_with fail
  go_loop [7] (fun i => ∃ k : Nat, k ≤ szS N ∧ i = .int .i64 k) (fun i => szS N - (intOf i).toNat)
  case atStart => exact ⟨0, by omega, rfl⟩
  case round =>
    obtain ⟨k, hk, rfl⟩ := hrel
    by_cases hlt : k < szS N
    · by_cases hlast : k + 1 < szS N
      · have hx := BM.out k (by rw [hl]; exact hlt) hlast
        have hd : decide ((k : Int) < (szS N : Int) - 1) = true := by simp; omega
        go_wp2_with fail
        go_round
        case rel => exact ⟨k + 1, by omega, by go_num⟩
        case measure => simp [intOf]; omega
      · have hx := BL.out k (by rw [hl]; exact hlt) hlast
        have hd : decide ((k : Int) < (szS N : Int) - 1) = false := by simp; omega
        go_wp2_with fail
        go_round
        case rel => exact ⟨k + 1, by omega, by go_num⟩
        case measure => simp [intOf]; omega
    · clear BM BL
      have hneg := HNEG.out
      have hneg2 : szS (-(N + 1)) = szS N := by rw [show -(N + 1) = -N - 1 by omega]; exact HNEG.out
      by_cases hgt : M < N
      · have hg : decide (M < N) = true := by simpa using hgt
        by_cases h55 : 36028797018963968 ≤ N
        · have h5 : decide (36028797018963968 ≤ N) = true := by simpa using h55
          clear HNEG HMON HSH
          go_wp2_with (go_at_call 14; refine (size_any _ _).mono ?_; rintro e w' ⟨rfl, rfl⟩)
          go_ret
          exact ⟨rfl, below_next b1 b2⟩
        · have h5 : decide (36028797018963968 ≤ N) = false := by simpa using h55
          have hsh := HSH.out (by omega) (by omega)
          clear HNEG HMON HSH
          go_wp2_with (go_at_call 14; refine (size_any _ _).mono ?_; rintro e w' ⟨rfl, rfl⟩)
          go_ret
          exact ⟨rfl, below_next b1 b2⟩
      · have hg : decide (M < N) = false := by simpa using hgt
        have hmo := HMON.out (by omega)
        by_cases h55 : 36028797018963968 ≤ N
        · have h5 : decide (36028797018963968 ≤ N) = true := by simpa using h55
          clear HNEG HMON HSH
          go_wp2_with (go_at_call 14; refine (size_any _ _).mono ?_; rintro e w' ⟨rfl, rfl⟩)
          go_ret
          exact ⟨rfl, below_next b1 b2⟩
        · have h5 : decide (36028797018963968 ≤ N) = false := by simpa using h55
          by_cases hz : N = 0
          · have h00 : (N == 0) = true := by simpa using hz
            have hno : ((szS (N * 128) : Int) == (szS N : Int) + 1) = false := by subst hz; decide
            clear HNEG HMON HSH hz
            go_wp2_with (go_at_call 14; refine (size_any _ _).mono ?_; rintro e w' ⟨rfl, rfl⟩)
            go_ret
            exact ⟨rfl, below_next b1 b2⟩
          · have hsh := HSH.out (by omega) (by omega)
            clear HNEG HMON HSH
            go_wp2_with (go_at_call 14; refine (size_any _ _).mono ?_; rintro e w' ⟨rfl, rfl⟩)
            go_ret
            exact ⟨rfl, below_next b1 b2⟩
set_option maxRecDepth 100000 in
set_option maxHeartbeats 3000000 in
theorem sizes_np (N M : Int) (w : World) (hN0 : 0 ≤ N) (hN1 : N ≤ 9223372036854775807) (hM0 : 0 ≤ M) (hM1 : M ≤ 9223372036854775807) :
    Calls Try.prog 8 #[.int .i64 (-N - 1), .int .i64 M] w fun e w' => e = .returned (.bool true) ∧ Below w.heap.size w w' := by
  have eN := neg_one hN0 hN1
  have eM := neg_one hM0 hM1
  have bd := szS_bd N
  have hl := len_strS N
  have HNEG := hide (szS_neg N)
  have HMON := hide (fun h : N ≤ M => szS_mono hN0 h)
  have HSH := hide (fun (h1 : 1 ≤ N) (h2 : N < 36028797018963968) => szS_shift h1 h2)
  have BM := hide (byte_more N)
  have BL := hide (byte_last N)
  go_enter Try.func8, Try.ntmps8
  go_wp2_with fail
  refine (examples_any _).mono ?_
  rintro e w1 ⟨rfl, b1⟩
  go_wp2_with fail
  refine (S_any N _).mono ?_
  rintro e w2 ⟨rfl, b2⟩
  go_wp2_with fail
  go_loop [7] (fun i => ∃ k : Nat, k ≤ szS N ∧ i = .int .i64 k) (fun i => szS N - (intOf i).toNat)
  case atStart => exact ⟨0, by omega, rfl⟩
  case round =>
    obtain ⟨k, hk, rfl⟩ := hrel
    by_cases hlt : k < szS N
    · by_cases hlast : k + 1 < szS N
      · have hx := BM.out k (by rw [hl]; exact hlt) hlast
        have hd : decide ((k : Int) < (szS N : Int) - 1) = true := by simp; omega
        go_wp2_with fail
        go_round
        case rel => exact ⟨k + 1, by omega, by go_num⟩
        case measure => simp [intOf]; omega
      · have hx := BL.out k (by rw [hl]; exact hlt) hlast
        have hd : decide ((k : Int) < (szS N : Int) - 1) = false := by simp; omega
        go_wp2_with fail
        go_round
        case rel => exact ⟨k + 1, by omega, by go_num⟩
        case measure => simp [intOf]; omega
    · clear BM BL
      have hneg := HNEG.out
      have hneg2 : szS (-(N + 1)) = szS N := by rw [show -(N + 1) = -N - 1 by omega]; exact HNEG.out
      by_cases hgt : M < N
      · have hg : decide (M < N) = true := by simpa using hgt
        by_cases h55 : 36028797018963968 ≤ N
        · have h5 : decide (36028797018963968 ≤ N) = true := by simpa using h55
          clear HNEG HMON HSH
          go_wp2_with (go_at_call 14; refine (size_any _ _).mono ?_; rintro e w' ⟨rfl, rfl⟩)
          go_ret
          exact ⟨rfl, below_next b1 b2⟩
        · have h5 : decide (36028797018963968 ≤ N) = false := by simpa using h55
          have hsh := HSH.out (by omega) (by omega)
          clear HNEG HMON HSH
          go_wp2_with (go_at_call 14; refine (size_any _ _).mono ?_; rintro e w' ⟨rfl, rfl⟩)
          go_ret
          exact ⟨rfl, below_next b1 b2⟩
      · have hg : decide (M < N) = false := by simpa using hgt
        have hmo := HMON.out (by omega)
        by_cases h55 : 36028797018963968 ≤ N
        · have h5 : decide (36028797018963968 ≤ N) = true := by simpa using h55
          clear HNEG HMON HSH
          go_wp2_with (go_at_call 14; refine (size_any _ _).mono ?_; rintro e w' ⟨rfl, rfl⟩)
          go_ret
          exact ⟨rfl, below_next b1 b2⟩
        · have h5 : decide (36028797018963968 ≤ N) = false := by simpa using h55
          by_cases hz : N = 0
          · have h00 : (N == 0) = true := by simpa using hz
            have hno : ((szS (N * 128) : Int) == (szS N : Int) + 1) = false := by subst hz; decide
            clear HNEG HMON HSH hz
            go_wp2_with (go_at_call 14; refine (size_any _ _).mono ?_; rintro e w' ⟨rfl, rfl⟩)
            go_ret
            exact ⟨rfl, below_next b1 b2⟩
          · have hsh := HSH.out (by omega) (by omega)
            clear HNEG HMON HSH
            go_wp2_with (go_at_call 14; refine (size_any _ _).mono ?_; rintro e w' ⟨rfl, rfl⟩)
            go_ret
            exact ⟨rfl, below_next b1 b2⟩
set_option maxRecDepth 100000 in
set_option maxHeartbeats 3000000 in
theorem sizes_pn (N M : Int) (w : World) (hN0 : 0 ≤ N) (hN1 : N ≤ 9223372036854775807) (hM0 : 0 ≤ M) (hM1 : M ≤ 9223372036854775807) :
    Calls Try.prog 8 #[.int .i64 N, .int .i64 (-M - 1)] w fun e w' => e = .returned (.bool true) ∧ Below w.heap.size w w' := by
  have eN := neg_one hN0 hN1
  have bd := szS_bd N
  have hl := len_strS N
  have HNEG := hide (szS_neg N)
  have HMON := hide (fun h : N ≤ M => szS_mono hN0 h)
  have HSH := hide (fun (h1 : 1 ≤ N) (h2 : N < 36028797018963968) => szS_shift h1 h2)
  have BM := hide (byte_more N)
  have BL := hide (byte_last N)
  go_enter Try.func8, Try.ntmps8
  go_wp2_with fail
  refine (examples_any _).mono ?_
  rintro e w1 ⟨rfl, b1⟩
  go_wp2_with fail
  refine (S_any N _).mono ?_
  rintro e w2 ⟨rfl, b2⟩
  go_wp2_with fail
  go_loop [7] (fun i => ∃ k : Nat, k ≤ szS N ∧ i = .int .i64 k) (fun i => szS N - (intOf i).toNat)
  case atStart => exact ⟨0, by omega, rfl⟩
  case round =>
    obtain ⟨k, hk, rfl⟩ := hrel
    by_cases hlt : k < szS N
    · by_cases hlast : k + 1 < szS N
      · have hx := BM.out k (by rw [hl]; exact hlt) hlast
        have hd : decide ((k : Int) < (szS N : Int) - 1) = true := by simp; omega
        go_wp2_with fail
        go_round
        case rel => exact ⟨k + 1, by omega, by go_num⟩
        case measure => simp [intOf]; omega
      · have hx := BL.out k (by rw [hl]; exact hlt) hlast
        have hd : decide ((k : Int) < (szS N : Int) - 1) = false := by simp; omega
        go_wp2_with fail
        go_round
        case rel => exact ⟨k + 1, by omega, by go_num⟩
        case measure => simp [intOf]; omega
    · clear BM BL
      have hneg := HNEG.out
      have hneg2 : szS (-(N + 1)) = szS N := by rw [show -(N + 1) = -N - 1 by omega]; exact HNEG.out
      by_cases hgt : M < N
      · have hg : decide (M < N) = true := by simpa using hgt
        by_cases h55 : 36028797018963968 ≤ N
        · have h5 : decide (36028797018963968 ≤ N) = true := by simpa using h55
          clear HNEG HMON HSH
          go_wp2_with (go_at_call 14; refine (size_any _ _).mono ?_; rintro e w' ⟨rfl, rfl⟩)
          go_ret
          exact ⟨rfl, below_next b1 b2⟩
        · have h5 : decide (36028797018963968 ≤ N) = false := by simpa using h55
          have hsh := HSH.out (by omega) (by omega)
          clear HNEG HMON HSH
          go_wp2_with (go_at_call 14; refine (size_any _ _).mono ?_; rintro e w' ⟨rfl, rfl⟩)
          go_ret
          exact ⟨rfl, below_next b1 b2⟩
      · have hg : decide (M < N) = false := by simpa using hgt
        have hmo := HMON.out (by omega)
        by_cases h55 : 36028797018963968 ≤ N
        · have h5 : decide (36028797018963968 ≤ N) = true := by simpa using h55
          clear HNEG HMON HSH
          go_wp2_with (go_at_call 14; refine (size_any _ _).mono ?_; rintro e w' ⟨rfl, rfl⟩)
          go_ret
          exact ⟨rfl, below_next b1 b2⟩
        · have h5 : decide (36028797018963968 ≤ N) = false := by simpa using h55
          by_cases hz : N = 0
          · have h00 : (N == 0) = true := by simpa using hz
            have hno : ((szS (N * 128) : Int) == (szS N : Int) + 1) = false := by subst hz; decide
            clear HNEG HMON HSH hz
            go_wp2_with (go_at_call 14; refine (size_any _ _).mono ?_; rintro e w' ⟨rfl, rfl⟩)
            go_ret
            exact ⟨rfl, below_next b1 b2⟩
          · have hsh := HSH.out (by omega) (by omega)
            clear HNEG HMON HSH
            go_wp2_with (go_at_call 14; refine (size_any _ _).mono ?_; rintro e w' ⟨rfl, rfl⟩)
            go_ret
            exact ⟨rfl, below_next b1 b2⟩
set_option maxRecDepth 100000 in
set_option maxHeartbeats 3000000 in
theorem sizes_nn (N M : Int) (w : World) (hN0 : 0 ≤ N) (hN1 : N ≤ 9223372036854775807) (hM0 : 0 ≤ M) (hM1 : M ≤ 9223372036854775807) :
    Calls Try.prog 8 #[.int .i64 (-N - 1), .int .i64 (-M - 1)] w fun e w' => e = .returned (.bool true) ∧ Below w.heap.size w w' := by
  have eN := neg_one hN0 hN1
  have bd := szS_bd N
  have hl := len_strS N
  have HNEG := hide (szS_neg N)
  have HMON := hide (fun h : N ≤ M => szS_mono hN0 h)
  have HSH := hide (fun (h1 : 1 ≤ N) (h2 : N < 36028797018963968) => szS_shift h1 h2)
  have BM := hide (byte_more N)
  have BL := hide (byte_last N)
  go_enter Try.func8, Try.ntmps8
  go_wp2_with fail
  refine (examples_any _).mono ?_
  rintro e w1 ⟨rfl, b1⟩
  go_wp2_with fail
  refine (S_any N _).mono ?_
  rintro e w2 ⟨rfl, b2⟩
  go_wp2_with fail
  go_loop [7] (fun i => ∃ k : Nat, k ≤ szS N ∧ i = .int .i64 k) (fun i => szS N - (intOf i).toNat)
  case atStart => exact ⟨0, by omega, rfl⟩
  case round =>
    obtain ⟨k, hk, rfl⟩ := hrel
    by_cases hlt : k < szS N
    · by_cases hlast : k + 1 < szS N
      · have hx := BM.out k (by rw [hl]; exact hlt) hlast
        have hd : decide ((k : Int) < (szS N : Int) - 1) = true := by simp; omega
        go_wp2_with fail
        go_round
        case rel => exact ⟨k + 1, by omega, by go_num⟩
        case measure => simp [intOf]; omega
      · have hx := BL.out k (by rw [hl]; exact hlt) hlast
        have hd : decide ((k : Int) < (szS N : Int) - 1) = false := by simp; omega
        go_wp2_with fail
        go_round
        case rel => exact ⟨k + 1, by omega, by go_num⟩
        case measure => simp [intOf]; omega
    · clear BM BL
      have hneg := HNEG.out
      have hneg2 : szS (-(N + 1)) = szS N := by rw [show -(N + 1) = -N - 1 by omega]; exact HNEG.out
      by_cases hgt : M < N
      · have hg : decide (M < N) = true := by simpa using hgt
        by_cases h55 : 36028797018963968 ≤ N
        · have h5 : decide (36028797018963968 ≤ N) = true := by simpa using h55
          clear HNEG HMON HSH
          go_wp2_with (go_at_call 14; refine (size_any _ _).mono ?_; rintro e w' ⟨rfl, rfl⟩)
          go_ret
          exact ⟨rfl, below_next b1 b2⟩
        · have h5 : decide (36028797018963968 ≤ N) = false := by simpa using h55
          have hsh := HSH.out (by omega) (by omega)
          clear HNEG HMON HSH
          go_wp2_with (go_at_call 14; refine (size_any _ _).mono ?_; rintro e w' ⟨rfl, rfl⟩)
          go_ret
          exact ⟨rfl, below_next b1 b2⟩
      · have hg : decide (M < N) = false := by simpa using hgt
        have hmo := HMON.out (by omega)
        by_cases h55 : 36028797018963968 ≤ N
        · have h5 : decide (36028797018963968 ≤ N) = true := by simpa using h55
          clear HNEG HMON HSH
          go_wp2_with (go_at_call 14; refine (size_any _ _).mono ?_; rintro e w' ⟨rfl, rfl⟩)
          go_ret
          exact ⟨rfl, below_next b1 b2⟩
        · have h5 : decide (36028797018963968 ≤ N) = false := by simpa using h55
          by_cases hz : N = 0
          · have h00 : (N == 0) = true := by simpa using hz
            have hno : ((szS (N * 128) : Int) == (szS N : Int) + 1) = false := by subst hz; decide
            clear HNEG HMON HSH hz
            go_wp2_with (go_at_call 14; refine (size_any _ _).mono ?_; rintro e w' ⟨rfl, rfl⟩)
            go_ret
            exact ⟨rfl, below_next b1 b2⟩
          · have hsh := HSH.out (by omega) (by omega)
            clear HNEG HMON HSH
            go_wp2_with (go_at_call 14; refine (size_any _ _).mono ?_; rintro e w' ⟨rfl, rfl⟩)
            go_ret
            exact ⟨rfl, below_next b1 b2⟩

theorem sizes_walk (n m : Int) (w : World) (hn : I64 n) (hm : I64 m) :
    Calls Try.prog 8 #[.int .i64 n, .int .i64 m] w fun e w' => e = .returned (.bool true) ∧ Below w.heap.size w w' := by
  unfold I64 at hn hm
  by_cases h : 0 ≤ n
  · by_cases g : 0 ≤ m
    · exact sizes_pp n m w h hn.2 g hm.2
    · have := sizes_pn n (-m - 1) w h hn.2 (by omega) (by omega)
      rw [show -(-m - 1) - 1 = m by omega] at this
      exact this
  · by_cases g : 0 ≤ m
    · have := sizes_np (-n - 1) m w (by omega) (by omega) g hm.2
      rw [show -(-n - 1) - 1 = n by omega] at this
      exact this
    · have := sizes_nn (-n - 1) (-m - 1) w (by omega) (by omega) (by omega) (by omega)
      rw [show -(-n - 1) - 1 = n by omega, show -(-m - 1) - 1 = m by omega] at this
      exact this
end Go.Proofs.Ytkebbcabmpappaa
