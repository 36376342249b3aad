/-
  A number is read of as many bits as it has, and of no fewer; its bytes, cut off, or with a byte of nought laid in behind, are none: the walk of the statement LebBits, for all numbers and all many bits.
-/
import Derived.Test.YtkebbcabmpappaaBits
import Derived.Test.YtkebbcabmpappaaRefTakeS
namespace Go.Proofs.Ytkebbcabmpappaa
open Go.RowKit

theorem bitsFit (N : Int) (Y : Nat) (w : World) (hn : I64 N) (hY : Y ≤ 61) (hf : -2 ^ Y ≤ N ∧ N ≤ 2 ^ Y - 1) :
    Calls Try.prog 18 #[.string (str (enc N (szS N))), .int .i64 (1 + (Y : Int))] w fun e w' => e = .returned (.tuple #[.int .i64 N, .string (str []), .int .i64 0]) ∧ Below w.heap.size w w' := by
  have bd := szS_bd N
  have h := takeS_any (str (enc N (szS N))) (1 + (Y : Int)) w (by rw [str_size, enc_length]; omega)
  have e := tkS_enc N [] hn (1 + (Y : Int)) (by omega) (by omega)
  rw [show (1 + (Y : Int)).toNat - 1 = Y by omega, if_pos ((fits_iff N Y).2 hf), List.append_nil] at e
  rw [data_str, e] at h
  exact h
theorem bitsNot (N : Int) (Y : Nat) (w : World) (hn : I64 N) (hY : Y ≤ 61) (hf : ¬ (-2 ^ Y ≤ N ∧ N ≤ 2 ^ Y - 1)) :
    Calls Try.prog 18 #[.string (str (enc N (szS N))), .int .i64 (1 + (Y : Int))] w fun e w' => e = .returned (.tuple #[.int .i64 0, .string (str []), .int .i64 6]) ∧ Below w.heap.size w w' := by
  have bd := szS_bd N
  have h := takeS_any (str (enc N (szS N))) (1 + (Y : Int)) w (by rw [str_size, enc_length]; omega)
  have e := tkS_enc N [] hn (1 + (Y : Int)) (by omega) (by omega)
  rw [show (1 + (Y : Int)).toNat - 1 = Y by omega, if_neg (fun h => hf ((fits_iff N Y).1 h)), List.append_nil] at e
  rw [data_str, e] at h
  exact h
theorem longS (N : Int) (s t : ByteArray) (w : World) (h0 : -4611686018427387904 ≤ N) (h1 : N ≤ 4611686018427387903) (hs : s = str (encM N (szS N))) (ht : t.data.toList = [byI (N / 2 ^ (7 * szS N) % 128)]) :
    Calls Try.prog 18 #[.string (s ++ t), .int .i64 64] w fun e w' => e = .returned (.tuple #[.int .i64 0, .string (str []), .int .i64 6]) ∧ Below w.heap.size w w' := by
  have bd := szS_bd N
  subst hs
  have hz : t.size = 1 := by rw [← list_length, ht]; rfl
  have h := takeS_any (str (encM N (szS N)) ++ t) 64 w (by rw [ByteArray.size_append, str_size, encM_length, hz]; omega)
  rw [app_data, ht, encM_enc, tkS_longer N h0 h1] at h
  exact h
theorem cutS (N : Int) (w : World) :
    Calls Try.prog 18 #[.string ((str (enc N (szS N))).extract 0 (szS N - 1)), .int .i64 64] w fun e w' => e = .returned (.tuple #[.int .i64 0, .string (str []), .int .i64 6]) ∧ Below w.heap.size w w' := by
  have bd := szS_bd N
  have h := takeS_any ((str (enc N (szS N))).extract 0 (szS N - 1)) 64 w (by simp [str_size, enc_length]; omega)
  rw [ext_take, data_str, tkS_cut] at h
  exact h
theorem shl_min64 (c : Nat) (h : c ≤ 62) : wrap64 (-2 ^ c) = -2 ^ c ∧ wrap64 (2 ^ c) = 2 ^ c ∧ wrap64 (2 ^ c - 1) = 2 ^ c - 1 := by
  have hp := pow_pos2 c
  have hq : (2 : Int) ^ c ≤ 4611686018427387904 := by
    have : (2 : Int) ^ c ≤ 2 ^ 62 := by exact_mod_cast Nat.pow_le_pow_right (by decide) h
    exact this
  generalize (2 : Int) ^ c = P at *
  rw [w64_is, w64_is, w64_is]; unfold w64; omega
theorem not_empty (N : Int) : (str (enc N (szS N))).toList.isEmpty = false := by
  have bd := szS_bd N
  rw [ByteArray.toList_eq, data_str]
  cases h : enc N (szS N) with
  | nil => have := congrArg List.length h; rw [enc_length] at this; simp at this; omega
  | cons a r => rfl

set_option maxRecDepth 100000 in
set_option maxHeartbeats 1600000 in
theorem bits_pnL (n b N : Int) (Y : Nat) (w : World) (_hn0 : -9223372036854775808 ≤ n) (_hn1 : n ≤ 9223372036854775807) (hb0 : 0 ≤ b) (hb1 : b ≤ 9223372036854775807) (eN : n / 2 = N) (eY : b % 62 = (Y : Int)) (hY : Y ≤ 61)
    (h0 : -4611686018427387904 ≤ N) (h1 : N ≤ 4611686018427387903) (hs : N < 0) (hf : N < -2 ^ Y) :
    Calls Try.prog 7 #[.int .i64 n, .int .i64 b] w fun e w' => e = .returned (.bool true) ∧ Below w.heap.size w w' := by
  have bd := szS_bd N
  have hl : (str (enc N (szS N))).size = szS N := by rw [str_size, enc_length]
  have hlM : (str (encM N (szS N))).size = szS N := by rw [str_size, encM_length]
  have hne := not_empty N
  obtain ⟨hm1, hm2, hm3⟩ := shl_min64 Y (by omega)
  have HF := hide (show ¬ (-2 ^ Y ≤ N ∧ N ≤ 2 ^ Y - 1) from fun h => absurd hf (Int.not_lt.2 h.1))
  have hd1 : decide (-2 ^ Y ≤ N) = false := decide_eq_false (Int.not_le.2 hf)
  clear hf
  have HTL := hide (tail_neg N (szS N) hs (by have := szS_range N (szS_le9 h0 h1); have := pow_whole (szS N) bd.1; have := pow_pos2 (7 * szS N - 1); omega))
  go_enter Try.func7, Try.ntmps7
  go_wp2_with fail
  refine (examples_any _).mono ?_
  rintro e w1 ⟨rfl, b1⟩
  go_wp2_with fail
  refine (S_any N _).mono ?_
  rintro e w2 ⟨rfl, b2⟩
  go_wp2_with fail
  refine (bitsNot N Y _ ⟨by omega, by omega⟩ hY HF.out).mono ?_
  rintro e w3 ⟨rfl, b3⟩
  go_wp2_with fail
  refine (S_any N _).mono ?_
  rintro e w4 ⟨rfl, b4⟩
  obtain ⟨cap, W, hrun, hcell, hfr, bW⟩ := bytes_of (enc N (szS N)) w4
  rw [enc_length] at hrun
  have hc := hcell (szS N - 1) (by rw [enc_length]; omega)
  rw [enc_get, wb, if_neg (by omega)] at hc
  have hf := hfr (szS N - 1) (by rw [enc_length]; omega)
  have HCELL := hide hcell
  have hor := u8_or128_right (N / 2 ^ (7 * (szS N - 1)) % 128) (by omega) (by omega)
  have hcv := back_of N (szS N) w4.heap.size cap W bd.1 HCELL.out
  clear hcell hfr
  go_wp2_with fail
  refine (longS N _ _ _ h0 h1 rfl (by rw [HTL.out])).mono ?_
  rintro e w5 ⟨rfl, b5⟩
  go_wp2_with fail
  refine (cutS N _).mono ?_
  rintro e w6 ⟨rfl, b6⟩
  go_wp2_with fail
  go_ret
  exact ⟨rfl, below_next (below_next (below_next (below_next (below_next (below_next b1 b2) b3) b4) (bW.setCell (Nat.le_refl _) _)) b5) b6⟩
set_option maxRecDepth 100000 in
set_option maxHeartbeats 1600000 in
theorem bits_pnF (n b N : Int) (Y : Nat) (w : World) (_hn0 : -9223372036854775808 ≤ n) (_hn1 : n ≤ 9223372036854775807) (hb0 : 0 ≤ b) (hb1 : b ≤ 9223372036854775807) (eN : n / 2 = N) (eY : b % 62 = (Y : Int)) (hY : Y ≤ 61)
    (h0 : -4611686018427387904 ≤ N) (h1 : N ≤ 4611686018427387903) (hs : N < 0) (hf : -2 ^ Y ≤ N ∧ N ≤ 2 ^ Y - 1) :
    Calls Try.prog 7 #[.int .i64 n, .int .i64 b] w fun e w' => e = .returned (.bool true) ∧ Below w.heap.size w w' := by
  have bd := szS_bd N
  have hl : (str (enc N (szS N))).size = szS N := by rw [str_size, enc_length]
  have hlM : (str (encM N (szS N))).size = szS N := by rw [str_size, encM_length]
  have hne := not_empty N
  obtain ⟨hm1, hm2, hm3⟩ := shl_min64 Y (by omega)
  have HF := hide hf
  have hd1 : decide (-2 ^ Y ≤ N) = true := decide_eq_true hf.1
  have hd2 : decide (N ≤ 2 ^ Y - 1) = true := decide_eq_true hf.2
  clear hf
  have HTL := hide (tail_neg N (szS N) hs (by have := szS_range N (szS_le9 h0 h1); have := pow_whole (szS N) bd.1; have := pow_pos2 (7 * szS N - 1); omega))
  go_enter Try.func7, Try.ntmps7
  go_wp2_with fail
  refine (examples_any _).mono ?_
  rintro e w1 ⟨rfl, b1⟩
  go_wp2_with fail
  refine (S_any N _).mono ?_
  rintro e w2 ⟨rfl, b2⟩
  go_wp2_with fail
  refine (bitsFit N Y _ ⟨by omega, by omega⟩ hY HF.out).mono ?_
  rintro e w3 ⟨rfl, b3⟩
  go_wp2_with fail
  refine (S_any N _).mono ?_
  rintro e w4 ⟨rfl, b4⟩
  obtain ⟨cap, W, hrun, hcell, hfr, bW⟩ := bytes_of (enc N (szS N)) w4
  rw [enc_length] at hrun
  have hc := hcell (szS N - 1) (by rw [enc_length]; omega)
  rw [enc_get, wb, if_neg (by omega)] at hc
  have hf := hfr (szS N - 1) (by rw [enc_length]; omega)
  have HCELL := hide hcell
  have hor := u8_or128_right (N / 2 ^ (7 * (szS N - 1)) % 128) (by omega) (by omega)
  have hcv := back_of N (szS N) w4.heap.size cap W bd.1 HCELL.out
  clear hcell hfr
  go_wp2_with fail
  refine (longS N _ _ _ h0 h1 rfl (by rw [HTL.out])).mono ?_
  rintro e w5 ⟨rfl, b5⟩
  go_wp2_with fail
  refine (cutS N _).mono ?_
  rintro e w6 ⟨rfl, b6⟩
  go_wp2_with fail
  go_ret
  exact ⟨rfl, below_next (below_next (below_next (below_next (below_next (below_next b1 b2) b3) b4) (bW.setCell (Nat.le_refl _) _)) b5) b6⟩
set_option maxRecDepth 100000 in
set_option maxHeartbeats 1600000 in
theorem bits_ppH (n b N : Int) (Y : Nat) (w : World) (_hn0 : -9223372036854775808 ≤ n) (_hn1 : n ≤ 9223372036854775807) (hb0 : 0 ≤ b) (hb1 : b ≤ 9223372036854775807) (eN : n / 2 = N) (eY : b % 62 = (Y : Int)) (hY : Y ≤ 61)
    (h0 : -4611686018427387904 ≤ N) (h1 : N ≤ 4611686018427387903) (hs : 0 ≤ N) (hlo : -2 ^ Y ≤ N) (hf : 2 ^ Y - 1 < N) :
    Calls Try.prog 7 #[.int .i64 n, .int .i64 b] w fun e w' => e = .returned (.bool true) ∧ Below w.heap.size w w' := by
  have bd := szS_bd N
  have hl : (str (enc N (szS N))).size = szS N := by rw [str_size, enc_length]
  have hlM : (str (encM N (szS N))).size = szS N := by rw [str_size, encM_length]
  have hne := not_empty N
  obtain ⟨hm1, hm2, hm3⟩ := shl_min64 Y (by omega)
  have HF := hide (show ¬ (-2 ^ Y ≤ N ∧ N ≤ 2 ^ Y - 1) from fun h => absurd hf (Int.not_lt.2 h.2))
  have hd1 : decide (-2 ^ Y ≤ N) = true := decide_eq_true hlo
  have hd2 : decide (N ≤ 2 ^ Y - 1) = false := decide_eq_false (Int.not_le.2 hf)
  clear hf hlo
  have HTL := hide (tail_pos N (szS N) hs (by have := szS_range N (szS_le9 h0 h1); have := pow_whole (szS N) bd.1; have := pow_pos2 (7 * szS N - 1); omega))
  go_enter Try.func7, Try.ntmps7
  go_wp2_with fail
  refine (examples_any _).mono ?_
  rintro e w1 ⟨rfl, b1⟩
  go_wp2_with fail
  refine (S_any N _).mono ?_
  rintro e w2 ⟨rfl, b2⟩
  go_wp2_with fail
  refine (bitsNot N Y _ ⟨by omega, by omega⟩ hY HF.out).mono ?_
  rintro e w3 ⟨rfl, b3⟩
  go_wp2_with fail
  refine (S_any N _).mono ?_
  rintro e w4 ⟨rfl, b4⟩
  obtain ⟨cap, W, hrun, hcell, hfr, bW⟩ := bytes_of (enc N (szS N)) w4
  rw [enc_length] at hrun
  have hc := hcell (szS N - 1) (by rw [enc_length]; omega)
  rw [enc_get, wb, if_neg (by omega)] at hc
  have hf := hfr (szS N - 1) (by rw [enc_length]; omega)
  have HCELL := hide hcell
  have hor := u8_or128_right (N / 2 ^ (7 * (szS N - 1)) % 128) (by omega) (by omega)
  have hcv := back_of N (szS N) w4.heap.size cap W bd.1 HCELL.out
  clear hcell hfr
  go_wp2_with fail
  refine (longS N _ _ _ h0 h1 rfl (by rw [HTL.out])).mono ?_
  rintro e w5 ⟨rfl, b5⟩
  go_wp2_with fail
  refine (cutS N _).mono ?_
  rintro e w6 ⟨rfl, b6⟩
  go_wp2_with fail
  go_ret
  exact ⟨rfl, below_next (below_next (below_next (below_next (below_next (below_next b1 b2) b3) b4) (bW.setCell (Nat.le_refl _) _)) b5) b6⟩
set_option maxRecDepth 100000 in
set_option maxHeartbeats 1600000 in
theorem bits_ppF (n b N : Int) (Y : Nat) (w : World) (_hn0 : -9223372036854775808 ≤ n) (_hn1 : n ≤ 9223372036854775807) (hb0 : 0 ≤ b) (hb1 : b ≤ 9223372036854775807) (eN : n / 2 = N) (eY : b % 62 = (Y : Int)) (hY : Y ≤ 61)
    (h0 : -4611686018427387904 ≤ N) (h1 : N ≤ 4611686018427387903) (hs : 0 ≤ N) (hf : -2 ^ Y ≤ N ∧ N ≤ 2 ^ Y - 1) :
    Calls Try.prog 7 #[.int .i64 n, .int .i64 b] w fun e w' => e = .returned (.bool true) ∧ Below w.heap.size w w' := by
  have bd := szS_bd N
  have hl : (str (enc N (szS N))).size = szS N := by rw [str_size, enc_length]
  have hlM : (str (encM N (szS N))).size = szS N := by rw [str_size, encM_length]
  have hne := not_empty N
  obtain ⟨hm1, hm2, hm3⟩ := shl_min64 Y (by omega)
  have HF := hide hf
  have hd1 : decide (-2 ^ Y ≤ N) = true := decide_eq_true hf.1
  have hd2 : decide (N ≤ 2 ^ Y - 1) = true := decide_eq_true hf.2
  clear hf
  have HTL := hide (tail_pos N (szS N) hs (by have := szS_range N (szS_le9 h0 h1); have := pow_whole (szS N) bd.1; have := pow_pos2 (7 * szS N - 1); omega))
  go_enter Try.func7, Try.ntmps7
  go_wp2_with fail
  refine (examples_any _).mono ?_
  rintro e w1 ⟨rfl, b1⟩
  go_wp2_with fail
  refine (S_any N _).mono ?_
  rintro e w2 ⟨rfl, b2⟩
  go_wp2_with fail
  refine (bitsFit N Y _ ⟨by omega, by omega⟩ hY HF.out).mono ?_
  rintro e w3 ⟨rfl, b3⟩
  go_wp2_with fail
  refine (S_any N _).mono ?_
  rintro e w4 ⟨rfl, b4⟩
  obtain ⟨cap, W, hrun, hcell, hfr, bW⟩ := bytes_of (enc N (szS N)) w4
  rw [enc_length] at hrun
  have hc := hcell (szS N - 1) (by rw [enc_length]; omega)
  rw [enc_get, wb, if_neg (by omega)] at hc
  have hf := hfr (szS N - 1) (by rw [enc_length]; omega)
  have HCELL := hide hcell
  have hor := u8_or128_right (N / 2 ^ (7 * (szS N - 1)) % 128) (by omega) (by omega)
  have hcv := back_of N (szS N) w4.heap.size cap W bd.1 HCELL.out
  clear hcell hfr
  go_wp2_with fail
  refine (longS N _ _ _ h0 h1 rfl (by rw [HTL.out])).mono ?_
  rintro e w5 ⟨rfl, b5⟩
  go_wp2_with fail
  refine (cutS N _).mono ?_
  rintro e w6 ⟨rfl, b6⟩
  go_wp2_with fail
  go_ret
  exact ⟨rfl, below_next (below_next (below_next (below_next (below_next (below_next b1 b2) b3) b4) (bW.setCell (Nat.le_refl _) _)) b5) b6⟩
set_option maxRecDepth 100000 in
set_option maxHeartbeats 1600000 in
theorem bits_nnL (n b N : Int) (Y : Nat) (w : World) (_hn0 : -9223372036854775808 ≤ n) (_hn1 : n ≤ 9223372036854775807) (hb0 : -9223372036854775808 ≤ b) (hb1 : b < 0) (eN : n / 2 = N) (eY : (b + 1).tmod 62 = -(Y : Int)) (hY : Y ≤ 61)
    (h0 : -4611686018427387904 ≤ N) (h1 : N ≤ 4611686018427387903) (hs : N < 0) (hf : N < -2 ^ Y) :
    Calls Try.prog 7 #[.int .i64 n, .int .i64 b] w fun e w' => e = .returned (.bool true) ∧ Below w.heap.size w w' := by
  have bd := szS_bd N
  have hl : (str (enc N (szS N))).size = szS N := by rw [str_size, enc_length]
  have hlM : (str (encM N (szS N))).size = szS N := by rw [str_size, encM_length]
  have hne := not_empty N
  obtain ⟨hm1, hm2, hm3⟩ := shl_min64 Y (by omega)
  have HF := hide (show ¬ (-2 ^ Y ≤ N ∧ N ≤ 2 ^ Y - 1) from fun h => absurd hf (Int.not_lt.2 h.1))
  have hd1 : decide (-2 ^ Y ≤ N) = false := decide_eq_false (Int.not_le.2 hf)
  clear hf
  have HTL := hide (tail_neg N (szS N) hs (by have := szS_range N (szS_le9 h0 h1); have := pow_whole (szS N) bd.1; have := pow_pos2 (7 * szS N - 1); omega))
  go_enter Try.func7, Try.ntmps7
  go_wp2_with fail
  refine (examples_any _).mono ?_
  rintro e w1 ⟨rfl, b1⟩
  go_wp2_with fail
  refine (S_any N _).mono ?_
  rintro e w2 ⟨rfl, b2⟩
  go_wp2_with fail
  refine (bitsNot N Y _ ⟨by omega, by omega⟩ hY HF.out).mono ?_
  rintro e w3 ⟨rfl, b3⟩
  go_wp2_with fail
  refine (S_any N _).mono ?_
  rintro e w4 ⟨rfl, b4⟩
  obtain ⟨cap, W, hrun, hcell, hfr, bW⟩ := bytes_of (enc N (szS N)) w4
  rw [enc_length] at hrun
  have hc := hcell (szS N - 1) (by rw [enc_length]; omega)
  rw [enc_get, wb, if_neg (by omega)] at hc
  have hf := hfr (szS N - 1) (by rw [enc_length]; omega)
  have HCELL := hide hcell
  have hor := u8_or128_right (N / 2 ^ (7 * (szS N - 1)) % 128) (by omega) (by omega)
  have hcv := back_of N (szS N) w4.heap.size cap W bd.1 HCELL.out
  clear hcell hfr
  go_wp2_with fail
  refine (longS N _ _ _ h0 h1 rfl (by rw [HTL.out])).mono ?_
  rintro e w5 ⟨rfl, b5⟩
  go_wp2_with fail
  refine (cutS N _).mono ?_
  rintro e w6 ⟨rfl, b6⟩
  go_wp2_with fail
  go_ret
  exact ⟨rfl, below_next (below_next (below_next (below_next (below_next (below_next b1 b2) b3) b4) (bW.setCell (Nat.le_refl _) _)) b5) b6⟩
set_option maxRecDepth 100000 in
set_option maxHeartbeats 1600000 in
theorem bits_nnF (n b N : Int) (Y : Nat) (w : World) (_hn0 : -9223372036854775808 ≤ n) (_hn1 : n ≤ 9223372036854775807) (hb0 : -9223372036854775808 ≤ b) (hb1 : b < 0) (eN : n / 2 = N) (eY : (b + 1).tmod 62 = -(Y : Int)) (hY : Y ≤ 61)
    (h0 : -4611686018427387904 ≤ N) (h1 : N ≤ 4611686018427387903) (hs : N < 0) (hf : -2 ^ Y ≤ N ∧ N ≤ 2 ^ Y - 1) :
    Calls Try.prog 7 #[.int .i64 n, .int .i64 b] w fun e w' => e = .returned (.bool true) ∧ Below w.heap.size w w' := by
  have bd := szS_bd N
  have hl : (str (enc N (szS N))).size = szS N := by rw [str_size, enc_length]
  have hlM : (str (encM N (szS N))).size = szS N := by rw [str_size, encM_length]
  have hne := not_empty N
  obtain ⟨hm1, hm2, hm3⟩ := shl_min64 Y (by omega)
  have HF := hide hf
  have hd1 : decide (-2 ^ Y ≤ N) = true := decide_eq_true hf.1
  have hd2 : decide (N ≤ 2 ^ Y - 1) = true := decide_eq_true hf.2
  clear hf
  have HTL := hide (tail_neg N (szS N) hs (by have := szS_range N (szS_le9 h0 h1); have := pow_whole (szS N) bd.1; have := pow_pos2 (7 * szS N - 1); omega))
  go_enter Try.func7, Try.ntmps7
  go_wp2_with fail
  refine (examples_any _).mono ?_
  rintro e w1 ⟨rfl, b1⟩
  go_wp2_with fail
  refine (S_any N _).mono ?_
  rintro e w2 ⟨rfl, b2⟩
  go_wp2_with fail
  refine (bitsFit N Y _ ⟨by omega, by omega⟩ hY HF.out).mono ?_
  rintro e w3 ⟨rfl, b3⟩
  go_wp2_with fail
  refine (S_any N _).mono ?_
  rintro e w4 ⟨rfl, b4⟩
  obtain ⟨cap, W, hrun, hcell, hfr, bW⟩ := bytes_of (enc N (szS N)) w4
  rw [enc_length] at hrun
  have hc := hcell (szS N - 1) (by rw [enc_length]; omega)
  rw [enc_get, wb, if_neg (by omega)] at hc
  have hf := hfr (szS N - 1) (by rw [enc_length]; omega)
  have HCELL := hide hcell
  have hor := u8_or128_right (N / 2 ^ (7 * (szS N - 1)) % 128) (by omega) (by omega)
  have hcv := back_of N (szS N) w4.heap.size cap W bd.1 HCELL.out
  clear hcell hfr
  go_wp2_with fail
  refine (longS N _ _ _ h0 h1 rfl (by rw [HTL.out])).mono ?_
  rintro e w5 ⟨rfl, b5⟩
  go_wp2_with fail
  refine (cutS N _).mono ?_
  rintro e w6 ⟨rfl, b6⟩
  go_wp2_with fail
  go_ret
  exact ⟨rfl, below_next (below_next (below_next (below_next (below_next (below_next b1 b2) b3) b4) (bW.setCell (Nat.le_refl _) _)) b5) b6⟩
set_option maxRecDepth 100000 in
set_option maxHeartbeats 1600000 in
theorem bits_npH (n b N : Int) (Y : Nat) (w : World) (_hn0 : -9223372036854775808 ≤ n) (_hn1 : n ≤ 9223372036854775807) (hb0 : -9223372036854775808 ≤ b) (hb1 : b < 0) (eN : n / 2 = N) (eY : (b + 1).tmod 62 = -(Y : Int)) (hY : Y ≤ 61)
    (h0 : -4611686018427387904 ≤ N) (h1 : N ≤ 4611686018427387903) (hs : 0 ≤ N) (hlo : -2 ^ Y ≤ N) (hf : 2 ^ Y - 1 < N) :
    Calls Try.prog 7 #[.int .i64 n, .int .i64 b] w fun e w' => e = .returned (.bool true) ∧ Below w.heap.size w w' := by
  have bd := szS_bd N
  have hl : (str (enc N (szS N))).size = szS N := by rw [str_size, enc_length]
  have hlM : (str (encM N (szS N))).size = szS N := by rw [str_size, encM_length]
  have hne := not_empty N
  obtain ⟨hm1, hm2, hm3⟩ := shl_min64 Y (by omega)
  have HF := hide (show ¬ (-2 ^ Y ≤ N ∧ N ≤ 2 ^ Y - 1) from fun h => absurd hf (Int.not_lt.2 h.2))
  have hd1 : decide (-2 ^ Y ≤ N) = true := decide_eq_true hlo
  have hd2 : decide (N ≤ 2 ^ Y - 1) = false := decide_eq_false (Int.not_le.2 hf)
  clear hf hlo
  have HTL := hide (tail_pos N (szS N) hs (by have := szS_range N (szS_le9 h0 h1); have := pow_whole (szS N) bd.1; have := pow_pos2 (7 * szS N - 1); omega))
  go_enter Try.func7, Try.ntmps7
  go_wp2_with fail
  refine (examples_any _).mono ?_
  rintro e w1 ⟨rfl, b1⟩
  go_wp2_with fail
  refine (S_any N _).mono ?_
  rintro e w2 ⟨rfl, b2⟩
  go_wp2_with fail
  refine (bitsNot N Y _ ⟨by omega, by omega⟩ hY HF.out).mono ?_
  rintro e w3 ⟨rfl, b3⟩
  go_wp2_with fail
  refine (S_any N _).mono ?_
  rintro e w4 ⟨rfl, b4⟩
  obtain ⟨cap, W, hrun, hcell, hfr, bW⟩ := bytes_of (enc N (szS N)) w4
  rw [enc_length] at hrun
  have hc := hcell (szS N - 1) (by rw [enc_length]; omega)
  rw [enc_get, wb, if_neg (by omega)] at hc
  have hf := hfr (szS N - 1) (by rw [enc_length]; omega)
  have HCELL := hide hcell
  have hor := u8_or128_right (N / 2 ^ (7 * (szS N - 1)) % 128) (by omega) (by omega)
  have hcv := back_of N (szS N) w4.heap.size cap W bd.1 HCELL.out
  clear hcell hfr
  go_wp2_with fail
  refine (longS N _ _ _ h0 h1 rfl (by rw [HTL.out])).mono ?_
  rintro e w5 ⟨rfl, b5⟩
  go_wp2_with fail
  refine (cutS N _).mono ?_
  rintro e w6 ⟨rfl, b6⟩
  go_wp2_with fail
  go_ret
  exact ⟨rfl, below_next (below_next (below_next (below_next (below_next (below_next b1 b2) b3) b4) (bW.setCell (Nat.le_refl _) _)) b5) b6⟩
set_option maxRecDepth 100000 in
set_option maxHeartbeats 1600000 in
theorem bits_npF (n b N : Int) (Y : Nat) (w : World) (_hn0 : -9223372036854775808 ≤ n) (_hn1 : n ≤ 9223372036854775807) (hb0 : -9223372036854775808 ≤ b) (hb1 : b < 0) (eN : n / 2 = N) (eY : (b + 1).tmod 62 = -(Y : Int)) (hY : Y ≤ 61)
    (h0 : -4611686018427387904 ≤ N) (h1 : N ≤ 4611686018427387903) (hs : 0 ≤ N) (hf : -2 ^ Y ≤ N ∧ N ≤ 2 ^ Y - 1) :
    Calls Try.prog 7 #[.int .i64 n, .int .i64 b] w fun e w' => e = .returned (.bool true) ∧ Below w.heap.size w w' := by
  have bd := szS_bd N
  have hl : (str (enc N (szS N))).size = szS N := by rw [str_size, enc_length]
  have hlM : (str (encM N (szS N))).size = szS N := by rw [str_size, encM_length]
  have hne := not_empty N
  obtain ⟨hm1, hm2, hm3⟩ := shl_min64 Y (by omega)
  have HF := hide hf
  have hd1 : decide (-2 ^ Y ≤ N) = true := decide_eq_true hf.1
  have hd2 : decide (N ≤ 2 ^ Y - 1) = true := decide_eq_true hf.2
  clear hf
  have HTL := hide (tail_pos N (szS N) hs (by have := szS_range N (szS_le9 h0 h1); have := pow_whole (szS N) bd.1; have := pow_pos2 (7 * szS N - 1); omega))
  go_enter Try.func7, Try.ntmps7
  go_wp2_with fail
  refine (examples_any _).mono ?_
  rintro e w1 ⟨rfl, b1⟩
  go_wp2_with fail
  refine (S_any N _).mono ?_
  rintro e w2 ⟨rfl, b2⟩
  go_wp2_with fail
  refine (bitsFit N Y _ ⟨by omega, by omega⟩ hY HF.out).mono ?_
  rintro e w3 ⟨rfl, b3⟩
  go_wp2_with fail
  refine (S_any N _).mono ?_
  rintro e w4 ⟨rfl, b4⟩
  obtain ⟨cap, W, hrun, hcell, hfr, bW⟩ := bytes_of (enc N (szS N)) w4
  rw [enc_length] at hrun
  have hc := hcell (szS N - 1) (by rw [enc_length]; omega)
  rw [enc_get, wb, if_neg (by omega)] at hc
  have hf := hfr (szS N - 1) (by rw [enc_length]; omega)
  have HCELL := hide hcell
  have hor := u8_or128_right (N / 2 ^ (7 * (szS N - 1)) % 128) (by omega) (by omega)
  have hcv := back_of N (szS N) w4.heap.size cap W bd.1 HCELL.out
  clear hcell hfr
  go_wp2_with fail
  refine (longS N _ _ _ h0 h1 rfl (by rw [HTL.out])).mono ?_
  rintro e w5 ⟨rfl, b5⟩
  go_wp2_with fail
  refine (cutS N _).mono ?_
  rintro e w6 ⟨rfl, b6⟩
  go_wp2_with fail
  go_ret
  exact ⟨rfl, below_next (below_next (below_next (below_next (below_next (below_next b1 b2) b3) b4) (bW.setCell (Nat.le_refl _) _)) b5) b6⟩

theorem bits_walk (n b : Int) (w : World) (hn : I64 n) (hb : I64 b) :
    Calls Try.prog 7 #[.int .i64 n, .int .i64 b] w fun e w' => e = .returned (.bool true) ∧ Below w.heap.size w w' := by
  unfold I64 at hn hb
  have h0 : -4611686018427387904 ≤ n / 2 := by omega
  have h1 : n / 2 ≤ 4611686018427387903 := by omega
  have tri : ∀ Y : Nat, n / 2 < -2 ^ Y ∨ (-2 ^ Y ≤ n / 2 ∧ 2 ^ Y - 1 < n / 2) ∨ (-2 ^ Y ≤ n / 2 ∧ n / 2 ≤ 2 ^ Y - 1) := fun Y => by
    generalize (2 : Int) ^ Y = P
    omega
  have low : ∀ Y : Nat, n / 2 < -2 ^ Y → n / 2 < 0 := fun Y h => by have := pow_pos2 Y; omega
  have high : ∀ Y : Nat, 2 ^ Y - 1 < n / 2 → 0 ≤ n / 2 := fun Y h => by have := pow_pos2 Y; omega
  by_cases sb : 0 ≤ b
  · obtain ⟨Y, hY⟩ := Int.eq_ofNat_of_zero_le (show 0 ≤ b % 62 by omega)
    have hY61 : Y ≤ 61 := by omega
    rcases tri Y with h | h | h
    · exact bits_pnL n b _ Y w hn.1 hn.2 sb hb.2 rfl hY hY61 h0 h1 (low Y h) h
    · exact bits_ppH n b _ Y w hn.1 hn.2 sb hb.2 rfl hY hY61 h0 h1 (high Y h.2) h.1 h.2
    · by_cases sn : 0 ≤ n / 2
      · exact bits_ppF n b _ Y w hn.1 hn.2 sb hb.2 rfl hY hY61 h0 h1 sn h
      · exact bits_pnF n b _ Y w hn.1 hn.2 sb hb.2 rfl hY hY61 h0 h1 (by omega) h
  · obtain ⟨Y, hY⟩ := Int.eq_ofNat_of_zero_le (show 0 ≤ -(b + 1) % 62 by omega)
    have hY61 : Y ≤ 61 := by omega
    have hY : (b + 1).tmod 62 = -(Y : Int) := by
      have e := Int.neg_tmod (-(b + 1)) 62
      rw [Int.neg_neg, Int.tmod_eq_emod_of_nonneg (show 0 ≤ -(b + 1) by omega), hY] at e
      exact e
    rcases tri Y with h | h | h
    · exact bits_nnL n b _ Y w hn.1 hn.2 hb.1 (by omega) rfl hY hY61 h0 h1 (low Y h) h
    · exact bits_npH n b _ Y w hn.1 hn.2 hb.1 (by omega) rfl hY hY61 h0 h1 (high Y h.2) h.1 h.2
    · by_cases sn : 0 ≤ n / 2
      · exact bits_npF n b _ Y w hn.1 hn.2 hb.1 (by omega) rfl hY hY61 h0 h1 sn h
      · exact bits_nnF n b _ Y w hn.1 hn.2 hb.1 (by omega) rfl hY hY61 h0 h1 (by omega) h
end Go.Proofs.Ytkebbcabmpappaa
