/-
  A number that is written, with anything behind, is read as it was, for every number and every string of at most 2^47 - 4096 bytes: the walk of the statement LebBack.
-/
import Derived.Test.YtkebbcabmpappaaExamples
import Derived.Test.YtkebbcabmpappaaMathB
namespace Go.Proofs.Ytkebbcabmpappaa
open Go.RowKit

theorem ret_bool {a b : Bool} (h : a = b) : Ending.returned (.bool a) = .returned (.bool b) := by rw [h]
theorem str_data (s : ByteArray) : str s.data.toList = s := by cases s; rfl
theorem data_str (l : List UInt8) : (str l).data.toList = l := by simp [str]
theorem str_size (l : List UInt8) : (str l).size = l.length := by simp [str, ByteArray.size]
theorem app_data (l : List UInt8) (s : ByteArray) : (str l ++ s).data.toList = l ++ s.data.toList := by
  rw [ByteArray.data_append, Array.toList_append, data_str]

theorem tkS_enc (n : Int) (r : List UInt8) (hn : I64 n) (b : Int) (h1 : 1 ≤ b) (h64 : b ≤ 64) :
    tkS (enc n (szS n) ++ r) b = if n / 2 ^ (b.toNat - 1) = 0 ∨ n / 2 ^ (b.toNat - 1) = -1 then (n, r, 0) else (0, [], 6) := by
  have bd := szS_bd n
  unfold tkS
  rw [if_neg (by omega), vS_enc n r hn, spn_enc n _ r bd.1 bd.2, List.take_left' (enc_length _ _), List.drop_left' (enc_length _ _)]
  simp
theorem tkU_enc (n : Int) (r : List UInt8) (h0 : 0 ≤ n) (h : n ≤ 9223372036854775807) (b : Int) (h1 : 1 ≤ b) (h63 : b ≤ 63) :
    tkU (enc n (szU n) ++ r) b = if n / 2 ^ b.toNat = 0 then (n, r, 0) else (0, [], 6) := by
  have bd := szU_bd n
  have e := vU_enc n r h0 h
  unfold vU at e
  unfold tkU
  rw [if_neg (by omega), e, spn_enc n _ r bd.1 (by omega), List.take_left' (enc_length _ _), List.drop_left' (enc_length _ _)]
  simp [h0]

theorem backS (n : Int) (s : ByteArray) (w : World) (hn : I64 n) (hs : s.size ≤ 140737488351232) :
    Calls Try.prog 18 #[.string (str (enc n (szS n)) ++ s), .int .i64 64] w fun e w' => e = .returned (.tuple #[.int .i64 n, .string s, .int .i64 0]) ∧ Below w.heap.size w w' := by
  have bd := szS_bd n
  have h := takeS_any (str (enc n (szS n)) ++ s) 64 w (by rw [ByteArray.size_append, str_size, enc_length]; omega)
  have e : tkS (str (enc n (szS n)) ++ s).data.toList 64 = (n, s.data.toList, 0) := by
    rw [app_data, tkS_enc n _ hn 64 (by decide) (by decide)]
    have e63 : (2 : Int) ^ ((64 : Int).toNat - 1) = 9223372036854775808 := by decide
    rw [e63, if_pos]
    unfold I64 at hn
    omega
  rw [e, str_data] at h
  exact h
theorem backU (n : Int) (s : ByteArray) (w : World) (h0 : 0 ≤ n) (hn : n ≤ 9223372036854775807) (hs : s.size ≤ 140737488351232) :
    Calls Try.prog 16 #[.string (str (enc n (szU n)) ++ s), .int .i64 63] w fun e w' => e = .returned (.tuple #[.int .i64 n, .string s, .int .i64 0]) ∧ Below w.heap.size w w' := by
  have bd := szU_bd n
  have h := takeU_any (str (enc n (szU n)) ++ s) 63 w (by rw [ByteArray.size_append, str_size, enc_length]; omega)
  have e : tkU (str (enc n (szU n)) ++ s).data.toList 63 = (n, s.data.toList, 0) := by
    rw [app_data, tkU_enc n _ h0 hn 63 (by decide) (by decide)]
    have e63 : (2 : Int) ^ ((63 : Int).toNat) = 9223372036854775808 := by decide
    rw [e63, if_pos]
    omega
  rw [e, str_data] at h
  exact h

set_option maxRecDepth 100000 in
set_option maxHeartbeats 1000000 in
theorem back_walk (n : Int) (s : ByteArray) (w : World) (hn : I64 n) (hs : s.size ≤ 140737488351232) :
    Calls Try.prog 5 #[.int .i64 n, .string s] w fun e w' => e = .returned (.bool true) ∧ Below w.heap.size w w' := by
  have bd := szS_bd n
  have bu := szU_bd n
  have hlen : (str (enc n (szS n))).size = szS n := by rw [str_size, enc_length]
  have hlenU : (str (enc n (szU n))).size = szU n := by rw [str_size, enc_length]
  have HN := hide hn
  unfold I64 at hn
  obtain ⟨hn0, hn1⟩ := hn
  by_cases hneg : n < 0
  · go_enter Try.func5, Try.ntmps5
    go_wp2_with fail
    refine (examples_any _).mono ?_
    rintro e w1 ⟨rfl, b1⟩
    go_wp2_with fail
    refine (S_any n _).mono ?_
    rintro e w2 ⟨rfl, b2⟩
    go_wp2_with fail
    refine (backS n s _ HN.out hs).mono ?_
    rintro e w3 ⟨rfl, b3⟩
    go_wp2_with fail
    refine (size_any n _).mono ?_
    rintro e w4 ⟨rfl, rfl⟩
    go_wp2_with fail
    refine (S_any n _).mono ?_
    rintro e w5 ⟨rfl, b5⟩
    go_wp2_with fail
    refine (U_no n _ hneg).mono ?_
    rintro e w6 ⟨rfl, rfl⟩
    go_wp2_with fail
    go_ret
    exact ⟨ret_bool (by simp [str]), below_next (below_next (below_next b1 b2) b3) b5⟩
  · go_enter Try.func5, Try.ntmps5
    go_wp2_with fail
    refine (examples_any _).mono ?_
    rintro e w1 ⟨rfl, b1⟩
    go_wp2_with fail
    refine (S_any n _).mono ?_
    rintro e w2 ⟨rfl, b2⟩
    go_wp2_with fail
    refine (backS n s _ HN.out hs).mono ?_
    rintro e w3 ⟨rfl, b3⟩
    go_wp2_with fail
    refine (size_any n _).mono ?_
    rintro e w4 ⟨rfl, rfl⟩
    go_wp2_with fail
    refine (S_any n _).mono ?_
    rintro e w5 ⟨rfl, b5⟩
    go_wp2_with fail
    refine (U_any n _ (by omega)).mono ?_
    rintro e w6 ⟨rfl, b6⟩
    go_wp2_with fail
    refine (backU n s _ (by omega) hn1 hs).mono ?_
    rintro e w7 ⟨rfl, b7⟩
    go_wp2_with fail
    go_ret
    exact ⟨rfl, below_next (below_next (below_next (below_next (below_next b1 b2) b3) b5) b6) b7⟩
end Go.Proofs.Ytkebbcabmpappaa
