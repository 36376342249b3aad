/-
  Of two unlike numbers neither's bytes begin with the other's, for all numbers: the walk of the statement LebApart.
-/
import Derived.Test.YtkebbcabmpappaaBack
namespace Go.Proofs.Ytkebbcabmpappaa
open Go.RowKit

theorem ext_str (l : List UInt8) (k : Nat) : ((str l).extract 0 k).toList = l.take k := by
  rw [ByteArray.toList_eq, ext_take, data_str]
theorem cut_no {a b : List UInt8} {k : Nat} (h : ¬ a.take k = b.take k) : (((str a).extract 0 k).toList == ((str b).extract 0 k).toList) = false := by
  rw [beq_eq_false_iff_ne, ext_str, ext_str]; exact h
theorem len_str (n : Int) (s : Nat) : (str (enc n s)).size = s := by rw [str_size, enc_length]
theorem len_nil : (str []).size = 0 := rfl
set_option maxRecDepth 100000 in
set_option maxHeartbeats 1600000 in
theorem apart_same_pos (n : Int) (w : World) (h0 : 0 ≤ n) :
    Calls Try.prog 6 #[.int .i64 n, .int .i64 n] w fun e w' => e = .returned (.bool true) ∧ Below w.heap.size w w' := by
  have bn := szS_bd n
  have bu := szU_bd n
  have l1 := len_str n (szS n)
  have l2 := len_str n (szU n)
  have l0 := len_nil
  go_enter Try.func6, Try.ntmps6
  go_wp2_with fail
  refine (examples_any _).mono ?_
  rintro e w1 ⟨rfl, b1⟩
  go_wp2_with fail
  refine (S_any n _).mono ?_
  rintro e w2 ⟨rfl, b2⟩
  go_wp2_with fail
  refine (S_any n _).mono ?_
  rintro e w3 ⟨rfl, b3⟩
  go_wp2_with fail
  refine (U_any n _ h0).mono ?_
  rintro e w4 ⟨rfl, b4⟩
  go_wp2_with fail
  refine (U_any n _ h0).mono ?_
  rintro e w5 ⟨rfl, b5⟩
  go_wp2_with fail
  go_quiet (fail)
  go_wp2
  go_ret
  exact ⟨rfl, below_drewN (below_next (below_next (below_next (below_next b1 b2) b3) b4) b5) _⟩
set_option maxRecDepth 100000 in
set_option maxHeartbeats 1600000 in
theorem apart_same_neg (n : Int) (w : World) (h0 : n < 0) :
    Calls Try.prog 6 #[.int .i64 n, .int .i64 n] w fun e w' => e = .returned (.bool true) ∧ Below w.heap.size w w' := by
  have bn := szS_bd n
  have bu := szU_bd n
  have l1 := len_str n (szS n)
  have l2 := len_str n (szU n)
  have l0 := len_nil
  go_enter Try.func6, Try.ntmps6
  go_wp2_with fail
  refine (examples_any _).mono ?_
  rintro e w1 ⟨rfl, b1⟩
  go_wp2_with fail
  refine (S_any n _).mono ?_
  rintro e w2 ⟨rfl, b2⟩
  go_wp2_with fail
  refine (S_any n _).mono ?_
  rintro e w3 ⟨rfl, b3⟩
  go_wp2_with fail
  refine (U_no n _ h0).mono ?_
  rintro e w4 ⟨rfl, rfl⟩
  go_wp2_with fail
  refine (U_no n _ h0).mono ?_
  rintro e w5 ⟨rfl, rfl⟩
  go_wp2_with fail
  go_quiet (fail)
  go_wp2
  go_ret
  exact ⟨rfl, below_drewN (below_next (below_next b1 b2) b3) _⟩
set_option maxRecDepth 100000 in
set_option maxHeartbeats 1600000 in
theorem apart_pp (n m : Int) (w : World) (h0 : 0 ≤ n) (g0 : 0 ≤ m) (hne : (n == m) = false) (k : Nat) (hk : (k = szS n ∧ szS n ≤ szS m) ∨ (k = szS m ∧ szS m < szS n))
    (hq : (((str (enc n (szS n))).extract 0 k).toList == ((str (enc m (szS m))).extract 0 k).toList) = false) (j : Nat) (hj : (j = szU n ∧ szU n ≤ szU m) ∨ (j = szU m ∧ szU m < szU n))
    (hU : (((str (enc n (szU n))).extract 0 j).toList == ((str (enc m (szU m))).extract 0 j).toList) = false) :
    Calls Try.prog 6 #[.int .i64 n, .int .i64 m] w fun e w' => e = .returned (.bool true) ∧ Below w.heap.size w w' := by
  have bn := szS_bd n
  have bm := szS_bd m
  have bu := szU_bd n
  have bv := szU_bd m
  have l1 := len_str n (szS n)
  have l2 := len_str n (szU n)
  have l3 := len_str m (szS m)
  have l4 := len_str m (szU m)
  have l0 := len_nil
  rcases hk with ⟨rfl, hle⟩ | ⟨rfl, hle⟩ <;> rcases hj with ⟨rfl, hlu⟩ | ⟨rfl, hlu⟩
  all_goals
    go_enter Try.func6, Try.ntmps6
    go_wp2_with fail
    refine (examples_any _).mono ?_
    rintro e w1 ⟨rfl, b1⟩
    go_wp2_with fail
    refine (S_any n _).mono ?_
    rintro e w2 ⟨rfl, b2⟩
    go_wp2_with fail
    refine (S_any m _).mono ?_
    rintro e w3 ⟨rfl, b3⟩
    go_wp2_with fail
    refine (U_any n _ h0).mono ?_
    rintro e w4 ⟨rfl, b4⟩
    go_wp2_with fail
    refine (U_any m _ g0).mono ?_
    rintro e w5 ⟨rfl, b5⟩
    go_wp2_with fail
    go_quiet (fail)
    go_wp2
    go_ret
    exact ⟨rfl, below_drewN (below_next (below_next (below_next (below_next b1 b2) b3) b4) b5) _⟩
set_option maxRecDepth 100000 in
set_option maxHeartbeats 1600000 in
theorem apart_pn (n m : Int) (w : World) (h0 : 0 ≤ n) (g0 : m < 0) (hne : (n == m) = false) (k : Nat) (hk : (k = szS n ∧ szS n ≤ szS m) ∨ (k = szS m ∧ szS m < szS n))
    (hq : (((str (enc n (szS n))).extract 0 k).toList == ((str (enc m (szS m))).extract 0 k).toList) = false) :
    Calls Try.prog 6 #[.int .i64 n, .int .i64 m] w fun e w' => e = .returned (.bool true) ∧ Below w.heap.size w w' := by
  have bn := szS_bd n
  have bm := szS_bd m
  have bu := szU_bd n
  have bv := szU_bd m
  have l1 := len_str n (szS n)
  have l2 := len_str n (szU n)
  have l3 := len_str m (szS m)
  have l4 := len_str m (szU m)
  have l0 := len_nil
  rcases hk with ⟨rfl, hle⟩ | ⟨rfl, hle⟩
  all_goals
    go_enter Try.func6, Try.ntmps6
    go_wp2_with fail
    refine (examples_any _).mono ?_
    rintro e w1 ⟨rfl, b1⟩
    go_wp2_with fail
    refine (S_any n _).mono ?_
    rintro e w2 ⟨rfl, b2⟩
    go_wp2_with fail
    refine (S_any m _).mono ?_
    rintro e w3 ⟨rfl, b3⟩
    go_wp2_with fail
    refine (U_any n _ h0).mono ?_
    rintro e w4 ⟨rfl, b4⟩
    go_wp2_with fail
    refine (U_no m _ g0).mono ?_
    rintro e w5 ⟨rfl, rfl⟩
    go_wp2_with fail
    go_quiet (fail)
    go_wp2
    go_ret
    exact ⟨rfl, below_drewN (below_next (below_next (below_next b1 b2) b3) b4) _⟩
set_option maxRecDepth 100000 in
set_option maxHeartbeats 1600000 in
theorem apart_np (n m : Int) (w : World) (h0 : n < 0) (g0 : 0 ≤ m) (hne : (n == m) = false) (k : Nat) (hk : (k = szS n ∧ szS n ≤ szS m) ∨ (k = szS m ∧ szS m < szS n))
    (hq : (((str (enc n (szS n))).extract 0 k).toList == ((str (enc m (szS m))).extract 0 k).toList) = false) :
    Calls Try.prog 6 #[.int .i64 n, .int .i64 m] w fun e w' => e = .returned (.bool true) ∧ Below w.heap.size w w' := by
  have bn := szS_bd n
  have bm := szS_bd m
  have bu := szU_bd n
  have bv := szU_bd m
  have l1 := len_str n (szS n)
  have l2 := len_str n (szU n)
  have l3 := len_str m (szS m)
  have l4 := len_str m (szU m)
  have l0 := len_nil
  rcases hk with ⟨rfl, hle⟩ | ⟨rfl, hle⟩
  all_goals
    go_enter Try.func6, Try.ntmps6
    go_wp2_with fail
    refine (examples_any _).mono ?_
    rintro e w1 ⟨rfl, b1⟩
    go_wp2_with fail
    refine (S_any n _).mono ?_
    rintro e w2 ⟨rfl, b2⟩
    go_wp2_with fail
    refine (S_any m _).mono ?_
    rintro e w3 ⟨rfl, b3⟩
    go_wp2_with fail
    refine (U_no n _ h0).mono ?_
    rintro e w4 ⟨rfl, rfl⟩
    go_wp2_with fail
    refine (U_any m _ g0).mono ?_
    rintro e w5 ⟨rfl, b5⟩
    go_wp2_with fail
    go_quiet (fail)
    go_wp2
    go_ret
    exact ⟨rfl, below_drewN (below_next (below_next (below_next b1 b2) b3) b5) _⟩
set_option maxRecDepth 100000 in
set_option maxHeartbeats 1600000 in
theorem apart_nn (n m : Int) (w : World) (h0 : n < 0) (g0 : m < 0) (hne : (n == m) = false) (k : Nat) (hk : (k = szS n ∧ szS n ≤ szS m) ∨ (k = szS m ∧ szS m < szS n))
    (hq : (((str (enc n (szS n))).extract 0 k).toList == ((str (enc m (szS m))).extract 0 k).toList) = false) :
    Calls Try.prog 6 #[.int .i64 n, .int .i64 m] w fun e w' => e = .returned (.bool true) ∧ Below w.heap.size w w' := by
  have bn := szS_bd n
  have bm := szS_bd m
  have bu := szU_bd n
  have bv := szU_bd m
  have l1 := len_str n (szS n)
  have l2 := len_str n (szU n)
  have l3 := len_str m (szS m)
  have l4 := len_str m (szU m)
  have l0 := len_nil
  rcases hk with ⟨rfl, hle⟩ | ⟨rfl, hle⟩
  all_goals
    go_enter Try.func6, Try.ntmps6
    go_wp2_with fail
    refine (examples_any _).mono ?_
    rintro e w1 ⟨rfl, b1⟩
    go_wp2_with fail
    refine (S_any n _).mono ?_
    rintro e w2 ⟨rfl, b2⟩
    go_wp2_with fail
    refine (S_any m _).mono ?_
    rintro e w3 ⟨rfl, b3⟩
    go_wp2_with fail
    refine (U_no n _ h0).mono ?_
    rintro e w4 ⟨rfl, rfl⟩
    go_wp2_with fail
    refine (U_no m _ g0).mono ?_
    rintro e w5 ⟨rfl, rfl⟩
    go_wp2_with fail
    go_quiet (fail)
    go_wp2
    go_ret
    exact ⟨rfl, below_drewN (below_next (below_next b1 b2) b3) _⟩

theorem apart_walk (n m : Int) (w : World) (hn : I64 n) (hm : I64 m) :
    Calls Try.prog 6 #[.int .i64 n, .int .i64 m] w fun e w' => e = .returned (.bool true) ∧ Below w.heap.size w w' := by
  by_cases e : n = m
  · subst e
    by_cases h0 : 0 ≤ n
    · exact apart_same_pos n w h0
    · exact apart_same_neg n w (by omega)
  · have hne : (n == m) = false := by simpa using e
    have hq : (((str (enc n (szS n))).extract 0 (min (szS n) (szS m))).toList == ((str (enc m (szS m))).extract 0 (min (szS n) (szS m))).toList) = false :=
      cut_no (fun h => e ((apartS hn hm rfl).1 h))
    have hk : (min (szS n) (szS m) = szS n ∧ szS n ≤ szS m) ∨ (min (szS n) (szS m) = szS m ∧ szS m < szS n) := by omega
    unfold I64 at hn hm
    by_cases h0 : 0 ≤ n
    · by_cases g0 : 0 ≤ m
      · exact apart_pp n m w h0 g0 hne _ hk hq (min (szU n) (szU m)) (by omega) (cut_no (fun h => e ((apartU h0 hn.2 g0 hm.2 rfl).1 h)))
      · exact apart_pn n m w h0 (by omega) hne _ hk hq
    · by_cases g0 : 0 ≤ m
      · exact apart_np n m w (by omega) g0 hne _ hk hq
      · exact apart_nn n m w (by omega) (by omega) hne _ hk hq
end Go.Proofs.Ytkebbcabmpappaa
