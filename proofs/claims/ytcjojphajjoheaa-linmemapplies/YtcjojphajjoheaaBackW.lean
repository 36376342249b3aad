/-
  The walk of the statement LinmemBack.
-/
import Derived.Test.YtcjojphajjoheaaBack
namespace Go.Proofs.Ytcjojphajjoheaa
open Go.RowKit

theorem ext_head {X : List UInt8} {t : ByteArray} {p : Nat} (h : X.take p = t.data.toList.take p) : (((str X).extract 0 p).toList == (t.extract 0 p).toList) = true := by
  rw [ByteArray.toList_eq, ByteArray.toList_eq]
  simp [ByteArray.data_extract, str, List.extract_eq_take_drop, h]
theorem ext_tail {X : List UInt8} {t : ByteArray} {q : Nat} (h : X.drop q = t.data.toList.drop q) : (((str X).extract q t.size).toList == (t.extract q t.size).toList) = true := by
  rw [ByteArray.toList_eq, ByteArray.toList_eq]
  simp [ByteArray.data_extract, str, List.extract_eq_take_drop, h]
theorem and32 (n : Int) : bits .and .i64 n 4294967295 = n % 4294967296 := by
  have h1 : (BitVec.ofInt 64 4294967295).toNat = 2 ^ 32 - 1 := by decide
  have key : (BitVec.ofInt 64 n &&& BitVec.ofInt 64 4294967295).toNat = (n % ((2 ^ 64 : Nat) : Int)).toNat % 2 ^ 32 := by
    rw [BitVec.toNat_and, BitVec.toNat_ofInt, h1, Nat.and_two_pow_sub_one_eq_mod]
  show IntKind.i64.wrap ((BitVec.ofInt 64 n &&& BitVec.ofInt 64 4294967295).toNat : Nat) = n % 4294967296
  rw [key, IntKind.wrap_i64]
  omega
set_option maxHeartbeats 3200000 in
theorem back_walk4 (s : ByteArray) (a o v : Int) (w : World) (hv : I64 v) :
    Calls Try.prog 5 #[.string s, .int .i64 a, .int .i64 o, .bool false, .int .i64 v] w fun e w' => e = .returned (.bool true) ∧ Below w.heap.size w w' := by
  have hc := cut_size s
  have ma := and32 a
  have mo := and32 o
  have mv := and32 v
  go_enter Try.func5, Try.ntmps5
  go_wp2_with (go_at_call 9; refine (examples_any _).mono ?_; rintro e w1 ⟨rfl, hb1⟩)
  generalize s.extract 0 (min (s.size : Int) 5000).toNat = t at *
  rcases back_is t.data.toList a o v 4 (by decide) hv with ⟨h1, h2⟩ | ⟨p, X, was, hp, hfit, h1, h2, h3, h4, hl, hh, ht, hw⟩
  · have S1 : Hid (stA t.data.toList a o 4 v = ([], false)) := h1
    have L1 : Hid (ldA t.data.toList a o 4 = (0, false)) := h2
    clear h1 h2
    refine (store_any _ _ _ _ _ _ hv hc).mono ?_
    rw [S1.out]; rintro e w2 ⟨rfl, hb2⟩
    have he : (str []).toList.isEmpty = true := by decide +kernel
    go_wp2_with (go_at_call 10; refine (load_any _ _ _ _ _ hc).mono ?_; rw [L1.out]; rintro e w3 ⟨rfl, hb3⟩)
    go_ret
    exact ⟨rfl, hb1.trans ((hb2.mono hb1.size).trans (hb3.mono (Nat.le_trans hb1.size hb2.size)))⟩
  · have S1 : Hid (stA t.data.toList a o 4 v = (X, true)) := h1
    have L1 : Hid (ldA t.data.toList a o 4 = (was, true)) := h2
    have L2 : Hid (ldA (str X).data.toList a o 4 = (v % 4294967296, true)) := by show _ = _; rw [str_list]; exact h3
    have S2 : Hid (stA (str X).data.toList a o 4 was = (t.data.toList, true)) := by show _ = _; rw [str_list]; exact h4
    rw [list_size] at hl hfit
    have hcX : (str X).size ≤ 140737488351232 := by rw [str_size, hl]; exact hc
    have hXs : (str X).size = t.size := by rw [str_size, hl]
    have q1 := ext_head hh
    have q2 := ext_tail ht
    have hst := hide (str_of t)
    have hp1 : p ≤ t.size := by omega
    clear h1 h2 h3 h4 hl hh ht
    refine (store_any _ _ _ _ _ _ hv hc).mono ?_
    rw [S1.out]
    generalize str X = x at *
    rintro e w2 ⟨rfl, hb2⟩
    go_wp2_with (fail)
    refine (load_any _ _ _ _ _ hc).mono ?_
    rw [L1.out]; rintro e w3 ⟨rfl, hb3⟩
    go_wp2_with (fail)
    refine (load_any _ _ _ _ _ hcX).mono ?_
    rw [L2.out]; rintro e w4 ⟨rfl, hb4⟩
    go_wp2_with (fail)
    refine (store_any _ _ _ _ _ _ hw hcX).mono ?_
    rw [S2.out, ← hst.out]; rintro e w5 ⟨rfl, hb5⟩
    clear S1 S2 L1 L2 hst
    go_wp2_with (fail)
    go_quiet (fail)
    go_wp2
    go_ret
    exact ⟨rfl, hb1.trans ((hb2.mono hb1.size).trans ((hb3.mono (Nat.le_trans hb1.size hb2.size)).trans ((hb4.mono (Nat.le_trans hb1.size (Nat.le_trans hb2.size hb3.size))).trans ((hb5.mono (Nat.le_trans hb1.size (Nat.le_trans hb2.size (Nat.le_trans hb3.size hb4.size)))).trans ⟨rfl, rfl, rfl, Nat.le_refl _, fun _ _ => rfl⟩))))⟩
set_option maxHeartbeats 3200000 in
theorem back_walk8 (s : ByteArray) (a o v : Int) (w : World) (hv : I64 v) :
    Calls Try.prog 5 #[.string s, .int .i64 a, .int .i64 o, .bool true, .int .i64 v] w fun e w' => e = .returned (.bool true) ∧ Below w.heap.size w w' := by
  have hc := cut_size s
  have ma := and32 a
  have mo := and32 o
  have mv := and32 v
  go_enter Try.func5, Try.ntmps5
  go_wp2_with (go_at_call 9; refine (examples_any _).mono ?_; rintro e w1 ⟨rfl, hb1⟩)
  generalize s.extract 0 (min (s.size : Int) 5000).toNat = t at *
  rcases back_is t.data.toList a o v 8 (by decide) hv with ⟨h1, h2⟩ | ⟨p, X, was, hp, hfit, h1, h2, h3, h4, hl, hh, ht, hw⟩
  · have S1 : Hid (stA t.data.toList a o 8 v = ([], false)) := h1
    have L1 : Hid (ldA t.data.toList a o 8 = (0, false)) := h2
    clear h1 h2
    refine (store_any _ _ _ _ _ _ hv hc).mono ?_
    rw [S1.out]; rintro e w2 ⟨rfl, hb2⟩
    have he : (str []).toList.isEmpty = true := by decide +kernel
    go_wp2_with (go_at_call 10; refine (load_any _ _ _ _ _ hc).mono ?_; rw [L1.out]; rintro e w3 ⟨rfl, hb3⟩)
    go_ret
    exact ⟨rfl, hb1.trans ((hb2.mono hb1.size).trans (hb3.mono (Nat.le_trans hb1.size hb2.size)))⟩
  · have S1 : Hid (stA t.data.toList a o 8 v = (X, true)) := h1
    have L1 : Hid (ldA t.data.toList a o 8 = (was, true)) := h2
    have L2 : Hid (ldA (str X).data.toList a o 8 = (v, true)) := by show _ = _; rw [str_list]; exact h3
    have S2 : Hid (stA (str X).data.toList a o 8 was = (t.data.toList, true)) := by show _ = _; rw [str_list]; exact h4
    rw [list_size] at hl hfit
    have hcX : (str X).size ≤ 140737488351232 := by rw [str_size, hl]; exact hc
    have hXs : (str X).size = t.size := by rw [str_size, hl]
    have q1 := ext_head hh
    have q2 := ext_tail ht
    have hst := hide (str_of t)
    have hp1 : p ≤ t.size := by omega
    clear h1 h2 h3 h4 hl hh ht
    refine (store_any _ _ _ _ _ _ hv hc).mono ?_
    rw [S1.out]
    generalize str X = x at *
    rintro e w2 ⟨rfl, hb2⟩
    go_wp2_with (fail)
    refine (load_any _ _ _ _ _ hc).mono ?_
    rw [L1.out]; rintro e w3 ⟨rfl, hb3⟩
    go_wp2_with (fail)
    refine (load_any _ _ _ _ _ hcX).mono ?_
    rw [L2.out]; rintro e w4 ⟨rfl, hb4⟩
    go_wp2_with (fail)
    refine (store_any _ _ _ _ _ _ hw hcX).mono ?_
    rw [S2.out, ← hst.out]; rintro e w5 ⟨rfl, hb5⟩
    clear S1 S2 L1 L2 hst
    go_wp2_with (fail)
    go_quiet (fail)
    go_wp2
    go_ret
    exact ⟨rfl, hb1.trans ((hb2.mono hb1.size).trans ((hb3.mono (Nat.le_trans hb1.size hb2.size)).trans ((hb4.mono (Nat.le_trans hb1.size (Nat.le_trans hb2.size hb3.size))).trans ((hb5.mono (Nat.le_trans hb1.size (Nat.le_trans hb2.size (Nat.le_trans hb3.size hb4.size)))).trans ⟨rfl, rfl, rfl, Nat.le_refl _, fun _ _ => rfl⟩))))⟩
theorem back_walk (s : ByteArray) (a o : Int) (wide : Bool) (v : Int) (w : World) (_hs : s.size ≤ 140737488351232) (_ha : I64 a) (_ho : I64 o) (hv : I64 v) :
    Calls Try.prog 5 #[.string s, .int .i64 a, .int .i64 o, .bool wide, .int .i64 v] w fun e w' => e = .returned (.bool true) ∧ Below w.heap.size w w' := by
  cases wide
  · exact back_walk4 s a o v w hv
  · exact back_walk8 s a o v w hv
end Go.Proofs.Ytcjojphajjoheaa
