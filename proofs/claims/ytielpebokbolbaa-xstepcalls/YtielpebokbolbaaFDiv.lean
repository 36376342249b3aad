/-
  The program's Div answers what the plain functions dB, dQ, dM tell: quotient and rest of the number of twice the width, or nothing; nothing older is changed.
-/
import Derived.Test.YtielpebokbolbaaFDiv64
import Derived.ShutString
namespace Go.Proofs.Ytielpebokbolbaa.Fg
open Go.RowKit

def dB (wide : Bool) (high by' : Int) : Bool := decide (R wide high < R wide by')
def dQ (wide : Bool) (high low by' : Int) : Int := if R wide high < R wide by' then wrap64 (((R wide high * 2 ^ wd wide + R wide low) / R wide by' : Nat) : Int) else 0
def dM (wide : Bool) (high low by' : Int) : Int := if R wide high < R wide by' then wrap64 (((R wide high * 2 ^ wd wide + R wide low) % R wide by' : Nat) : Int) else 0
theorem bdiv_any (H L Y : Nat) (w : World) (hL : L < 18446744073709551616) (hY : Y < 18446744073709551616) (hH : H < Y) :
    Calls Try.prog 70 #[.int .u64 H, .int .u64 L, .int .u64 Y] w fun e w' => e = .returned (.tuple #[.int .u64 (((H * 18446744073709551616 + L) / Y : Nat) : Int), .int .u64 (((H * 18446744073709551616 + L) % Y : Nat) : Int)]) ∧ Below w.heap.size w w' := by
  have T := hide (div64_any H L Y · hL hY hH)
  have e1 : (H * 18446744073709551616 + L) / Y < 18446744073709551616 := by rw [Nat.div_lt_iff_lt_mul (by omega)]; omega
  have e2 : (H * 18446744073709551616 + L) % Y < 18446744073709551616 := Nat.lt_trans (Nat.mod_lt _ (by omega)) hY
  have f1 := wrap_nat _ e1
  have f2 := wrap_nat _ e2
  clear e1 e2
  have g1 := wrap_nat H (by omega)
  have g2 := wrap_nat L hL
  have g3 := wrap_nat Y hY
  generalize (H * 18446744073709551616 + L) / Y = q at T f1 ⊢
  generalize (H * 18446744073709551616 + L) % Y = r at T f2 ⊢
  clear hL hY hH
  go_enter Try.func70, Try.ntmps70
  go_wp2_with (go_at_call 85; refine (T.out _).mono ?_; rintro e w1 ⟨rfl, B1⟩)
  go_ret2
  exact ⟨rfl, B1⟩
theorem un_tr (wide : Bool) (v : Int) (h : I64 v) : IntKind.u64.wrap (tr wide v) = (R wide v : Int) := by
  rw [un_wrap, un_R wide _ (tr_wd wide v h), R_tr]
theorem R_lt64 (wide : Bool) (v : Int) : R wide v < 18446744073709551616 := by
  have h := R_lt wide v
  cases wide
  · rw [wd_no] at h; omega
  · rw [wd_yes] at h; exact h
theorem ret_iib {a b c d : Int} {k : Bool} (h : a = b) (h2 : c = d) : Ending.returned (.tuple #[.int .i64 a, .int .i64 c, .bool k]) = .returned (.tuple #[.int .i64 b, .int .i64 d, .bool k]) := by rw [h, h2]

set_option maxHeartbeats 1000000 in
theorem div_no (wide : Bool) (high low by' : Int) (w : World) (h1 : I64 high) (h2 : I64 low) (h3 : I64 by') (hn : ¬ R wide high < R wide by') :
    Calls Try.prog 57 #[.bool wide, .int .i64 high, .int .i64 low, .int .i64 by'] w fun e w' => e = .returned (.tuple #[.int .i64 0, .int .i64 0, .bool false]) ∧ Below w.heap.size w w' := by
  have e1 := un_tr wide high h1
  have e2 := un_tr wide low h2
  have e3 := un_tr wide by' h3
  have hn' : (R wide by' : Int) ≤ (R wide high : Int) := by omega
  clear h1 h2 h3
  generalize R wide high = H at *
  generalize R wide low = L at *
  generalize R wide by' = D at *
  go_enter Try.func57, Try.ntmps57
  go_wp2_with (first | (go_at_call 38; refine (trim_any _ _ _).mono ?_; rintro e w1 ⟨rfl, rfl⟩))
  go_ret3
  exact ⟨rfl, Below.refl _ _⟩
theorem or_low (L H : Nat) (hL : L < 4294967296) (hH : H < 4294967296) : bits .or .u64 (L : Int) ((H : Int) * 4294967296) = ((H * 4294967296 + L : Nat) : Int) := by
  have e : ((H : Int) * 4294967296) = ((H * 4294967296 : Nat) : Int) := by rw [Int.natCast_mul]; rfl
  rw [e, u64_or_nat _ _ (by omega) (by omega), Nat.or_comm, nat_join 32 _ _ (by omega) (by omega)]
set_option maxHeartbeats 1000000 in
theorem div_low (high low by' : Int) (w : World) (h1 : I64 high) (h2 : I64 low) (h3 : I64 by') (hn : R false high < R false by') :
    Calls Try.prog 57 #[.bool false, .int .i64 high, .int .i64 low, .int .i64 by'] w fun e w' => e = .returned (.tuple #[.int .i64 (wrap64 (((R false high * 2 ^ 32 + R false low) / R false by' : Nat) : Int)), .int .i64 (wrap64 (((R false high * 2 ^ 32 + R false low) % R false by' : Nat) : Int)), .bool true]) ∧ Below w.heap.size w w' := by
  have e1 := un_tr false high h1
  have e2 := un_tr false low h2
  have e3 := un_tr false by' h3
  have l1 := R_lt false high
  have l2 := R_lt false low
  have l3 := R_lt false by'
  clear h1 h2 h3
  rw [wd_no] at l1 l2 l3
  generalize R false high = H at *
  generalize R false low = L at *
  generalize R false by' = D at *
  have hn' : ¬ ((D : Int) ≤ (H : Int)) := by omega
  have hd : ¬ ((D : Int) = 0) := by omega
  have f1 : IntKind.u64.wrap ((H : Int) * 4294967296) = (H : Int) * 4294967296 := by rw [un_wrap]; simp only [un]; omega
  have f2 := or_low L H (by omega) (by omega)
  have fl : H * 4294967296 + L < 18446744073709551616 := by omega
  have eX : H * 2 ^ 32 + L = H * 4294967296 + L := rfl
  rw [eX]
  generalize H * 4294967296 + L = X at f2 fl
  have E1 : Hid (IntKind.u64.wrap ((X : Int) / D) = ((X / D : Nat) : Int)) := hide (by rw [← Int.natCast_ediv]; exact wrap_nat _ (Nat.lt_of_le_of_lt (Nat.div_le_self _ _) fl))
  have E2 : Hid ((X : Int) % D = ((X % D : Nat) : Int)) := hide (by rw [← Int.natCast_emod])
  obtain ⟨q, hq⟩ : ∃ q, q = X / D := ⟨_, rfl⟩
  obtain ⟨r, hr⟩ : ∃ r, r = X % D := ⟨_, rfl⟩
  rw [← hq] at E1
  rw [← hr] at E2
  rw [← hq, ← hr]
  clear hq hr fl eX l1 l2 l3 hn
  go_enter Try.func57, Try.ntmps57
  go_wp2_with (first | (go_at_call 38; refine (trim_any _ _ _).mono ?_; rintro e w1 ⟨rfl, rfl⟩))
  go_region
  go_wp2_with fail
  go_ret3
  exact ⟨ret_iib (by rw [← E1.out]) (by rw [← E2.out]), (Below.refl _ _).drew⟩
set_option maxHeartbeats 1000000 in
theorem div_wide (high low by' : Int) (w : World) (h1 : I64 high) (h2 : I64 low) (h3 : I64 by') (hn : R true high < R true by') :
    Calls Try.prog 57 #[.bool true, .int .i64 high, .int .i64 low, .int .i64 by'] w fun e w' => e = .returned (.tuple #[.int .i64 (wrap64 (((R true high * 2 ^ 64 + R true low) / R true by' : Nat) : Int)), .int .i64 (wrap64 (((R true high * 2 ^ 64 + R true low) % R true by' : Nat) : Int)), .bool true]) ∧ Below w.heap.size w w' := by
  have e1 := un_tr true high h1
  have e2 := un_tr true low h2
  have e3 := un_tr true by' h3
  have T := hide (bdiv_any _ _ _ · (R_lt64 true low) (R_lt64 true by') hn)
  clear h1 h2 h3
  rw [two64]
  generalize R true high = H at *
  generalize R true low = L at *
  generalize R true by' = D at *
  have hn' : ¬ ((D : Int) ≤ (H : Int)) := by omega
  generalize (H * 18446744073709551616 + L) / D = q at T ⊢
  generalize (H * 18446744073709551616 + L) % D = r at T ⊢
  clear hn
  go_enter Try.func57, Try.ntmps57
  go_wp2_with (first | (go_at_call 38; refine (trim_any _ _ _).mono ?_; rintro e w1 ⟨rfl, rfl⟩) | (go_at_call 70; refine (T.out _).mono ?_; rintro e w1 ⟨rfl, B1⟩))
  go_ret3
  exact ⟨rfl, B1⟩
theorem div_any (wide : Bool) (high low by' : Int) (w : World) (h1 : I64 high) (h2 : I64 low) (h3 : I64 by') :
    Calls Try.prog 57 #[.bool wide, .int .i64 high, .int .i64 low, .int .i64 by'] w fun e w' => e = .returned (.tuple #[.int .i64 (dQ wide high low by'), .int .i64 (dM wide high low by'), .bool (dB wide high by')]) ∧ Below w.heap.size w w' := by
  unfold dQ dM dB
  by_cases hn : R wide high < R wide by'
  · rw [if_pos hn, if_pos hn, decide_eq_true hn]
    cases wide
    · exact div_low high low by' w h1 h2 h3 hn
    · exact div_wide high low by' w h1 h2 h3 hn
  · rw [if_neg hn, if_neg hn, decide_eq_false hn]
    exact div_no wide high low by' w h1 h2 h3 hn
end Go.Proofs.Ytielpebokbolbaa.Fg
