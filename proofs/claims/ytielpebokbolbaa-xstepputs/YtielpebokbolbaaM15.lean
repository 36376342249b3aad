/-
  The program's Div answers what the plain functions dB, dQ, dM tell: quotient and rest of the number of twice the width, or nothing; nothing older is changed.
  The program's Idiv answers what the plain functions iB, iQ, iM tell: quotient and rest of signed numbers, or nothing; nothing is changed.
  What a step does with a machine, and what it lets be seen. No program.
  What registers hold stays within 64 bits; a machine that may be stays one. No program.
-/
import Derived.Test.YtielpebokbolbaaM14
import Derived.ShutString
import Derived.BigQuiet
import Derived.Deep.QuietTactic
import Derived.Deep.Draws
import Derived.Test.YtielpebokbolbaaM4
import Derived.Test.YtielpebokbolbaaM12
import Derived.Test.YtielpebokbolbaaM13
import Derived.Test.YtielpebokbolbaaM8
namespace Go.Proofs.Ytielpebokbolbaa.Fg
open Go.RowKit

def dB (wide : Bool) (high by' : Int) : Bool := decide (R wide high < R wide by')
def dQ (wide : Bool) (high low by' : Int) : Int := if R wide high < R wide by' then wrap64 (((R wide high * 2 ^ wd wide + R wide low) / R wide by' : Nat) : Int) else 0
def dM (wide : Bool) (high low by' : Int) : Int := if R wide high < R wide by' then wrap64 (((R wide high * 2 ^ wd wide + R wide low) % R wide by' : Nat) : Int) else 0
theorem bdiv_any (H L Y : Nat) (w : World) (hL : L < 18446744073709551616) (hY : Y < 18446744073709551616) (hH : H < Y) :
    Calls Try.prog 70 #[.int .u64 H, .int .u64 L, .int .u64 Y] w fun e w' => e = .returned (.tuple #[.int .u64 (((H * 18446744073709551616 + L) / Y : Nat) : Int), .int .u64 (((H * 18446744073709551616 + L) % Y : Nat) : Int)]) ∧ Below w.heap.size w w' := by
  have T := hide (div64_any H L Y · hL hY hH)
  have e1 : (H * 18446744073709551616 + L) / Y < 18446744073709551616 := by rw [Nat.div_lt_iff_lt_mul (by omega)]; omega
  have e2 : (H * 18446744073709551616 + L) % Y < 18446744073709551616 := Nat.lt_trans (Nat.mod_lt _ (by omega)) hY
  have f1 := wrap_nat _ e1
  have f2 := wrap_nat _ e2
  clear e1 e2
  have g1 := wrap_nat H (by omega)
  have g2 := wrap_nat L hL
  have g3 := wrap_nat Y hY
  generalize (H * 18446744073709551616 + L) / Y = q at T f1 ⊢
  generalize (H * 18446744073709551616 + L) % Y = r at T f2 ⊢
  clear hL hY hH
  go_enter Try.func70, Try.ntmps70
  go_wp2_with (go_at_call 85; refine (T.out _).mono ?_; rintro e w1 ⟨rfl, B1⟩)
  go_ret2
  exact ⟨rfl, B1⟩
theorem un_tr (wide : Bool) (v : Int) (h : I64 v) : IntKind.u64.wrap (tr wide v) = (R wide v : Int) := by
  rw [un_wrap, un_R wide _ (tr_wd wide v h), R_tr]
theorem R_lt64 (wide : Bool) (v : Int) : R wide v < 18446744073709551616 := by
  have h := R_lt wide v
  cases wide
  · rw [wd_no] at h; omega
  · rw [wd_yes] at h; exact h
theorem ret_iib {a b c d : Int} {k : Bool} (h : a = b) (h2 : c = d) : Ending.returned (.tuple #[.int .i64 a, .int .i64 c, .bool k]) = .returned (.tuple #[.int .i64 b, .int .i64 d, .bool k]) := by rw [h, h2]

set_option maxHeartbeats 1000000 in
theorem div_no (wide : Bool) (high low by' : Int) (w : World) (h1 : I64 high) (h2 : I64 low) (h3 : I64 by') (hn : ¬ R wide high < R wide by') :
    Calls Try.prog 57 #[.bool wide, .int .i64 high, .int .i64 low, .int .i64 by'] w fun e w' => e = .returned (.tuple #[.int .i64 0, .int .i64 0, .bool false]) ∧ Below w.heap.size w w' := by
  have e1 := un_tr wide high h1
  have e2 := un_tr wide low h2
  have e3 := un_tr wide by' h3
  have hn' : (R wide by' : Int) ≤ (R wide high : Int) := by omega
  clear h1 h2 h3
  generalize R wide high = H at *
  generalize R wide low = L at *
  generalize R wide by' = D at *
  go_enter Try.func57, Try.ntmps57
  go_wp2_with (first | (go_at_call 38; refine (trim_any _ _ _).mono ?_; rintro e w1 ⟨rfl, rfl⟩))
  go_ret3
  exact ⟨rfl, Below.refl _ _⟩
theorem or_low (L H : Nat) (hL : L < 4294967296) (hH : H < 4294967296) : bits .or .u64 (L : Int) ((H : Int) * 4294967296) = ((H * 4294967296 + L : Nat) : Int) := by
  have e : ((H : Int) * 4294967296) = ((H * 4294967296 : Nat) : Int) := by rw [Int.natCast_mul]; rfl
  rw [e, u64_or_nat _ _ (by omega) (by omega), Nat.or_comm, nat_join 32 _ _ (by omega) (by omega)]
set_option maxHeartbeats 1000000 in
theorem div_low (high low by' : Int) (w : World) (h1 : I64 high) (h2 : I64 low) (h3 : I64 by') (hn : R false high < R false by') :
    Calls Try.prog 57 #[.bool false, .int .i64 high, .int .i64 low, .int .i64 by'] w fun e w' => e = .returned (.tuple #[.int .i64 (wrap64 (((R false high * 2 ^ 32 + R false low) / R false by' : Nat) : Int)), .int .i64 (wrap64 (((R false high * 2 ^ 32 + R false low) % R false by' : Nat) : Int)), .bool true]) ∧ Below w.heap.size w w' := by
  have e1 := un_tr false high h1
  have e2 := un_tr false low h2
  have e3 := un_tr false by' h3
  have l1 := R_lt false high
  have l2 := R_lt false low
  have l3 := R_lt false by'
  clear h1 h2 h3
  rw [wd_no] at l1 l2 l3
  generalize R false high = H at *
  generalize R false low = L at *
  generalize R false by' = D at *
  have hn' : ¬ ((D : Int) ≤ (H : Int)) := by omega
  have hd : ¬ ((D : Int) = 0) := by omega
  have f1 : IntKind.u64.wrap ((H : Int) * 4294967296) = (H : Int) * 4294967296 := by rw [un_wrap]; simp only [un]; omega
  have f2 := or_low L H (by omega) (by omega)
  have fl : H * 4294967296 + L < 18446744073709551616 := by omega
  have eX : H * 2 ^ 32 + L = H * 4294967296 + L := rfl
  rw [eX]
  generalize H * 4294967296 + L = X at f2 fl
  have E1 : Hid (IntKind.u64.wrap ((X : Int) / D) = ((X / D : Nat) : Int)) := hide (by rw [← Int.natCast_ediv]; exact wrap_nat _ (Nat.lt_of_le_of_lt (Nat.div_le_self _ _) fl))
  have E2 : Hid ((X : Int) % D = ((X % D : Nat) : Int)) := hide (by rw [← Int.natCast_emod])
  obtain ⟨q, hq⟩ : ∃ q, q = X / D := ⟨_, rfl⟩
  obtain ⟨r, hr⟩ : ∃ r, r = X % D := ⟨_, rfl⟩
  rw [← hq] at E1
  rw [← hr] at E2
  rw [← hq, ← hr]
  clear hq hr fl eX l1 l2 l3 hn
  go_enter Try.func57, Try.ntmps57
  go_wp2_with (first | (go_at_call 38; refine (trim_any _ _ _).mono ?_; rintro e w1 ⟨rfl, rfl⟩))
  go_region
  go_wp2_with fail
  go_ret3
  exact ⟨ret_iib (by rw [← E1.out]) (by rw [← E2.out]), (Below.refl _ _).drew⟩
set_option maxHeartbeats 1000000 in
theorem div_wide (high low by' : Int) (w : World) (h1 : I64 high) (h2 : I64 low) (h3 : I64 by') (hn : R true high < R true by') :
    Calls Try.prog 57 #[.bool true, .int .i64 high, .int .i64 low, .int .i64 by'] w fun e w' => e = .returned (.tuple #[.int .i64 (wrap64 (((R true high * 2 ^ 64 + R true low) / R true by' : Nat) : Int)), .int .i64 (wrap64 (((R true high * 2 ^ 64 + R true low) % R true by' : Nat) : Int)), .bool true]) ∧ Below w.heap.size w w' := by
  have e1 := un_tr true high h1
  have e2 := un_tr true low h2
  have e3 := un_tr true by' h3
  have T := hide (bdiv_any _ _ _ · (R_lt64 true low) (R_lt64 true by') hn)
  clear h1 h2 h3
  rw [two64]
  generalize R true high = H at *
  generalize R true low = L at *
  generalize R true by' = D at *
  have hn' : ¬ ((D : Int) ≤ (H : Int)) := by omega
  generalize (H * 18446744073709551616 + L) / D = q at T ⊢
  generalize (H * 18446744073709551616 + L) % D = r at T ⊢
  clear hn
  go_enter Try.func57, Try.ntmps57
  go_wp2_with (first | (go_at_call 38; refine (trim_any _ _ _).mono ?_; rintro e w1 ⟨rfl, rfl⟩) | (go_at_call 70; refine (T.out _).mono ?_; rintro e w1 ⟨rfl, B1⟩))
  go_ret3
  exact ⟨rfl, B1⟩
theorem div_any (wide : Bool) (high low by' : Int) (w : World) (h1 : I64 high) (h2 : I64 low) (h3 : I64 by') :
    Calls Try.prog 57 #[.bool wide, .int .i64 high, .int .i64 low, .int .i64 by'] w fun e w' => e = .returned (.tuple #[.int .i64 (dQ wide high low by'), .int .i64 (dM wide high low by'), .bool (dB wide high by')]) ∧ Below w.heap.size w w' := by
  unfold dQ dM dB
  by_cases hn : R wide high < R wide by'
  · rw [if_pos hn, if_pos hn, decide_eq_true hn]
    cases wide
    · exact div_low high low by' w h1 h2 h3 hn
    · exact div_wide high low by' w h1 h2 h3 hn
  · rw [if_neg hn, if_neg hn, decide_eq_false hn]
    exact div_no wide high low by' w h1 h2 h3 hn
end Go.Proofs.Ytielpebokbolbaa.Fg
namespace Go.Proofs.Ytielpebokbolbaa.Fg
open Go.RowKit

/-- may it be divided? -/
def iB (wide : Bool) (high low by' : Int) : Bool :=
  !(sn wide by' == 0) && (tr wide high == tr wide (sgi (sn wide low))) && !(sn wide low == ls wide && sn wide by' == -1)
def iQ (wide : Bool) (high low by' : Int) : Int := if iB wide high low by' then M wide ((sn wide low).tdiv (sn wide by')) else 0
def iM (wide : Bool) (high low by' : Int) : Int := if iB wide high low by' then tr wide ((sn wide low).tmod (sn wide by')) else 0

theorem below_drewN (n₀ m : Nat) (w : World) : Below n₀ w (w.drewN m) := ⟨rfl, rfl, rfl, Nat.le_refl _, fun _ _ => rfl⟩
set_option maxHeartbeats 1000000 in
theorem idiv_zero (wide : Bool) (high low by' : Int) (w : World) (h2 : I64 low) (hd : sn wide by' = 0) :
    Calls Try.prog 58 #[.bool wide, .int .i64 high, .int .i64 low, .int .i64 by'] w fun e w' => e = .returned (.tuple #[.int .i64 0, .int .i64 0, .bool false]) ∧ Below w.heap.size w w' := by
  have HN := hide (sn_i64 wide low h2)
  clear h2
  go_enter Try.func58, Try.ntmps58
  go_wp2_with (first | (go_at_call 71; refine (signed_any _ _ _).mono ?_; rintro e w1 ⟨rfl, rfl⟩) | (go_at_call 38; refine (trim_any _ _ _).mono ?_; rintro e w1 ⟨rfl, rfl⟩) | (go_at_call 73; refine (least_any _ _).mono ?_; rintro e w1 ⟨rfl, rfl⟩) | (go_at_call 72; refine (sign_any _ _ HN.out).mono ?_; rintro e w1 ⟨rfl, rfl⟩))
  go_ret3
  exact ⟨rfl, Below.refl _ _⟩
set_option maxHeartbeats 1000000 in
theorem idiv_high (wide : Bool) (high low by' : Int) (w : World) (h2 : I64 low) (hd : (sn wide by' == 0) = false) (hh : (tr wide high != tr wide (sgi (sn wide low))) = true) :
    Calls Try.prog 58 #[.bool wide, .int .i64 high, .int .i64 low, .int .i64 by'] w fun e w' => e = .returned (.tuple #[.int .i64 0, .int .i64 0, .bool false]) ∧ Below w.heap.size w w' := by
  have HN := hide (sn_i64 wide low h2)
  clear h2
  go_enter Try.func58, Try.ntmps58
  go_wp2_with (first | (go_at_call 71; refine (signed_any _ _ _).mono ?_; rintro e w1 ⟨rfl, rfl⟩) | (go_at_call 38; refine (trim_any _ _ _).mono ?_; rintro e w1 ⟨rfl, rfl⟩) | (go_at_call 73; refine (least_any _ _).mono ?_; rintro e w1 ⟨rfl, rfl⟩) | (go_at_call 72; refine (sign_any _ _ HN.out).mono ?_; rintro e w1 ⟨rfl, rfl⟩))
  go_ret3
  exact ⟨rfl, Below.refl _ _⟩
set_option maxHeartbeats 1000000 in
theorem idiv_least (wide : Bool) (high low by' : Int) (w : World) (h2 : I64 low) (hd : (sn wide by' == 0) = false) (hh : (tr wide high != tr wide (sgi (sn wide low))) = false) (hl : (sn wide low == ls wide) = true) (hm : (sn wide by' == -1) = true) :
    Calls Try.prog 58 #[.bool wide, .int .i64 high, .int .i64 low, .int .i64 by'] w fun e w' => e = .returned (.tuple #[.int .i64 0, .int .i64 0, .bool false]) ∧ Below w.heap.size w w' := by
  have HN := hide (sn_i64 wide low h2)
  clear h2
  go_enter Try.func58, Try.ntmps58
  go_wp2_with (first | (go_at_call 71; refine (signed_any _ _ _).mono ?_; rintro e w1 ⟨rfl, rfl⟩) | (go_at_call 38; refine (trim_any _ _ _).mono ?_; rintro e w1 ⟨rfl, rfl⟩) | (go_at_call 73; refine (least_any _ _).mono ?_; rintro e w1 ⟨rfl, rfl⟩) | (go_at_call 72; refine (sign_any _ _ HN.out).mono ?_; rintro e w1 ⟨rfl, rfl⟩))
  go_ret3
  exact ⟨rfl, Below.refl _ _⟩
set_option maxHeartbeats 1000000 in
theorem idiv_yesA (wide : Bool) (high low by' : Int) (w : World) (h2 : I64 low) (hd : (sn wide by' == 0) = false) (hd' : ¬ (sn wide by' = 0)) (hh : (tr wide high != tr wide (sgi (sn wide low))) = false) (hl : (sn wide low == ls wide) = false) :
    Calls Try.prog 58 #[.bool wide, .int .i64 high, .int .i64 low, .int .i64 by'] w fun e w' => e = .returned (.tuple #[.int .i64 (M wide ((sn wide low).tdiv (sn wide by'))), .int .i64 (tr wide ((sn wide low).tmod (sn wide by'))), .bool true]) ∧ Below w.heap.size w w' := by
  have HN := hide (sn_i64 wide low h2)
  clear h2
  go_enter Try.func58, Try.ntmps58
  go_wp2_with (first | (go_at_call 71; refine (signed_any _ _ _).mono ?_; rintro e w1 ⟨rfl, rfl⟩) | (go_at_call 38; refine (trim_any _ _ _).mono ?_; rintro e w1 ⟨rfl, rfl⟩) | (go_at_call 73; refine (least_any _ _).mono ?_; rintro e w1 ⟨rfl, rfl⟩) | (go_at_call 72; refine (sign_any _ _ HN.out).mono ?_; rintro e w1 ⟨rfl, rfl⟩))
  go_quiet (first | (go_at_call 38; refine Calls.quiet_of_same (trim_any _ _ _)))
  go_wp2_with fail
  go_ret3
  exact ⟨ret_iib rfl rfl, below_drewN _ _ _⟩
set_option maxHeartbeats 1000000 in
theorem idiv_yesB (wide : Bool) (high low by' : Int) (w : World) (h2 : I64 low) (hd : (sn wide by' == 0) = false) (hd' : ¬ (sn wide by' = 0)) (hh : (tr wide high != tr wide (sgi (sn wide low))) = false) (hl : (sn wide low == ls wide) = true) (hm : (sn wide by' == -1) = false) :
    Calls Try.prog 58 #[.bool wide, .int .i64 high, .int .i64 low, .int .i64 by'] w fun e w' => e = .returned (.tuple #[.int .i64 (M wide ((sn wide low).tdiv (sn wide by'))), .int .i64 (tr wide ((sn wide low).tmod (sn wide by'))), .bool true]) ∧ Below w.heap.size w w' := by
  have HN := hide (sn_i64 wide low h2)
  clear h2
  go_enter Try.func58, Try.ntmps58
  go_wp2_with (first | (go_at_call 71; refine (signed_any _ _ _).mono ?_; rintro e w1 ⟨rfl, rfl⟩) | (go_at_call 38; refine (trim_any _ _ _).mono ?_; rintro e w1 ⟨rfl, rfl⟩) | (go_at_call 73; refine (least_any _ _).mono ?_; rintro e w1 ⟨rfl, rfl⟩) | (go_at_call 72; refine (sign_any _ _ HN.out).mono ?_; rintro e w1 ⟨rfl, rfl⟩))
  go_quiet (first | (go_at_call 38; refine Calls.quiet_of_same (trim_any _ _ _)))
  go_wp2_with fail
  go_ret3
  exact ⟨ret_iib rfl rfl, below_drewN _ _ _⟩
theorem idiv_any (wide : Bool) (high low by' : Int) (w : World) (h2 : I64 low) :
    Calls Try.prog 58 #[.bool wide, .int .i64 high, .int .i64 low, .int .i64 by'] w fun e w' => e = .returned (.tuple #[.int .i64 (iQ wide high low by'), .int .i64 (iM wide high low by'), .bool (iB wide high low by')]) ∧ Below w.heap.size w w' := by
  unfold iQ iM
  cases hb : iB wide high low by'
  · rw [if_neg (by decide), if_neg (by decide)]
    simp only [iB, Bool.and_eq_false_iff, Bool.not_eq_false'] at hb
    rcases hb with (hd | hh) | hl
    · exact idiv_zero wide high low by' w h2 (by simpa using hd)
    · cases hd : (sn wide by' == 0)
      · exact idiv_high wide high low by' w h2 hd (by rw [bne, hh]; rfl)
      · exact idiv_zero wide high low by' w h2 (by simpa using hd)
    · rw [Bool.and_eq_true] at hl
      cases hd : (sn wide by' == 0)
      · cases hh : (tr wide high != tr wide (sgi (sn wide low)))
        · exact idiv_least wide high low by' w h2 hd hh hl.1 hl.2
        · exact idiv_high wide high low by' w h2 hd hh
      · exact idiv_zero wide high low by' w h2 (by simpa using hd)
  · rw [if_pos rfl, if_pos rfl]
    simp only [iB, Bool.and_eq_true, Bool.not_eq_true'] at hb
    obtain ⟨⟨hd, hh⟩, hl⟩ := hb
    have hh' : (tr wide high != tr wide (sgi (sn wide low))) = false := by rw [bne, hh]; rfl
    cases hl' : (sn wide low == ls wide)
    · exact idiv_yesA wide high low by' w h2 hd (by simpa using hd) hh' hl'
    · rw [hl', Bool.true_and] at hl
      exact idiv_yesB wide high low by' w h2 hd (by simpa using hd) hh' hl' hl
end Go.Proofs.Ytielpebokbolbaa.Fg
namespace Go.Proofs.Ytielpebokbolbaa
open Go.RowKit
open Xc (Xi)
set_option linter.unusedSimpArgs false
set_option linter.unusedVariables false
structure Lk where
  at_ : Int
  ad : Int
  nm : Int
  dn : Int
def Mc.rg (m : Mc) (k : Int) : Int := m.r.getD k.toNat 0
def Mc.sr (m : Mc) (k : Int) (v : Int) : Mc := { m with r := m.r.set k.toNat v }
def Mc.sf (m : Mc) (z s c o : Bool) : Mc := { m with z := z, s := s, c := c, o := o }
def Mc.sa (m : Mc) (v : Int) : Mc := { m with at_ := v }
def Mc.ss (m : Mc) (v : Int) : Mc := { m with st := v }
def Mc.sg (m : Mc) (g : List Rg) : Mc := { m with g := g }
def Mc.hd (m : Mc) (c : Int) : Bool := Fg.hV c m.z m.s m.c m.o
/-- The flags that an operation of two values leaves. -/
def Mc.fl (m : Mc) (k : Int) (wide : Bool) (a b : Int) : Mc := m.sf (Fg.aZ k wide (Fg.tr wide a) (Fg.tr wide b)) (Fg.aS k wide (Fg.tr wide a) (Fg.tr wide b)) (Fg.aC k wide (Fg.tr wide a) (Fg.tr wide b)) (Fg.aO k wide (Fg.tr wide a) (Fg.tr wide b))
def sumM (m : Mc) (x : Xi) (v : Int) : Mc := if x.c = 7 then m.fl x.c x.wide (m.rg x.b) v else (m.fl x.c x.wide (m.rg x.b) v).sr x.b (Fg.aV x.c x.wide (Fg.tr x.wide (m.rg x.b)) (Fg.tr x.wide v))
/-- A value without its low byte. -/
def hi8 (v : Int) : Int := v - v % 256
/-- What has to do with registers and flags alone. -/
def rck (m : Mc) (x : Xi) : Mc :=
  if x.op = 1 then m.sr x.b (Fg.tr x.wide (m.rg x.r))
  else if x.op = 2 then m.sr x.r x.n
  else if x.op = 16 then m.sr x.r (wrap32 (m.rg x.b))
  else if x.op = 3 then sumM m x (m.rg x.r)
  else if x.op = 4 then sumM m x x.n
  else if x.op = 5 then m.fl 4 x.wide (m.rg x.b) (m.rg x.r)
  else if x.op = 6 then (m.sr x.r (Fg.tr x.wide (wrap64 (m.rg x.r * m.rg x.b)))).sf false false false false
  else if x.op = 7 then (m.sr x.b (Fg.sR x.c x.wide (Fg.tr x.wide (m.rg x.b)) (Fg.far x.wide (m.rg 1)))).sf false false false false
  else if x.op = 10 then m.sr 2 (Fg.sR 7 x.wide (Fg.tr x.wide (m.rg 0)) (Fg.far x.wide 63))
  else if x.op = 13 then m.sr 0 (if m.hd x.c then hi8 (m.rg 0) + 1 else hi8 (m.rg 0))
  else if x.op = 14 then m.sr 0 (m.rg 0 % 256)
  else if x.op = 15 then m.sr x.r (Fg.tr x.wide (m.rg (if m.hd x.c then x.b else x.r)))
  else m
/-- Where an instruction reads or writes. -/
def adr (m : Mc) (x : Xi) : Int :=
  if x.op = 19 then wrap64 (m.rg 4 - 8)
  else if x.op = 20 then m.rg 4
  else if x.i = 0 then wrap64 (m.rg x.b + x.n) else wrap64 (wrap64 (m.rg x.b + x.n) + m.rg (x.i - 1))
def szX (x : Xi) : Int := if x.wide then 8 else 4
/-- What it does there; none, if it may not. -/
def acc (m : Mc) (x : Xi) (a : Int) : Option Mc :=
  if x.op = 12 then (ptM m.g a (szX x) (m.rg x.r)).map fun g => m.sg g
  else if x.op = 19 then (ptM m.g a 8 m.at_).map fun g => ((m.sg g).sr 4 a).sa (wrap64 (m.at_ + x.n))
  else if x.op = 20 then (rdM m.g a 8).map fun v => (m.sa v).sr 4 (wrap64 (a + 8))
  else (rdM m.g a (szX x)).map fun v => m.sr x.r v
def dvd (m : Mc) (x : Xi) : Option Mc :=
  if x.op = 9 then (if Fg.iB x.wide (m.rg 2) (m.rg 0) (m.rg x.b) then some (((m.sr 0 (Fg.iQ x.wide (m.rg 2) (m.rg 0) (m.rg x.b))).sr 2 (Fg.iM x.wide (m.rg 2) (m.rg 0) (m.rg x.b))).sf false false false false) else none)
  else (if Fg.dB x.wide (m.rg 2) (m.rg x.b) then some (((m.sr 0 (Fg.dQ x.wide (m.rg 2) (m.rg 0) (m.rg x.b))).sr 2 (Fg.dM x.wide (m.rg 2) (m.rg 0) (m.rg x.b))).sf false false false false) else none)
/-- The instruction at which a machine stands. -/
def fet (m : Mc) : Option Xi := match fnd m.g true m.at_ 1 with
  | some i => match m.g[i]? with
    | some r => Xc.dcX (r.by_.drop (m.at_ - r.at_).toNat)
    | none => none
  | none => none
/-- What it does, At being behind it already. -/
def doX (m : Mc) (x : Xi) (a0 : Int) : Mc × Lk :=
  if x.op = 11 ∨ x.op = 12 ∨ x.op = 19 ∨ x.op = 20 then (((acc m x (adr m x)).getD ((m.sa a0).ss 4)), ⟨a0, adr m x, 0, 0⟩)
  else if x.op = 8 ∨ x.op = 9 then (((dvd m x).getD ((m.sa a0).ss 5)), ⟨a0, -1, Fg.tr x.wide (m.rg 0), Fg.tr x.wide (m.rg x.b)⟩)
  else if x.op = 17 ∨ x.op = 18 then ((if x.op = 17 ∨ m.hd x.c = true then m.sa (wrap64 (m.at_ + x.n)) else m), ⟨a0, -1, 0, 0⟩)
  else if x.op = 21 then (m.ss 1, ⟨a0, -1, 0, 0⟩)
  else if x.op = 22 then (m.ss 2, ⟨a0, -1, 0, 0⟩)
  else if x.op = 23 then (m.ss 3, ⟨a0, -1, 0, 0⟩)
  else (rck m x, ⟨a0, -1, 0, 0⟩)
def stp (m : Mc) : Mc × Lk := match fet m with
  | some x => doX (m.sa (wrap64 (m.at_ + ((Xc.enc x).length : Int)))) x m.at_
  | none => (m.ss 4, ⟨m.at_, -1, 0, 0⟩)
/-- So many steps, as long as it goes. -/
def runM : Nat → Mc → Mc × List Lk
  | 0, m => (m, [])
  | n + 1, m => if m.st = 0 then ((runM n (stp m).1).1, (stp m).2 :: (runM n (stp m).1).2) else (m, [])
end Go.Proofs.Ytielpebokbolbaa
namespace Go.Proofs.Ytielpebokbolbaa
open Go.RowKit
open Xc (Xi)
set_option linter.unusedSimpArgs false
set_option linter.unusedVariables false
theorem i_wrap (x : Int) : I64 (wrap64 x) := by unfold I64 Xc.I64 wrap64; omega
theorem wrap_id {v : Int} (h : I64 v) : wrap64 v = v := by unfold I64 Xc.I64 at h; unfold wrap64; omega
theorem i_wrap32 (x : Int) : I64 (wrap32 x) := by unfold I64 Xc.I64 wrap32; omega
theorem i_tr {wide : Bool} {x : Int} (h : I64 x) : I64 (Fg.tr wide x) := Fg.tr_i64 wide x h
theorem i_M (wide : Bool) (x : Int) : I64 (Fg.M wide x) := Fg.M_i64 wide x
theorem i_if {c : Prop} [Decidable c] {a b : Int} (ha : I64 a) (hb : I64 b) : I64 (if c then a else b) := by split <;> assumption
theorem i_0 : I64 0 := by unfold I64 Xc.I64; omega
theorem i_aR (k : Int) (wide : Bool) (x y : Int) : I64 (Fg.aR k wide x y) := by
  unfold Fg.aR
  exact i_if (i_M _ _) (i_if (i_M _ _) (i_if (i_M _ _) (i_if (Fg.bits_i64 _ (by simp) _ _) (i_if (Fg.bits_i64 _ (by simp) _ _) (i_if (Fg.bits_i64 _ (by simp) _ _) i_0)))))
theorem i_aV (k : Int) (wide : Bool) {x : Int} (y : Int) (hx : I64 x) : I64 (Fg.aV k wide x y) := i_if hx (i_aR _ _ _ _)
theorem i_sR (k : Int) (wide : Bool) (x : Int) (n : Nat) : I64 (Fg.sR k wide x n) := by
  unfold Fg.sR
  exact i_if (i_M _ _) (i_if (i_M _ _) (i_if (i_M _ _) (i_if (i_M _ _) (i_if (i_M _ _) i_0))))
theorem i_dQ (wide : Bool) (a b c : Int) : I64 (Fg.dQ wide a b c) := i_if (i_wrap _) i_0
theorem i_dM (wide : Bool) (a b c : Int) : I64 (Fg.dM wide a b c) := i_if (i_wrap _) i_0
theorem i_iQ (wide : Bool) (a b c : Int) : I64 (Fg.iQ wide a b c) := i_if (i_M _ _) i_0
theorem tmod_i {a b : Int} (h : I64 a) : I64 (a.tmod b) := by
  unfold I64 Xc.I64 at *
  have h1 : (a.tmod b).natAbs ≤ a.natAbs := by rw [Int.natAbs_tmod]; exact Nat.mod_le _ _
  rcases Int.le_total 0 a with h0 | h0
  · have := Int.tmod_nonneg b h0
    omega
  · have h2 : 0 ≤ (-a).tmod b := Int.tmod_nonneg b (by omega)
    rw [Int.neg_tmod] at h2
    omega
theorem i_iM (wide : Bool) (a b c : Int) (hb : I64 b) : I64 (Fg.iM wide a b c) := i_if (i_tr (tmod_i (Fg.sn_i64 wide b hb))) i_0
theorem i_hi8 {v : Int} (h : I64 v) : I64 (hi8 v) ∧ I64 (hi8 v + 1) := by unfold I64 Xc.I64 hi8 at *; omega
theorem i_low8 (v : Int) : I64 (v % 256) := by unfold I64 Xc.I64; omega
theorem i_rg {m : Mc} (h : m.ok) (k : Int) : I64 (m.rg k) := Mc.regs64 h k.toNat
theorem ok_sr {m : Mc} (h : m.ok) (k : Int) {v : Int} (hv : I64 v) : (m.sr k v).ok := Mc.ok_r h k.toNat v hv
theorem ok_sf {m : Mc} (h : m.ok) (z s c o : Bool) : (m.sf z s c o).ok := h
theorem ok_sa {m : Mc} (h : m.ok) {v : Int} (hv : I64 v) : (m.sa v).ok := ⟨h.1, h.2.1, hv, h.2.2.2⟩
theorem ok_ss {m : Mc} (h : m.ok) (v : Int) : (m.ss v).ok := h
end Go.Proofs.Ytielpebokbolbaa
