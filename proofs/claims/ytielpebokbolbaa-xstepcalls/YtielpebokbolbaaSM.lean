/-
  Merged: S R0 Hl Bt Kp Sm.
-/
import Derived.Test.YtielpebokbolbaaP
import Derived.Test.YtielpebokbolbaaFAlu
import Derived.Test.YtielpebokbolbaaFHolds
import Derived.Test.YtielpebokbolbaaFShift
import Derived.Test.YtielpebokbolbaaFIdiv
import Derived.Test.YtielpebokbolbaaW
import Derived.Deep.RegionHeld3
import Derived.BigQuiet
import Derived.Test.YtielpebokbolbaaPt
/-
  What a step does with a machine, and what it lets be seen. No program.
-/
namespace Go.Proofs.Ytielpebokbolbaa
open Go.RowKit
open Xc (Xi)
set_option linter.unusedSimpArgs false
set_option linter.unusedVariables false
structure Lk where
  at_ : Int
  ad : Int
  nm : Int
  dn : Int
def Mc.rg (m : Mc) (k : Int) : Int := m.r.getD k.toNat 0
def Mc.sr (m : Mc) (k : Int) (v : Int) : Mc := { m with r := m.r.set k.toNat v }
def Mc.sf (m : Mc) (z s c o : Bool) : Mc := { m with z := z, s := s, c := c, o := o }
def Mc.sa (m : Mc) (v : Int) : Mc := { m with at_ := v }
def Mc.ss (m : Mc) (v : Int) : Mc := { m with st := v }
def Mc.sg (m : Mc) (g : List Rg) : Mc := { m with g := g }
def Mc.hd (m : Mc) (c : Int) : Bool := Fg.hV c m.z m.s m.c m.o
/-- The flags that an operation of two values leaves. -/
def Mc.fl (m : Mc) (k : Int) (wide : Bool) (a b : Int) : Mc := m.sf (Fg.aZ k wide (Fg.tr wide a) (Fg.tr wide b)) (Fg.aS k wide (Fg.tr wide a) (Fg.tr wide b)) (Fg.aC k wide (Fg.tr wide a) (Fg.tr wide b)) (Fg.aO k wide (Fg.tr wide a) (Fg.tr wide b))
def sumM (m : Mc) (x : Xi) (v : Int) : Mc := if x.c = 7 then m.fl x.c x.wide (m.rg x.b) v else (m.fl x.c x.wide (m.rg x.b) v).sr x.b (Fg.aV x.c x.wide (Fg.tr x.wide (m.rg x.b)) (Fg.tr x.wide v))
/-- A value without its low byte. -/
def hi8 (v : Int) : Int := v - v % 256
/-- What has to do with registers and flags alone. -/
def rck (m : Mc) (x : Xi) : Mc :=
  if x.op = 1 then m.sr x.b (Fg.tr x.wide (m.rg x.r))
  else if x.op = 2 then m.sr x.r x.n
  else if x.op = 16 then m.sr x.r (wrap32 (m.rg x.b))
  else if x.op = 3 then sumM m x (m.rg x.r)
  else if x.op = 4 then sumM m x x.n
  else if x.op = 5 then m.fl 4 x.wide (m.rg x.b) (m.rg x.r)
  else if x.op = 6 then (m.sr x.r (Fg.tr x.wide (wrap64 (m.rg x.r * m.rg x.b)))).sf false false false false
  else if x.op = 7 then (m.sr x.b (Fg.sR x.c x.wide (Fg.tr x.wide (m.rg x.b)) (Fg.far x.wide (m.rg 1)))).sf false false false false
  else if x.op = 10 then m.sr 2 (Fg.sR 7 x.wide (Fg.tr x.wide (m.rg 0)) (Fg.far x.wide 63))
  else if x.op = 13 then m.sr 0 (if m.hd x.c then hi8 (m.rg 0) + 1 else hi8 (m.rg 0))
  else if x.op = 14 then m.sr 0 (m.rg 0 % 256)
  else if x.op = 15 then m.sr x.r (Fg.tr x.wide (m.rg (if m.hd x.c then x.b else x.r)))
  else m
/-- Where an instruction reads or writes. -/
def adr (m : Mc) (x : Xi) : Int :=
  if x.op = 19 then wrap64 (m.rg 4 - 8)
  else if x.op = 20 then m.rg 4
  else if x.i = 0 then wrap64 (m.rg x.b + x.n) else wrap64 (wrap64 (m.rg x.b + x.n) + m.rg (x.i - 1))
def szX (x : Xi) : Int := if x.wide then 8 else 4
/-- What it does there; none, if it may not. -/
def acc (m : Mc) (x : Xi) (a : Int) : Option Mc :=
  if x.op = 12 then (ptM m.g a (szX x) (m.rg x.r)).map fun g => m.sg g
  else if x.op = 19 then (ptM m.g a 8 m.at_).map fun g => ((m.sg g).sr 4 a).sa (wrap64 (m.at_ + x.n))
  else if x.op = 20 then (rdM m.g a 8).map fun v => (m.sa v).sr 4 (wrap64 (a + 8))
  else (rdM m.g a (szX x)).map fun v => m.sr x.r v
def dvd (m : Mc) (x : Xi) : Option Mc :=
  if x.op = 9 then (if Fg.iB x.wide (m.rg 2) (m.rg 0) (m.rg x.b) then some (((m.sr 0 (Fg.iQ x.wide (m.rg 2) (m.rg 0) (m.rg x.b))).sr 2 (Fg.iM x.wide (m.rg 2) (m.rg 0) (m.rg x.b))).sf false false false false) else none)
  else (if Fg.dB x.wide (m.rg 2) (m.rg x.b) then some (((m.sr 0 (Fg.dQ x.wide (m.rg 2) (m.rg 0) (m.rg x.b))).sr 2 (Fg.dM x.wide (m.rg 2) (m.rg 0) (m.rg x.b))).sf false false false false) else none)
/-- The instruction at which a machine stands. -/
def fet (m : Mc) : Option Xi := match fnd m.g true m.at_ 1 with
  | some i => match m.g[i]? with
    | some r => Xc.dcX (r.by_.drop (m.at_ - r.at_).toNat)
    | none => none
  | none => none
/-- What it does, At being behind it already. -/
def doX (m : Mc) (x : Xi) (a0 : Int) : Mc × Lk :=
  if x.op = 11 ∨ x.op = 12 ∨ x.op = 19 ∨ x.op = 20 then (((acc m x (adr m x)).getD ((m.sa a0).ss 4)), ⟨a0, adr m x, 0, 0⟩)
  else if x.op = 8 ∨ x.op = 9 then (((dvd m x).getD ((m.sa a0).ss 5)), ⟨a0, -1, Fg.tr x.wide (m.rg 0), Fg.tr x.wide (m.rg x.b)⟩)
  else if x.op = 17 ∨ x.op = 18 then ((if x.op = 17 ∨ m.hd x.c = true then m.sa (wrap64 (m.at_ + x.n)) else m), ⟨a0, -1, 0, 0⟩)
  else if x.op = 21 then (m.ss 1, ⟨a0, -1, 0, 0⟩)
  else if x.op = 22 then (m.ss 2, ⟨a0, -1, 0, 0⟩)
  else if x.op = 23 then (m.ss 3, ⟨a0, -1, 0, 0⟩)
  else (rck m x, ⟨a0, -1, 0, 0⟩)
def stp (m : Mc) : Mc × Lk := match fet m with
  | some x => doX (m.sa (wrap64 (m.at_ + ((Xc.enc x).length : Int)))) x m.at_
  | none => (m.ss 4, ⟨m.at_, -1, 0, 0⟩)
/-- So many steps, as long as it goes. -/
def runM : Nat → Mc → Mc × List Lk
  | 0, m => (m, [])
  | n + 1, m => if m.st = 0 then ((runM n (stp m).1).1, (stp m).2 :: (runM n (stp m).1).2) else (m, [])
end Go.Proofs.Ytielpebokbolbaa
/-
  What registers hold stays within 64 bits; a machine that may be stays one. No program.
-/
namespace Go.Proofs.Ytielpebokbolbaa
open Go.RowKit
open Xc (Xi)
set_option linter.unusedSimpArgs false
set_option linter.unusedVariables false
theorem i_wrap (x : Int) : I64 (wrap64 x) := by unfold I64 Xc.I64 wrap64; omega
theorem wrap_id {v : Int} (h : I64 v) : wrap64 v = v := by unfold I64 Xc.I64 at h; unfold wrap64; omega
theorem i_wrap32 (x : Int) : I64 (wrap32 x) := by unfold I64 Xc.I64 wrap32; omega
theorem i_tr {wide : Bool} {x : Int} (h : I64 x) : I64 (Fg.tr wide x) := Fg.tr_i64 wide x h
theorem i_M (wide : Bool) (x : Int) : I64 (Fg.M wide x) := Fg.M_i64 wide x
theorem i_if {c : Prop} [Decidable c] {a b : Int} (ha : I64 a) (hb : I64 b) : I64 (if c then a else b) := by split <;> assumption
theorem i_0 : I64 0 := by unfold I64 Xc.I64; omega
theorem i_aR (k : Int) (wide : Bool) (x y : Int) : I64 (Fg.aR k wide x y) := by
  unfold Fg.aR
  exact i_if (i_M _ _) (i_if (i_M _ _) (i_if (i_M _ _) (i_if (Fg.bits_i64 _ (by simp) _ _) (i_if (Fg.bits_i64 _ (by simp) _ _) (i_if (Fg.bits_i64 _ (by simp) _ _) i_0)))))
theorem i_aV (k : Int) (wide : Bool) {x : Int} (y : Int) (hx : I64 x) : I64 (Fg.aV k wide x y) := i_if hx (i_aR _ _ _ _)
theorem i_sR (k : Int) (wide : Bool) (x : Int) (n : Nat) : I64 (Fg.sR k wide x n) := by
  unfold Fg.sR
  exact i_if (i_M _ _) (i_if (i_M _ _) (i_if (i_M _ _) (i_if (i_M _ _) (i_if (i_M _ _) i_0))))
theorem i_dQ (wide : Bool) (a b c : Int) : I64 (Fg.dQ wide a b c) := i_if (i_wrap _) i_0
theorem i_dM (wide : Bool) (a b c : Int) : I64 (Fg.dM wide a b c) := i_if (i_wrap _) i_0
theorem i_iQ (wide : Bool) (a b c : Int) : I64 (Fg.iQ wide a b c) := i_if (i_M _ _) i_0
theorem tmod_i {a b : Int} (h : I64 a) : I64 (a.tmod b) := by
  unfold I64 Xc.I64 at *
  have h1 : (a.tmod b).natAbs ≤ a.natAbs := by rw [Int.natAbs_tmod]; exact Nat.mod_le _ _
  rcases Int.le_total 0 a with h0 | h0
  · have := Int.tmod_nonneg b h0
    omega
  · have h2 : 0 ≤ (-a).tmod b := Int.tmod_nonneg b (by omega)
    rw [Int.neg_tmod] at h2
    omega
theorem i_iM (wide : Bool) (a b c : Int) (hb : I64 b) : I64 (Fg.iM wide a b c) := i_if (i_tr (tmod_i (Fg.sn_i64 wide b hb))) i_0
theorem i_hi8 {v : Int} (h : I64 v) : I64 (hi8 v) ∧ I64 (hi8 v + 1) := by unfold I64 Xc.I64 hi8 at *; omega
theorem i_low8 (v : Int) : I64 (v % 256) := by unfold I64 Xc.I64; omega
theorem i_rg {m : Mc} (h : m.ok) (k : Int) : I64 (m.rg k) := Mc.regs64 h k.toNat
theorem ok_sr {m : Mc} (h : m.ok) (k : Int) {v : Int} (hv : I64 v) : (m.sr k v).ok := Mc.ok_r h k.toNat v hv
theorem ok_sf {m : Mc} (h : m.ok) (z s c o : Bool) : (m.sf z s c o).ok := h
theorem ok_sa {m : Mc} (h : m.ok) {v : Int} (hv : I64 v) : (m.sa v).ok := ⟨h.1, h.2.1, hv, h.2.2.2⟩
theorem ok_ss {m : Mc} (h : m.ok) (v : Int) : (m.ss v).ok := h
end Go.Proofs.Ytielpebokbolbaa
/-
  The worker's holds and address: a condition, a place; only boxes are made.
-/
namespace Go.Proofs.Ytielpebokbolbaa
open Go.RowKit
open Xc (hide bel_one bel_tr bel_al bel_set Xi)
set_option linter.unusedSimpArgs false
set_option linter.unusedVariables false
theorem bel_d {B : Nat} {a w : World} (h : Below B a w) : Below B a w.drew := ⟨h.os, h.tape, h.output, h.size, h.block⟩
theorem rg_nat (m : Mc) (k : Nat) : m.rg (k : Int) = m.r.getD k 0 := rfl
section
variable {base B : Nat} {ra oa : Option Addr} {rc : Nat} {ss : Nat → ByteArray} {os : Nat → Option (Nat × Nat)} {m : Mc} {w w' : World}
theorem WJ.rgc (h : WJ base B ra oa rc ss os m w) (k : Nat) (hk : k < 16) : w.cell? ⟨B, k, none⟩ = some (.int .i64 (m.rg (k : Int))) := h.reg k hk
set_option maxHeartbeats 1600000 in
theorem whold_any (hJ : WJ base B ra oa rc ss os m w) (op : Int) (wd : Bool) (r b i c n : Int) :
    Calls Try.prog 40 #[.pointer (some ⟨B, 0, none⟩), .agg #[.int .i64 op, .bool wd, .int .i64 r, .int .i64 b, .int .i64 i, .int .i64 c, .int .i64 n]] w fun e w' => e = .returned (.bool (m.hd c)) ∧ Below w.heap.size w w' := by
  have hB : B < w.heap.size := hJ.row.lt
  have c16 := hJ.cz
  have c17 := hJ.cs
  have c18 := hJ.cc
  have c19 := hJ.co
  have H := hide (fun U => Fg.holds_any c m.z m.s m.c m.o U)
  unfold Mc.hd
  clear hJ
  obtain ⟨rr, z, s, cf, o, at_, g, st⟩ := m
  simp only at *
  generalize Fg.hV c z s cf o = q at *
  go_enter Try.func40, Try.ntmps40
  go_wp2_with fail
  go_region_with (go_at_call 59; refine (H.out _).mono ?_; rintro e w1 ⟨rfl, hb1⟩)
  all_goals
    go_wp2_with fail
    go_ret
    exact ⟨rfl, bel_tr (bel_d (bel_one _ _)) hb1⟩
def AdIs (B : Nat) (m : Mc) (x : Xi) (w : World) : Prop := Calls Try.prog 36 #[.pointer (some ⟨B, 0, none⟩), .agg #[.int .i64 x.op, .bool x.wide, .int .i64 x.r, .int .i64 x.b, .int .i64 x.i, .int .i64 x.c, .int .i64 x.n]] w fun e w' => e = .returned (.int .i64 (adr m x)) ∧ Below w.heap.size w w'
theorem waddr_19 (hJ : WJ base B ra oa rc ss os m w) (wd : Bool) (r b i c n : Int) : AdIs B m ⟨19, wd, r, b, i, c, n⟩ w := by
  unfold AdIs
  have hB : B < w.heap.size := hJ.row.lt
  have c4 := hJ.rgc 4 (by decide)
  rw [show adr m ⟨19, wd, r, b, i, c, n⟩ = wrap64 (m.rg 4 - 8) from rfl]
  rw [show ((4 : Nat) : Int) = 4 from rfl] at c4
  clear hJ
  generalize m.rg 4 = v at *
  go_enter Try.func36, Try.ntmps36
  go_wp2_with fail
  go_ret
  exact ⟨rfl, bel_one _ _⟩
theorem waddr_20 (hJ : WJ base B ra oa rc ss os m w) (wd : Bool) (r b i c n : Int) : AdIs B m ⟨20, wd, r, b, i, c, n⟩ w := by
  unfold AdIs
  have hB : B < w.heap.size := hJ.row.lt
  have c4 := hJ.rgc 4 (by decide)
  rw [show adr m ⟨20, wd, r, b, i, c, n⟩ = m.rg 4 from rfl]
  rw [show ((4 : Nat) : Int) = 4 from rfl] at c4
  clear hJ
  generalize m.rg 4 = v at *
  go_enter Try.func36, Try.ntmps36
  go_wp2_with fail
  go_ret
  exact ⟨rfl, bel_one _ _⟩
theorem waddr_0 (hJ : WJ base B ra oa rc ss os m w) (op : Int) (h19 : ¬ op = 19) (h20 : ¬ op = 20) (wd : Bool) (r c n : Int) (b : Nat) (hb : b < 16) : AdIs B m ⟨op, wd, r, b, 0, c, n⟩ w := by
  unfold AdIs
  have hB : B < w.heap.size := hJ.row.lt
  have cb := hJ.rgc b hb
  rw [show adr m ⟨op, wd, r, b, 0, c, n⟩ = wrap64 (m.rg (b : Int) + n) by simp [adr, h19, h20]]
  clear hJ
  generalize m.rg (b : Int) = v at *
  go_enter Try.func36, Try.ntmps36
  go_wp2_with fail
  go_quiet (fail)
  go_wp2_with fail
  go_ret
  exact ⟨rfl, bel_dr (bel_one _ _) _⟩
theorem waddr_1 (hJ : WJ base B ra oa rc ss os m w) (op : Int) (h19 : ¬ op = 19) (h20 : ¬ op = 20) (wd : Bool) (r c n : Int) (b i : Nat) (hb : b < 16) (hi : i < 16) : AdIs B m ⟨op, wd, r, b, (i : Int) + 1, c, n⟩ w := by
  unfold AdIs
  have hB : B < w.heap.size := hJ.row.lt
  have cb := hJ.rgc b hb
  have ci := hJ.rgc i hi
  have h0 : ((i : Int) + 1 != 0) = true := by simp; omega
  have h00 : ¬ ((i : Int) + 1 = 0) := by omega
  rw [show adr m ⟨op, wd, r, b, (i : Int) + 1, c, n⟩ = wrap64 (wrap64 (m.rg (b : Int) + n) + m.rg (i : Int)) by simp [adr, h19, h20, h00]]
  have hw : wrap64 (i : Int) = i := by unfold wrap64; omega
  clear hJ
  generalize m.rg (b : Int) = v at *
  generalize m.rg (i : Int) = u at *
  go_enter Try.func36, Try.ntmps36
  go_wp2_with fail
  go_quiet (fail)
  go_wp2_with fail
  go_quiet (fail)
  go_wp2_with fail
  go_ret
  exact ⟨rfl, bel_dr (bel_dr (bel_one _ _) _) _⟩
end
end Go.Proofs.Ytielpebokbolbaa
/-
  What a function that writes into block B alone leaves alone.
-/
namespace Go.Proofs.Ytielpebokbolbaa
open Go.RowKit
set_option linter.unusedSimpArgs false
set_option linter.unusedVariables false
/-- Nothing but block B was written, of what there was. -/
structure But (B : Nat) (w w' : World) : Prop where
  os : w'.os = w.os
  tape : w'.tape = w.tape
  output : w'.output = w.output
  size : w.heap.size ≤ w'.heap.size
  block : ∀ b, b ≠ B → b < w.heap.size → w'.heap[b]? = w.heap[b]?
section
variable {B : Nat} {w U V : World}
theorem But.of (h : Below w.heap.size w U) : But B w U := ⟨h.os, h.tape, h.output, h.size, fun b _ hb => h.block b hb⟩
theorem But.trans (h : But B w U) (k : But B U V) : But B w V :=
  ⟨k.os.trans h.os, k.tape.trans h.tape, k.output.trans h.output, Nat.le_trans h.size k.size, fun b hn hb => (k.block b hn (Nat.lt_of_lt_of_le hb h.size)).trans (h.block b hn hb)⟩
theorem But.d (h : But B w U) : But B w U.drew := ⟨h.os, h.tape, h.output, h.size, h.block⟩
theorem But.set (h : But B w U) (k : Nat) (v : Value) : But B w (U.setCell ⟨B, k, none⟩ v) :=
  ⟨h.os, h.tape, h.output, by simpa [World.setCell] using h.size, fun b hn hb => (Below.heap_setCell U ⟨B, k, none⟩ v b hn).trans (h.block b hn hb)⟩
theorem but4 (h : But B w U) (z s c o : Bool) : But B w ((((U.setCell ⟨B, 16, none⟩ (.bool z)).setCell ⟨B, 17, none⟩ (.bool s)).setCell ⟨B, 18, none⟩ (.bool c)).setCell ⟨B, 19, none⟩ (.bool o)) :=
  (((h.set 16 _).set 17 _).set 18 _).set 19 _
theorem But.below {base : Nat} (h : But B w U) (hB : base ≤ B) (hs : base ≤ w.heap.size) : Below base w U := ⟨h.os, h.tape, h.output, h.size, fun b hb => h.block b (by omega) (by omega)⟩
end
end Go.Proofs.Ytielpebokbolbaa
/-
  A worker that lies apart from other blocks, and functions that leave those alone.
-/
namespace Go.Proofs.Ytielpebokbolbaa
open Go.RowKit
open Xc (hide bel_one bel_tr bel_al bel_set Xi xv)
set_option linter.unusedSimpArgs false
set_option linter.unusedVariables false
/-- The worker's blocks are none of K. -/
def Ap (K : Nat → Prop) (B : Nat) (ra oa : Option Addr) (n : Nat) (os : Nat → Option (Nat × Nat)) : Prop := ∀ b, K b → b ≠ B ∧ (0 < n → ∀ x, ra = some x → x.block ≠ b) ∧ (0 < n → ∀ x, oa = some x → x.block ≠ b) ∧ ∀ j q c, j < n → os j = some (q, c) → q ≠ b
def WK (K : Nat → Prop) (base B : Nat) (m : Mc) (w : World) : Prop := ∃ ra oa rc ss os, WJ base B ra oa rc ss os m w ∧ Ap K B ra oa m.g.length os ∧ ∀ b, K b → b < w.heap.size
/-- From w to w' the worker has become m', and K's blocks are as they were. -/
structure Goes (K : Nat → Prop) (base B : Nat) (m' : Mc) (w w' : World) : Prop where
  wk : WK K base B m' w'
  bel : Below base w w'
  kk : ∀ b, K b → w'.heap[b]? = w.heap[b]?
section
variable {K : Nat → Prop} {base B : Nat} {ra oa : Option Addr} {rc : Nat} {ss : Nat → ByteArray} {os : Nat → Option (Nat × Nat)} {m m' m2 : Mc} {w w' w2 : World}
theorem WK.wx (h : WK K base B m w) : WX base B m w := by
  obtain ⟨ra, oa, rc, ss, os, hJ, _, _⟩ := h
  exact ⟨ra, oa, rc, ss, os, hJ⟩
theorem WK.ok (h : WK K base B m w) : m.ok := by
  obtain ⟨ra, oa, rc, ss, os, hJ, _, _⟩ := h
  exact hJ.ok
theorem WK.lt (h : WK K base B m w) : B < w.heap.size := by
  obtain ⟨ra, oa, rc, ss, os, hJ, _, _⟩ := h
  exact hJ.row.lt
theorem WK.le (h : WK K base B m w) : base ≤ B := by
  obtain ⟨ra, oa, rc, ss, os, hJ, _, _⟩ := h
  exact hJ.le
theorem WK.kb (h : WK K base B m w) {b : Nat} (hb : K b) : b < w.heap.size := by
  obtain ⟨ra, oa, rc, ss, os, _, _, hk⟩ := h
  exact hk b hb
theorem WK.nB (h : WK K base B m w) {b : Nat} (hb : K b) : b ≠ B := by
  obtain ⟨ra, oa, rc, ss, os, _, ha, _⟩ := h
  exact (ha b hb).1
theorem WK.bs (h : WK K base B m w) : base ≤ w.heap.size := Nat.le_of_lt (Nat.lt_of_le_of_lt h.le h.lt)
theorem WK.bel (h : WK K base B m w) (k : Below w.heap.size w w') : Goes K base B m w w' := by
  have hs := h.bs
  obtain ⟨ra, oa, rc, ss, os, hJ, ha, hk⟩ := h
  exact ⟨⟨ra, oa, rc, ss, os, hJ.bel k, ha, fun b hb => Nat.lt_of_lt_of_le (hk b hb) k.size⟩, k.mono hs, fun b hb => k.block b (hk b hb)⟩
theorem Goes.trans (h : Goes K base B m' w w') (k : Goes K base B m2 w' w2) : Goes K base B m2 w w2 :=
  ⟨k.wk, h.bel.trans k.bel, fun b hb => (k.kk b hb).trans (h.kk b hb)⟩
theorem Goes.to (h : Goes K base B m' w w') (k : Below w'.heap.size w' w2) : Goes K base B m' w w2 := h.trans (h.wk.bel k)
theorem WK.mono {K' : Nat → Prop} (h : WK K base B m w) (hk : ∀ b, K' b → K b) : WK K' base B m w := by
  obtain ⟨ra, oa, rc, ss, os, hJ, ha, hb⟩ := h
  exact ⟨ra, oa, rc, ss, os, hJ, fun b h => ha b (hk b h), fun b h => hb b (hk b h)⟩
theorem Goes.mono {K' : Nat → Prop} (h : Goes K base B m' w w') (hk : ∀ b, K' b → K b) : Goes K' base B m' w w' := ⟨h.wk.mono hk, h.bel, fun b hb => h.kk b (hk b hb)⟩
/-- A new block is apart from it. -/
theorem WK.box (h : WK K base B m w) (k : Below w.heap.size w w') (hq : w.heap.size < w'.heap.size) : WK (fun b => K b ∨ b = w.heap.size) base B m w' := by
  obtain ⟨ra, oa, rc, ss, os, hJ, ha, hb⟩ := h
  refine ⟨ra, oa, rc, ss, os, hJ.bel k, ?_, ?_⟩
  · rintro b (hbk | rfl)
    · exact ha b hbk
    · refine ⟨Ne.symm (Nat.ne_of_lt hJ.row.lt), fun hn x hx => ?_, fun hn x hx => ?_, fun j q c hj hq' => ?_⟩
      · rcases hJ.mem with h0 | ⟨rb, ob, e1, e2, hN⟩
        · rw [h0] at hn; cases hn
        · rw [e1] at hx; injection hx with hx; subst hx; exact Nat.ne_of_lt hN.l1
      · rcases hJ.mem with h0 | ⟨rb, ob, e1, e2, hN⟩
        · rw [h0] at hn; cases hn
        · rw [e2] at hx; injection hx with hx; subst hx; exact Nat.ne_of_lt hN.l2
      · rcases hJ.mem with h0 | ⟨rb, ob, e1, e2, hN⟩
        · rw [h0] at hj; cases hj
        · exact Nat.ne_of_lt (hN.ow j hj q c hq').2.2.2.2.1.1
  · rintro b (hbk | rfl)
    · exact Nat.lt_of_lt_of_le (hb b hbk) k.size
    · exact hq
/-- What writes into its block alone. -/
theorem goes_but (hJ : WJ base B ra oa rc ss os m w) (ha : Ap K B ra oa m.g.length os) (hk : ∀ b, K b → b < w.heap.size) (h' : WJ base B ra oa rc ss os m' w') (hg : m'.g = m.g) (k : But B w w') : Goes K base B m' w w' :=
  ⟨⟨ra, oa, rc, ss, os, h', by rw [hg]; exact ha, fun b hb => Nat.lt_of_lt_of_le (hk b hb) k.size⟩, k.below hJ.le hJ.bs, fun b hb => k.block b (ha b hb).1 (hk b hb)⟩
theorem ptM_len {g : List Rg} {a n v : Int} : ((ptM g a n v).getD g).length = g.length := by
  unfold ptM
  cases fnN g a n with
  | none => rfl
  | some i =>
    simp only
    cases g[i]? with
    | none => rfl
    | some r => simp
theorem putK (h : WK K base B m w) (a n v : Int) (ha : I64 a) :
    Calls Try.prog 24 #[.pointer (some ⟨B, 0, none⟩), .int .i64 a, .int .i64 n, .int .i64 v] w fun e w' => e = .returned (.bool (ptM m.g a n v).isSome) ∧ Goes K base B { m with g := (ptM m.g a n v).getD m.g } w w' := by
  obtain ⟨ra, oa, rc, ss, os, hJ, hap, hk⟩ := h
  refine (wput_any hJ a n v ha).mono ?_
  rintro e w' ⟨rfl, ⟨ss', os', hJ', hgr⟩, hb, hkp⟩
  refine ⟨rfl, ⟨ra, oa, rc, ss', os', hJ', fun b hb' => ?_, fun b hb' => Nat.lt_of_lt_of_le (hk b hb') hb.size⟩, hb, fun b hb' => hkp b (hk b hb') (hap b hb').2.2.1 (hap b hb').2.2.2⟩
  have h1 := hap b hb'
  have h2 := hk b hb'
  rw [ptM_len]
  exact ⟨h1.1, h1.2.1, h1.2.2.1, fun j q c hj hq => by
    rcases hgr j q c hq with h | h
    · exact h1.2.2.2 j q c hj h
    · omega⟩
theorem readK (h : WK K base B m w) (a n : Int) (ha : I64 a) :
    Calls Try.prog 56 #[.pointer (some ⟨B, 0, none⟩), .int .i64 a, .int .i64 n] w fun e w' => e = .returned (.tuple #[.int .i64 ((rdM m.g a n).getD 0), .bool (rdM m.g a n).isSome]) ∧ Below w.heap.size w w' := wread_any h.wx a n ha
theorem WK.setr (h : WK K base B m w) (k : Nat) (hk : k < 16) (v : Int) (hv : I64 v) : Goes K base B (m.sr (k : Int) v) w (w.setCell ⟨B, k, none⟩ (.int .i64 v)) := by
  obtain ⟨ra, oa, rc, ss, os, hJ, hap, hkb⟩ := h
  exact goes_but hJ hap hkb (hJ.setr k hk v hv) rfl (But.set (But.of (Below.refl _ _)) k _)
theorem WK.seta (h : WK K base B m w) (v : Int) (hv : I64 v) : Goes K base B (m.sa v) w (w.setCell ⟨B, 20, none⟩ (.int .i64 v)) := by
  obtain ⟨ra, oa, rc, ss, os, hJ, hap, hkb⟩ := h
  exact goes_but hJ hap hkb (hJ.seta v hv) rfl (But.set (But.of (Below.refl _ _)) 20 _)
theorem WK.sett (h : WK K base B m w) (v : Int) : Goes K base B (m.ss v) w (w.setCell ⟨B, 22, none⟩ (.int .i64 v)) := by
  obtain ⟨ra, oa, rc, ss, os, hJ, hap, hkb⟩ := h
  exact goes_but hJ hap hkb (hJ.sett v) rfl (But.set (But.of (Below.refl _ _)) 22 _)
theorem WK.dr (h : WK K base B m w) : Goes K base B m w w.drew := h.bel (bel_d (Below.refl _ _))
theorem WK.rgc (h : WK K base B m w) (k : Nat) (hk : k < 16) : w.cell? ⟨B, k, none⟩ = some (.int .i64 (m.rg (k : Int))) := by
  obtain ⟨ra, oa, rc, ss, os, hJ, hap, hkb⟩ := h
  exact hJ.rgc k hk
theorem WK.fr (h : WK K base B m w) (k : Nat) : w.frozen? ⟨B, k, none⟩ = false := by
  obtain ⟨ra, oa, rc, ss, os, hJ, hap, hkb⟩ := h
  exact hJ.fr k
theorem WK.ca (h : WK K base B m w) : w.cell? ⟨B, 20, none⟩ = some (.int .i64 m.at_) := by
  obtain ⟨ra, oa, rc, ss, os, hJ, hap, hkb⟩ := h
  exact hJ.ca
theorem WK.ct (h : WK K base B m w) : w.cell? ⟨B, 22, none⟩ = some (.int .i64 m.st) := by
  obtain ⟨ra, oa, rc, ss, os, hJ, hap, hkb⟩ := h
  exact hJ.ct
/-- A box that is one of K's is as it was. -/
theorem Goes.bx {q : Nat} {x : Xi} (h : Goes K base B m' w w') (hq : K q) (hx : Xc.Bx q x w) : Xc.Bx q x w' := by
  unfold Xc.Bx at *; rw [h.kk q hq]; exact hx
end
end Go.Proofs.Ytielpebokbolbaa
/-
  The worker's sum: a register reckoned with a value.
-/
namespace Go.Proofs.Ytielpebokbolbaa
open Go.RowKit
open Xc (hide bel_one bel_tr bel_al bel_set Xi)
set_option linter.unusedSimpArgs false
set_option linter.unusedVariables false
/-- How a function of the worker ends that answers nothing. -/
def Does (base B : Nat) (ra oa : Option Addr) (rc : Nat) (ss : Nat → ByteArray) (os : Nat → Option (Nat × Nat)) (m : Mc) (w : World) (e : Ending) (w' : World) : Prop := e = .returned (.tuple #[]) ∧ WJ base B ra oa rc ss os m w' ∧ But B w w'
theorem gw {motive : World → Prop} {w5 : World} (Pr : World → Prop) (h : Pr w5) (k : ∀ x, Pr x → motive x) : motive w5 := k _ h
theorem fl_after {W w1 : World} (h : Below (W.drew.alloc (.cells #[.bool false, .bool false, .bool false, .bool false] 24)).heap.size (W.drew.alloc (.cells #[.bool false, .bool false, .bool false, .bool false] 24)) w1) :
    w1.cell? ⟨W.heap.size, 0, none⟩ = some (.bool false) ∧ w1.cell? ⟨W.heap.size, 1, none⟩ = some (.bool false) ∧ w1.cell? ⟨W.heap.size, 2, none⟩ = some (.bool false) ∧ w1.cell? ⟨W.heap.size, 3, none⟩ = some (.bool false) ∧ w1.frozen? ⟨W.heap.size, 0, none⟩ = false ∧ w1.frozen? ⟨W.heap.size, 1, none⟩ = false ∧ w1.frozen? ⟨W.heap.size, 2, none⟩ = false ∧ w1.frozen? ⟨W.heap.size, 3, none⟩ = false := by
  have e := h.block W.heap.size (by simp)
  have e2 : (W.drew.alloc (.cells #[.bool false, .bool false, .bool false, .bool false] 24)).heap[W.heap.size]? = some (.cells #[.bool false, .bool false, .bool false, .bool false] 24) := heap_alloc_new W.drew _
  rw [e2] at e
  simp [World.cell?, World.frozen?, e]
theorem fl_new {W w1 : World} {B : Nat} {z s c o : Bool} (K : Below W.heap.size W w1) (hB : B < W.heap.size) : ∃ p, p = w1.heap.size ∧ B < p ∧ Hid (Below W.heap.size W (w1.alloc (.cells #[.bool z, .bool s, .bool c, .bool o] 24))) ∧ (w1.alloc (.cells #[.bool z, .bool s, .bool c, .bool o] 24)).cell? ⟨p, 0, none⟩ = some (.bool z) ∧ (w1.alloc (.cells #[.bool z, .bool s, .bool c, .bool o] 24)).cell? ⟨p, 1, none⟩ = some (.bool s) ∧ (w1.alloc (.cells #[.bool z, .bool s, .bool c, .bool o] 24)).cell? ⟨p, 2, none⟩ = some (.bool c) ∧ (w1.alloc (.cells #[.bool z, .bool s, .bool c, .bool o] 24)).cell? ⟨p, 3, none⟩ = some (.bool o) := by
  have e : (w1.alloc (.cells #[.bool z, .bool s, .bool c, .bool o] 24)).heap[w1.heap.size]? = some (.cells #[.bool z, .bool s, .bool c, .bool o] 24) := heap_alloc_new w1 _
  refine ⟨_, rfl, Nat.lt_of_lt_of_le hB K.size, bel_al K _, ?_⟩
  simp only [World.cell?, e]
  exact ⟨rfl, rfl, rfl, rfl⟩
theorem fl_old {W w1 : World} {B : Nat} {z s c o z0 s0 c0 o0 : Bool} (K : Below W.heap.size W w1) (hB : B < W.heap.size) (y0 : w1.cell? ⟨W.heap.size, 0, none⟩ = some (.bool z0)) (y1 : w1.cell? ⟨W.heap.size, 1, none⟩ = some (.bool s0)) (y2 : w1.cell? ⟨W.heap.size, 2, none⟩ = some (.bool c0)) (y3 : w1.cell? ⟨W.heap.size, 3, none⟩ = some (.bool o0)) : ∃ p, p = W.heap.size ∧ B < p ∧ Hid (Below W.heap.size W ((((w1.setCell ⟨W.heap.size, 0, none⟩ (.bool z)).setCell ⟨W.heap.size, 1, none⟩ (.bool s)).setCell ⟨W.heap.size, 2, none⟩ (.bool c)).setCell ⟨W.heap.size, 3, none⟩ (.bool o))) ∧ ((((w1.setCell ⟨W.heap.size, 0, none⟩ (.bool z)).setCell ⟨W.heap.size, 1, none⟩ (.bool s)).setCell ⟨W.heap.size, 2, none⟩ (.bool c)).setCell ⟨W.heap.size, 3, none⟩ (.bool o)).cell? ⟨p, 0, none⟩ = some (.bool z) ∧ ((((w1.setCell ⟨W.heap.size, 0, none⟩ (.bool z)).setCell ⟨W.heap.size, 1, none⟩ (.bool s)).setCell ⟨W.heap.size, 2, none⟩ (.bool c)).setCell ⟨W.heap.size, 3, none⟩ (.bool o)).cell? ⟨p, 1, none⟩ = some (.bool s) ∧ ((((w1.setCell ⟨W.heap.size, 0, none⟩ (.bool z)).setCell ⟨W.heap.size, 1, none⟩ (.bool s)).setCell ⟨W.heap.size, 2, none⟩ (.bool c)).setCell ⟨W.heap.size, 3, none⟩ (.bool o)).cell? ⟨p, 2, none⟩ = some (.bool c) ∧ ((((w1.setCell ⟨W.heap.size, 0, none⟩ (.bool z)).setCell ⟨W.heap.size, 1, none⟩ (.bool s)).setCell ⟨W.heap.size, 2, none⟩ (.bool c)).setCell ⟨W.heap.size, 3, none⟩ (.bool o)).cell? ⟨p, 3, none⟩ = some (.bool o) := by
  refine ⟨_, rfl, hB, bel_set (bel_set (bel_set (bel_set K (Nat.le_refl _) _ _) (Nat.le_refl _) _ _) (Nat.le_refl _) _ _) (Nat.le_refl _) _ _, ?_⟩
  generalize W.heap.size = p at *
  have ne : ∀ a b : Nat, a ≠ b → (⟨p, a, none⟩ : Addr) ≠ ⟨p, b, none⟩ := fun a b hab e => hab (by injection e)
  refine ⟨?_, ?_, ?_, ?_⟩
  · rw [World.cell?_setCell_other _ _ _ _ (ne _ _ (by decide)), World.cell?_setCell_other _ _ _ _ (ne _ _ (by decide)), World.cell?_setCell_other _ _ _ _ (ne _ _ (by decide))]
    exact World.cell?_setCell_same _ _ _ y0
  · rw [World.cell?_setCell_other _ _ _ _ (ne _ _ (by decide)), World.cell?_setCell_other _ _ _ _ (ne _ _ (by decide))]
    refine World.cell?_setCell_same _ _ _ (u := .bool s0) ?_
    rw [World.cell?_setCell_other _ _ _ _ (ne _ _ (by decide))]; exact y1
  · rw [World.cell?_setCell_other _ _ _ _ (ne _ _ (by decide))]
    refine World.cell?_setCell_same _ _ _ (u := .bool c0) ?_
    rw [World.cell?_setCell_other _ _ _ _ (ne _ _ (by decide)), World.cell?_setCell_other _ _ _ _ (ne _ _ (by decide))]; exact y2
  · refine World.cell?_setCell_same _ _ _ (u := .bool o0) ?_
    rw [World.cell?_setCell_other _ _ _ _ (ne _ _ (by decide)), World.cell?_setCell_other _ _ _ _ (ne _ _ (by decide)), World.cell?_setCell_other _ _ _ _ (ne _ _ (by decide))]; exact y3
theorem bel4 {base B : Nat} {w U : World} (h : Below base w U) (hB : base ≤ B) (z s c o : Bool) : Below base w ((((U.setCell ⟨B, 16, none⟩ (.bool z)).setCell ⟨B, 17, none⟩ (.bool s)).setCell ⟨B, 18, none⟩ (.bool c)).setCell ⟨B, 19, none⟩ (.bool o)) :=
  (((h.setCell (p := ⟨B, 16, none⟩) hB _).setCell (p := ⟨B, 17, none⟩) hB _).setCell (p := ⟨B, 18, none⟩) hB _).setCell (p := ⟨B, 19, none⟩) hB _
theorem set4 {B q k : Nat} {U : World} {v : Option Value} (h : ¬ q = B) (hc : U.cell? ⟨q, k, none⟩ = v) (z s c o : Bool) : ((((U.setCell ⟨B, 16, none⟩ (.bool z)).setCell ⟨B, 17, none⟩ (.bool s)).setCell ⟨B, 18, none⟩ (.bool c)).setCell ⟨B, 19, none⟩ (.bool o)).cell? ⟨q, k, none⟩ = v := by
  have ne : ∀ a b : Nat, (⟨B, a, none⟩ : Addr) ≠ ⟨q, b, none⟩ := fun a b e => h (by injection e with e1; exact e1.symm)
  rw [World.cell?_setCell_other _ _ _ _ (ne _ _), World.cell?_setCell_other _ _ _ _ (ne _ _), World.cell?_setCell_other _ _ _ _ (ne _ _), World.cell?_setCell_other _ _ _ _ (ne _ _)]; exact hc
section
variable {base B : Nat} {ra oa : Option Addr} {rc : Nat} {ss : Nat → ByteArray} {os : Nat → Option (Nat × Nat)} {m : Mc} {w w' : World}
theorem WJ.bs' (h : WJ base B ra oa rc ss os m w) : base ≤ w.heap.size := Nat.le_of_lt (Nat.lt_of_le_of_lt h.le h.row.lt)
set_option maxHeartbeats 3200000 in
theorem wsum_any (hJ : WJ base B ra oa rc ss os m w) (op : Int) (wd : Bool) (r i c n v : Int) (b : Nat) (hb : b < 16) (hv : I64 v) :
    Calls Try.prog 60 #[.pointer (some ⟨B, 0, none⟩), .agg #[.int .i64 op, .bool wd, .int .i64 r, .int .i64 (b : Int), .int .i64 i, .int .i64 c, .int .i64 n], .int .i64 v] w (Does base B ra oa rc ss os (sumM m ⟨op, wd, r, b, i, c, n⟩ v) w) := by
  have hB : B < w.heap.size := hJ.row.lt
  have cb := hJ.rgc b hb
  have HV := hide (i_rg hJ.ok (b : Int))
  have A := hide (fun U => Fg.alu_any c wd (m.rg (b : Int)) v U HV.out hv)
  have IV := hide (i_aV c wd (Fg.tr wd v) (i_tr (wide := wd) HV.out))
  have HJ := hide hJ
  have E7 : c = 7 → sumM m ⟨op, wd, r, b, i, c, n⟩ v = m.fl c wd (m.rg (b : Int)) v := fun h => by simp [sumM, h]
  have E8 : c ≠ 7 → sumM m ⟨op, wd, r, b, i, c, n⟩ v = (m.fl c wd (m.rg (b : Int)) v).sr (b : Int) (Fg.aV c wd (Fg.tr wd (m.rg (b : Int))) (Fg.tr wd v)) := fun h => by simp [sumM, h]
  unfold Mc.fl at E7 E8
  generalize sumM m ⟨op, wd, r, b, i, c, n⟩ v = M at *
  clear hJ hv HV
  generalize hrv : m.rg (b : Int) = rv at *
  have HRV := hide hrv
  clear hrv
  generalize Fg.aV c wd (Fg.tr wd rv) (Fg.tr wd v) = out at *
  generalize Fg.aZ c wd (Fg.tr wd rv) (Fg.tr wd v) = z at *
  generalize Fg.aS c wd (Fg.tr wd rv) (Fg.tr wd v) = s at *
  generalize Fg.aC c wd (Fg.tr wd rv) (Fg.tr wd v) = cf at *
  generalize Fg.aO c wd (Fg.tr wd rv) (Fg.tr wd v) = o at *
  have HE7 := hide E7
  have HE8 := hide E8
  clear E7 E8
  go_enter Try.func60, Try.ntmps60
  go_wp2_with fail
  generalize hW : w.alloc _ = W
  have kW : Below w.heap.size w W := by rw [← hW]; exact bel_one _ _
  have hX : Xc.Bx w.heap.size ⟨op, wd, r, b, i, c, n⟩ W := by rw [← hW]; exact Xc.Bx.made _ _
  have JW := hide (HJ.out.bel kW)
  have HKW := hide (But.of (B := B) kW)
  have cb1 := JW.out.rgc b hb
  rw [HRV.out] at cb1
  obtain ⟨x0, x1, x2, x3, x4, x5, x6⟩ := hX.cells
  have hqW : w.heap.size < W.heap.size := hX.lt
  have hBW : B < W.heap.size := JW.out.row.lt
  have nq : W.heap.size ≠ w.heap.size := by omega
  have nB : W.heap.size ≠ B := by omega
  have hb0 : (0 : Int) ≤ (b : Int) := by omega
  have hb16 : (b : Int) < 16 := by omega
  have HX := hide hX
  clear hX kW hW HJ cb
  generalize w.heap.size = q at *
  go_region_held3 (fun X => X.cell? ⟨q, 1, none⟩ = some (.bool wd) ∧ X.cell? ⟨q, 3, none⟩ = some (.int .i64 (b : Int)) ∧ X.cell? ⟨q, 5, none⟩ = some (.int .i64 c) ∧ X.cell? ⟨B, b, none⟩ = some (.int .i64 rv)) (go_keep)
    (first | (go_at_call 61; refine (A.out _).mono ?_; rintro e w1 ⟨rfl, hb1⟩; unfold Fg.flv; have K1 : Below W.heap.size W w1 := by first | exact bel_tr (bel_d (Below.refl _ _)) hb1 | exact bel_tr (bel_al (bel_d (Below.refl _ _)) _) hb1
              have HK1 := hide K1; obtain ⟨_, u1, _, u3, _, u5, _⟩ := (HX.out.kept K1).cells; have ub := (JW.out.bel K1).rgc b hb; rw [HRV.out] at ub; have nq1 : w1.heap.size ≠ q := by have := K1.size; omega
              have nB1 : w1.heap.size ≠ B := by have := K1.size; omega
              first | (have y0 := fl_after hb1; obtain ⟨y0, y1, y2, y3, f0, f1, f2, f3⟩ := y0) | skip))
  all_goals
    first
    | refine gw (motive := fun x => Exit.then _ _ Exit.normal _ x) (fun U => ∃ p, p = w1.heap.size ∧ B < p ∧ Hid (Below W.heap.size W U) ∧ U.cell? ⟨p, 0, none⟩ = some (.bool z) ∧ U.cell? ⟨p, 1, none⟩ = some (.bool s) ∧ U.cell? ⟨p, 2, none⟩ = some (.bool cf) ∧ U.cell? ⟨p, 3, none⟩ = some (.bool o)) (fl_new K1 hBW) ?_
    | refine gw (motive := fun x => Exit.then _ _ Exit.normal _ x) (fun U => ∃ p, p = W.heap.size ∧ B < p ∧ Hid (Below W.heap.size W U) ∧ U.cell? ⟨p, 0, none⟩ = some (.bool z) ∧ U.cell? ⟨p, 1, none⟩ = some (.bool s) ∧ U.cell? ⟨p, 2, none⟩ = some (.bool cf) ∧ U.cell? ⟨p, 3, none⟩ = some (.bool o)) (fl_old K1 hBW y0 y1 y2 y3) ?_
    rintro U ⟨p, hp, hpB, KU, p0, p1, p2, p3⟩
    rw [← hp]
    have JU := hide (JW.out.bel KU.out)
    have BU := hide (HKW.out.trans (But.of KU.out))
    have XU := hide (HX.out.kept KU.out)
    obtain ⟨_, _, _, v3, _, v5, _⟩ := XU.out.cells
    have f16 := JU.out.fr 16
    have f17 := JU.out.fr 17
    have f18 := JU.out.fr 18
    have f19 := JU.out.fr 19
    have c16 := JU.out.cz
    have c17 := JU.out.cs
    have c18 := JU.out.cc
    have c19 := JU.out.co
    have hqB : ¬ q = B := by omega
    clear hp
    by_cases h7 : c = 7
    · have h7' : (c != 7) = false := by simp [h7]
      have HM := hide (HE7.out h7)
      clear h7 HE7 HE8 K1 HK1 hb1 u1 u3 u5 ub
      go_wp2_with fail
      go_end0
      rw [HM.out]
      exact ⟨rfl, JU.out.setf z s cf o, but4 BU.out z s cf o⟩
    · have h7' : (c != 7) = true := by simp [h7]
      have HM := hide (HE8.out h7)
      clear h7 HE7 HE8 K1 HK1 hb1 u1 u3 u5 ub
      go_wp2_with fail
      refine gw (motive := fun x => Code.wp _ _ _ _ x) (fun V => Hid (WJ base B ra oa rc ss os (m.sf z s cf o) V) ∧ Hid (But B w V) ∧ V.cell? ⟨q, 3, none⟩ = some (.int .i64 (b : Int))) ⟨JU.out.setf z s cf o, but4 BU.out z s cf o, set4 hqB v3 z s cf o⟩ ?_
      rintro V ⟨JV, BV, v3⟩
      have fb := JV.out.fr b
      have cb := JV.out.rgc b hb
      clear JU BU XU f16 f17 f18 f19 c16 c17 c18 c19 p0 p1 p2 p3 v5
      go_region
      go_wp2_with fail
      go_end0
      rw [HM.out]
      exact ⟨rfl, (JV.out.bel (bel_d (Below.refl _ _))).setr b hb out IV.out, BV.out.d.set b _⟩
end
end Go.Proofs.Ytielpebokbolbaa
