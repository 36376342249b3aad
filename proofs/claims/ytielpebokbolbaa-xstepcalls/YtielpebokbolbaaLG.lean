/-
  Merged: Pp Mo CAllW CAllP Mw Kq My Fr.
-/
import Derived.Test.YtielpebokbolbaaLD
import Derived.Test.YtielpebokbolbaaCD
import Derived.Deep.CutRange
import Derived.Test.YtielpebokbolbaaRows
import Derived.ProofKit
import Derived.OpenShut
import Derived.Deep.Slices
import Derived.SizedLaws
/-
  What was put is read as it was; beside it all stays. No program.
-/
namespace Go.Proofs.Ytielpebokbolbaa
open Go.RowKit
open Xc (le by8 bys jn)
set_option linter.unusedSimpArgs false
set_option linter.unusedVariables false
theorem wn_ptR {r : Rg} {a n v : Int} (hw : wn r a n = true) (hn : n = 4 ∨ n = 8) (a' n' : Int) : wn (ptR r a n v) a' n' = wn r a' n' := by
  have := ptR_len (v := v) hw hn
  unfold wn; rw [this]; rfl
theorem fnd_set {g : List Rg} {a n v : Int} {i : Nat} (hi : i < g.length) (hw : wn g[i] a n = true) (hn : n = 4 ∨ n = 8) (cd : Bool) (a' n' : Int) : fnd (g.set i (ptR g[i] a n v)) cd a' n' = fnd g cd a' n' := by
  have hp : ∀ j (h : j < g.length), ((g.set i (ptR g[i] a n v))[j]'(by simpa using h)).code = g[j].code ∧ wn ((g.set i (ptR g[i] a n v))[j]'(by simpa using h)) a' n' = wn g[j] a' n' := fun j h => by
    rw [List.getElem_set]
    split
    · rename_i e; subst e; exact ⟨rfl, wn_ptR hw hn _ _⟩
    · exact ⟨rfl, rfl⟩
  unfold fnd
  cases h : List.findIdx? (fun r => r.code == cd && wn r a' n') g with
  | none =>
    rw [List.findIdx?_eq_none_iff] at h ⊢
    intro x hx
    obtain ⟨j, hj, rfl⟩ := List.mem_iff_getElem.1 hx
    have hj' : j < g.length := by simpa using hj
    rw [(hp j hj').1, (hp j hj').2]
    exact h _ (List.getElem_mem _)
  | some k =>
    rw [List.findIdx?_eq_some_iff_getElem] at h ⊢
    obtain ⟨hk, h1, h2⟩ := h
    refine ⟨by simpa using hk, ?_, fun j hj => ?_⟩
    · rw [(hp k hk).1, (hp k hk).2]; exact h1
    · have hj' : j < g.length := by omega
      rw [(hp j hj').1, (hp j hj').2]; exact h2 j hj
theorem fnN_set {g : List Rg} {a n v : Int} {i : Nat} (hi : i < g.length) (hw : wn g[i] a n = true) (hn : n = 4 ∨ n = 8) (a' n' : Int) : fnN (g.set i (ptR g[i] a n v)) a' n' = fnN g a' n' := by
  unfold fnN; rw [fnd_set hi hw hn]
theorem le_inj : ∀ (a b : List UInt8), a.length = b.length → le a = le b → a = b
  | [], [], _, _ => rfl
  | x :: a, y :: b, hl, h => by
    have hx := x.toNat_lt
    have hy := y.toNat_lt
    simp only [le] at h
    have h1 : x.toNat = y.toNat := by omega
    have h2 : le a = le b := by omega
    rw [UInt8.toNat_inj.1 h1, le_inj a b (by simpa using hl) h2]
  | [], y :: b, hl, _ => by simp at hl
  | x :: a, [], hl, _ => by simp at hl
theorem bys_jn {l : List UInt8} {n : Nat} (h : l.length = n) (hn : n = 4 ∨ n = 8) : bys n (jn l) = l := by
  refine le_inj _ _ (by rw [Xc.bys_len, h]) ?_
  have h1 := Xc.le_bys n (jn l)
  have h2 := Xc.le_lt l
  rw [h] at h2
  have h3 : jn l = wrap64 (le l : Nat) := rfl
  generalize le (bys n (jn l)) = D at h1 ⊢
  rw [h3] at h1
  unfold wrap64 at h1
  rcases hn with rfl | rfl
  · simp only [Nat.reducePow, Int.reducePow] at h1 h2
    omega
  · simp only [Nat.reducePow, Int.reducePow] at h1 h2
    omega
theorem jn_bys4 (v : Int) : jn (bys 4 v) = v % 4294967296 := by
  have h1 := Xc.le_bys 4 v
  simp only [Int.reducePow] at h1
  unfold jn wrap64
  omega
theorem jn_bys8 {v : Int} (h : I64 v) : jn (bys 8 v) = v := by
  have h1 := Xc.le_bys 8 v
  simp only [Int.reducePow] at h1
  unfold I64 Xc.I64 at h
  unfold jn wrap64
  omega
theorem spl_mid (l x : List UInt8) (p : Nat) (h : p + x.length ≤ l.length) : ((spl l p x).drop p).take x.length = x := by
  unfold spl
  rw [List.append_assoc, List.drop_append_of_le_length (by simp; omega), List.drop_eq_nil_of_le (by simp; omega), List.nil_append, List.take_append_of_le_length (Nat.le_refl _), List.take_length]
theorem spl_spl (l x y : List UInt8) (p : Nat) (h : p + x.length ≤ l.length) (hy : y.length = x.length) : spl (spl l p x) p y = spl l p y := by
  unfold spl
  have e1 : (l.take p ++ x ++ l.drop (p + x.length)).take p = l.take p := by
    rw [List.append_assoc, List.take_append_of_le_length (by simp; omega), List.take_take, Nat.min_self]
  have e2 : (l.take p ++ x ++ l.drop (p + x.length)).drop (p + y.length) = l.drop (p + y.length) := by
    rw [hy, List.drop_append, List.drop_eq_nil_of_le (by simp; omega), List.nil_append]
    simp only [List.length_append, List.length_take]
    rw [show p + x.length - (min p l.length + x.length) = 0 by omega, List.drop_zero]
  rw [e1, e2]
theorem spl_own (l : List UInt8) (p n : Nat) (h : p + n ≤ l.length) : spl l p ((l.drop p).take n) = l := by
  unfold spl
  have e : ((l.drop p).take n).length = n := by simp; omega
  rw [e, List.append_assoc]
  have : (l.drop p).take n ++ l.drop (p + n) = l.drop p := by
    rw [show l.drop (p + n) = (l.drop p).drop n by rw [List.drop_drop]]
    exact List.take_append_drop n (l.drop p)
  rw [this]; exact List.take_append_drop p l
/-- What stands beside. -/
theorem spl_ahead (l x : List UInt8) (p q k : Nat) (h : p + x.length ≤ l.length) (hq : q + k ≤ p) : ((spl l p x).drop q).take k = (l.drop q).take k := by
  unfold spl
  rw [List.append_assoc, List.drop_append_of_le_length (by simp; omega), List.take_append_of_le_length (by simp; omega), List.drop_take, List.take_take]
  congr 1; omega
theorem spl_behind (l x : List UInt8) (p q : Nat) (h : p + x.length ≤ l.length) (hq : p + x.length ≤ q) : (spl l p x).drop q = l.drop q := by
  unfold spl
  rw [List.drop_append, List.drop_eq_nil_of_le (by simp; omega), List.nil_append, List.drop_drop]
  simp only [List.length_append, List.length_take]
  congr 1; omega
section
variable {g : List Rg} {a n v : Int} {i : Nat}
theorem pt_len (hn : n = 4 ∨ n = 8) (v : Int) : (bys n.toNat v).length = n.toNat := Xc.bys_len _ _
theorem pt_fit {r : Rg} (hw : wn r a n = true) (hn : n = 4 ∨ n = 8) : (a - r.at_).toNat + n.toNat ≤ r.by_.length := by
  have := wn_iff.1 hw; omega
/-- What was put is read. -/
theorem put_read (hf : fnN g a n = some i) (hi : i < g.length) : rdM (g.set i (ptR g[i] a n v)) a n = some (jn (bys n.toNat v)) := by
  obtain ⟨hn, _, hc, hw⟩ := fnN_some hf
  have hi' : i < (g.set i (ptR g[i] a n v)).length := by simpa using hi
  have hf' : fnN (g.set i (ptR g[i] a n v)) a n = some i := (fnN_set hi hw hn a n).trans hf
  rw [rdM_some hf' hi']
  simp only [List.getElem_set_self]
  have := spl_mid g[i].by_ (bys n.toNat v) (a - g[i].at_).toNat (by rw [pt_len hn]; exact pt_fit hw hn)
  rw [pt_len hn] at this
  unfold rdV ptR
  simp only
  rw [this]
/-- And put back. -/
theorem put_back (hf : fnN g a n = some i) (hi : i < g.length) : ptM (g.set i (ptR g[i] a n v)) a n (rdV g[i] a n) = some g := by
  obtain ⟨hn, _, hc, hw⟩ := fnN_some hf
  have hi' : i < (g.set i (ptR g[i] a n v)).length := by simpa using hi
  have hf' : fnN (g.set i (ptR g[i] a n v)) a n = some i := (fnN_set hi hw hn a n).trans hf
  rw [ptM_some hf' hi']
  simp only [List.getElem_set_self, List.set_set]
  have fit := pt_fit hw hn
  have e : ptR (ptR g[i] a n v) a n (rdV g[i] a n) = g[i] := by
    have l1 : (((g[i].by_.drop (a - g[i].at_).toNat).take n.toNat)).length = n.toNat := by simp; omega
    have b := bys_jn l1 (by omega)
    unfold rdV
    unfold ptR
    simp only
    rw [b, spl_spl _ _ _ _ (by rw [pt_len hn]; exact fit) (by rw [pt_len hn]; exact l1), spl_own _ _ _ fit]
  rw [e]
  simp
theorem put_there (hf : fnN g a n = some i) (hi : i < g.length) (a' n' : Int) : (rdM (g.set i (ptR g[i] a n v)) a' n').isSome = (rdM g a' n').isSome := by
  obtain ⟨hn, _, hc, hw⟩ := fnN_some hf
  have e := fnN_set (v := v) hi hw hn a' n'
  cases h : fnN g a' n' with
  | none => rw [rdM_none h, rdM_none (e.trans h)]
  | some j =>
    obtain ⟨_, hj, _⟩ := fnN_some h
    rw [rdM_some h hj, rdM_some (e.trans h) (by simpa using hj), Option.isSome_some, Option.isSome_some]
/-- Of one region, what lies apart stays. -/
theorem put_apart (hf : fnN g a n = some i) (hi : i < g.length) (h1 : g.length ≤ 1) (b : Int) (hb : (a < b ∧ n ≤ b - a) ∨ (b < a ∧ 4 ≤ a - b)) : rdM (g.set i (ptR g[i] a n v)) b 4 = rdM g b 4 := by
  obtain ⟨hn, _, hc, hw⟩ := fnN_some hf
  have e := fnN_set (v := v) hi hw hn b 4
  cases h : fnN g b 4 with
  | none => rw [rdM_none h, rdM_none (e.trans h)]
  | some j =>
    obtain ⟨_, hj, _, hw2⟩ := fnN_some h
    have hij : j = i := by omega
    subst hij
    rw [rdM_some h hj, rdM_some (e.trans h) (by simpa using hj)]
    simp only [List.getElem_set_self]
    unfold rdV ptR
    simp only
    have f1 := wn_iff.1 hw
    have f2 := wn_iff.1 hw2
    have fit := pt_fit hw hn
    rcases hb with ⟨q1, q2⟩ | ⟨q1, q2⟩
    · rw [spl_behind _ _ _ _ (by rw [pt_len hn]; exact fit) (by rw [pt_len hn]; omega)]
    · rw [spl_ahead _ _ _ _ _ (by rw [pt_len hn]; exact fit) (by omega)]
end
theorem w32a : Fg.Wd true 4294967295 := by unfold Fg.Wd Fg.I64; simp
theorem r32 : Fg.R true 4294967295 = 4294967295 := by simp [Fg.R, Fg.md]
theorem n32 (a : Nat) : a &&& 4294967295 = a % 4294967296 := Nat.and_two_pow_sub_one_eq_mod a 32
theorem and32 (v : Int) (h : I64 v) : bits BinOp.and IntKind.i64 v 4294967295 = v % 4294967296 := by
  rw [Fg.bits_and true v 4294967295 h w32a, r32, n32]
  unfold Fg.R Fg.md
  generalize hx : v % (if true = true then 18446744073709551616 else 4294967296) = x
  simp only [if_true] at hx
  unfold wrap64
  omega
end Go.Proofs.Ytielpebokbolbaa
/-
  Plain: what the four steps of XstepMoves do.
-/
namespace Go.Proofs.Ytielpebokbolbaa
open Go.RowKit
open Xc (Xi enc dcX dc_is bys jn)
set_option linter.unusedSimpArgs false
set_option linter.unusedVariables false
set_option linter.unusedSectionVars false
def vx1 (a v : Int) : Xi := ⟨2, true, a, 0, 0, 0, v⟩
def vx2 (wd : Bool) (a b : Int) : Xi := ⟨1, wd, a, b, 0, 0, 0⟩
def vx3 (b : Int) : Xi := ⟨12, true, b, 4, 0, 0, 8⟩
def vx4 (wd : Bool) : Xi := ⟨11, wd, 5, 4, 0, 0, 8⟩
/-- The code. -/
def vco (a b v : Int) (wd : Bool) : List UInt8 := enc (vx1 a v) ++ (enc (vx2 wd a b) ++ (enc (vx3 b) ++ enc (vx4 wd)))
def z32 : List UInt8 := List.replicate 32 0
def vr0 : List Int := [0, 0, 0, 0, 4000, 0, 0, 0, 0, 0, 0, 0, 0, 0, 0, 0]
/-- The machine. -/
def vm (a b v : Int) (wd : Bool) : Mc := ⟨vr0, false, false, false, false, 500, [⟨500, vco a b v wd, true⟩, ⟨4000, z32, false⟩], 0⟩
section
variable {a b v : Int} {wd : Bool} (ha : 0 ≤ a ∧ a ≤ 3) (hb : 8 ≤ b ∧ b ≤ 15) (hv : I64 v)
include ha hb hv
theorem vrt1 : Xc.rt (vx1 a v) = true := by
  have h1 : a = 0 ∨ a = 1 ∨ a = 2 ∨ a = 3 := by omega
  rcases h1 with rfl | rfl | rfl | rfl <;> simp [Xc.rt, vx1, Xc.rwd, Xc.fW, Xc.rpl, Xc.fP, Xc.fRR, Xc.fB, Xc.rg, Xc.rkd, Xc.rnm, Xc.h32]
theorem vrt2 : Xc.rt (vx2 wd a b) = true := by
  have h1 : a = 0 ∨ a = 1 ∨ a = 2 ∨ a = 3 := by omega
  have h2 : b = 8 ∨ b = 9 ∨ b = 10 ∨ b = 11 ∨ b = 12 ∨ b = 13 ∨ b = 14 ∨ b = 15 := by omega
  rcases h1 with rfl | rfl | rfl | rfl <;> rcases h2 with rfl | rfl | rfl | rfl | rfl | rfl | rfl | rfl <;> cases wd <;> decide
theorem vrt3 : Xc.rt (vx3 b) = true := by
  have h2 : b = 8 ∨ b = 9 ∨ b = 10 ∨ b = 11 ∨ b = 12 ∨ b = 13 ∨ b = 14 ∨ b = 15 := by omega
  rcases h2 with rfl | rfl | rfl | rfl | rfl | rfl | rfl | rfl <;> decide
omit ha hb hv in
theorem vrt4 (wd : Bool) : Xc.rt (vx4 wd) = true := by cases wd <;> decide
end
/-- What stands at a place of the code. -/
theorem fet_on {m : Mc} {c : List UInt8} {g2 : List Rg} {x : Xi} (hg : m.g = ⟨500, c, true⟩ :: g2) {p s : List UInt8} (hc : c = p ++ (enc x ++ s)) (ha : m.at_ = 500 + (p.length : Int)) (hr : Xc.rt x = true) (hn : I64 x.n) : fet m = some x := by
  have h1 := (Xc.enc_len x).1
  have hl : c.length = p.length + ((enc x).length + s.length) := by rw [hc]; simp
  have hw : wn ⟨500, c, true⟩ m.at_ 1 = true := by
    rw [wn_iff]
    show 500 ≤ m.at_ ∧ (1 : Int) ≤ (c.length : Int) ∧ m.at_ - 500 ≤ (c.length : Int) - 1
    omega
  have hf : fnd m.g true m.at_ 1 = some 0 := by
    unfold fnd
    rw [hg, List.findIdx?_cons]
    simp [hw]
  unfold fet
  rw [hf]
  simp only [hg, List.getElem?_cons_zero]
  have e : (m.at_ - 500).toNat = p.length := by omega
  rw [e, hc, List.drop_left]
  exact dc_is hr hn (List.prefix_append _ _)
theorem stp_at {m : Mc} {x : Xi} (h : fet m = some x) (hb : -1000000 ≤ m.at_ ∧ m.at_ ≤ 1000000) : stp m = doX (m.sa (m.at_ + ((enc x).length : Int))) x m.at_ := by
  unfold stp
  rw [h]
  have h2 := (Xc.enc_len x).2
  have : wrap64 (m.at_ + ((enc x).length : Int)) = m.at_ + ((enc x).length : Int) := by unfold wrap64; omega
  simp only [this]
/-- The registers at the end. -/
def vr3 (a b v u : Int) : List Int := ((vr0.set a.toNat v).set b.toNat u).set 5 u
def vz (u : Int) : List UInt8 := spl z32 8 (bys 8 u)
def vend (a b v u : Int) (wd : Bool) : Mc := ⟨vr3 a b v u, false, false, false, false, 500 + ((vco a b v wd).length : Int), [⟨500, vco a b v wd, true⟩, ⟨4000, vz u, false⟩], 0⟩
theorem r4_is {a b v u : Int} (ha : 0 ≤ a ∧ a ≤ 3) (hb : 8 ≤ b ∧ b ≤ 15) : ((vr0.set a.toNat v).set b.toNat u).getD 4 0 = 4000 ∧ (vr0.set a.toNat v).getD a.toNat 0 = v ∧ ((vr0.set a.toNat v).set b.toNat u).getD b.toNat 0 = u ∧ (vr3 a b v u).getD a.toNat 0 = v ∧ (vr3 a b v u).getD b.toNat 0 = u ∧ (vr3 a b v u).getD 5 0 = u := by
  have h1 : a = 0 ∨ a = 1 ∨ a = 2 ∨ a = 3 := by omega
  have h2 : b = 8 ∨ b = 9 ∨ b = 10 ∨ b = 11 ∨ b = 12 ∨ b = 13 ∨ b = 14 ∨ b = 15 := by omega
  rcases h1 with rfl | rfl | rfl | rfl <;> rcases h2 with rfl | rfl | rfl | rfl | rfl | rfl | rfl | rfl <;> exact ⟨rfl, rfl, rfl, rfl, rfl, rfl⟩
theorem tr_ok {wd : Bool} {v : Int} (hv : I64 v) : I64 (Fg.tr wd v) ∧ (wd = false → 0 ≤ Fg.tr wd v ∧ Fg.tr wd v < 4294967296) := by
  cases wd
  · unfold Fg.tr I64 Xc.I64; simp; omega
  · exact ⟨hv, fun h => by cases h⟩
set_option maxRecDepth 10000 in
theorem v_run {a b v : Int} {wd : Bool} (ha : 0 ≤ a ∧ a ≤ 3) (hb : 8 ≤ b ∧ b ≤ 15) (hv : I64 v) : ∃ l1 l2 l3 l4 : Lk, runM 4 (vm a b v wd) = (vend a b v (Fg.tr wd v) wd, [l1, l2, l3, l4]) ∧ l3.ad = 4008 ∧ l4.ad = 4008 := by
  have hu := tr_ok (wd := wd) hv
  have hr := fun u => r4_is (v := v) (u := u) ha hb
  have n1 := (Xc.enc_len (vx1 a v)).2
  have n2 := (Xc.enc_len (vx2 wd a b)).2
  have n3 := (Xc.enc_len (vx3 b)).2
  have n4 := (Xc.enc_len (vx4 wd)).2
  obtain ⟨c, hc⟩ : ∃ c, c = vco a b v wd := ⟨_, rfl⟩
  have hcl : c.length = (enc (vx1 a v)).length + ((enc (vx2 wd a b)).length + ((enc (vx3 b)).length + (enc (vx4 wd)).length)) := by rw [hc]; simp [vco]
  -- the first
  have f1 : fet (vm a b v wd) = some (vx1 a v) := fet_on (c := c) (g2 := [⟨4000, z32, false⟩]) (p := []) (s := enc (vx2 wd a b) ++ (enc (vx3 b) ++ enc (vx4 wd))) (by rw [hc]; rfl) (by rw [hc]; rfl) (by show (500 : Int) = _; simp) (vrt1 ha hb hv) hv
  have s1 : stp (vm a b v wd) = (⟨vr0.set a.toNat v, false, false, false, false, 500 + ((enc (vx1 a v)).length : Int), [⟨500, c, true⟩, ⟨4000, z32, false⟩], 0⟩, ⟨500, -1, 0, 0⟩) := by
    rw [stp_at f1 (by show (-1000000 : Int) ≤ 500 ∧ (500 : Int) ≤ 1000000; omega), hc]; rfl
  obtain ⟨m1, hm1⟩ : ∃ m1 : Mc, m1 = ⟨vr0.set a.toNat v, false, false, false, false, 500 + ((enc (vx1 a v)).length : Int), [⟨500, c, true⟩, ⟨4000, z32, false⟩], 0⟩ := ⟨_, rfl⟩
  have f2 : fet m1 = some (vx2 wd a b) := fet_on (c := c) (g2 := [⟨4000, z32, false⟩]) (p := enc (vx1 a v)) (s := enc (vx3 b) ++ enc (vx4 wd)) (by rw [hm1]) (by rw [hc]; rfl) (by rw [hm1]) (vrt2 ha hb hv) Xc.zero_I64
  have a2 : m1.at_ = 500 + ((enc (vx1 a v)).length : Int) := by rw [hm1]
  have s2 : stp m1 = (⟨(vr0.set a.toNat v).set b.toNat (Fg.tr wd v), false, false, false, false, 500 + ((enc (vx1 a v)).length : Int) + ((enc (vx2 wd a b)).length : Int), [⟨500, c, true⟩, ⟨4000, z32, false⟩], 0⟩, ⟨500 + ((enc (vx1 a v)).length : Int), -1, 0, 0⟩) := by
    rw [stp_at f2 (by rw [a2]; omega), hm1]
    show (rck _ _, _) = _
    have e : (vr0.set a.toNat v).getD a.toNat 0 = v := (hr 0).2.1
    show ((⟨(vr0.set a.toNat v).set b.toNat (Fg.tr wd ((vr0.set a.toNat v).getD a.toNat 0)), _, _, _, _, _, _, _⟩ : Mc), _) = _
    rw [e]
    rfl
  obtain ⟨u, hu0⟩ : ∃ u, u = Fg.tr wd v := ⟨_, rfl⟩
  rw [← hu0] at s2 hu ⊢
  obtain ⟨m2, hm2⟩ : ∃ m2 : Mc, m2 = ⟨(vr0.set a.toNat v).set b.toNat u, false, false, false, false, 500 + ((enc (vx1 a v)).length : Int) + ((enc (vx2 wd a b)).length : Int), [⟨500, c, true⟩, ⟨4000, z32, false⟩], 0⟩ := ⟨_, rfl⟩
  have a3 : m2.at_ = 500 + ((enc (vx1 a v)).length : Int) + ((enc (vx2 wd a b)).length : Int) := by rw [hm2]
  have f3 : fet m2 = some (vx3 b) := fet_on (c := c) (g2 := [⟨4000, z32, false⟩]) (p := enc (vx1 a v) ++ enc (vx2 wd a b)) (s := enc (vx4 wd)) (by rw [hm2]) (by rw [hc, vco, List.append_assoc]) (by rw [a3, List.length_append]; omega) (vrt3 ha hb hv) (by show I64 8; unfold I64 Xc.I64; omega)
  have w8 : fnN [⟨500, c, true⟩, ⟨4000, z32, false⟩] 4008 8 = some 1 := by
    have hcl2 : wn ⟨4000, z32, false⟩ 4008 8 = true := by decide
    unfold fnN fnd
    rw [if_pos (by omega)]
    simp [List.findIdx?_cons, hcl2]
  have pt : ptM [⟨500, c, true⟩, ⟨4000, z32, false⟩] 4008 8 u = some [⟨500, c, true⟩, ⟨4000, vz u, false⟩] := by
    unfold ptM
    rw [w8]
    rfl
  have s3 : stp m2 = (⟨(vr0.set a.toNat v).set b.toNat u, false, false, false, false, 500 + ((enc (vx1 a v)).length : Int) + ((enc (vx2 wd a b)).length : Int) + ((enc (vx3 b)).length : Int), [⟨500, c, true⟩, ⟨4000, vz u, false⟩], 0⟩, ⟨500 + ((enc (vx1 a v)).length : Int) + ((enc (vx2 wd a b)).length : Int), 4008, 0, 0⟩) := by
    rw [stp_at f3 (by rw [a3]; omega)]
    have e4 := (hr u).1
    have eb := (hr u).2.2.1
    have ad : adr (m2.sa (m2.at_ + ((enc (vx3 b)).length : Int))) (vx3 b) = 4008 := by
      show wrap64 (m2.r.getD 4 0 + 8) = 4008
      rw [hm2]
      show wrap64 (((vr0.set a.toNat v).set b.toNat u).getD 4 0 + 8) = 4008
      rw [e4]; unfold wrap64; omega
    show (((acc (m2.sa (m2.at_ + ((enc (vx3 b)).length : Int))) (vx3 b) (adr (m2.sa (m2.at_ + ((enc (vx3 b)).length : Int))) (vx3 b))).getD _), (⟨m2.at_, adr (m2.sa (m2.at_ + ((enc (vx3 b)).length : Int))) (vx3 b), 0, 0⟩ : Lk)) = _
    rw [ad]
    show ((((ptM m2.g 4008 8 (m2.r.getD b.toNat 0)).map fun g => (m2.sa (m2.at_ + ((enc (vx3 b)).length : Int))).sg g).getD _), (⟨m2.at_, 4008, 0, 0⟩ : Lk)) = _
    rw [hm2]
    show ((((ptM [⟨500, c, true⟩, ⟨4000, z32, false⟩] 4008 8 (((vr0.set a.toNat v).set b.toNat u).getD b.toNat 0)).map fun g => _).getD _), _) = _
    rw [eb, pt]
    rfl
  obtain ⟨m3, hm3⟩ : ∃ m3 : Mc, m3 = ⟨(vr0.set a.toNat v).set b.toNat u, false, false, false, false, 500 + ((enc (vx1 a v)).length : Int) + ((enc (vx2 wd a b)).length : Int) + ((enc (vx3 b)).length : Int), [⟨500, c, true⟩, ⟨4000, vz u, false⟩], 0⟩ := ⟨_, rfl⟩
  have a4 : m3.at_ = 500 + ((enc (vx1 a v)).length : Int) + ((enc (vx2 wd a b)).length : Int) + ((enc (vx3 b)).length : Int) := by rw [hm3]
  have f4 : fet m3 = some (vx4 wd) := fet_on (c := c) (g2 := [⟨4000, vz u, false⟩]) (p := enc (vx1 a v) ++ (enc (vx2 wd a b) ++ enc (vx3 b))) (s := []) (by rw [hm3]) (by rw [hc, vco]; simp) (by rw [a4]; simp; omega) (vrt4 wd) (by show I64 8; unfold I64 Xc.I64; omega)
  have rd : rdM [⟨500, c, true⟩, ⟨4000, vz u, false⟩] 4008 (szX (vx4 wd)) = some u := by
    have hl : (vz u).length = 32 := by unfold vz; rw [spl_len _ _ _ (by rw [Xc.bys_len]; decide)]; rfl
    have hw : ∀ n : Int, n = 4 ∨ n = 8 → wn ⟨4000, vz u, false⟩ 4008 n = true := fun n hn => by
      rw [wn_iff]
      show (4000 : Int) ≤ 4008 ∧ n ≤ ((vz u).length : Int) ∧ (4008 : Int) - 4000 ≤ ((vz u).length : Int) - n
      rw [hl]; omega
    have hf : ∀ n : Int, n = 4 ∨ n = 8 → fnN [⟨500, c, true⟩, ⟨4000, vz u, false⟩] 4008 n = some 1 := fun n hn => by
      unfold fnN fnd
      rw [if_pos hn]
      simp [List.findIdx?_cons, hw n hn]
    have hd : (vz u).drop 8 = bys 8 u ++ z32.drop 16 := by
      unfold vz spl
      rw [List.append_assoc, List.drop_left' (by rfl), Xc.bys_len]
    cases wd with
    | true =>
      have : rdM [⟨500, c, true⟩, ⟨4000, vz u, false⟩] 4008 8 = some (jn (((vz u).drop 8).take 8)) := by unfold rdM; rw [hf 8 (by omega)]; rfl
      show rdM _ 4008 8 = _
      rw [this, hd, List.take_left' (Xc.bys_len _ _), jn_bys8 hu.1]
    | false =>
      have : rdM [⟨500, c, true⟩, ⟨4000, vz u, false⟩] 4008 4 = some (jn (((vz u).drop 8).take 4)) := by unfold rdM; rw [hf 4 (by omega)]; rfl
      show rdM _ 4008 4 = _
      have h48 : bys 8 u = bys 4 u ++ bys 4 (u / 256 ^ 4) := by
        simp [bys, Int.ediv_ediv_of_nonneg]
      rw [this, hd, h48, List.append_assoc, List.take_left' (Xc.bys_len _ _), jn_bys4]
      have := hu.2 rfl
      rw [Int.emod_eq_of_lt (by omega) (by omega)]
  have s4 : stp m3 = (vend a b v u wd, ⟨500 + ((enc (vx1 a v)).length : Int) + ((enc (vx2 wd a b)).length : Int) + ((enc (vx3 b)).length : Int), 4008, 0, 0⟩) := by
    rw [stp_at f4 (by rw [a4]; omega)]
    have e4 := (hr u).1
    have ad : adr (m3.sa (m3.at_ + ((enc (vx4 wd)).length : Int))) (vx4 wd) = 4008 := by
      show wrap64 (m3.r.getD 4 0 + 8) = 4008
      rw [hm3]
      show wrap64 (((vr0.set a.toNat v).set b.toNat u).getD 4 0 + 8) = 4008
      rw [e4]; unfold wrap64; omega
    show (((acc (m3.sa (m3.at_ + ((enc (vx4 wd)).length : Int))) (vx4 wd) (adr (m3.sa (m3.at_ + ((enc (vx4 wd)).length : Int))) (vx4 wd))).getD _), (⟨m3.at_, adr (m3.sa (m3.at_ + ((enc (vx4 wd)).length : Int))) (vx4 wd), 0, 0⟩ : Lk)) = _
    rw [ad]
    show ((((rdM m3.g 4008 (szX (vx4 wd))).map fun q => (m3.sa (m3.at_ + ((enc (vx4 wd)).length : Int))).sr 5 q).getD _), (⟨m3.at_, 4008, 0, 0⟩ : Lk)) = _
    have hg : m3.g = [⟨500, c, true⟩, ⟨4000, vz u, false⟩] := by rw [hm3]
    rw [hg, rd, a4]
    have hat : 500 + ((enc (vx1 a v)).length : Int) + ((enc (vx2 wd a b)).length : Int) + ((enc (vx3 b)).length : Int) + ((enc (vx4 wd)).length : Int) = 500 + (c.length : Int) := by omega
    rw [hat, hm3, hc]
    rfl
  have st0 : (vm a b v wd).st = 0 := rfl
  have st1 : m1.st = 0 := by rw [hm1]
  have st2 : m2.st = 0 := by rw [hm2]
  have st3 : m3.st = 0 := by rw [hm3]
  rw [← hm1] at s1
  rw [← hm2] at s2
  rw [← hm3] at s3
  have key : runM 4 (vm a b v wd) = (vend a b v u wd, [⟨500, -1, 0, 0⟩, ⟨500 + ((enc (vx1 a v)).length : Int), -1, 0, 0⟩, ⟨500 + ((enc (vx1 a v)).length : Int) + ((enc (vx2 wd a b)).length : Int), 4008, 0, 0⟩, ⟨500 + ((enc (vx1 a v)).length : Int) + ((enc (vx2 wd a b)).length : Int) + ((enc (vx3 b)).length : Int), 4008, 0, 0⟩]) := by
    simp only [runM, st0, if_true, s1, st1, s2, st2, s3, st3, s4]
  exact ⟨_, _, _, _, key, rfl, rfl⟩
end Go.Proofs.Ytielpebokbolbaa
/-
  A list of instructions: the program's All, and the document's, write them one behind the other, or refuse.
-/
namespace Go.Proofs.Ytielpebokbolbaa.Xc
open Go.RowKit
set_option linter.unusedSimpArgs false
set_option linter.unusedVariables false

/-- Instructions in a row of memory. -/
def XL (B : Nat) (W : World) (b off : Nat) (l : List Xi) : Prop :=
  ∀ j (h : j < l.length), b < B ∧ l[j].ok ∧ W.cell? ⟨b, off + j * 7, none⟩ = some (.int .i64 l[j].op) ∧ W.cell? ⟨b, off + j * 7 + 1, none⟩ = some (.bool l[j].wide) ∧ W.cell? ⟨b, off + j * 7 + 2, none⟩ = some (.int .i64 l[j].r) ∧ W.cell? ⟨b, off + j * 7 + 3, none⟩ = some (.int .i64 l[j].b) ∧ W.cell? ⟨b, off + j * 7 + 4, none⟩ = some (.int .i64 l[j].i) ∧ W.cell? ⟨b, off + j * 7 + 5, none⟩ = some (.int .i64 l[j].c) ∧ W.cell? ⟨b, off + j * 7 + 6, none⟩ = some (.int .i64 l[j].n)
def encs (l : List Xi) : List UInt8 := l.flatMap enc
theorem encs_snoc (l : List Xi) (k : Nat) (h : k < l.length) : encs (l.take (k + 1)) = encs (l.take k) ++ enc l[k] := by
  show (l.take (k + 1)).flatMap enc = _
  rw [List.take_succ_eq_append_getElem h, List.flatMap_append]; simp [encs]
theorem encs_len (l : List Xi) : (encs l).length ≤ 13 * l.length := by
  induction l with
  | nil => simp [encs]
  | cons x l ih =>
    have := (enc_len x).2
    simp only [encs, List.flatMap_cons, List.length_append, List.length_cons] at *
    omega
theorem encs_pos (l : List Xi) (h : 0 < l.length) : 0 < (encs l).length := by
  cases l with
  | nil => simp at h
  | cons x l =>
    have := (enc_len x).1
    simp only [encs, List.flatMap_cons, List.length_append]
    omega
def aOk (l : List Xi) : Bool := l.all rt
def aS (l : List Xi) : List UInt8 := if aOk l then encs l else []
def aE (l : List Xi) : Int := if aOk l then 0 else 4
theorem aOk_no {l : List Xi} {k : Nat} (h : k < l.length) (hq : rt l[k] = false) : aOk l = false := by
  cases ha : aOk l
  · rfl
  · unfold aOk at ha
    rw [List.all_eq_true] at ha
    rw [ha _ (List.getElem_mem h)] at hq; cases hq
theorem aOk_yes {l : List Xi} (h : ∀ j (hj : j < l.length), rt l[j] = true) : aOk l = true := by
  unfold aOk
  rw [List.all_eq_true]
  intro x hx
  obtain ⟨j, hj, rfl⟩ := List.getElem_of_mem hx
  exact h j hj
theorem cv_nil (w : World) : (convert 50 9 (.slice none 0 0)).run Try.prog w = .ok (.string ⟨#[]⟩) w := by kernel_rfl
end Go.Proofs.Ytielpebokbolbaa.Xc
/-
  The program's All writes instructions one behind the other, or refuses; the walk of the statement XcodeAll.
-/
namespace Go.Proofs.Ytielpebokbolbaa.Xc
open Go.RowKit
set_option linter.unusedSimpArgs false
set_option linter.unusedVariables false

def AlIs (b off cap : Nat) (l : List Xi) (w : World) : Prop := Calls Try.prog 19 #[.slice (some ⟨b, off, none⟩) l.length cap] w fun e w' => e = .returned (.tuple #[.string (str (aS l)), .int .i64 (aE l)]) ∧ Below w.heap.size w w'
theorem write_is (B : Nat) (v : Value) (ls : List UInt8) (x : Xi) (w : World) (hB : B ≤ w.heap.size) (hr : BRow B v ls w) (hl : ls.length + 16 ≤ 140737488355328) (hx : rt x = true) (hn : I64 x.n) :
    Calls Try.prog 30 #[v, .agg #[.int .i64 x.op, .bool x.wide, .int .i64 x.r, .int .i64 x.b, .int .i64 x.i, .int .i64 x.c, .int .i64 x.n]] w fun e w' => ∃ v', e = .returned v' ∧ BRow B v' (ls ++ enc x) w' ∧ Below B w w' := write_any B v ls x w hB hr hl hx hn
set_option maxHeartbeats 4000000 in
theorem all_any (b off cap : Nat) (l : List Xi) (w : World) (hl : 56 * l.length ≤ 140737488351232) (hX : XL w.heap.size w b off l) : AlIs b off cap l w := by
  have HX := hide hX
  clear hX
  unfold AlIs
  go_enter Try.func19, Try.ntmps19
  go_wp2
  go_loopw [4, 9] (fun sv iv wr => ∃ k : Nat, k ≤ l.length ∧ iv = .int .i64 (k : Int) ∧ Hid (BRow w.heap.size sv (encs (l.take k)) wr ∧ (k = 0 → sv = .slice none 0 0)) ∧ Below w.heap.size w wr ∧ Hid (∀ j (hj : j < l.length), j < k → rt l[j] = true)) (fun _ iv _ => l.length - (intOf iv).toNat)
  case atStart => exact ⟨0, by omega, rfl, hide ⟨World.ownsRow_nil _ _ _ _, fun _ => rfl⟩, Below.refl _ _, hide (fun j hj h => absurd h (by omega))⟩
  case round =>
    obtain ⟨k, hk, rfl, hR, hb, hA⟩ := hrel
    by_cases hlt : k < l.length
    · obtain ⟨hbb, ho, c0, c1, c2, c3, c4, c5, c6⟩ := HX.out k hlt
      have d0 := (hb.cell (p := ⟨b, off + k * 7, none⟩) hbb).trans c0
      have d1 := (hb.cell (p := ⟨b, off + k * 7 + 1, none⟩) hbb).trans c1
      have d2 := (hb.cell (p := ⟨b, off + k * 7 + 2, none⟩) hbb).trans c2
      have d3 := (hb.cell (p := ⟨b, off + k * 7 + 3, none⟩) hbb).trans c3
      have d4 := (hb.cell (p := ⟨b, off + k * 7 + 4, none⟩) hbb).trans c4
      have d5 := (hb.cell (p := ⟨b, off + k * 7 + 5, none⟩) hbb).trans c5
      have d6 := (hb.cell (p := ⟨b, off + k * 7 + 6, none⟩) hbb).trans c6
      clear c0 c1 c2 c3 c4 c5 c6
      have hn : I64 l[k].n := ho.2.2.2.2.2
      have hi : I64 l[k].i := ho.2.2.2.1
      have HBX := hide (Bx.made wr l[k])
      have HB1 := hide (bel_al hb (.cells (xc l[k]) 49))
      cases hq : rt l[k]
      · have HN := hide (aOk_no hlt hq)
        have RI := hide (fun U => right_is l[k].op l[k].wide l[k].r l[k].b l[k].i l[k].c l[k].n U hi hq)
        have r1 : aS l = [] := by simp [aS, HN.out]
        have r2 : aE l = 4 := by simp [aE, HN.out]
        have HR1 := hide r1
        have HR2 := hide r2
        clear hq ho hn hi r1 r2
        go_wp2_with fail
        refine (RI.out _).mono ?_
        rintro e w1 ⟨rfl, b1⟩
        go_wp2_with fail
        go_ret2
        exact ⟨by rw [HR1.out, HR2.out]; rfl, bel_tr HB1.out b1⟩
      · have RI := hide (fun U => right_is l[k].op l[k].wide l[k].r l[k].b l[k].i l[k].c l[k].n U hi hq)
        have HS := hide (encs_snoc l k hlt)
        have hln : Hid ((encs (l.take k)).length + 16 ≤ 140737488355328) := by
          show _ ≤ _
          have h1 := encs_len (l.take k)
          have h3 : (l.take k).length ≤ l.length := by simp; omega
          omega
        have hA2 : Hid (∀ j (hj : j < l.length), j < k + 1 → rt l[j] = true) := fun j hj h => by
          rcases Nat.lt_or_ge j k with h' | h'
          · exact hA.out j hj h'
          · have : j = k := by omega
            subst this; exact hq
        have HQ := hide hq
        have HN := hide hn
        clear hq ho hn hi hA
        go_wp2_with fail
        refine (RI.out _).mono ?_
        rintro e w1 ⟨rfl, b1⟩
        have R1 := hide ((hR.out.1.alloc (.cells (xc l[k]) 49)).kept b1)
        have B1 := hide (bel_tr HB1.out b1)
        have X1 := HBX.out.kept b1
        clear b1 HB1 HBX hR d0 d1 d2 d3 d4 d5 d6
        obtain ⟨x0, x1, x2, x3, x4, x5, x6⟩ := X1.cells
        clear X1
        go_wp2_with fail
        refine (write_is w.heap.size _ _ l[k] _ B1.out.size R1.out hln.out HQ.out HN.out).mono ?_
        rintro e w2 ⟨v2, rfl, R2, b2⟩
        have hb2 := B1.out.trans b2
        clear b2 R1 B1 x0 x1 x2 x3 x4 x5 x6
        go_wp2_with fail
        go_roundw
        case rel => exact ⟨k + 1, by omega, by go_num, hide ⟨by rw [HS.out]; exact R2, fun h => absurd h (by omega)⟩, hb2, hA2⟩
        case measure => simp [intOf]; omega
    · have hkm : k = l.length := by omega
      subst hkm
      have ha : aOk l = true := aOk_yes fun j hj => hA.out j hj hj
      have r1 : aS l = encs l := by simp [aS, ha]
      have r2 : aE l = 0 := by simp [aE, ha]
      have HR1 := hide r1
      have HR2 := hide r2
      clear ha r1 r2
      rw [List.take_length] at hR
      by_cases h0 : l.length = 0
      · obtain rfl := hR.out.2 h0
        have he : Hid (encs l = []) := by show _ = _; rw [List.length_eq_zero_iff.1 h0]; rfl
        have hcv := cv_nil wr
        clear hR
        go_wp2_with fail
        go_ret2
        exact ⟨by rw [HR1.out, HR2.out, he.out]; rfl, hb⟩
      · have hcv := run_own hR.out.1 (encs_pos l (by omega))
        have hv := hR.out.1.2
        rcases hv with ⟨_, hz⟩ | ⟨g, cp, cur, hv, _⟩
        · have := encs_pos l (by omega); omega
        · subst hv
          clear hR
          go_wp2_with fail
          go_ret2
          exact ⟨by rw [HR1.out, HR2.out]; rfl, hb⟩
end Go.Proofs.Ytielpebokbolbaa.Xc
/-
  The walk of the statement XstepMoves.
-/
namespace Go.Proofs.Ytielpebokbolbaa
open Go.RowKit
open Xc (hide bel_one bel_tr bel_al bel_set Xi xv xc bys jn)
set_option linter.unusedSimpArgs false
set_option linter.unusedVariables false
def l4 (a b v : Int) (wd : Bool) : List Xi := [vx1 a v, vx2 wd a b, vx3 b, vx4 wd]
def c28 (a b v : Int) (wd : Bool) : Array Value := #[.int .i64 2, .bool true, .int .i64 a, .int .i64 0, .int .i64 0, .int .i64 0, .int .i64 v, .int .i64 1, .bool wd, .int .i64 a, .int .i64 b, .int .i64 0, .int .i64 0, .int .i64 0, .int .i64 12, .bool true, .int .i64 b, .int .i64 4, .int .i64 0, .int .i64 0, .int .i64 8, .int .i64 11, .bool wd, .int .i64 5, .int .i64 4, .int .i64 0, .int .i64 0, .int .i64 8]
theorem small_I64 {x : Int} (h : -1000 ≤ x ∧ x ≤ 1000) : I64 x := by unfold I64 Xc.I64; omega
theorem l4_xl {a b v : Int} {wd : Bool} (ha : 0 ≤ a ∧ a ≤ 3) (hb : 8 ≤ b ∧ b ≤ 15) (hv : I64 v) {W : World} {q : Nat} (h : W.heap[q]? = some (.cells (c28 a b v wd) 49)) (hq : q < W.heap.size) : Xc.XL W.heap.size W q 0 (l4 a b v wd) := by
  intro j hj
  have I := fun x h => small_I64 (x := x) h
  have e : ∀ k, W.cell? ⟨q, k, none⟩ = (c28 a b v wd)[k]? := fun k => by simp [World.cell?, h]
  simp only [e]
  match j, hj with
  | 0, _ => exact ⟨hq, ⟨I 2 (by omega), I a (by omega), I 0 (by omega), I 0 (by omega), I 0 (by omega), hv⟩, rfl, rfl, rfl, rfl, rfl, rfl, rfl⟩
  | 1, _ => exact ⟨hq, ⟨I 1 (by omega), I a (by omega), I b (by omega), I 0 (by omega), I 0 (by omega), I 0 (by omega)⟩, rfl, rfl, rfl, rfl, rfl, rfl, rfl⟩
  | 2, _ => exact ⟨hq, ⟨I 12 (by omega), I b (by omega), I 4 (by omega), I 0 (by omega), I 0 (by omega), I 8 (by omega)⟩, rfl, rfl, rfl, rfl, rfl, rfl, rfl⟩
  | 3, _ => exact ⟨hq, ⟨I 11 (by omega), I 5 (by omega), I 4 (by omega), I 0 (by omega), I 0 (by omega), I 8 (by omega)⟩, rfl, rfl, rfl, rfl, rfl, rfl, rfl⟩
theorem l4_ok {a b v : Int} {wd : Bool} (ha : 0 ≤ a ∧ a ≤ 3) (hb : 8 ≤ b ∧ b ≤ 15) (hv : I64 v) : Xc.aOk (l4 a b v wd) = true := by
  simp [Xc.aOk, l4, vrt1 ha hb hv, vrt2 (v := v) ha hb hv, vrt3 (v := v) ha hb hv, vrt4]
theorem l4_enc (a b v : Int) (wd : Bool) : Xc.encs (l4 a b v wd) = vco a b v wd := by simp [Xc.encs, l4, vco]
theorem all4 {a b v : Int} {wd : Bool} (ha : 0 ≤ a ∧ a ≤ 3) (hb : 8 ≤ b ∧ b ≤ 15) (hv : I64 v) {W : World} {q : Nat} (h : W.heap[q]? = some (.cells (c28 a b v wd) 49)) (hq : q < W.heap.size) : Calls Try.prog 19 #[.slice (some ⟨q, 0, none⟩) 4 4] W fun e w' => e = .returned (.tuple #[.string (Xc.str (vco a b v wd)), .int .i64 0]) ∧ Below W.heap.size W w' := by
  have h' := Xc.all_any q 0 4 (l4 a b v wd) W (by show 56 * 4 ≤ 140737488351232; omega) (l4_xl ha hb hv h hq)
  unfold Xc.AlIs at h'
  have e1 : Xc.aS (l4 a b v wd) = vco a b v wd := by unfold Xc.aS; rw [if_pos (l4_ok ha hb hv), l4_enc]
  have e2 : Xc.aE (l4 a b v wd) = 0 := by unfold Xc.aE; rw [if_pos (l4_ok ha hb hv)]
  rw [e1, e2] at h'
  exact h'
def zs : ByteArray := ⟨z32.toArray⟩
theorem info5 : (Try.prog.info? 5).map (fun i => (i.zero, i.size, i.bytes)) = some (some (.int .u8 0), 1, 1) := by kernel_rfl
theorem mk32 (X : World) : (Instr.makeSlice 50 (.int .i64 32) (.int .i64 32)).run Try.prog X = .ok (.slice (some ⟨X.heap.size, 0, none⟩) 32 32) (X.alloc (.cells (madeCells #[Value.int .u8 0] 32) 5)) := by
  obtain ⟨i0, hi, hz0, hz1, hz2⟩ := info_parts info5
  have := run_make X 50 5 i0 (.int .u8 0) ubytes hi hz0 .i64 .i64 32 32 (by decide) (by omega) (by rw [hz2]; decide) (by decide)
  rw [this, hz1]
  rfl
theorem br32 (X : World) : BR (X.alloc (.cells (madeCells #[Value.int .u8 0] 32) 5)) X.heap.size z32 := by
  show BR _ _ (List.replicate 32 (0 : UInt8))
  refine BR.made X _ 5 (List.replicate 32 (0 : UInt8)) fun j hj => ?_
  have hj' : j < 32 := by simpa using hj
  have e : (madeCells #[Value.int .u8 0] 32)[j]? = some (.int .u8 0) := by simp [madeCells, hj', Nat.mod_one]
  rw [e, List.getElem_replicate]
  rfl
theorem cv32 (X : World) : (convert 50 9 (.slice (some ⟨X.heap.size, 0, none⟩) 32 32)).run Try.prog (X.alloc (.cells (madeCells #[Value.int .u8 0] 32) 5)) = .ok (.string zs) (X.alloc (.cells (madeCells #[Value.int .u8 0] 32) 5)) :=
  run_str_of (P := Try.prog) (br32 X) 50 9 5 32 32 (by show 32 ≤ 32; omega) (by kernel_rfl) (by kernel_rfl) (by kernel_rfl)
def c6 (cs : ByteArray) : Array Value := #[.int .i64 500, .string cs, .bool true, .int .i64 4000, .string zs, .bool false]
theorem vm_mv {a b v : Int} {wd : Bool} {w : World} {q rc : Nat} (h : w.heap[q]? = some (.cells (c6 (Xc.str (vco a b v wd))) 39)) : MV (vm a b v wd) (.agg (mc (vm a b v wd) (.slice (some ⟨q, 0, none⟩) 2 rc))) w := by
  have n1 := (Xc.enc_len (vx1 a v)).2
  have n2 := (Xc.enc_len (vx2 wd a b)).2
  have n3 := (Xc.enc_len (vx3 b)).2
  have n4 := (Xc.enc_len (vx4 wd)).2
  have hcl : (vco a b v wd).length ≤ 52 := by simp only [vco, List.length_append]; omega
  have ok0 : Rg.ok ⟨500, vco a b v wd, true⟩ := ⟨by show I64 500; unfold I64 Xc.I64; omega, by show (vco a b v wd).length ≤ _; omega⟩
  have ok1 : Rg.ok ⟨4000, z32, false⟩ := ⟨by show I64 4000; unfold I64 Xc.I64; omega, by show (32 : Nat) ≤ _; omega⟩
  have e : ∀ k, w.cell? ⟨q, k, none⟩ = (c6 (Xc.str (vco a b v wd)))[k]? := fun k => by simp [World.cell?, h]
  refine ⟨some ⟨q, 0, none⟩, rc, fun i => if i = 0 then Xc.str (vco a b v wd) else zs, rfl, Or.inr ⟨q, 0, rfl, fun i hi => ?_⟩, fun i hi => ?_, ⟨rfl, ?_, by show I64 500; unfold I64 Xc.I64; omega, ?_⟩, by show 32 * 2 ≤ 140737488351232; omega⟩
  · rw [e, e, e]
    match i, hi with
    | 0, _ => exact ⟨rfl, rfl, rfl, by simp [vm, Xc.str, ByteArray.size], ok0⟩
    | 1, _ => exact ⟨rfl, rfl, rfl, rfl, ok1⟩
  · match i, hi with
    | 0, _ => simp [vm, Xc.str]
    | 1, _ => simp [vm, zs]
  · intro x hx
    have hx' : x ∈ vr0 := hx
    simp [vr0] at hx'
    unfold I64 Xc.I64
    omega
  · intro r hr
    have hr' : r ∈ [(⟨500, vco a b v wd, true⟩ : Rg), ⟨4000, z32, false⟩] := hr
    simp at hr'
    rcases hr' with rfl | rfl
    · exact ok0
    · exact ok1
end Go.Proofs.Ytielpebokbolbaa
/-
  XstepKeeps: no step changes code, or how many regions there are, where they lie, and how long they are; a machine that does not go stays.
-/
namespace Go.Proofs.Ytielpebokbolbaa
open Go.RowKit
open Xc (hide bel_one bel_tr bel_al bel_set Xi xv xc)
set_option linter.unusedSimpArgs false
set_option linter.unusedVariables false
/-- What no step changes. -/
def KG (g g' : List Rg) : Prop := g'.length = g.length ∧ ∀ i (h : i < g.length) (h' : i < g'.length), g'[i].at_ = g[i].at_ ∧ g'[i].code = g[i].code ∧ g'[i].by_.length = g[i].by_.length ∧ (g[i].code = true → g'[i].by_ = g[i].by_)
theorem KG.refl (g : List Rg) : KG g g := ⟨rfl, fun i h h' => ⟨rfl, rfl, rfl, fun _ => rfl⟩⟩
theorem KG.trans {a b c : List Rg} (h : KG a b) (k : KG b c) : KG a c := ⟨k.1.trans h.1, fun i ha hc => by
  have hb : i < b.length := by rw [h.1]; exact ha
  obtain ⟨x1, x2, x3, x4⟩ := h.2 i ha hb
  obtain ⟨y1, y2, y3, y4⟩ := k.2 i hb hc
  exact ⟨y1.trans x1, y2.trans x2, y3.trans x3, fun e => (y4 (x2.trans e)).trans (x4 e)⟩⟩
theorem kg_pt {g : List Rg} {a n v : Int} : KG g ((ptM g a n v).getD g) := by
  cases hf : fnN g a n with
  | none => rw [ptM_none hf]; exact KG.refl g
  | some i =>
    obtain ⟨hn, hi, hc, hw⟩ := fnN_some hf
    rw [ptM_some hf hi]
    refine ⟨by simp, fun j hj hj' => ?_⟩
    simp only [Option.getD_some, List.getElem_set]
    split
    · rename_i e; subst e
      exact ⟨rfl, rfl, ptR_len hw hn, fun e => by rw [hc] at e; cases e⟩
    · exact ⟨rfl, rfl, rfl, fun _ => rfl⟩
theorem kg_acc (m : Mc) (x : Xi) (a a0 : Int) : KG m.g ((acc m x a).getD ((m.sa a0).ss 4)).g := by
  have pt : ∀ (n v : Int) (f : Mc → Mc) (hf : ∀ u, (f u).g = u.g), KG m.g (((ptM m.g a n v).map fun g => f (m.sg g)).getD ((m.sa a0).ss 4)).g := fun n v f hf => by
    have := kg_pt (g := m.g) (a := a) (n := n) (v := v)
    cases h : ptM m.g a n v with
    | none => exact KG.refl _
    | some g => rw [h] at this; simp only [Option.map_some, Option.getD_some, hf]; exact this
  unfold acc
  split
  · exact pt _ _ id fun _ => rfl
  · split
    · exact pt 8 m.at_ (fun u => (u.sr 4 a).sa (wrap64 (m.at_ + x.n))) fun _ => rfl
    · split
      · cases rdM m.g a 8 <;> exact KG.refl _
      · cases rdM m.g a (szX x) <;> exact KG.refl _
theorem kg_stp (m : Mc) : KG m.g (stp m).1.g := by
  unfold stp
  cases fet m with
  | none => exact KG.refl _
  | some x =>
    show KG m.g (doX _ x _).1.g
    unfold doX
    split
    · exact kg_acc _ _ _ _
    · split
      · show KG m.g (Option.getD (dvd _ x) _).g
        unfold dvd
        split
        · split <;> exact KG.refl _
        · split <;> exact KG.refl _
      · split
        · show KG m.g (if _ then _ else _ : Mc).g
          split <;> exact KG.refl _
        · split
          · exact KG.refl _
          · split
            · exact KG.refl _
            · split
              · exact KG.refl _
              · show KG m.g (rck _ x).g
                rw [rck_g]; exact KG.refl _
theorem kg_run : ∀ (n : Nat) (m : Mc), KG m.g (runM n m).1.g
  | 0, m => KG.refl _
  | n + 1, m => by
    unfold runM
    split
    · exact (kg_stp m).trans (kg_run n _)
    · exact KG.refl _
theorem run_end : ∀ (n : Nat) (m : Mc), (runM n m).1.st ≠ 0 ∨ (runM n m).2.length = n
  | 0, m => Or.inr rfl
  | n + 1, m => by
    unfold runM
    split
    · rcases run_end n (stp m).1 with h | h
      · exact Or.inl h
      · exact Or.inr (by simp [h])
    · rename_i h; exact Or.inl h
theorem MV.rs {m : Mc} {ra : Option Addr} {n rc : Nat} {w : World} (h : MV m (.agg (mc m (.slice ra n rc))) w) : n = m.g.length ∧ ∃ ss, RS w ra m.g ss ∧ (∀ i (h : i < m.g.length), (ss i).data.toList = m.g[i].by_) ∧ m.g.length ≤ 4398046511104 := by
  obtain ⟨ra', rc', ss, e, hR, hs, ok, hl⟩ := h
  injection e with e
  have e2 := congrArg (·.toList[21]?) e
  simp only [mc_is] at e2
  rw [ml_21 ok.1, ml_21 ok.1] at e2
  injection e2 with e2
  injection e2 with e3 e4 e5
  subst e3 e4 e5
  exact ⟨rfl, ss, hR, hs, by omega⟩
theorem cell_lt' {w : World} {b k : Nat} {v : Value} (h : w.cell? ⟨b, k, none⟩ = some v) : b < w.heap.size := World.block_lt_of_cell? w _ h
theorem run_stays (n : Nat) {m : Mc} (h : ¬ m.st = 0) : runM n m = (m, []) := by cases n <;> simp [runM, h]
set_option maxRecDepth 100000 in
set_option maxHeartbeats 6400000 in
theorem keeps_walk {m : Mc} {v : Value} {w : World} (h : MV m v w) (most : Int) (im : I64 most) : Calls Try.prog 4 #[v, .int .i64 most] w fun e w' => e = .returned (.bool true) ∧ Below w.heap.size w w' := by
  obtain ⟨ra, rc, rfl⟩ := h.sl
  have B0 := hide (bm_arg h)
  rw [mc_is]
  have H1 : Hid (min most 100 ≤ 100) := by show _ ≤ _; omega
  have H2 : Hid (0 ≤ 0) := Nat.le_refl 0
  have HMM := hide (show (((min most 100).toNat : Nat) : Int) = min (max most 0) 100 ∧ (((min most 100).toNat : Nat) : Int) ≤ max most 0 by omega)
  clear h im
  go_enter Try.func4, Try.ntmps4
  go_wp2_with fail
  refine gw (motive := fun x => Calls _ _ _ x _) (fun W => Hid (BM w.heap.size m (.slice ra m.g.length rc) W) ∧ Hid (Below w.heap.size w W)) ⟨B0.out, bel_one _ _⟩ ?_
  rintro W ⟨BW, KW⟩
  clear B0
  refine (examples_any _).mono ?_
  rintro e w1 ⟨rfl, hb⟩
  have B1 := hide (BW.out.bel hb)
  have K1 := hide (bel_tr KW.out hb)
  clear hb BW KW
  have RR := hide (run_any B1.out.mv (min most 100) (by have := H1.out; have := H2.out; omega))
  rw [mc_is] at RR
  go_wp2_with (first | (refine wpList_load_mid rfl 27 _ rfl w.heap.size 0 rfl _ _ B1.out.rg Try.underlying27 rfl B1.out.il ?_))
  refine RR.out.mono ?_
  rintro e ua ⟨va, la, rfl, hma, hla, hba⟩
  clear RR
  generalize hRa : runM ((min most 100)).toNat m = Ra at hma hla
  have HRa := hide hRa
  clear hRa
  obtain ⟨raa, rca, rfl⟩ := hma.sl
  have HMa := hide hma
  have HLVa := hide hla
  rw [mc_is]
  have B1n := hide (B1.out.bel hba)
  have K1n := hide (bel_tr K1.out hba)
  clear hma hla hba B1 K1
  have HZ := hide (z_row ua)
  have HI := hide (z_inf HMa.out.len (.slice raa Ra.1.g.length rca))
  have HZS := hide (z_siz HMa.out.len (.slice raa Ra.1.g.length rca))
  have HON := hide (ml_one Ra.1 raa Ra.1.g.length rca)
  have NB := hide (bm_new HMa.out)
  unfold zm at HZ HZS NB
  go_upto_region 3 with (refine wpList_store_row rfl 27 _ _ rfl ua.heap.size _ rfl rfl 27 zm HZ.out HI.out HZS.out HON.out ?_)
  refine gw (motive := fun x => Code.wp _ _ _ _ x) (fun V => Hid (BM ua.heap.size Ra.1 (.slice raa Ra.1.g.length rca) V) ∧ Hid (LV 0 Ra.2 la V) ∧ Hid (BM w.heap.size m (.slice ra m.g.length rc) V) ∧ Hid (Below w.heap.size w V)) ⟨NB.out.1, HLVa.out.bel NB.out.2, B1n.out.bel NB.out.2, bel_tr K1n.out NB.out.2⟩ ?_
  rintro Wa ⟨BMa, LVa, B1, K1⟩
  clear HZ HI HZS HON NB HMa HLVa B1n K1n
  generalize ua.heap.size = qa at *
  have KGa : KG m.g Ra.1.g := by rw [← HRa.out]; exact kg_run _ _
  have HG := hide KGa
  obtain ⟨_, _, _, _, _, a21, a22⟩ := ml_c B1.out.mv.len B1.out.row
  obtain ⟨_, _, _, _, _, b21, b22⟩ := ml_c BMa.out.mv.len BMa.out.row
  rw [KGa.1] at b21
  obtain ⟨a7, c7, rfl⟩ := LVa.out.sl
  obtain ⟨_, ss, hR, hs, hgl⟩ := B1.out.mv.rs
  obtain ⟨_, tt, hT, ht, _⟩ := BMa.out.mv.rs
  have HR := hide hR
  have HS := hide hs
  have HT := hide hT
  have HTT := hide ht
  have hqa : w.heap.size < Wa.heap.size := cell_lt' a21
  have hqb : qa < Wa.heap.size := cell_lt' b21
  have TA := hide a21
  have TB := hide b21
  have TC := hide a22
  have TD := hide b22
  clear KGa hR hs hT ht
  go_wp2_with fail
  go_loopw [8, 9, 10] (fun iv p9 p10 wr => ∃ k : Nat, k ≤ m.g.length ∧ iv = .int .i64 (k : Int) ∧ Hid (Below Wa.heap.size Wa wr)) (fun iv _ _ _ => m.g.length - (intOf iv).toNat)
  case atStart => exact ⟨0, Nat.zero_le _, rfl, Below.refl _ _⟩
  case round =>
    obtain ⟨k, hk, rfl, HB⟩ := hrel
    have a21' : wr.cell? ⟨w.heap.size, 21, none⟩ = some (.slice ra m.g.length rc) := by rw [HB.out.cell (p := ⟨w.heap.size, 21, none⟩) hqa]; exact TA.out
    have b21' : wr.cell? ⟨qa, 21, none⟩ = some (.slice raa m.g.length rca) := by rw [HB.out.cell (p := ⟨qa, 21, none⟩) hqb]; exact TB.out
    have a22' : wr.cell? ⟨w.heap.size, 22, none⟩ = some (.int .i64 m.st) := by rw [HB.out.cell (p := ⟨w.heap.size, 22, none⟩) hqa]; exact TC.out
    have b22' : wr.cell? ⟨qa, 22, none⟩ = some (.int .i64 Ra.1.st) := by rw [HB.out.cell (p := ⟨qa, 22, none⟩) hqb]; exact TD.out
    have hwa : Wa.heap.size ≤ wr.heap.size := HB.out.size
    have hqa' : w.heap.size < wr.heap.size := by omega
    have hqb' : qa < wr.heap.size := by omega
    clear a21 b21 a22 b22
    by_cases hlt : k < m.g.length
    · have hlt' : k < Ra.1.g.length := by rw [HG.out.1]; exact hlt
      obtain ⟨e1, e2, e3, e4⟩ := HG.out.2 k hlt hlt'
      rcases HR.out.bel HB.out with h0 | ⟨b1, o1, rfl, h1⟩
      · rw [h0] at hlt; cases hlt
      rcases HT.out.bel HB.out with h0 | ⟨b2, o2, rfl, h2⟩
      · rw [h0] at hlt'; cases hlt'
      obtain ⟨c0, c1, c2, s1, z1⟩ := h1 k hlt
      obtain ⟨d0, d1, d2, s2, z2⟩ := h2 k hlt'
      have hb1 : b1 < wr.heap.size := cell_lt' c0
      have hb2 : b2 < wr.heap.size := cell_lt' d0
      rw [e1] at d0
      rw [e2] at d2
      have hsz : (tt k).size = (ss k).size := by rw [s1, s2, e3]
      have h4 : m.g[k].code = true → tt k = ss k := fun hc => str_eq (HTT.out k hlt') ((HS.out k hlt).trans (e4 hc).symm)
      clear e1 e2 e3 e4 h1 h2 s1 s2 z1 z2 hlt'
      generalize m.g[k].at_ = x1 at *
      generalize ss k = x2 at *
      generalize tt k = x3 at *
      generalize m.g[k].code = x4 at *
      cases x4
      · clear h4
        go_wp2_with fail
        go_roundw
        case rel => exact ⟨k + 1, hlt, by go_num, (HB.out.trans ((bel_one wr _).mono hwa)).trans ((bel_one _ _).mono (by simp; omega))⟩
        case measure => simp [intOf]; omega
      · have e := h4 rfl
        subst e
        clear h4 hsz
        have qq : (x3.toList == x3.toList) = true := by simp
        go_wp2_with fail
        go_roundw
        case rel => exact ⟨k + 1, hlt, by go_num, (HB.out.trans ((bel_one wr _).mono hwa)).trans ((bel_one _ _).mono (by simp; omega))⟩
        case measure => simp [intOf]; omega
    · have hkn : k = m.g.length := by omega
      have BB1 := hide (B1.out.bel HB.out)
      have BBa := hide (BMa.out.bel HB.out)
      have KB := hide (bel_tr K1.out HB.out)
      have hle : ((Ra.2.length : Nat) : Int) ≤ max most 0 := by have h1 := run_len (min most 100).toNat m; rw [HRa.out] at h1; have := HMM.out.2; omega
      have HLL : Hid (Ra.1.st ≠ 0 ∨ ((Ra.2.length : Nat) : Int) = min (max most 0) 100) := by
        rcases run_end (min most 100).toNat m with h1 | h1
        · rw [HRa.out] at h1; exact Or.inl h1
        · rw [HRa.out] at h1; exact Or.inr (by have := HMM.out.1; omega)
      have HKE : Hid ((k : Int) = (m.g.length : Int)) := by show _ = _; omega
      have hklt : ¬ ((k : Int) < (m.g.length : Int)) := by omega
      clear hkn B1 BMa K1 HB
      by_cases hst : m.st = 0
      · rw [hst] at a22'
        clear hst
        by_cases hs2 : Ra.1.st = 0
        · have hq2 : ((Ra.2.length : Nat) : Int) = min (max most 0) 100 := HLL.out.resolve_left (fun h => h hs2)
          rw [hs2] at b22'
          clear hs2
          go_wp2_with fail
          all_goals
            first
            | (exfalso; omega)
            | (go_ret; exact ⟨by simp [hq2], KB.out⟩)
        · have hs3 : (Ra.1.st != 0) = true := by simpa using hs2
          clear hs2
          go_wp2_with fail
          all_goals
            first
            | (exfalso; omega)
            | (go_ret; exact ⟨rfl, KB.out⟩)
      · have E : Ra = (m, []) := by rw [← HRa.out]; exact run_stays _ hst
        have hs3 : (m.st != 0) = true := by simpa using hst
        subst E
        simp only at BBa b22' hle HLL ⊢
        have SM := hide (machines_yes BB1.out.mv BBa.out.mv)
        rw [mc_is, mc_is] at SM
        clear hst hle
        go_wp2_with (first | (refine wpList_load_mid rfl 27 _ rfl w.heap.size 0 rfl _ _ BB1.out.rg Try.underlying27 rfl BB1.out.il ?_) | (refine wpList_load_mid rfl 27 _ rfl qa 0 rfl _ _ BBa.out.rg Try.underlying27 rfl BBa.out.il ?_))
        refine SM.out.mono ?_
        rintro e w5 ⟨rfl, hb5⟩
        have K5 := hide (bel_tr KB.out hb5)
        clear SM BB1 BBa hb5
        go_wp2_with fail
        go_ret
        exact ⟨rfl, K5.out⟩
end Go.Proofs.Ytielpebokbolbaa
/-
  The walk of the statement XstepMoves.
-/
namespace Go.Proofs.Ytielpebokbolbaa
open Go.RowKit
open Xc (hide bel_one bel_tr bel_al bel_set Xi xv xc bys jn)
set_option linter.unusedSimpArgs false
set_option linter.unusedVariables false
/-- A machine of nought but its place and its regions. -/
def mz (g : List Rg) : Mc := ⟨[0, 0, 0, 0, 0, 0, 0, 0, 0, 0, 0, 0, 0, 0, 0, 0], false, false, false, false, 500, g, 0⟩
/-- What lies there ahead of the run. -/
structure MA (cs : ByteArray) (q : Nat) (g : List Rg) (l : List Value) (w V : World) : Prop where
  b : Below w.heap.size w V
  c : V.heap[q + 1]? = some (.cells (c6 cs) 39)
  r : V.heap[q + 2]? = some (.cells l.toArray 27)
  s : q + 2 < V.heap.size
theorem ma_made (cs : ByteArray) (g : List Rg) (w0 w : World) (hb : Below w0.heap.size w0 w) : MA cs w.heap.size g (ml (mz g) (.slice (some ⟨w.heap.size + 1, 0, none⟩) 2 2)) w0 ((((w.alloc (.cells (madeCells #[Value.int .u8 0] 32) 5)).alloc (.cells (c6 cs) 39)).alloc (.cells zm 27)).setRow (w.heap.size + 2) (ml (mz g) (.slice (some ⟨w.heap.size + 1, 0, none⟩) 2 2)).toArray) := by
  have k1 := bel_al hb (.cells (madeCells #[Value.int .u8 0] 32) 5)
  have s1 : (w.alloc (.cells (madeCells #[Value.int .u8 0] 32) 5)).heap.size = w.heap.size + 1 := by simp
  generalize w.alloc (.cells (madeCells #[Value.int .u8 0] 32) 5) = U at *
  have k2 := bel_al k1 (.cells (c6 cs) 39)
  have r2 : (U.alloc (.cells (c6 cs) 39)).heap[U.heap.size]? = _ := heap_alloc_new U (.cells (c6 cs) 39)
  have s2 : (U.alloc (.cells (c6 cs) 39)).heap.size = w.heap.size + 2 := by simp [s1]
  rw [s1] at r2
  generalize U.alloc (.cells (c6 cs) 39) = V at *
  have k3 := bel_al k2 (.cells zm 27)
  have z3 : (V.alloc (.cells zm 27)).heap[V.heap.size]? = _ := heap_alloc_new V (.cells zm 27)
  have c3 := ((bel_one V (.cells zm 27)).block (w.heap.size + 1) (by omega)).trans r2
  have s3 : (V.alloc (.cells zm 27)).heap.size = w.heap.size + 3 := by simp [s2]
  rw [s2] at z3
  generalize V.alloc (.cells zm 27) = X at *
  exact ⟨below_setRow k3 (by have := hb.size; omega) _, (setRow_other X (w.heap.size + 2) (w.heap.size + 1) _ (by omega)).trans c3, setRow_heap X _ _ _ _ (0, 0) z3, by
    have : (X.setRow (w.heap.size + 2) (ml (mz g) (.slice (some ⟨w.heap.size + 1, 0, none⟩) 2 2)).toArray).heap.size = X.heap.size := by simp [World.setRow]
    omega⟩
theorem BM.reg {q : Nat} {m : Mc} {vr : Value} {W : World} (h : BM q m vr W) (k : Nat) (hk : k < 16) : W.cell? ⟨q, k, none⟩ = some (.int .i64 (m.r.getD k 0)) := by
  have hl := h.mv.len
  have hg : (ml m vr)[k]? = some (.int .i64 (m.r.getD k 0)) := by
    unfold ml
    rw [List.getElem?_append_left (by simp; omega), List.getElem?_map, List.getElem?_eq_getElem (by omega), List.getD_eq_getElem?_getD, List.getElem?_eq_getElem (by omega)]
    rfl
  simp [World.cell?, h.row, hg]
set_option maxRecDepth 100000 in
set_option maxHeartbeats 6400000 in
theorem moves_walk (a b v : Int) (wd : Bool) (w : World) (ia : I64 a) (ib : I64 b) (iv : I64 v) : Calls Try.prog 8 #[.int .i64 a, .int .i64 b, .int .i64 v, .bool wd] w fun e w' => e = .returned (.bool true) ∧ Below w.heap.size w w' := by
  have IV := hide iv
  unfold I64 Xc.I64 at ia ib
  clear iv
  go_enter Try.func8, Try.ntmps8
  go_wp2_with fail
  refine (examples_any _).mono ?_
  rintro e w1 ⟨rfl, hb⟩
  have K1 := hide hb
  clear hb
  go_upto_if 19 with fail
  go_cut [0] from 20 to 22 (fun s0 wx => ∃ a1 : Int, s0 = .int .i64 a1 ∧ 0 ≤ a1 ∧ a1 ≤ 9223372036854775807 ∧ wx = w1)
  case first =>
    by_cases h : a < 0
    · go_wp2_with fail
      go_meet
      case rel => exact ⟨_, rfl, by omega, by omega, rfl⟩
    · go_wp2_with fail
      go_meet
      case rel => exact ⟨_, rfl, by omega, by omega, rfl⟩
  case rest =>
    obtain ⟨a1, rfl, a11, a12, rfl⟩ := hcut
    go_upto_if 24 with fail
    go_cut [1] from 25 to 27 (fun s1 wx => ∃ b1 : Int, s1 = .int .i64 b1 ∧ 0 ≤ b1 ∧ b1 ≤ 9223372036854775807 ∧ wx = wc)
    case first =>
      by_cases h : b < 0
      · go_wp2_with fail
        go_meet
        case rel => exact ⟨_, rfl, by omega, by omega, rfl⟩
      · go_wp2_with fail
        go_meet
        case rel => exact ⟨_, rfl, by omega, by omega, rfl⟩
    case rest =>
      obtain ⟨b1, rfl, b11, b12, rfl⟩ := hcut
      obtain ⟨A, hA⟩ : ∃ A : Nat, a1 % 4 = (A : Int) := ⟨(a1 % 4).toNat, by omega⟩
      obtain ⟨B, hB⟩ : ∃ B : Nat, 8 + b1 % 8 = (B : Int) := ⟨(8 + b1 % 8).toNat, by omega⟩
      have hA2 : a1.tmod 4 = (A : Int) := by rw [Int.tmod_eq_emod_of_nonneg a11]; exact hA
      have hB2 : b1.tmod 8 = (B : Int) - 8 := by rw [Int.tmod_eq_emod_of_nonneg b11]; omega
      have HA : Hid (0 ≤ (A : Int) ∧ (A : Int) ≤ 3) := by show _ ∧ _; omega
      have HB : Hid (8 ≤ (B : Int) ∧ (B : Int) ≤ 15) := by show _ ∧ _; omega
      obtain ⟨hb1, hb2⟩ := HB.out
      clear hA hB
      go_upto_region 8 with fail
      have e8 : (8 : Int) + ((B : Int) - 8) = (B : Int) := by omega
      rw [e8]
      clear e8 hA2 hB2
      have H28 : (wc.alloc (.cells (c28 (A : Int) (B : Int) v wd) 49)).heap[wc.heap.size]? = some (.cells (c28 (A : Int) (B : Int) v wd) 49) := heap_alloc_new wc _
      have AL := hide (all4 HA.out HB.out IV.out H28 (by simp))
      clear H28
      unfold c28 at AL
      go_wp2_with fail
      refine AL.out.mono ?_
      rintro e w2 ⟨rfl, hb2⟩
      have K2 := hide (bel_tr (bel_al K1.out _) hb2)
      clear AL hb2
      obtain ⟨cs, hcs⟩ : ∃ cs, cs = Xc.str (vco (A : Int) (B : Int) v wd) := ⟨_, rfl⟩
      rw [← hcs]
      have HCS := hide hcs
      clear hcs
      obtain ⟨g0, hg0⟩ : ∃ g, g = (vm (A : Int) (B : Int) v wd).g := ⟨_, rfl⟩
      have HG0 := hide hg0
      clear hg0
      have hmk := mk32
      have hcv := cv32
      have HZ : Hid ((((w2.alloc (.cells (madeCells #[Value.int .u8 0] 32) 5)).alloc (.cells (c6 cs) 39)).alloc (.cells zm 27)).heap[w2.heap.size + 2]? = some (.cells zm 27)) := by
        have := heap_alloc_new ((w2.alloc (.cells (madeCells #[Value.int .u8 0] 32) 5)).alloc (.cells (c6 cs) 39)) (.cells zm 27)
        rwa [show ((w2.alloc (.cells (madeCells #[Value.int .u8 0] 32) 5)).alloc (.cells (c6 cs) 39)).heap.size = w2.heap.size + 2 by simp] at this
      have HI : Hid ((Try.prog.info? 27).map (·.size) = some (ml (mz g0) (.slice (some ⟨w2.heap.size + 1, 0, none⟩) 2 2)).toArray.size) := by show _ = _; rw [List.size_toArray]; exact i27l (m := mz g0) rfl _
      have HZS : Hid (zm.size = (ml (mz g0) (.slice (some ⟨w2.heap.size + 1, 0, none⟩) 2 2)).toArray.size) := rfl
      have HON := hide (ml_one (mz g0) (some ⟨w2.heap.size + 1, 0, none⟩) 2 2)
      unfold c6 at HZ
      go_upto_region 13 with (first | (refine wpl_build rfl 27 _ rfl [(2, .int .i64 500), (3, .slice (some ⟨w2.heap.size + 1, 0, none⟩) 2 2)] rfl _ (built_m 500 g0 _ 2 2) ?_) | (refine wpList_store_row rfl 27 _ _ rfl (w2.heap.size + 2) _ rfl rfl 27 zm HZ.out HI.out HZS.out HON.out ?_) | fail)
      have MA1 := hide (ma_made cs g0 w w2 K2.out)
      have hq2 : w.heap.size ≤ w2.heap.size + 2 := Nat.le_trans K2.out.size (by omega)
      refine gw (motive := fun x => Code.wp _ _ _ _ x) (fun V => Hid (MA cs w2.heap.size g0 (ml (mz g0) (.slice (some ⟨w2.heap.size + 1, 0, none⟩) 2 2)) w V)) MA1 ?_
      clear MA1 HZ HI HZS HON hmk hcv K2
      rintro V MV1
      generalize w2.heap.size = q at *
      have f4 : V.cell? ⟨q + 2, 4, none⟩ = some (.int .i64 0) := by simp only [World.cell?, MV1.out.r]; rfl
      have ff4 : V.frozen? ⟨q + 2, 4, none⟩ = false := by simp [World.frozen?, MV1.out.r]
      go_upto_region 14 with fail
      have hr2 : (V.setCell ⟨q + 2, 4, none⟩ (.int .i64 4000)).heap[q + 2]? = some (.cells (ml (vm (A : Int) (B : Int) v wd) (.slice (some ⟨q + 1, 0, none⟩) 2 2)).toArray 27) := by
        have h := MV1.out.r
        simp only [World.setCell, Array.getElem?_modify, h, if_true, Option.map_some]
        rfl
      have hm2 : MV (vm (A : Int) (B : Int) v wd) (.agg (mc (vm (A : Int) (B : Int) v wd) (.slice (some ⟨q + 1, 0, none⟩) 2 2))) (V.setCell ⟨q + 2, 4, none⟩ (.int .i64 4000)) := by
        refine vm_mv ?_
        rw [← HCS.out]
        exact (Below.heap_setCell V ⟨q + 2, 4, none⟩ (.int .i64 4000) (q + 1) (by show q + 1 ≠ q + 2; omega)).trans MV1.out.c
      have K3 : Below w.heap.size w (V.setCell ⟨q + 2, 4, none⟩ (.int .i64 4000)) := MV1.out.b.setCell (p := ⟨q + 2, 4, none⟩) hq2 _
      refine gw (motive := fun x => Code.wp _ _ _ _ x) (fun V => Hid (BM (q + 2) (vm (A : Int) (B : Int) v wd) (.slice (some ⟨q + 1, 0, none⟩) 2 2) V) ∧ Hid (Below w.heap.size w V)) ⟨hide ⟨hr2, hm2⟩, hide K3⟩ ?_
      clear hr2 hm2 K3 MV1 f4 ff4 HCS HG0
      rintro V2 ⟨B2, K4⟩
      obtain ⟨x1, x2, x3, x4, hrun, h3, h4⟩ := v_run (wd := wd) HA.out HB.out IV.out
      have HRUN := hide hrun
      have H34 := hide (And.intro h3 h4)
      clear hrun h3 h4
      have RR := hide (run_any B2.out.mv 4 (by decide))
      rw [mc_is] at RR
      have RG := hide B2.out.rg
      have IL := hide B2.out.il
      go_wp2_with (first | (refine wpList_load_mid rfl 27 _ rfl (q + 2) 0 rfl _ _ RG.out Try.underlying27 rfl IL.out ?_) | fail)
      refine RR.out.mono ?_
      rintro e w3 ⟨v', v7, rfl, hm1, hlv, hb3⟩
      rw [show (4 : Int).toNat = 4 from rfl, HRUN.out] at hm1 hlv
      clear RR RG IL B2 HRUN
      simp only at hm1 hlv
      obtain ⟨ra, rc, rfl⟩ := hm1.sl
      have HM := hide hm1
      rw [mc_is]
      obtain ⟨gl, c7, rfl, hc⟩ := hlv.cells (by simp)
      have C2 := (hc 2 (by simp)).2.1
      have C3 := (hc 3 (by simp)).2.1
      simp only [List.getElem_cons_succ, List.getElem_cons_zero] at C2 C3
      rw [H34.out.1] at C2
      rw [H34.out.2] at C3
      have HC := hide (And.intro C2 C3)
      have hgl : gl < w3.heap.size := World.block_lt_of_cell? w3 _ C2
      have K5 := hide (bel_tr K4.out hb3)
      have hgl4 : (vend (A : Int) (B : Int) v (Fg.tr wd v) wd).g.length = 2 := rfl
      rw [hgl4] at HM ⊢
      clear hm1 hlv hc C2 C3 hb3 K4 H34 hgl4
      have HZ := hide (z_row w3)
      have HI := hide (z_inf HM.out.len (.slice ra 2 rc))
      have HZS := hide (z_siz HM.out.len (.slice ra 2 rc))
      have HON := hide (ml_one (vend (A : Int) (B : Int) v (Fg.tr wd v) wd) ra 2 rc)
      have NB := hide (bm_new HM.out)
      unfold zm at HZ HZS NB
      go_upto_region 15 with (first | (refine wpList_store_row rfl 27 _ _ rfl w3.heap.size _ rfl rfl 27 zm HZ.out HI.out HZS.out HON.out ?_) | fail)
      refine gw (motive := fun x => Code.wp _ _ _ _ x) (fun V => Hid (BM w3.heap.size (vend (A : Int) (B : Int) v (Fg.tr wd v) wd) (.slice ra 2 rc) V) ∧ Hid (Below w.heap.size w V) ∧ V.cell? ⟨gl, 9, none⟩ = some (.int .i64 4008) ∧ V.cell? ⟨gl, 13, none⟩ = some (.int .i64 4008)) ⟨NB.out.1, bel_tr K5.out NB.out.2, (NB.out.2.cell (p := ⟨gl, 9, none⟩) hgl).trans HC.out.1, (NB.out.2.cell (p := ⟨gl, 13, none⟩) hgl).trans HC.out.2⟩ ?_
      clear HZ HI HZS HON NB HM K5 HC hgl
      rintro V3 ⟨BV, KV, C2, C3⟩
      generalize w3.heap.size = q3 at *
      have hr4 := (r4_is (v := v) (u := Fg.tr wd v) HA.out HB.out).2.2.2
      obtain ⟨_, _, _, _, _, _, a22⟩ := ml_c BV.out.mv.len BV.out.row
      have cA := BV.out.reg A (by have := HA.out; omega)
      have cB := BV.out.reg B (by have := HB.out; omega)
      have c5 := BV.out.reg 5 (by omega)
      have e1 : (vend (A : Int) (B : Int) v (Fg.tr wd v) wd).r.getD A 0 = v := hr4.1
      have e2 : (vend (A : Int) (B : Int) v (Fg.tr wd v) wd).r.getD B 0 = Fg.tr wd v := hr4.2.1
      have e3 : (vend (A : Int) (B : Int) v (Fg.tr wd v) wd).r.getD 5 0 = Fg.tr wd v := hr4.2.2
      rw [e1] at cA
      rw [e2] at cB
      rw [e3] at c5
      rw [show (vend (A : Int) (B : Int) v (Fg.tr wd v) wd).st = 0 from rfl] at a22
      have a32 := and32 v IV.out
      have hA16 : (A : Int) < 16 := by have := HA.out; omega
      have hB16 : (B : Int) < 16 := by have := HB.out; omega
      clear hr4 e1 e2 e3 BV
      cases wd with
      | true =>
        have et : Fg.tr true v = v := rfl
        rw [et] at cB c5
        clear et
        go_wp2_with fail
        go_ret
        exact ⟨rfl, KV.out⟩
      | false =>
        have et : Fg.tr false v = v % 4294967296 := rfl
        rw [et] at cB c5
        clear et
        generalize v % 4294967296 = u at *
        go_wp2_with fail
        go_ret
        exact ⟨rfl, KV.out⟩
end Go.Proofs.Ytielpebokbolbaa
/-
  A machine that comes in: what lies in its memory; what its regions may take at the most; no condition.
-/
namespace Go.Proofs.Ytielpebokbolbaa
open Go.ChangeShapes Go.WideShapes Go.ChangeAt Go.RowKit
set_option linter.unusedSimpArgs false
set_option linter.unusedVariables false
theorem wf_i64 {x : Int} (h : (Lit.int .i64 x).wf = true) : I64 x := by
  simp [Lit.wf, IntKind.min, IntKind.max, IntKind.signed, IntKind.bits] at h
  exact ⟨by omega, by omega⟩
theorem cell_lt {w : World} {a : Addr} {v : Value} (h : w.cell? a = some v) : a.block < w.heap.size := by
  unfold World.cell? at h
  cases hb : w.heap[a.block]? with
  | none => rw [hb] at h; cases h
  | some o => exact (Array.getElem?_eq_some_iff.1 hb).1
/-- What a datum takes lies in reach. -/
def Wt {H : Type} (t : TypeId) (d : DataW H) : Prop := ∀ n ∈ DataW.weights Try.prog t d, n ≤ reachBytes
theorem wt_all {H : Type} {e : TypeId} {d : DataW H} {n : Nat} : ∀ {l : List (DataW H)}, d ∈ l → n ∈ DataW.weights Try.prog e d → n ∈ DataW.weightsAll Try.prog e l
  | x :: r, h, hn => by
    simp only [DataW.weightsAll, List.mem_append]
    rcases List.mem_cons.1 h with rfl | h
    · exact .inl hn
    · exact .inr (wt_all h hn)
theorem wt_part {H : Type} {t : TypeId} {fs : Array Field} (ht : Try.prog.underlying t = some (.struct fs)) {parts : List (DataW H)} (h : Wt t (.agg parts)) {j : Nat} {u : TypeId} {d : DataW H} (hu : (fs.toList.map (·.type))[j]? = some u) (hd : parts[j]? = some d) : Wt u d := by
  intro n hn
  refine h n ?_
  simp only [DataW.weights, ht]
  exact DataW.weights_mem_each hu hd n hn
theorem c_3 : Try.prog.cellsOf 3 = 1 := by kernel_rfl
theorem c_4 : Try.prog.cellsOf 4 = 1 := by kernel_rfl
theorem c_9 : Try.prog.cellsOf 9 = 1 := by kernel_rfl
theorem c_regs : Try.prog.cellsOf 22 = 16 := by kernel_rfl
theorem c_fl : Try.prog.cellsOf 24 = 4 := by kernel_rfl
theorem c_rgs : Try.prog.cellsOf 25 = 1 := by kernel_rfl
theorem c_rg : Try.prog.cellsOf 39 = 3 := by kernel_rfl
theorem c_mc : Try.prog.cellsOf 27 = 23 := by kernel_rfl
theorem b_rg : Try.prog.bytesOf 39 = 32 := by kernel_rfl
def ERg (W : World) (b o : Nat) (y : Rg) : Prop := I64 y.at_ ∧ W.cell? ⟨b, o, none⟩ = some (.int .i64 y.at_) ∧ W.cell? ⟨b, o + 1, none⟩ = some (.string ⟨y.by_.toArray⟩) ∧ W.cell? ⟨b, o + 2, none⟩ = some (.bool y.code)
section
variable {H : Type} {enc : TypeId × Value → H} {W : World}
set_option maxRecDepth 100000 in
theorem op_rg (n : Nat) (cs : List Value) (x : DataW H × List MemPlace) (b o : Nat) (hl : cs.length = 3) (hc : ∀ i v, cs[i]? = some v → W.cell? ⟨b, o + i, none⟩ = some v)
    (h : DataW.trod enc Try.prog W 0 (fun _ => true) true n 39 cs = some x) : ∃ y, ERg W b o y ∧ (Wt 39 x.1 → y.by_.length ≤ reachBytes) := by
  obtain ⟨xs, k, _, hx, _, hxl, hf⟩ := DataW.trod_struct Try.underlying39 h
  match cs, hl with
  | [v0, v1, v2], _ =>
    match xs, hxl with
    | [y0, y1, y2], _ =>
      have g0 := hf 0 _ rfl
      have g1 := hf 1 _ rfl
      have g2 := hf 2 _ rfl
      simp [c_3, c_4, c_9] at g0 g1 g2
      obtain ⟨a, e0, _, wa⟩ := DataW.trod_int Try.underlying3 g0
      obtain ⟨s, e1, hy1, _⟩ := DataW.trod_string Try.underlying9 g1
      obtain ⟨c, e2, _⟩ := DataW.trod_bool Try.underlying4 g2
      simp at e0 e1 e2
      subst e0 e1 e2
      have es : (⟨s.data.toList.toArray⟩ : ByteArray) = s := by simp
      refine ⟨⟨a, s.data.toList, c⟩, ⟨wf_i64 wa, hc 0 _ rfl, ?_, hc 2 _ rfl⟩, fun hw => ?_⟩
      · show _ = some (Value.string ⟨s.data.toList.toArray⟩)
        rw [es]; exact hc 1 _ rfl
      · have hx1 : x.1 = .agg ([y0, y1, y2].map (·.1)) := congrArg Prod.fst hx
        rw [hx1] at hw
        have h2 : Wt 9 y1.1 := wt_part Try.underlying39 hw (j := 1) rfl rfl
        rw [hy1] at h2
        exact h2 _ (by simp [DataW.weights])
set_option maxRecDepth 100000 in
theorem open_rgs {fuel : Nat} {cs : List Value} {x : DataW H × List MemPlace} (h : DataW.trod enc Try.prog W 0 (fun _ => true) true fuel 25 cs = some x) :
    ∃ a l c, cs = [.slice a (List.length l) c] ∧ (l = [] ∨ ∃ b off, a = some ⟨b, off, none⟩ ∧ ∀ i (h : i < List.length l), ERg W b (off + i * 3) l[i]) ∧ (Wt 25 x.1 → l.length * 32 ≤ reachBytes ∧ ∀ y ∈ l, y.by_.length ≤ reachBytes) := by
  rcases Deep.open_slice Try.underlying25 h with ⟨hcs, hx⟩ | ⟨a, len, cap, m, n, D, Pl, hcs, _, hl, hm, hmm, hx, hcell⟩
  · exact ⟨_, [], _, hcs, Or.inl rfl, fun _ => ⟨by simp, by simp⟩⟩
  simp only [if_true] at hmm
  rcases Nat.eq_zero_or_pos len with h0 | h0
  · subst h0
    exact ⟨_, [], _, hcs, Or.inl rfl, fun _ => ⟨by simp, by simp⟩⟩
  obtain ⟨b, off, spot⟩ := a
  have hspot : spot = none := by
    obtain ⟨cs', h1, _⟩ := hcell 0 (by omega)
    rw [c_rg] at h1
    obtain ⟨_, hlen, hc⟩ := World.cells?_some h1
    have := hc 0 (by omega)
    rw [List.getElem?_eq_getElem (show 0 < cs'.length by omega)] at this
    simpa [Addr.add] using World.cell?_spot this
  subst hspot
  have each : ∀ i, i < len → ∃ y : Rg, ERg W b (off + i * 3) y ∧ (Wt 39 (D i) → y.by_.length ≤ reachBytes) := by
    intro i hi
    obtain ⟨cs', h1, h2⟩ := hcell i (by omega)
    rw [c_rg] at h1
    obtain ⟨_, hlen, hc⟩ := World.cells?_some h1
    have hcc : ∀ j v, cs'[j]? = some v → W.cell? ⟨b, off + i * 3 + j, none⟩ = some v := by
      intro j v hv
      have hj : j < 3 := by rw [← hlen]; exact (List.getElem?_eq_some_iff.1 hv).1
      have := hc j hj
      rw [add_at, add_at] at this
      rw [this]; exact hv
    exact op_rg n cs' (D i, Pl i) b (off + i * 3) hlen hcc h2
  haveI : Inhabited Rg := ⟨⟨0, [], false⟩⟩
  obtain ⟨f, hf⟩ := Deep.choose_lt each
  have hx1 : x.1 = .slice ((List.range len).map D) ((List.range (m - len)).map fun j => D (len + j)) := congrArg Prod.fst hx
  refine ⟨some ⟨b, off, none⟩, (List.range len).map f, cap, by simpa using hcs, Or.inr ⟨b, off, rfl, fun j hj => ?_⟩, fun hw => ⟨?_, ?_⟩⟩
  · have hj' : j < len := by simpa using hj
    simpa using (hf j hj').1
  · rw [hx1] at hw
    have := hw _ (by simp only [DataW.weights, Try.underlying25]; exact List.mem_cons_self ..)
    rw [b_rg] at this
    simp only [List.length_map, List.length_range] at this ⊢
    exact Nat.le_trans (Nat.mul_le_mul_right _ (by omega)) this
  · intro y hy
    obtain ⟨j, hj, rfl⟩ := List.mem_map.1 hy
    have hj' : j < len := by simpa using hj
    refine (hf j hj').2 fun n hn => ?_
    rw [hx1] at hw
    refine hw n ?_
    simp only [DataW.weights, Try.underlying25]
    exact List.mem_cons_of_mem _ (List.mem_append_left _ (wt_all (List.mem_map.2 ⟨j, by simpa using hj', rfl⟩) hn))
set_option maxRecDepth 100000 in
set_option maxHeartbeats 3200000 in
theorem open_mc {base : Nat} {v : Value} {d : DataW H} {p : List MemPlace} (hv : Value.okWide Try.prog W .any base 27 v) (h : DataW.Trod enc Try.prog W 0 (fun _ => true) true 27 v d p) (hw : Wt 27 d) : ∃ m, MV m v W := by
  obtain ⟨cs, rfl, hsz⟩ := okWide_struct Try.underlying27 hv
  rw [c_mc] at hsz
  obtain ⟨fuel, hf0⟩ := h
  obtain ⟨xs, k, _, hx, _, hxl, hf⟩ := DataW.trod_struct Try.underlying27 hf0
  obtain ⟨l⟩ := cs
  match l, hsz with
  | [v0, v1, v2, v3, v4, v5, v6, v7, v8, v9, v10, v11, v12, v13, v14, v15, v16, v17, v18, v19, v20, v21, v22], _ =>
    match xs, hxl with
    | [y0, y1, y2, y3, y4], _ =>
      have g0 := hf 0 _ rfl
      have g1 := hf 1 _ rfl
      have g2 := hf 2 _ rfl
      have g3 := hf 3 _ rfl
      have g4 := hf 4 _ rfl
      simp [Value.cells, c_3, c_regs, c_fl, c_rgs] at g0 g1 g2 g3 g4
      obtain ⟨zs, k0, _, _, _, hzl, hz⟩ := DataW.trod_array Try.underlying22 g0
      obtain ⟨ts, k1, _, _, _, htl, ht⟩ := DataW.trod_struct Try.underlying24 g1
      obtain ⟨at_, e20, _, w20⟩ := DataW.trod_int Try.underlying3 g2
      obtain ⟨ra, g, rc, e21, sg, q3⟩ := open_rgs g3
      obtain ⟨st, e22, _, w22⟩ := DataW.trod_int Try.underlying3 g4
      match ts, htl with
      | [t0, t1, t2, t3], _ =>
        have j0 := ht 0 _ rfl
        have j1 := ht 1 _ rfl
        have j2 := ht 2 _ rfl
        have j3 := ht 3 _ rfl
        simp [c_4] at j0 j1 j2 j3
        obtain ⟨z, f0, _⟩ := DataW.trod_bool Try.underlying4 j0
        obtain ⟨s, f1, _⟩ := DataW.trod_bool Try.underlying4 j1
        obtain ⟨c, f2, _⟩ := DataW.trod_bool Try.underlying4 j2
        obtain ⟨o, f3, _⟩ := DataW.trod_bool Try.underlying4 j3
        have rr : ∀ i (hi : i < 16), ∃ x : Int, ([v0, v1, v2, v3, v4, v5, v6, v7, v8, v9, v10, v11, v12, v13, v14, v15] : List Value)[i]? = some (.int .i64 x) ∧ I64 x := fun i hi => by
          have := hz i hi
          rw [c_3, List.getElem?_eq_getElem (show i < zs.length by omega)] at this
          obtain ⟨x, e, _, wx⟩ := DataW.trod_int Try.underlying3 this
          refine ⟨x, ?_, wf_i64 wx⟩
          rw [Nat.mul_one] at e
          have e' := congrArg (·[0]?) e
          simp only [List.getElem?_take, List.getElem?_drop] at e'
          simpa using e'
        haveI : Inhabited Int := ⟨0⟩
        obtain ⟨fr, hfr⟩ := Deep.choose_lt rr
        have k0 : v0 = .int .i64 (fr 0) := Option.some.inj (hfr 0 (by decide)).1
        have k1 : v1 = .int .i64 (fr 1) := Option.some.inj (hfr 1 (by decide)).1
        have k2 : v2 = .int .i64 (fr 2) := Option.some.inj (hfr 2 (by decide)).1
        have k3 : v3 = .int .i64 (fr 3) := Option.some.inj (hfr 3 (by decide)).1
        have k4 : v4 = .int .i64 (fr 4) := Option.some.inj (hfr 4 (by decide)).1
        have k5 : v5 = .int .i64 (fr 5) := Option.some.inj (hfr 5 (by decide)).1
        have k6 : v6 = .int .i64 (fr 6) := Option.some.inj (hfr 6 (by decide)).1
        have k7 : v7 = .int .i64 (fr 7) := Option.some.inj (hfr 7 (by decide)).1
        have k8 : v8 = .int .i64 (fr 8) := Option.some.inj (hfr 8 (by decide)).1
        have k9 : v9 = .int .i64 (fr 9) := Option.some.inj (hfr 9 (by decide)).1
        have k10 : v10 = .int .i64 (fr 10) := Option.some.inj (hfr 10 (by decide)).1
        have k11 : v11 = .int .i64 (fr 11) := Option.some.inj (hfr 11 (by decide)).1
        have k12 : v12 = .int .i64 (fr 12) := Option.some.inj (hfr 12 (by decide)).1
        have k13 : v13 = .int .i64 (fr 13) := Option.some.inj (hfr 13 (by decide)).1
        have k14 : v14 = .int .i64 (fr 14) := Option.some.inj (hfr 14 (by decide)).1
        have k15 : v15 = .int .i64 (fr 15) := Option.some.inj (hfr 15 (by decide)).1
        simp at e20 e21 e22 f0 f1 f2 f3
        subst e20 e21 e22 f0 f1 f2 f3
        have hx1 : d = .agg ([y0, y1, y2, y3, y4].map (·.1)) := congrArg Prod.fst hx
        rw [hx1] at hw
        have q := q3 (wt_part Try.underlying27 hw (j := 3) rfl rfl)
        have rb : reachBytes = 140737488351232 := by decide
        rw [rb] at q
        refine ⟨⟨(List.range 16).map fr, z, s, c, o, at_, g, st⟩, ra, rc, fun i => ⟨(g.getD i ⟨0, [], false⟩).by_.toArray⟩, ?_, ?_, ?_, ⟨?_, ?_, wf_i64 w20, ?_⟩, ?_⟩
        · rw [k0, k1, k2, k3, k4, k5, k6, k7, k8, k9, k10, k11, k12, k13, k14, k15]; rfl
        · rcases sg with h0 | ⟨b, off, e, he⟩
          · exact Or.inl h0
          · refine Or.inr ⟨b, off, e, fun i hi => ?_⟩
            obtain ⟨i1, c0, c1, c2⟩ := he i hi
            have hgd : g.getD i ⟨0, [], false⟩ = g[i] := by simp [List.getD, hi]
            have hi' : i < List.length g := hi
            refine ⟨c0, ?_, c2, ?_, i1, ?_⟩
            · show _ = some (Value.string ⟨(g.getD i ⟨0, [], false⟩).by_.toArray⟩)
              rw [hgd]; exact c1
            · show (⟨(g.getD i ⟨0, [], false⟩).by_.toArray⟩ : ByteArray).size = _
              rw [hgd]; simp [ByteArray.size]
            · exact q.2 _ (List.getElem_mem _)
        · intro i hi
          show (g.getD i ⟨0, [], false⟩).by_.toArray.toList = _
          have hi' : i < List.length g := hi
          simp [List.getD, hi']
        · simp
        · intro x hx'
          obtain ⟨i, hi, rfl⟩ := List.mem_map.1 hx'
          exact (hfr i (by simpa using hi)).2
        · intro r hr
          have hr' : r ∈ g := hr
          obtain ⟨i, hi, rfl⟩ := List.mem_iff_getElem.1 hr'
          rcases sg with h0 | ⟨b, off, e, he⟩
          · subst h0; cases hi
          · exact ⟨(he i hi).1, q.2 _ (List.getElem_mem _)⟩
        · show 32 * List.length g ≤ _
          have := q.1; omega
end
end Go.Proofs.Ytielpebokbolbaa
