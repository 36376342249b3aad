/-
  The program's Fits: whether a module keeps to the limits, and is made as it must be: the plain functions small and whole; memory that was there stays as it was.
  Types of values: what is secret, the type of two answers, what flows, the join; the program's and the document's functions answer so.
  Plain mathematics of layer 6: what is open at each place of a body, the spans, the errors. No program.
  Plain: a function's body on its way through the rules of chapter 7: the stack of types, the frames, what each instruction does, or the error; whole modules. No program.
  Plain: what an instruction leaves is well made; how many frames are behind it. No program.
  Plain mathematics of layer 6: those around a place told by the spans; where a branch goes; spans within one another; a body within a Block; what plays no part. No program.
  Plain: whether a body is nested, by what is open alone; an instruction laid in that opens and closes nothing. No program.
  The program's memory while it reads a body: the six variables that its closures share, the row of the spans, the row of those that are open.
  The program's two closures: what around does at a place is the plain step; lacksElse.
-/
import Derived.Test.YtamofhkmhjckaabGreatDoorAll
import Derived.Test.YtamofhkmhjckaabGreatDoorTold
import Derived.WalkKit
import Derived.Test.YtamofhkmhjckaabGreatDoorRows
import Derived.WalkSpells
import Derived.Handy
import Derived.PlainAid
import Derived.ArgAppend
namespace Go.Proofs.YtamofhkmhjckaabGreatDoor
open Go.RowKit

def wi (t : Int) : Bool := decide (t = 1) || decide (t = 3)
theorem wi_no {t : Int} (h : ri t = false) : wi t = false := by
  have := ri_no h; simp [wi, this]
def idx (n : Int) : Bool := decide (0 ≤ n) && decide (n < 4294967296)
def smMem (x : Int) : Bool := decide (x = 0) || (decide (3 ≤ x) && decide (x ≤ 12))
def smSg (s : Sg) : Bool := decide (s.params.length ≤ 4)
def smFn (f : Fn) : Bool := decide (f.locals.length ≤ 8) && decide (f.body.length ≤ 200)
def small (M : Mo) : Bool := decide (M.sigs.length ≤ 16) && (decide (M.imports.length ≤ 8) && (decide (M.funcs.length ≤ 8) && (decide (M.globals.length ≤ 8) && (decide (M.data.length ≤ 8) && (M.sigs.all smSg && (M.funcs.all smFn && [M.m0, M.m1].all smMem))))))
/-- Whether the last instruction is the only one that closes what is open. -/
def nxt (o op : Int) : Int := if op = 2 ∨ op = 3 ∨ op = 4 then o + 1 else if op = 11 then o - 1 else o
def cl : Int → List In → Bool
  | _, [] => false
  | o, x :: r => if nxt o x.op = 0 then r.isEmpty else cl (nxt o x.op) r
def rtI (x : In) : Bool := rt x.op x.n x.m
def whSg (s : Sg) : Bool := decide (s.results.length ≤ 1) && (s.params.all ri && s.results.all ri)
def whFn (f : Fn) : Bool := idx f.sig && (f.locals.all ri && (f.body.all rtI && cl 1 f.body))
def whGl (g : Gl) : Bool := ri g.t && (wi g.t || idx g.v)
def whDa (d : Da) : Bool := (decide (d.mem = 0) || decide (d.mem = 1)) && idx d.pos
def whole (M : Mo) : Bool := M.sigs.all whSg && (M.imports.all idx && (M.funcs.all whFn && (M.globals.all whGl && M.data.all whDa)))

theorem wide_any (t : Int) (w : World) (ht : I64 t) :
    Calls Tryz.prog 12 #[.int .i64 t] w fun e w' => e = .returned (.bool (wi t)) ∧ w' = w := by
  cases hr : ri t
  · have h := hide (wi_no hr)
    have hr' := hide hr
    have ht' := hide ht
    clear ht hr
    go_enter Tryz.func12, Tryz.ntmps12
    go_wp2_with fail
    refine (right_is t false _ ht'.out hr'.out).mono ?_
    rintro e w1 ⟨rfl, rfl⟩
    go_wp2_with fail
    go_ret
    exact ⟨ret_bool h.out.symm, rfl⟩
  · rcases (ri_iff t).mp hr with rfl | rfl | rfl | rfl <;>
    · clear hr
      have ht' := hide ht
      clear ht
      go_enter Tryz.func12, Tryz.ntmps12
      go_wp2_with fail
      refine (right_is _ true _ ht'.out rfl).mono ?_
      rintro e w1 ⟨rfl, rfl⟩
      go_wp2_with fail
      go_ret
      exact ⟨ret_bool (by decide), rfl⟩
theorem index_any (n : Int) (w : World) (hn : I64 n) :
    Calls Tryz.prog 73 #[.int .i64 n] w fun e w' => e = .returned (.bool (idx n)) ∧ w' = w := by
  have h : (n / 4294967296 == 0) = idx n := by
    unfold idx I64 at *
    by_cases h0 : 0 ≤ n <;> by_cases h1 : n < 4294967296 <;> simp [h0, h1] <;> omega
  have H := hide h
  clear h hn
  go_enter Tryz.func73, Tryz.ntmps73
  go_wp2_with fail
  go_ret
  exact ⟨ret_bool H.out, rfl⟩
theorem smallMem_any (x : Int) (w : World) : Calls Tryz.prog 71 #[.int .i64 x] w fun e w' => e = .returned (.bool (smMem x)) ∧ w' = w := by
  by_cases h0 : x = 0
  · subst h0
    go_enter Tryz.func71, Tryz.ntmps71
    go_wp2_with fail
    go_ret
    exact ⟨rfl, rfl⟩
  · have e0 : (x == 0) = false := by simpa using h0
    by_cases h1 : 3 ≤ x
    · by_cases h2 : x ≤ 12
      · have H : Hid (smMem x = true) := hide (by simp [smMem, h1, h2])
        clear h0
        go_enter Tryz.func71, Tryz.ntmps71
        go_wp2_with fail
        go_ret
        exact ⟨ret_bool H.out.symm, rfl⟩
      · have H : Hid (smMem x = false) := hide (by simp [smMem, h0, h2])
        clear h0
        go_enter Tryz.func71, Tryz.ntmps71
        go_wp2_with fail
        go_ret
        exact ⟨ret_bool H.out.symm, rfl⟩
    · have H : Hid (smMem x = false) := hide (by simp [smMem, h0, h1])
      clear h0
      go_enter Tryz.func71, Tryz.ntmps71
      go_wp2_with fail
      go_ret
      exact ⟨ret_bool H.out.symm, rfl⟩
theorem smallSig_any (x : Sg) (vp vr : Value) (w : World) (hp : SInts w.heap.size w vp x.params) (hr : SInts w.heap.size w vr x.results) :
    Calls Tryz.prog 67 #[.agg #[vp, vr]] w fun e w' => e = .returned (.bool (smSg x)) ∧ Below w.heap.size w w' := by
  obtain ⟨ap, kp, rfl, _⟩ := hp
  obtain ⟨ar, kr, rfl, _⟩ := hr
  by_cases h : x.params.length ≤ 4
  · have h' : (x.params.length : Int) ≤ 4 := by omega
    have H : Hid (smSg x = true) := hide (by simp [smSg, h])
    clear h
    go_enter Tryz.func67, Tryz.ntmps67
    go_wp2_with fail
    go_ret
    exact ⟨ret_bool (by simpa [h'] using H.out.symm), bel_one _ _⟩
  · have h' : ¬ (x.params.length : Int) ≤ 4 := by omega
    have H : Hid (smSg x = false) := hide (by simp [smSg, h])
    clear h
    go_enter Tryz.func67, Tryz.ntmps67
    go_wp2_with fail
    go_ret
    exact ⟨ret_bool (by simpa [h'] using H.out.symm), bel_one _ _⟩
theorem smallFunc_any (x : Fn) (vl vb : Value) (w : World) (hp : SInts w.heap.size w vl x.locals) (hr : SIns w.heap.size w vb x.body) :
    Calls Tryz.prog 69 #[.agg #[.int .i64 x.sig, .bool x.tr, vl, vb]] w fun e w' => e = .returned (.bool (smFn x)) ∧ Below w.heap.size w w' := by
  obtain ⟨ap, kp, rfl, _⟩ := hp
  obtain ⟨ar, kr, rfl, _⟩ := hr
  by_cases h : x.locals.length ≤ 8
  · have h' : (x.locals.length : Int) ≤ 8 := by omega
    by_cases g : x.body.length ≤ 200
    · have g' : (x.body.length : Int) ≤ 200 := by omega
      have H : Hid (smFn x = true) := hide (by simp [smFn, h, g])
      clear h g
      go_enter Tryz.func69, Tryz.ntmps69
      go_wp2_with fail
      go_ret
      exact ⟨ret_bool (by simpa [g'] using H.out.symm), bel_one _ _⟩
    · have g' : ¬ (x.body.length : Int) ≤ 200 := by omega
      have H : Hid (smFn x = false) := hide (by simp [smFn, g])
      clear h g
      go_enter Tryz.func69, Tryz.ntmps69
      go_wp2_with fail
      go_ret
      exact ⟨ret_bool (by simpa [g'] using H.out.symm), bel_one _ _⟩
  · have h' : ¬ (x.locals.length : Int) ≤ 8 := by omega
    have H : Hid (smFn x = false) := hide (by simp [smFn, h])
    clear h
    go_enter Tryz.func69, Tryz.ntmps69
    go_wp2_with fail
    go_ret
    exact ⟨ret_bool (by simpa [h'] using H.out.symm), bel_one _ _⟩
/-- A pure contract leaves all. -/
theorem pure_below {g : FuncId} {args : Array Value} {w : World} {r : Ending} (h : Calls Tryz.prog g args w fun e w' => e = r ∧ w' = w) : Calls Tryz.prog g args w fun e w' => e = r ∧ Below w.heap.size w w' :=
  h.mono fun _ _ ⟨a, b⟩ => ⟨a, b ▸ Below.refl _ _⟩
theorem ints_right (v : Value) (l : List Int) (r : Bool) (w : World) (hl : l.length ≤ 1000) (h : SInts w.heap.size w v l) (hr : l.all ri = r) :
    Calls Tryz.prog 70 #[v, .func (.func 10) #[] #[]] w fun e w' => e = .returned (.bool r) ∧ Below w.heap.size w w' := by
  rw [← hr]; exact all_int 10 ri v l w at108 hl h (fun x _ w hx => pure_below (right_any x w hx))
theorem ints_index (v : Value) (l : List Int) (r : Bool) (w : World) (hl : l.length ≤ 1000) (h : SInts w.heap.size w v l) (hr : l.all idx = r) :
    Calls Tryz.prog 70 #[v, .func (.func 73) #[] #[]] w fun e w' => e = .returned (.bool r) ∧ Below w.heap.size w w' := by
  rw [← hr]; exact all_int 73 idx v l w at81 hl h (fun x _ w hx => pure_below (index_any x w hx))
theorem ints_mem (v : Value) (l : List Int) (r : Bool) (w : World) (hl : l.length ≤ 1000) (h : SInts w.heap.size w v l) (hr : l.all smMem = r) :
    Calls Tryz.prog 70 #[v, .func (.func 71) #[] #[]] w fun e w' => e = .returned (.bool r) ∧ Below w.heap.size w w' := by
  rw [← hr]; exact all_int 71 smMem v l w at79 hl h (fun x _ w _ => pure_below (smallMem_any x w))
theorem index_is (n : Int) (r : Bool) (w : World) (hn : I64 n) (h : idx n = r) :
    Calls Tryz.prog 73 #[.int .i64 n] w fun e w' => e = .returned (.bool r) ∧ w' = w := by
  rw [← h]; exact index_any n w hn
theorem wide_is (t : Int) (r : Bool) (w : World) (ht : I64 t) (h : wi t = r) :
    Calls Tryz.prog 12 #[.int .i64 t] w fun e w' => e = .returned (.bool r) ∧ w' = w := by
  rw [← h]; exact wide_any t w ht
end Go.Proofs.YtamofhkmhjckaabGreatDoor
namespace Go.Proofs.YtamofhkmhjckaabGreatDoor
open Go.RowKit

def se (t : Int) : Bool := decide (t = 2) || decide (t = 3)
def ot (wide secret : Bool) : Int := (if wide then 1 else 0) + (if secret then 2 else 0)
def jn (a b : Int) : Int × Bool := if ri a = true ∧ ri b = true ∧ wi a = wi b then (ot (wi a) (se a || se b), true) else (0, false)
def fl (a b : Int) : Bool := ri a && ri b && (wi a == wi b) && (se b || !se a)

theorem se_no {t : Int} (h : ri t = false) : se t = false := by
  have := ri_no h; simp [se, this]

theorem or_ot (a b : Int) (ha : ri a = true) (hb : ri b = true) (hw : wi a = wi b) : bits .or .i64 a b = ot (wi a) (se a || se b) := by
  rcases (ri_iff a).mp ha with rfl | rfl | rfl | rfl <;> rcases (ri_iff b).mp hb with rfl | rfl | rfl | rfl <;>
    first | decide | (exact absurd hw (by decide))

theorem fl_jn (a b : Int) : fl a b = ((jn a b).2 && ((jn a b).1 == b)) := by
  cases ha : ri a
  · simp [fl, jn, ha]
  cases hb : ri b
  · simp [fl, jn, hb]
  rcases (ri_iff a).mp ha with rfl | rfl | rfl | rfl <;> rcases (ri_iff b).mp hb with rfl | rfl | rfl | rfl <;> decide
theorem jn_no {a b : Int} (h : (jn a b).2 = false) : jn a b = (0, false) := by
  simp only [jn] at h ⊢
  split
  · rename_i hc; rw [if_pos hc] at h; cases h
  · rfl

/-- the plain facts of P3.3 -/
theorem fl_types {a b : Int} (h : fl a b = true) : ri a = true ∧ ri b = true := by
  simp only [fl, Bool.and_eq_true] at h; exact ⟨h.1.1.1, h.1.1.2⟩
theorem fl_trans {a b c : Int} (h : fl a b = true) (h' : fl b c = true) : fl a c = true := by
  obtain ⟨ha, hb⟩ := fl_types h
  obtain ⟨_, hc⟩ := fl_types h'
  rcases (ri_iff a).mp ha with rfl | rfl | rfl | rfl <;> rcases (ri_iff b).mp hb with rfl | rfl | rfl | rfl <;>
    rcases (ri_iff c).mp hc with rfl | rfl | rfl | rfl <;> revert h h' <;> decide
theorem fl_se {a b : Int} (h : fl a b = true) (h' : se a = true) : se b = true := by
  obtain ⟨ha, hb⟩ := fl_types h
  rcases (ri_iff a).mp ha with rfl | rfl | rfl | rfl <;> rcases (ri_iff b).mp hb with rfl | rfl | rfl | rfl <;> revert h h' <;> decide
theorem fl_same {a b : Int} (h : fl a b = true) (h' : fl b a = true) : a = b := by
  obtain ⟨ha, hb⟩ := fl_types h
  rcases (ri_iff a).mp ha with rfl | rfl | rfl | rfl <;> rcases (ri_iff b).mp hb with rfl | rfl | rfl | rfl <;> revert h h' <;> decide
theorem fl_self (a : Int) : fl a a = ri a := by
  cases h : ri a
  · simp [fl, h]
  · rcases (ri_iff a).mp h with rfl | rfl | rfl | rfl <;> decide
theorem jn_least {a b c : Int} (ha : fl a c = true) (hb : fl b c = true) : (jn a b).2 = true ∧ fl (jn a b).1 c = true := by
  obtain ⟨h1, h2⟩ := fl_types ha
  obtain ⟨h3, _⟩ := fl_types hb
  rcases (ri_iff a).mp h1 with rfl | rfl | rfl | rfl <;> rcases (ri_iff b).mp h3 with rfl | rfl | rfl | rfl <;>
    rcases (ri_iff c).mp h2 with rfl | rfl | rfl | rfl <;> revert ha hb <;> decide
theorem jn_yes {a b : Int} (h : (jn a b).2 = true) : ri a = true ∧ ri b = true ∧ wi a = wi b ∧ (jn a b).1 = ot (wi a) (se a || se b) := by
  simp only [jn] at h ⊢
  split
  · rename_i hc; exact ⟨hc.1, hc.2.1, hc.2.2, rfl⟩
  · rename_i hc; rw [if_neg hc] at h; cases h
theorem jn_up {a b : Int} (h : (jn a b).2 = true) : fl a (jn a b).1 = true ∧ fl b (jn a b).1 = true ∧ jn b a = ((jn a b).1, true) := by
  obtain ⟨h1, h2, _, _⟩ := jn_yes h
  rcases (ri_iff a).mp h1 with rfl | rfl | rfl | rfl <;> rcases (ri_iff b).mp h2 with rfl | rfl | rfl | rfl <;> revert h <;> decide
theorem ot_tells (wide secret : Bool) : ri (ot wide secret) = true ∧ wi (ot wide secret) = wide ∧ se (ot wide secret) = secret := by
  cases wide <;> cases secret <;> decide
theorem ot_back {t : Int} (h : ri t = true) : ot (wi t) (se t) = t := by
  rcases (ri_iff t).mp h with rfl | rfl | rfl | rfl <;> decide
theorem ri_i64 {t : Int} (h : ri t = true) : I64 t := by
  rcases (ri_iff t).mp h with rfl | rfl | rfl | rfl <;> exact ⟨by decide, by decide⟩
theorem jn_i64 (a b : Int) : I64 (jn a b).1 := by
  cases h : (jn a b).2
  · rw [jn_no h]; exact ⟨by decide, by decide⟩
  · rw [(jn_yes h).2.2.2]; exact ri_i64 (ot_tells _ _).1

/-- a number and a yes or no, as the call hands them back -/
def pair (r : Int × Bool) : Ending := .returned (.tuple #[.int .i64 r.1, .bool r.2])

theorem secret_any (t : Int) (w : World) (ht : I64 t) :
    Calls Tryz.prog 86 #[.int .i64 t] w fun e w' => e = .returned (.bool (se t)) ∧ w' = w := by
  cases hr : ri t
  · have h := hide (se_no hr)
    have hr' := hide hr
    have ht' := hide ht
    clear ht hr
    go_enter Tryz.func86, Tryz.ntmps86
    go_wp2_with fail
    refine (right_is t false _ ht'.out hr'.out).mono ?_
    rintro e w1 ⟨rfl, rfl⟩
    go_wp2_with fail
    go_ret
    exact ⟨ret_bool h.out.symm, rfl⟩
  · rcases (ri_iff t).mp hr with rfl | rfl | rfl | rfl <;>
    · clear hr
      have ht' := hide ht
      clear ht
      go_enter Tryz.func86, Tryz.ntmps86
      go_wp2_with fail
      refine (right_is _ true _ ht'.out rfl).mono ?_
      rintro e w1 ⟨rfl, rfl⟩
      go_wp2_with fail
      go_ret
      exact ⟨ret_bool (by decide), rfl⟩
theorem secret_is (t : Int) (r : Bool) (w : World) (ht : I64 t) (h : se t = r) :
    Calls Tryz.prog 86 #[.int .i64 t] w fun e w' => e = .returned (.bool r) ∧ w' = w := by
  rw [← h]; exact secret_any t w ht

theorem of_any (wide secret : Bool) (w : World) :
    Calls Tryz.prog 93 #[.bool wide, .bool secret] w fun e w' => e = .returned (.int .i64 (ot wide secret)) ∧ w' = w := by
  cases wide <;> cases secret <;>
  · go_enter Tryz.func93, Tryz.ntmps93
    go_wp2
    go_ret
    exact ⟨ret_int (by decide), rfl⟩
theorem of_is (wide secret : Bool) (t : Int) (w : World) (h : ot wide secret = t) :
    Calls Tryz.prog 93 #[.bool wide, .bool secret] w fun e w' => e = .returned (.int .i64 t) ∧ w' = w := by
  rw [← h]; exact of_any wide secret w

theorem join_any (a b : Int) (w : World) (ha : I64 a) (hb : I64 b) :
    Calls Tryz.prog 19 #[.int .i64 a, .int .i64 b] w fun e w' => e = pair (jn a b) ∧ w' = w := by
  have ha' := hide ha
  have hb' := hide hb
  clear ha hb
  cases hra : ri a
  · rw [show jn a b = (0, false) by simp [jn, hra]]
    have hra' := hide hra
    clear hra
    go_enter Tryz.func19, Tryz.ntmps19
    go_wp2_with fail
    refine (right_is a false _ ha'.out hra'.out).mono ?_
    rintro e w1 ⟨rfl, rfl⟩
    go_wp2_with fail
    go_ret2
    exact ⟨rfl, rfl⟩
  cases hrb : ri b
  · rw [show jn a b = (0, false) by simp [jn, hrb]]
    have hra' := hide hra
    have hrb' := hide hrb
    clear hra hrb
    go_enter Tryz.func19, Tryz.ntmps19
    go_wp2_with fail
    refine (right_is a true _ ha'.out hra'.out).mono ?_
    rintro e w1 ⟨rfl, rfl⟩
    go_wp2_with fail
    refine (right_is b false _ hb'.out hrb'.out).mono ?_
    rintro e w1 ⟨rfl, rfl⟩
    go_wp2_with fail
    go_ret2
    exact ⟨rfl, rfl⟩
  by_cases hw : wi a = wi b
  · rw [show jn a b = (bits .or .i64 a b, true) by rw [or_ot a b hra hrb hw]; simp [jn, hra, hrb, hw]]
    have hra' := hide hra
    have hrb' := hide hrb
    have hw' := hide hw.symm
    clear hra hrb hw
    go_enter Tryz.func19, Tryz.ntmps19
    go_wp2_with fail
    refine (right_is a true _ ha'.out hra'.out).mono ?_
    rintro e w1 ⟨rfl, rfl⟩
    go_wp2_with fail
    refine (right_is b true _ hb'.out hrb'.out).mono ?_
    rintro e w1 ⟨rfl, rfl⟩
    go_wp2_with fail
    refine (wide_any a _ ha'.out).mono ?_
    rintro e w1 ⟨rfl, rfl⟩
    go_wp2_with fail
    refine (wide_is b (wi a) _ hb'.out hw'.out).mono ?_
    rintro e w1 ⟨rfl, rfl⟩
    go_wp2_with fail
    go_ret2
    exact ⟨rfl, rfl⟩
  · rw [show jn a b = (0, false) by simp [jn, hw]]
    obtain ⟨x, hx⟩ : ∃ x, wi a = x := ⟨_, rfl⟩
    have hy : wi b = !x := by rw [← hx]; cases h1 : wi a <;> cases h2 : wi b <;> simp_all
    have hra' := hide hra
    have hrb' := hide hrb
    have hx' := hide hx
    have hy' := hide hy
    clear hra hrb hw hx hy
    cases x <;>
    · go_enter Tryz.func19, Tryz.ntmps19
      go_wp2_with fail
      refine (right_is a true _ ha'.out hra'.out).mono ?_
      rintro e w1 ⟨rfl, rfl⟩
      go_wp2_with fail
      refine (right_is b true _ hb'.out hrb'.out).mono ?_
      rintro e w1 ⟨rfl, rfl⟩
      go_wp2_with fail
      refine (wide_is a _ _ ha'.out hx'.out).mono ?_
      rintro e w1 ⟨rfl, rfl⟩
      go_wp2_with fail
      refine (wide_is b _ _ hb'.out hy'.out).mono ?_
      rintro e w1 ⟨rfl, rfl⟩
      go_wp2_with fail
      go_ret2
      exact ⟨rfl, rfl⟩
theorem join_is (a b : Int) (j : Int) (ok : Bool) (w : World) (ha : I64 a) (hb : I64 b) (h : jn a b = (j, ok)) :
    Calls Tryz.prog 19 #[.int .i64 a, .int .i64 b] w fun e w' => e = .returned (.tuple #[.int .i64 j, .bool ok]) ∧ w' = w := by
  have := join_any a b w ha hb
  rw [h] at this; exact this

theorem flows_any (a b : Int) (w : World) (ha : I64 a) (hb : I64 b) :
    Calls Tryz.prog 11 #[.int .i64 a, .int .i64 b] w fun e w' => e = .returned (.bool (fl a b)) ∧ w' = w := by
  have ha' := hide ha
  have hb' := hide hb
  clear ha hb
  rw [fl_jn]
  obtain ⟨j, ok, hj⟩ : ∃ j ok, jn a b = (j, ok) := ⟨_, _, rfl⟩
  rw [hj]
  have hj' := hide hj
  clear hj
  cases ok <;>
  · go_enter Tryz.func11, Tryz.ntmps11
    go_wp2_with fail
    refine (join_is a b j _ _ ha'.out hb'.out hj'.out).mono ?_
    rintro e w1 ⟨rfl, rfl⟩
    go_wp2_with fail
    go_ret
    exact ⟨ret_bool (by simp), rfl⟩
theorem flows_is (a b : Int) (r : Bool) (w : World) (ha : I64 a) (hb : I64 b) (h : fl a b = r) :
    Calls Tryz.prog 11 #[.int .i64 a, .int .i64 b] w fun e w' => e = .returned (.bool r) ∧ w' = w := by
  rw [← h]; exact flows_any a b w ha hb

theorem k64 (n : Nat) (h : n ≤ 9 := by decide) : I64 (n : Int) := ⟨by omega, by omega⟩
end Go.Proofs.YtamofhkmhjckaabGreatDoor
namespace Go.Proofs.YtamofhkmhjckaabGreatDoor.Nest

/-- a span: where it begins, its Else, its End -/
structure Sp where
  b : Int
  e : Int
  d : Int
/-- what is known ahead of a place: the spans, those that are open (the innermost first), the most that were open, whether the body has ended, whether it is wrong -/
structure St where
  sp : List Sp
  op : List Nat
  deep : Nat
  ended : Bool
  wrong : Bool
def opn (x : Int) : Bool := x == 2 || x == 3 || x == 4
def St0 : St := ⟨[], [], 0, false, false⟩
def spAt (l : List Sp) (k : Nat) : Sp := l.getD k ⟨0, 0, 0⟩
def lacks (f : Nat → Int) (x : Sp) : Bool := f x.b.toNat == 4 && x.e == -1
def stp (f : Nat → Int) (i : Nat) (s : St) : St :=
  if s.wrong || s.ended then { s with wrong := true }
  else if opn (f i) then { s with sp := s.sp ++ [⟨i, -1, -1⟩], op := s.sp.length :: s.op, deep := max s.deep (s.op.length + 1) }
  else if f i = 5 then
    match s.op with
    | [] => { s with wrong := true }
    | k :: _ => if lacks f (spAt s.sp k) then { s with sp := s.sp.set k { spAt s.sp k with e := i } } else { s with wrong := true }
  else if f i = 11 then
    match s.op with
    | [] => { s with ended := true, sp := s.sp ++ [⟨-1, -1, i⟩] }
    | k :: r => { s with sp := s.sp.set k { spAt s.sp k with d := i }, op := r }
  else s
/-- those that are open around a place, the innermost first -/
def arL (f : Nat → Int) (i : Nat) (s : St) : List Nat :=
  if s.wrong || s.ended then []
  else if opn (f i) then s.op
  else if f i = 5 then
    match s.op with
    | [] => []
    | k :: r => if lacks f (spAt s.sp k) then r else []
  else if f i = 11 then s.op.tail
  else s.op
def run (f : Nat → Int) : Nat → St
  | 0 => St0
  | i + 1 => stp f i (run f i)
def er (f : Nat → Int) (n : Nat) : Int := if (run f n).wrong || !(run f n).ended then 3 else if 8 < (run f n).deep then 1 else 0

theorem stp_stop {f : Nat → Int} {i : Nat} {s : St} (h : s.wrong = true ∨ s.ended = true) : stp f i s = { s with wrong := true } := by
  rcases h with h | h <;> simp [stp, h]
theorem arL_stop {f : Nat → Int} {i : Nat} {s : St} (h : s.wrong = true ∨ s.ended = true) : arL f i s = [] := by
  rcases h with h | h <;> simp [arL, h]
theorem stp_open {f : Nat → Int} {i : Nat} {s : St} (hw : s.wrong = false) (he : s.ended = false) (h : opn (f i) = true) :
    stp f i s = { s with sp := s.sp ++ [⟨i, -1, -1⟩], op := s.sp.length :: s.op, deep := max s.deep (s.op.length + 1) } := by simp [stp, hw, he, h]
theorem arL_open {f : Nat → Int} {i : Nat} {s : St} (hw : s.wrong = false) (he : s.ended = false) (h : opn (f i) = true) : arL f i s = s.op := by simp [arL, hw, he, h]
theorem opn5 : opn 5 = false := by decide
theorem opn11 : opn 11 = false := by decide
theorem stp_else0 {f : Nat → Int} {i : Nat} {s : St} (hw : s.wrong = false) (he : s.ended = false) (h : f i = 5) (ho : s.op = []) : stp f i s = { s with wrong := true } := by
  simp [stp, hw, he, h, opn5, ho]
theorem arL_else0 {f : Nat → Int} {i : Nat} {s : St} (hw : s.wrong = false) (he : s.ended = false) (h : f i = 5) (ho : s.op = []) : arL f i s = [] := by
  simp [arL, hw, he, h, opn5, ho]
theorem stp_elseN {f : Nat → Int} {i : Nat} {s : St} {k : Nat} {r : List Nat} (hw : s.wrong = false) (he : s.ended = false) (h : f i = 5) (ho : s.op = k :: r) (hl : lacks f (spAt s.sp k) = false) : stp f i s = { s with wrong := true } := by
  simp [stp, hw, he, h, opn5, ho, hl]
theorem arL_elseN {f : Nat → Int} {i : Nat} {s : St} {k : Nat} {r : List Nat} (hw : s.wrong = false) (he : s.ended = false) (h : f i = 5) (ho : s.op = k :: r) (hl : lacks f (spAt s.sp k) = false) : arL f i s = [] := by
  simp [arL, hw, he, h, opn5, ho, hl]
theorem stp_elseY {f : Nat → Int} {i : Nat} {s : St} {k : Nat} {r : List Nat} (hw : s.wrong = false) (he : s.ended = false) (h : f i = 5) (ho : s.op = k :: r) (hl : lacks f (spAt s.sp k) = true) : stp f i s = { s with sp := s.sp.set k { spAt s.sp k with e := i } } := by
  simp [stp, hw, he, h, opn5, ho, hl]
theorem arL_elseY {f : Nat → Int} {i : Nat} {s : St} {k : Nat} {r : List Nat} (hw : s.wrong = false) (he : s.ended = false) (h : f i = 5) (ho : s.op = k :: r) (hl : lacks f (spAt s.sp k) = true) : arL f i s = r := by
  simp [arL, hw, he, h, opn5, ho, hl]
theorem stp_end0 {f : Nat → Int} {i : Nat} {s : St} (hw : s.wrong = false) (he : s.ended = false) (h : f i = 11) (ho : s.op = []) : stp f i s = { s with ended := true, sp := s.sp ++ [⟨-1, -1, i⟩] } := by
  simp [stp, hw, he, h, opn11, ho]
theorem arL_end0 {f : Nat → Int} {i : Nat} {s : St} (hw : s.wrong = false) (he : s.ended = false) (h : f i = 11) (ho : s.op = []) : arL f i s = [] := by
  simp [arL, hw, he, h, opn11, ho]
theorem stp_endY {f : Nat → Int} {i : Nat} {s : St} {k : Nat} {r : List Nat} (hw : s.wrong = false) (he : s.ended = false) (h : f i = 11) (ho : s.op = k :: r) : stp f i s = { s with sp := s.sp.set k { spAt s.sp k with d := i }, op := r } := by
  simp [stp, hw, he, h, opn11, ho]
theorem arL_endY {f : Nat → Int} {i : Nat} {s : St} {k : Nat} {r : List Nat} (hw : s.wrong = false) (he : s.ended = false) (h : f i = 11) (ho : s.op = k :: r) : arL f i s = r := by
  simp [arL, hw, he, h, opn11, ho]
theorem stp_other {f : Nat → Int} {i : Nat} {s : St} (hw : s.wrong = false) (he : s.ended = false) (h0 : opn (f i) = false) (h1 : f i ≠ 5) (h2 : f i ≠ 11) : stp f i s = s := by
  simp [stp, hw, he, h0, h1, h2]
theorem arL_other {f : Nat → Int} {i : Nat} {s : St} (hw : s.wrong = false) (he : s.ended = false) (h0 : opn (f i) = false) (h1 : f i ≠ 5) (h2 : f i ≠ 11) : arL f i s = s.op := by
  simp [arL, hw, he, h0, h1, h2]
/-- the ways of a step -/
inductive Way (f : Nat → Int) (i : Nat) (s : St) : Prop
  | stop (h : s.wrong = true ∨ s.ended = true)
  | opens (hw : s.wrong = false) (he : s.ended = false) (h : opn (f i) = true)
  | else0 (hw : s.wrong = false) (he : s.ended = false) (h : f i = 5) (ho : s.op = [])
  | elseN (k : Nat) (r : List Nat) (hw : s.wrong = false) (he : s.ended = false) (h : f i = 5) (ho : s.op = k :: r) (hl : lacks f (spAt s.sp k) = false)
  | elseY (k : Nat) (r : List Nat) (hw : s.wrong = false) (he : s.ended = false) (h : f i = 5) (ho : s.op = k :: r) (hl : lacks f (spAt s.sp k) = true)
  | end0 (hw : s.wrong = false) (he : s.ended = false) (h : f i = 11) (ho : s.op = [])
  | endY (k : Nat) (r : List Nat) (hw : s.wrong = false) (he : s.ended = false) (h : f i = 11) (ho : s.op = k :: r)
  | other (hw : s.wrong = false) (he : s.ended = false) (h0 : opn (f i) = false) (h1 : f i ≠ 5) (h2 : f i ≠ 11)
theorem way (f : Nat → Int) (i : Nat) (s : St) : Way f i s := by
  cases hw : s.wrong with
  | true => exact .stop (.inl hw)
  | false =>
    cases he : s.ended with
    | true => exact .stop (.inr he)
    | false =>
      cases h : opn (f i) with
      | true => exact .opens hw he h
      | false =>
        by_cases h1 : f i = 5
        · cases ho : s.op with
          | nil => exact .else0 hw he h1 ho
          | cons k r =>
            cases hl : lacks f (spAt s.sp k) with
            | true => exact .elseY k r hw he h1 ho hl
            | false => exact .elseN k r hw he h1 ho hl
        · by_cases h2 : f i = 11
          · cases ho : s.op with
            | nil => exact .end0 hw he h2 ho
            | cons k r => exact .endY k r hw he h2 ho
          · exact .other hw he h h1 h2

/-! what is wrong stays wrong -/
theorem wrong_step {f : Nat → Int} {i : Nat} (h : (run f i).wrong = true) : (run f (i + 1)).wrong = true := by
  show (stp f i (run f i)).wrong = true
  rw [stp_stop (.inl h)]
theorem wrong_on {f : Nat → Int} {i j : Nat} (h : (run f i).wrong = true) (hij : i ≤ j) : (run f j).wrong = true := by
  induction hij with
  | refl => exact h
  | step _ ih => exact wrong_step ih
theorem ended_on {f : Nat → Int} {i j : Nat} (h : (run f i).ended = true) (hij : i < j) : (run f j).wrong = true := by
  refine wrong_on (i := i + 1) ?_ hij
  show (stp f i (run f i)).wrong = true
  rw [stp_stop (.inr h)]
theorem right_back {f : Nat → Int} {i j : Nat} (h : (run f j).wrong = false) (hij : i ≤ j) : (run f i).wrong = false := by
  cases hc : (run f i).wrong with
  | false => rfl
  | true => rw [wrong_on hc hij] at h; cases h
theorem open_back {f : Nat → Int} {i j : Nat} (h : (run f j).wrong = false) (hij : i < j) : (run f i).ended = false := by
  cases hc : (run f i).ended with
  | false => rfl
  | true => rw [ended_on hc hij] at h; cases h

/-! lists of spans -/
theorem spAt_lt (l : List Sp) (x : Sp) {k : Nat} (h : k < l.length) : spAt (l ++ [x]) k = spAt l k := by simp [spAt, List.getElem?_append_left h]
theorem spAt_new (l : List Sp) (x : Sp) : spAt (l ++ [x]) l.length = x := by simp [spAt]
theorem spAt_set (l : List Sp) (x : Sp) {k : Nat} (h : k < l.length) : spAt (l.set k x) k = x := by simp [spAt, h]
theorem spAt_ne (l : List Sp) (x : Sp) {k j : Nat} (h : k ≠ j) : spAt (l.set k x) j = spAt l j := by simp [spAt, List.getElem?_set_ne h]

/-- what holds of the spans ahead of place i, as long as the body is neither wrong nor ended -/
structure WF (f : Nat → Int) (i : Nat) (s : St) : Prop where
  beg : ∀ k, k < s.sp.length → ∃ m : Nat, (spAt s.sp k).b = m ∧ m < i ∧ opn (f m) = true
  inc : ∀ j k, j < k → k < s.sp.length → (spAt s.sp j).b < (spAt s.sp k).b
  desc : s.op.Pairwise (· > ·)
  mem : ∀ k, k ∈ s.op ↔ k < s.sp.length ∧ (spAt s.sp k).d = -1
  fin : ∀ k, k < s.sp.length → (spAt s.sp k).d = -1 ∨ ∃ m : Nat, (spAt s.sp k).d = m ∧ (spAt s.sp k).b < m ∧ m < i ∧ f m = 11
  els : ∀ k, k < s.sp.length → (spAt s.sp k).e = -1 ∨ ∃ m : Nat, (spAt s.sp k).e = m ∧ (spAt s.sp k).b < m ∧ m < i ∧ ((spAt s.sp k).d = -1 ∨ (m : Int) < (spAt s.sp k).d)
  nest : ∀ j k, j < k → k < s.sp.length → (spAt s.sp j).d ≠ -1 → (spAt s.sp j).d < (spAt s.sp k).b ∨ ((spAt s.sp k).d ≠ -1 ∧ (spAt s.sp k).d < (spAt s.sp j).d)
  opb : s.op.length ≤ s.deep
theorem WF.start (f : Nat → Int) : WF f 0 St0 := by
  refine ⟨?_, ?_, ?_, ?_, ?_, ?_, ?_, ?_⟩ <;> simp [St0]
theorem WF.later {f : Nat → Int} {i : Nat} {s : St} (h : WF f i s) : WF f (i + 1) s :=
  ⟨fun k hk => by obtain ⟨m, a, b, c⟩ := h.beg k hk; exact ⟨m, a, by omega, c⟩, h.inc, h.desc, h.mem,
    fun k hk => by
      rcases h.fin k hk with a | ⟨m, a, b, c, d⟩
      · exact .inl a
      · exact .inr ⟨m, a, b, by omega, d⟩,
    fun k hk => by
      rcases h.els k hk with a | ⟨m, a, b, c, d⟩
      · exact .inl a
      · exact .inr ⟨m, a, b, by omega, d⟩, h.nest, h.opb⟩
theorem WF.opens {f : Nat → Int} {i : Nat} {s : St} (h : WF f i s) (ho : opn (f i) = true) :
    WF f (i + 1) { s with sp := s.sp ++ [⟨i, -1, -1⟩], op := s.sp.length :: s.op, deep := max s.deep (s.op.length + 1) } := by
  have h' := h.later
  have split : ∀ k, k < (s.sp ++ [(⟨i, -1, -1⟩ : Sp)]).length → k < s.sp.length ∨ k = s.sp.length := by intro k hk; simp at hk; omega
  refine ⟨?_, ?_, ?_, ?_, ?_, ?_, ?_, ?_⟩
  · intro k hk
    rcases split k hk with hk | rfl
    · rw [spAt_lt _ _ hk]; exact h'.beg k hk
    · rw [spAt_new]; exact ⟨i, rfl, by omega, ho⟩
  · intro j k hjk hk
    rcases split k hk with hk | rfl
    · rw [spAt_lt _ _ hk, spAt_lt _ _ (by omega)]; exact h.inc j k hjk hk
    · rw [spAt_new, spAt_lt _ _ hjk]
      obtain ⟨m, a, b, _⟩ := h.beg j hjk
      rw [a]; show (m : Int) < i; omega
  · refine List.Pairwise.cons ?_ h.desc
    intro k hk
    exact ((h.mem k).1 hk).1
  · intro k
    show k ∈ s.sp.length :: s.op ↔ _
    rw [List.mem_cons, h.mem]
    constructor
    · rintro (rfl | ⟨a, b⟩)
      · exact ⟨by simp, by rw [spAt_new]⟩
      · exact ⟨by simp; omega, by rw [spAt_lt _ _ a]; exact b⟩
    · rintro ⟨a, b⟩
      rcases split k a with hk | rfl
      · rw [spAt_lt _ _ hk] at b; exact .inr ⟨hk, b⟩
      · exact .inl rfl
  · intro k hk
    rcases split k hk with hk | rfl
    · rw [spAt_lt _ _ hk]; exact h'.fin k hk
    · rw [spAt_new]; exact .inl rfl
  · intro k hk
    rcases split k hk with hk | rfl
    · rw [spAt_lt _ _ hk]; exact h'.els k hk
    · rw [spAt_new]; exact .inl rfl
  · intro j k hjk hk
    rcases split k hk with hk | rfl
    · rw [spAt_lt _ _ hk, spAt_lt _ _ (by omega)]; exact h.nest j k hjk hk
    · rw [spAt_new, spAt_lt _ _ hjk]
      intro hd
      rcases h.fin j hjk with a | ⟨m, a, b, c, _⟩
      · exact absurd a hd
      · refine .inl ?_
        rw [a]; show (m : Int) < i; omega
  · show (s.sp.length :: s.op).length ≤ max s.deep (s.op.length + 1)
    simp; omega
theorem WF.elseY {f : Nat → Int} {i : Nat} {s : St} {k : Nat} {r : List Nat} (h : WF f i s) (ho : s.op = k :: r) :
    WF f (i + 1) { s with sp := s.sp.set k { spAt s.sp k with e := i } } := by
  have h' := h.later
  have hk := (h.mem k).1 (by rw [ho]; simp)
  have eqb : ∀ j, (spAt (s.sp.set k { spAt s.sp k with e := i }) j).b = (spAt s.sp j).b := by
    intro j
    by_cases hj : k = j
    · subst hj; rw [spAt_set _ _ hk.1]
    · rw [spAt_ne _ _ hj]
  have eqd : ∀ j, (spAt (s.sp.set k { spAt s.sp k with e := i }) j).d = (spAt s.sp j).d := by
    intro j
    by_cases hj : k = j
    · subst hj; rw [spAt_set _ _ hk.1]
    · rw [spAt_ne _ _ hj]
  have hlen : (s.sp.set k { spAt s.sp k with e := i }).length = s.sp.length := by simp
  refine ⟨?_, ?_, h.desc, ?_, ?_, ?_, ?_, h.opb⟩
  · intro j hj; rw [eqb]; exact h'.beg j (by rw [← hlen]; exact hj)
  · intro j m hjm hm; rw [eqb, eqb]; exact h.inc j m hjm (by rw [← hlen]; exact hm)
  · intro j; rw [eqd, hlen]; exact h.mem j
  · intro j hj; rw [eqd, eqb]; exact h'.fin j (by rw [← hlen]; exact hj)
  · intro j hj
    by_cases hkj : k = j
    · subst hkj
      obtain ⟨m, a, b, _⟩ := h.beg k hk.1
      rw [eqd, eqb, spAt_set _ _ hk.1]
      exact .inr ⟨i, rfl, by rw [a]; omega, by omega, .inl hk.2⟩
    · rw [spAt_ne _ _ hkj]; exact h'.els j (by rw [← hlen]; exact hj)
  · intro j m hjm hm; rw [eqb, eqd, eqd]; exact h.nest j m hjm (by rw [← hlen]; exact hm)
theorem WF.endY {f : Nat → Int} {i : Nat} {s : St} {k : Nat} {r : List Nat} (h : WF f i s) (hf : f i = 11) (ho : s.op = k :: r) :
    WF f (i + 1) { s with sp := s.sp.set k { spAt s.sp k with d := i }, op := r } := by
  have h' := h.later
  have hk := (h.mem k).1 (by rw [ho]; simp)
  have hd := h.desc
  rw [ho] at hd
  obtain ⟨hgt, hr⟩ := List.pairwise_cons.1 hd
  have eqb : ∀ j, (spAt (s.sp.set k { spAt s.sp k with d := i }) j).b = (spAt s.sp j).b := by
    intro j
    by_cases hj : k = j
    · subst hj; rw [spAt_set _ _ hk.1]
    · rw [spAt_ne _ _ hj]
  have eqe : ∀ j, (spAt (s.sp.set k { spAt s.sp k with d := i }) j).e = (spAt s.sp j).e := by
    intro j
    by_cases hj : k = j
    · subst hj; rw [spAt_set _ _ hk.1]
    · rw [spAt_ne _ _ hj]
  have hlen : (s.sp.set k { spAt s.sp k with d := i }).length = s.sp.length := by simp
  obtain ⟨mb, hb1, hb2, _⟩ := h.beg k hk.1
  refine ⟨?_, ?_, hr, ?_, ?_, ?_, ?_, ?_⟩
  · intro j hj; rw [eqb]; exact h'.beg j (by rw [← hlen]; exact hj)
  · intro j m hjm hm; rw [eqb, eqb]; exact h.inc j m hjm (by rw [← hlen]; exact hm)
  · intro j
    show j ∈ r ↔ _
    rw [hlen]
    have hm := h.mem j
    rw [ho, List.mem_cons] at hm
    by_cases hkj : k = j
    · subst hkj
      rw [spAt_set _ _ hk.1]
      constructor
      · intro hj; exact absurd (hgt k hj) (by omega)
      · rintro ⟨_, hj⟩; exact absurd hj (by show (i : Int) ≠ -1; omega)
    · rw [spAt_ne _ _ hkj, ← hm]
      constructor
      · exact .inr
      · rintro (rfl | hj)
        · exact absurd rfl hkj
        · exact hj
  · intro j hj
    rw [eqb]
    by_cases hkj : k = j
    · subst hkj
      rw [spAt_set _ _ hk.1]
      exact .inr ⟨i, rfl, by rw [hb1]; omega, by omega, hf⟩
    · rw [spAt_ne _ _ hkj]; exact h'.fin j (by rw [← hlen]; exact hj)
  · intro j hj
    rw [eqe, eqb]
    by_cases hkj : k = j
    · subst hkj
      rw [spAt_set _ _ hk.1]
      rcases h.els k hk.1 with a | ⟨m, a, b, c, _⟩
      · exact .inl a
      · exact .inr ⟨m, a, b, by omega, .inr (by show (m : Int) < i; omega)⟩
    · rw [spAt_ne _ _ hkj]; exact h'.els j (by rw [← hlen]; exact hj)
  · intro j m hjm hm hne
    rw [hlen] at hm
    rw [eqb]
    by_cases hkj : k = j
    · subst hkj
      rw [spAt_set _ _ hk.1, spAt_ne _ _ (by omega)]
      have hnm : m ∉ s.op := by
        rw [ho, List.mem_cons]
        rintro (e | e)
        · omega
        · exact absurd (hgt m e) (by omega)
      rcases h.fin m hm with a | ⟨x, a, b, c, _⟩
      · exact absurd ((h.mem m).2 ⟨hm, a⟩) hnm
      · refine .inr ⟨by omega, ?_⟩
        rw [a]; show (x : Int) < i; omega
    · rw [spAt_ne _ _ hkj] at hne ⊢
      by_cases hkm : k = m
      · subst hkm
        rcases h.nest j k hjm hm hne with a | ⟨a, _⟩
        · exact .inl a
        · exact absurd hk.2 a
      · rw [spAt_ne _ _ hkm]; exact h.nest j m hjm hm hne
  · show r.length ≤ s.deep
    have := h.opb
    rw [ho] at this
    simp at this
    omega
theorem wf_run (f : Nat → Int) : ∀ i, (run f i).wrong = false → (run f i).ended = false → WF f i (run f i)
  | 0, _, _ => WF.start f
  | i + 1, hw, he => by
    have hw' := right_back hw (Nat.le_succ i)
    have he' := open_back hw (Nat.lt_succ_self i)
    have h := wf_run f i hw' he'
    show WF f (i + 1) (stp f i (run f i))
    have hw2 : (stp f i (run f i)).wrong = false := hw
    have he2 : (stp f i (run f i)).ended = false := he
    cases way f i (run f i) with
    | stop h0 => rcases h0 with h0 | h0 <;> simp_all
    | opens _ _ h1 => rw [stp_open hw' he' h1]; exact h.opens h1
    | else0 _ _ h1 ho => rw [stp_else0 hw' he' h1 ho] at hw2; cases hw2
    | elseN k r _ _ h1 ho hl => rw [stp_elseN hw' he' h1 ho hl] at hw2; cases hw2
    | elseY k r _ _ h1 ho hl => rw [stp_elseY hw' he' h1 ho hl]; exact h.elseY ho
    | end0 _ _ h1 ho => rw [stp_end0 hw' he' h1 ho] at he2; cases he2
    | endY k r _ _ h1 ho => rw [stp_endY hw' he' h1 ho]; exact h.endY h1 ho
    | other _ _ h0 h1 h2 => rw [stp_other hw' he' h0 h1 h2]; exact h.later

/-- how a nested body ends -/
theorem fin_run {f : Nat → Int} {n : Nat} (hw : (run f n).wrong = false) (he : (run f n).ended = true) :
    ∃ m, n = m + 1 ∧ (run f m).wrong = false ∧ (run f m).ended = false ∧ (run f m).op = [] ∧ f m = 11 ∧ WF f m (run f m) ∧ (run f n).sp = (run f m).sp ++ [⟨-1, -1, m⟩] ∧ (run f n).deep = (run f m).deep := by
  cases n with
  | zero => simp [run, St0] at he
  | succ m =>
    have hw' := right_back hw (Nat.le_succ m)
    have he' := open_back hw (Nat.lt_succ_self m)
    have hwf := wf_run f m hw' he'
    have e : run f (m + 1) = stp f m (run f m) := rfl
    rw [e] at hw he ⊢
    cases way f m (run f m) with
    | stop h0 => rcases h0 with h0 | h0 <;> simp_all
    | opens _ _ h1 => rw [stp_open hw' he' h1] at he; simp [he'] at he
    | else0 _ _ h1 ho => rw [stp_else0 hw' he' h1 ho] at hw; cases hw
    | elseN k r _ _ h1 ho hl => rw [stp_elseN hw' he' h1 ho hl] at hw; cases hw
    | elseY k r _ _ h1 ho hl => rw [stp_elseY hw' he' h1 ho hl] at he; simp [he'] at he
    | end0 _ _ h1 ho => exact ⟨m, rfl, hw', he', ho, h1, hwf, by rw [stp_end0 hw' he' h1 ho], by rw [stp_end0 hw' he' h1 ho]⟩
    | endY k r _ _ h1 ho => rw [stp_endY hw' he' h1 ho] at he; simp [he'] at he
    | other _ _ h0 h1 h2 => rw [stp_other hw' he' h0 h1 h2] at he; simp [he'] at he

/-- a span holds a place, as far as is known -/
def hol (x : Sp) (at' : Nat) : Prop := x.b < at' ∧ (x.d = -1 ∨ (at' : Int) < x.d) ∧ (at' : Int) ≠ x.e
theorem arL_desc {f : Nat → Int} {i : Nat} {s : St} (h : WF f i s) : (arL f i s).Pairwise (· > ·) := by
  have hd := h.desc
  cases way f i s with
  | stop h0 => rw [arL_stop h0]; exact .nil
  | opens hw he h1 => rw [arL_open hw he h1]; exact hd
  | else0 hw he h1 ho => rw [arL_else0 hw he h1 ho]; exact .nil
  | elseN k r hw he h1 ho hl => rw [arL_elseN hw he h1 ho hl]; exact .nil
  | elseY k r hw he h1 ho hl => rw [arL_elseY hw he h1 ho hl]; rw [ho] at hd; exact (List.pairwise_cons.1 hd).2
  | end0 hw he h1 ho => rw [arL_end0 hw he h1 ho]; exact .nil
  | endY k r hw he h1 ho => rw [arL_endY hw he h1 ho]; rw [ho] at hd; exact (List.pairwise_cons.1 hd).2
  | other hw he h0 h1 h2 => rw [arL_other hw he h0 h1 h2]; exact hd
/-- those in whose middle a place stands, at the place itself -/
theorem hol_now {f : Nat → Int} {i : Nat} {s : St} (h : WF f i s) {k : Nat} (hk : k < s.sp.length) : hol (spAt s.sp k) i ↔ k ∈ s.op := by
  obtain ⟨m, hb, hm, _⟩ := h.beg k hk
  rw [h.mem]
  unfold hol
  rw [hb]
  constructor
  · rintro ⟨_, hd, _⟩
    refine ⟨hk, ?_⟩
    rcases h.fin k hk with a | ⟨x, a, _, c, _⟩
    · exact a
    · rcases hd with e | e
      · exact e
      · rw [a] at e; omega
  · rintro ⟨_, hd⟩
    refine ⟨by omega, .inl hd, ?_⟩
    rcases h.els k hk with a | ⟨x, a, _, c, _⟩
    · rw [a]; omega
    · rw [a]; omega
/-- behind the place's own step -/
theorem hol_step {f : Nat → Int} {i : Nat} (hw : (run f (i + 1)).wrong = false) (he : (run f (i + 1)).ended = false) {k : Nat} :
    (k < (run f (i + 1)).sp.length ∧ hol (spAt (run f (i + 1)).sp k) i) ↔ k ∈ arL f i (run f i) := by
  have hw' := right_back hw (Nat.le_succ i)
  have he' := open_back hw (Nat.lt_succ_self i)
  have h := wf_run f i hw' he'
  have e : run f (i + 1) = stp f i (run f i) := rfl
  rw [e] at hw he ⊢
  have inop : ∀ k, k ∈ (run f i).op → k < (run f i).sp.length := fun k hk => ((h.mem k).1 hk).1
  cases way f i (run f i) with
  | stop h0 => rcases h0 with h0 | h0 <;> simp_all
  | opens _ _ h1 =>
    rw [stp_open hw' he' h1, arL_open hw' he' h1]
    constructor
    · rintro ⟨hk, hh⟩
      simp at hk
      rcases Nat.lt_or_ge k (run f i).sp.length with hl | hl
      · rw [spAt_lt _ _ hl] at hh
        exact (hol_now h hl).1 hh
      · obtain rfl : k = (run f i).sp.length := by omega
        rw [spAt_new] at hh
        have := hh.1
        simp at this
    · intro hk
      have hl := inop k hk
      exact ⟨by simp; omega, by rw [spAt_lt _ _ hl]; exact (hol_now h hl).2 hk⟩
  | else0 _ _ h1 ho => rw [stp_else0 hw' he' h1 ho] at hw; cases hw
  | elseN k r _ _ h1 ho hl => rw [stp_elseN hw' he' h1 ho hl] at hw; cases hw
  | elseY j r _ _ h1 ho hl =>
    rw [stp_elseY hw' he' h1 ho hl, arL_elseY hw' he' h1 ho hl]
    have hj := inop j (by rw [ho]; simp)
    have hd := h.desc
    rw [ho] at hd
    obtain ⟨hgt, _⟩ := List.pairwise_cons.1 hd
    by_cases hjk : j = k
    · subst hjk
      rw [spAt_set _ _ hj]
      constructor
      · rintro ⟨_, hh⟩; exact absurd rfl hh.2.2
      · intro hk; exact absurd (hgt j hk) (by omega)
    · rw [spAt_ne _ _ hjk]
      simp only [List.length_set]
      constructor
      · rintro ⟨hk, hh⟩
        have := (hol_now h hk).1 hh
        rw [ho, List.mem_cons] at this
        rcases this with e | e
        · exact absurd e.symm hjk
        · exact e
      · intro hk
        have hk' : k ∈ (run f i).op := by rw [ho]; simp [hk]
        exact ⟨inop k hk', (hol_now h (inop k hk')).2 hk'⟩
  | end0 _ _ h1 ho => rw [stp_end0 hw' he' h1 ho] at he; cases he
  | endY j r _ _ h1 ho =>
    rw [stp_endY hw' he' h1 ho, arL_endY hw' he' h1 ho]
    have hj := inop j (by rw [ho]; simp)
    have hd := h.desc
    rw [ho] at hd
    obtain ⟨hgt, _⟩ := List.pairwise_cons.1 hd
    by_cases hjk : j = k
    · subst hjk
      rw [spAt_set _ _ hj]
      constructor
      · rintro ⟨_, hh⟩
        rcases hh.2.1 with e | e
        · simp at e
        · simp at e
      · intro hk; exact absurd (hgt j hk) (by omega)
    · rw [spAt_ne _ _ hjk]
      simp only [List.length_set]
      constructor
      · rintro ⟨hk, hh⟩
        have := (hol_now h hk).1 hh
        rw [ho, List.mem_cons] at this
        rcases this with e | e
        · exact absurd e.symm hjk
        · exact e
      · intro hk
        have hk' : k ∈ (run f i).op := by rw [ho]; simp [hk]
        exact ⟨inop k hk', (hol_now h (inop k hk')).2 hk'⟩
  | other _ _ h0 h1 h2 =>
    rw [stp_other hw' he' h0 h1 h2, arL_other hw' he' h0 h1 h2]
    constructor
    · rintro ⟨hk, hh⟩; exact (hol_now h hk).1 hh
    · intro hk; exact ⟨inop k hk, (hol_now h (inop k hk)).2 hk⟩
/-- and ever after -/
theorem hol_on {f : Nat → Int} {p i : Nat} (hpi : p < i) : (run f i).wrong = false → (run f i).ended = false → ∀ k,
    ((k < (run f i).sp.length ∧ hol (spAt (run f i).sp k) p) ↔ k ∈ arL f p (run f p)) := by
  induction i with
  | zero => omega
  | succ i ih =>
    intro hw he k
    rcases Nat.lt_or_ge p i with hp | hp
    · have hw' := right_back hw (Nat.le_succ i)
      have he' := open_back hw (Nat.lt_succ_self i)
      have h := wf_run f i hw' he'
      rw [← ih hp hw' he' k]
      have e : run f (i + 1) = stp f i (run f i) := rfl
      rw [e] at hw he ⊢
      cases way f i (run f i) with
      | stop h0 => rcases h0 with h0 | h0 <;> simp_all
      | opens _ _ h1 =>
        rw [stp_open hw' he' h1]
        constructor
        · rintro ⟨hk, hh⟩
          simp at hk
          rcases Nat.lt_or_ge k (run f i).sp.length with hl | hl
          · rw [spAt_lt _ _ hl] at hh
            exact ⟨hl, hh⟩
          · obtain rfl : k = (run f i).sp.length := by omega
            rw [spAt_new] at hh
            have := hh.1
            simp at this
            omega
        · rintro ⟨hl, hh⟩
          exact ⟨by simp; omega, by rw [spAt_lt _ _ hl]; exact hh⟩
      | else0 _ _ h1 ho => rw [stp_else0 hw' he' h1 ho] at hw; cases hw
      | elseN k r _ _ h1 ho hl => rw [stp_elseN hw' he' h1 ho hl] at hw; cases hw
      | elseY j r _ _ h1 ho hl =>
        rw [stp_elseY hw' he' h1 ho hl]
        have hj := ((h.mem j).1 (by rw [ho]; simp)).1
        simp only [List.length_set]
        by_cases hjk : j = k
        · subst hjk
          rw [spAt_set _ _ hj]
          have hl2 : (spAt (run f i).sp j).e = -1 := by
            have := hl
            simp [lacks] at this
            exact this.2
          simp only [hol, hl2]
          constructor
          · rintro ⟨a, b, c, d⟩; exact ⟨a, b, c, by omega⟩
          · rintro ⟨a, b, c, d⟩; exact ⟨a, b, c, by omega⟩
        · rw [spAt_ne _ _ hjk]
      | end0 _ _ h1 ho => rw [stp_end0 hw' he' h1 ho] at he; cases he
      | endY j r _ _ h1 ho =>
        rw [stp_endY hw' he' h1 ho]
        have hj := (h.mem j).1 (by rw [ho]; simp)
        simp only [List.length_set]
        by_cases hjk : j = k
        · subst hjk
          rw [spAt_set _ _ hj.1]
          simp only [hol, hj.2]
          constructor
          · rintro ⟨a, b, c, d⟩; exact ⟨a, b, by simp, d⟩
          · rintro ⟨a, b, c, d⟩; exact ⟨a, b, .inr (by omega), d⟩
        · rw [spAt_ne _ _ hjk]
      | other _ _ h0 h1 h2 => rw [stp_other hw' he' h0 h1 h2]
    · obtain rfl : p = i := by omega
      exact hol_step hw he
/-- of a nested body: those in whose middle a place stands -/
theorem around_iff {f : Nat → Int} {n p : Nat} (hw : (run f n).wrong = false) (he : (run f n).ended = true) (hp : p < n) (k : Nat) :
    (k + 1 < (run f n).sp.length ∧ (spAt (run f n).sp k).b < p ∧ (p : Int) < (spAt (run f n).sp k).d ∧ (p : Int) ≠ (spAt (run f n).sp k).e) ↔ k ∈ arL f p (run f p) := by
  obtain ⟨m, rfl, hw', he', hop, hf, hwf, hsp, _⟩ := fin_run hw he
  rw [hsp]
  have hcl : ∀ k, k < (run f m).sp.length → (spAt (run f m).sp k).d ≠ -1 := by
    intro k hk hd
    have := (hwf.mem k).2 ⟨hk, hd⟩
    rw [hop] at this; cases this
  rcases Nat.lt_or_ge p m with hpm | hpm
  · rw [← hol_on hpm hw' he' k]
    constructor
    · rintro ⟨hk, a, b, c⟩
      have hk' : k < (run f m).sp.length := by simpa using hk
      rw [spAt_lt _ _ hk'] at a b c
      exact ⟨hk', a, .inr b, c⟩
    · rintro ⟨hk, a, b, c⟩
      rw [spAt_lt _ _ hk]
      refine ⟨by simpa using hk, a, ?_, c⟩
      rcases b with b | b
      · exact absurd b (hcl k hk)
      · exact b
  · obtain rfl : p = m := by omega
    rw [arL_end0 hw' he' hf hop]
    constructor
    · rintro ⟨hk, a, b, c⟩
      have hk' : k < (run f p).sp.length := by simpa using hk
      rw [spAt_lt _ _ hk'] at a b c
      rcases hwf.fin k hk' with e | ⟨x, e, _, hx, _⟩
      · exact absurd e (hcl k hk')
      · rw [e] at b; omega
    · intro h; cases h
theorem arL_desc' {f : Nat → Int} {n p : Nat} (hw : (run f n).wrong = false) (hp : p < n) : (arL f p (run f p)).Pairwise (· > ·) :=
  arL_desc (wf_run f p (right_back hw (by omega)) (open_back hw hp))
end Go.Proofs.YtamofhkmhjckaabGreatDoor.Nest
namespace Go.Proofs.YtamofhkmhjckaabGreatDoor

structure Fm where
  op : Int
  br : List Int
  base : Nat
  dead : Bool
/-- the stack of types, the uppermost first; the frames, the one begun last first -/
structure Wk where
  st : List Int
  fr : List Fm
/-- what stays the same in a body: the module, whether the function is trusted, the types of its locals -/
structure Cx where
  M : Mo
  tr : Bool
  L : List Int

def bnd {α β : Type} (r : Except Int α) (f : α → Except Int β) : Except Int β := match r with
  | .error c => .error c
  | .ok a => f a
theorem bnd_ok {α β : Type} (a : α) (f : α → Except Int β) : bnd (.ok a) f = f a := rfl
theorem bnd_err {α β : Type} (c : Int) (f : α → Except Int β) : bnd (.error c) f = .error c := rfl
theorem bnd_yes {α β : Type} {r : Except Int α} {f : α → Except Int β} {b : β} (h : bnd r f = .ok b) : ∃ a, r = .ok a ∧ f a = .ok b := by
  cases r with
  | error c => cases h
  | ok a => exact ⟨a, rfl, h⟩

def popW (s : Wk) : Except Int (Int × Wk) := match s.fr with
  | [] => .error 3
  | f :: _ => if s.st.length ≤ f.base then (if f.dead then .ok (-1, s) else .error 3)
    else match s.st with
      | [] => .error 3
      | t :: l => .ok (t, ⟨l, s.fr⟩)
def oneW (to : Int) (s : Wk) : Except Int (Bool × Wk) := bnd (popW s) fun p => if p.1 = -1 ∨ fl p.1 to = true then .ok (se p.1, p.2) else .error 3
/-- pops what flows to each of the types, the first one of the list first -/
def popF : List Int → Bool → Wk → Except Int (Bool × Wk)
  | [], b, s => .ok (b, s)
  | to :: r, b, s => bnd (oneW to s) fun p => popF r (b || p.1) p.2
def popTo (l : List Int) (s : Wk) : Except Int (Bool × Wk) := popF l.reverse false s
def pushL (l : List Int) (s : Wk) : Except Int Wk := if 16 < s.st.length + l.length then .error 1 else .ok ⟨l.reverse ++ s.st, s.fr⟩
def dieW (s : Wk) : Wk := match s.fr with
  | [] => s
  | f :: r => ⟨s.st.drop (s.st.length - f.base), ⟨f.op, f.br, f.base, true⟩ :: r⟩
def brM (m : Int) : List Int := if m = 0 then [] else [m - 1]
def openW (x : In) (s : Wk) : Wk := ⟨s.st, ⟨x.op, brM x.m, s.st.length, false⟩ :: s.fr⟩
def fillW (s : Wk) : Except Int Wk := match s.fr with
  | [] => .error 3
  | f :: _ => bnd (popTo f.br s) fun p => if p.2.st.length = f.base then .ok p.2 else .error 3
def turnW (s : Wk) : Except Int Wk := bnd (fillW s) fun s' => match s'.fr with
  | [] => .error 3
  | f :: r => .ok ⟨s'.st, ⟨5, f.br, f.base, false⟩ :: r⟩
def closeW (s : Wk) : Except Int Wk := bnd (fillW s) fun s' => match s'.fr with
  | [] => .error 3
  | f :: r => if f.op = 4 ∧ f.br.length ≠ 0 then .error 3 else pushL f.br ⟨s'.st, r⟩
def takes (f : Fm) : List Int := if f.op = 3 then [] else f.br
def tgtW (n : Int) (s : Wk) : Except Int Fm := match s.fr[n.toNat]? with
  | some f => .ok f
  | none => .error 3
def fm0 : Fm := ⟨0, [], 0, false⟩
def bottom (s : Wk) : Fm := s.fr.getLastD fm0
def brW (n : Int) (s : Wk) : Except Int Wk := bnd (tgtW n s) fun f => bnd (popTo (takes f) s) fun p => .ok (dieW p.2)
def brIfW (n : Int) (s : Wk) : Except Int Wk := bnd (popTo [0] s) fun q => bnd (tgtW n q.2) fun f => bnd (popTo (takes f) q.2) fun p => pushL (takes f) p.2
def retW (s : Wk) : Except Int Wk := bnd (popTo (bottom s).br s) fun p => .ok (dieW p.2)
/-- what Call n calls: its signature, whether it is a host function, whether a trusted one -/
def callee (M : Mo) (n : Int) : Option (Sg × Bool × Bool) :=
  if n < 0 ∨ (M.imports.length + M.funcs.length : Int) ≤ n then none
  else if n < M.imports.length then (M.sigs[(M.imports.getD n.toNat 0).toNat]?).bind fun s => if 0 ≤ M.imports.getD n.toNat 0 then some (s, true, false) else none
  else (M.funcs[n.toNat - M.imports.length]?).bind fun f => (M.sigs[f.sig.toNat]?).bind fun s => if 0 ≤ f.sig then some (s, false, f.tr) else none
def callW (C : Cx) (n : Int) (s : Wk) : Except Int Wk := match callee C.M n with
  | none => .error 3
  | some (g, _, t) => if t = true ∧ C.tr = false then .error 3 else bnd (popTo g.params s) fun p => pushL g.results p.2
def joinW (lower upper : Int) : Except Int Int :=
  if upper = -1 then .ok lower else if lower = -1 then .ok upper else if (jn lower upper).2 then .ok (jn lower upper).1 else .error 3
def relab (t : Int) (b : Bool) : Int := if t = -1 then -1 else ot (wi t) b
def chooseW (s : Wk) : Except Int Wk := bnd (popW s) fun p => if wi p.1 = true then .error 3 else bnd (popW p.2) fun q => bnd (popW q.2) fun r => bnd (joinW r.1 q.1) fun t => pushL [if se p.1 = true then relab t true else t] r.2
def locW (C : Cx) (n : Int) : Except Int Int := match C.L[n.toNat]? with
  | some t => .ok t
  | none => .error 3
def gloW (C : Cx) (n : Int) : Except Int Int := match C.M.globals[n.toNat]? with
  | some g => .ok g.t
  | none => .error 3
def memOf (M : Mo) (k : Int) : Int := if k = 0 then M.m0 else M.m1
def loadW (C : Cx) (wide : Bool) (m : Int) (s : Wk) : Except Int Wk := if memOf C.M m = 0 then .error 3 else bnd (popTo [0] s) fun p => pushL [ot wide (decide (m = 1))] p.2
def storeW (C : Cx) (wide : Bool) (m : Int) (s : Wk) : Except Int Wk := if memOf C.M m = 0 then .error 3 else bnd (popTo [0, ot wide (decide (m = 1))] s) fun p => .ok p.2
def divs (op : Int) : Bool := decide (109 ≤ op ∧ op ≤ 112) || decide (127 ≤ op ∧ op ≤ 130)
/-- pops k values that flow to a type -/
def popN : Nat → Int → Bool → Wk → Except Int (Bool × Wk)
  | 0, _, b, s => .ok (b, s)
  | k + 1, t, b, s => bnd (popTo [t] s) fun p => popN k t (b || p.1) p.2
def reckW (op : Int) (s : Wk) : Except Int Wk :=
  bnd (popN (ar op).1.toNat (ot (decide ((ar op).2.1 = 1)) (!divs op)) false s) fun p => pushL [ot (decide ((ar op).2.2.1 = 1)) p.1] p.2
def insW (C : Cx) (x : In) (s : Wk) : Except Int Wk :=
  if x.op = 1 then .ok s
  else if x.op = 0 then .ok (dieW s)
  else if x.op = 4 then bnd (popTo [0] s) fun p => .ok (openW x p.2)
  else if x.op = 2 ∨ x.op = 3 then .ok (openW x s)
  else if x.op = 5 then turnW s
  else if x.op = 11 then closeW s
  else if x.op = 12 then brW x.n s
  else if x.op = 13 then brIfW x.n s
  else if x.op = 15 then retW s
  else if x.op = 16 then callW C x.n s
  else if x.op = 26 then bnd (popW s) fun p => .ok p.2
  else if x.op = 27 then chooseW s
  else if x.op = 32 then bnd (locW C x.n) fun t => pushL [t] s
  else if x.op = 33 then bnd (locW C x.n) fun t => bnd (popTo [t] s) fun p => .ok p.2
  else if x.op = 34 then bnd (locW C x.n) fun t => bnd (popTo [t] s) fun p => pushL [t] p.2
  else if x.op = 35 then bnd (gloW C x.n) fun t => pushL [t] s
  else if x.op = 36 then bnd (gloW C x.n) fun t => bnd (popTo [t] s) fun p => .ok p.2
  else if x.op = 40 then loadW C false x.m s
  else if x.op = 41 then loadW C true x.m s
  else if x.op = 54 then storeW C false x.m s
  else if x.op = 55 then storeW C true x.m s
  else if x.op = 65 then pushL [0] s
  else if x.op = 66 then pushL [1] s
  else if x.op = 240 then bnd (popW s) fun p => pushL [relab p.1 true] p.2
  else if x.op = 241 then (if C.tr = true then bnd (popW s) fun p => pushL [relab p.1 false] p.2 else .error 3)
  else reckW x.op s
def hgt (s : Wk) : Int := if s.fr.any (fun f => f.dead) then -1 else s.st.length
/-- the heights ahead of each instruction; or the error and its place -/
def bodyW (C : Cx) : List In → Int → Wk → Except (Int × Int) (List Int)
  | [], _, _ => .ok []
  | x :: r, i, s => match insW C x s with
    | .error c => .error (c, i)
    | .ok s' => match bodyW C r (i + 1) s' with
      | .error e => .error e
      | .ok l => .ok (hgt s :: l)
def begW (results : List Int) : Wk := ⟨[], [⟨2, results, 0, false⟩]⟩
def opsF (l : List In) (j : Nat) : Int := (l.map In.op).getD j 0
def sg0 : Sg := ⟨[], []⟩
def cxOf (M : Mo) (f : Fn) : Cx := ⟨M, f.tr, (M.sigs.getD f.sig.toNat sg0).params ++ f.locals⟩
def funW (M : Mo) (k : Nat) (f : Fn) : Except (Int × Int) (List Int) :=
  if Nest.er (opsF f.body) f.body.length ≠ 0 then .error (Nest.er (opsF f.body) f.body.length, 1000 * k)
  else bodyW (cxOf M f) f.body (1000 * k) (begW (M.sigs.getD f.sig.toNat sg0).results)
def funsW (M : Mo) : Nat → List Fn → Except (Int × Int) (List (List Int))
  | _, [] => .ok []
  | k, f :: r => match funW M k f with
    | .error e => .error e
    | .ok h => match funsW M (k + 1) r with
      | .error e => .error e
      | .ok l => .ok (h :: l)
def sigsOk (M : Mo) : Bool := M.imports.all (fun k => decide (k < M.sigs.length)) && M.funcs.all (fun f => decide (f.sig < M.sigs.length))
def dataOk (M : Mo) : Bool := M.data.all (fun d => decide (memOf M d.mem ≠ 0) && decide (d.pos + d.bytes.length ≤ 2 ^ (memOf M d.mem).toNat))
def fitM (M : Mo) : Int := if small M then (if whole M then 0 else 4) else 1
def chkM (M : Mo) : Except (Int × Int) (List (List Int)) :=
  if fitM M = 1 then .error (1, 0)
  else if fitM M ≠ 0 then .error (3, 0)
  else if sigsOk M = false then .error (3, 0)
  else if dataOk M = false then .error (3, 0)
  else funsW M 0 M.funcs

/-! what is kept -/
def ty (t : Int) : Prop := -1 ≤ t ∧ t ≤ 3
def ty0 (t : Int) : Prop := 0 ≤ t ∧ t ≤ 3
theorem ty0.ty {t : Int} (h : ty0 t) : ty t := ⟨by have := h.1; omega, h.2⟩
theorem ty.i64 {t : Int} (h : ty t) : I64 t := ⟨by have := h.1; omega, by have := h.2; omega⟩
theorem ty_of_ri {t : Int} (h : ri t = true) : ty0 t := by rcases (ri_iff t).mp h with rfl | rfl | rfl | rfl <;> exact ⟨by decide, by decide⟩
theorem ri_of_ty {t : Int} (h : ty0 t) : ri t = true := by
  rw [ri_iff]; obtain ⟨h1, h2⟩ := h; omega
theorem ty0_ot (a b : Bool) : ty0 (ot a b) := by cases a <;> cases b <;> exact ⟨by decide, by decide⟩
theorem ty_relab {t : Int} (b : Bool) : ty (relab t b) := by
  unfold relab; split
  · exact ⟨by decide, by decide⟩
  · exact (ty0_ot _ _).ty
def Mono : Nat → List Fm → Prop
  | _, [] => True
  | h, f :: r => f.base ≤ h ∧ Mono f.base r
theorem Mono.up {h h' : Nat} {l : List Fm} (m : Mono h l) (hh : h ≤ h') : Mono h' l := by
  cases l with
  | nil => trivial
  | cons f r => exact ⟨Nat.le_trans m.1 hh, m.2⟩
structure WF (s : Wk) : Prop where
  mono : Mono s.st.length s.fr
  small : s.st.length ≤ 16
  st : ∀ t ∈ s.st, ty t
  br : ∀ f ∈ s.fr, f.br.length ≤ 1 ∧ ∀ t ∈ f.br, ty0 t
/-- what Fits tells of a body's surroundings -/
structure CxOk (C : Cx) : Prop where
  L : ∀ t ∈ C.L, ty0 t
  sg : ∀ g ∈ C.M.sigs, g.params.length ≤ 4 ∧ g.results.length ≤ 1 ∧ (∀ t ∈ g.params, ty0 t) ∧ ∀ t ∈ g.results, ty0 t
  gl : ∀ g ∈ C.M.globals, ty0 g.t
/-- a value popped, and what is left -/
theorem popW_ok {s s' : Wk} {t : Int} (w : WF s) (h : popW s = .ok (t, s')) : WF s' ∧ ty t ∧ s'.fr = s.fr ∧ s'.st.length ≤ s.st.length := by
  unfold popW at h
  split at h
  · cases h
  · rename_i f r hf
    split at h
    · split at h
      · cases h; exact ⟨w, ⟨by decide, by decide⟩, rfl, Nat.le_refl _⟩
      · cases h
    · rename_i hb
      split at h
      · cases h
      · rename_i u l hl
        cases h
        have hs := w.small
        refine ⟨⟨?_, ?_, ?_, w.br⟩, w.st _ (by rw [hl]; simp), rfl, ?_⟩
        · show Mono l.length s.fr
          have m := w.mono
          rw [hf] at m ⊢
          rw [hl] at hb
          simp only [List.length_cons] at hb
          exact ⟨by omega, m.2⟩
        · show l.length ≤ 16
          rw [hl] at hs; simp at hs; omega
        · intro t ht; exact w.st t (by rw [hl]; exact List.mem_cons_of_mem _ ht)
        · show l.length ≤ s.st.length
          rw [hl]; simp
theorem oneW_ok {s s' : Wk} {to : Int} {b : Bool} (w : WF s) (h : oneW to s = .ok (b, s')) : WF s' ∧ s'.fr = s.fr ∧ s'.st.length ≤ s.st.length := by
  obtain ⟨⟨t, s1⟩, h1, h2⟩ := bnd_yes h
  obtain ⟨w1, _, e, l⟩ := popW_ok w h1
  simp only at h2
  split at h2
  · cases h2; exact ⟨w1, e, l⟩
  · cases h2
theorem popF_ok : ∀ (l : List Int) (b b' : Bool) {s s' : Wk}, WF s → popF l b s = .ok (b', s') → WF s' ∧ s'.fr = s.fr ∧ s'.st.length ≤ s.st.length
  | [], b, b', s, s', w, h => by cases h; exact ⟨w, rfl, Nat.le_refl _⟩
  | to :: r, b, b', s, s', w, h => by
    obtain ⟨⟨b1, s1⟩, h1, h2⟩ := bnd_yes h
    obtain ⟨w1, e1, l1⟩ := oneW_ok w h1
    obtain ⟨w2, e2, l2⟩ := popF_ok r _ _ w1 h2
    exact ⟨w2, e2.trans e1, Nat.le_trans l2 l1⟩
theorem popTo_ok {l : List Int} {b : Bool} {s s' : Wk} (w : WF s) (h : popTo l s = .ok (b, s')) : WF s' ∧ s'.fr = s.fr ∧ s'.st.length ≤ s.st.length := popF_ok _ _ _ w h
theorem popN_ok : ∀ (k : Nat) (t : Int) (b b' : Bool) {s s' : Wk}, WF s → popN k t b s = .ok (b', s') → WF s' ∧ s'.fr = s.fr ∧ s'.st.length ≤ s.st.length
  | 0, _, b, b', s, s', w, h => by cases h; exact ⟨w, rfl, Nat.le_refl _⟩
  | k + 1, t, b, b', s, s', w, h => by
    obtain ⟨⟨b1, s1⟩, h1, h2⟩ := bnd_yes h
    obtain ⟨w1, e1, l1⟩ := popTo_ok w h1
    obtain ⟨w2, e2, l2⟩ := popN_ok k t _ _ w1 h2
    exact ⟨w2, e2.trans e1, Nat.le_trans l2 l1⟩
theorem pushL_ok {l : List Int} {s s' : Wk} (w : WF s) (hl : ∀ t ∈ l, ty t) (h : pushL l s = .ok s') : WF s' ∧ s'.fr = s.fr := by
  unfold pushL at h
  split at h
  · cases h
  · cases h
    refine ⟨⟨?_, ?_, ?_, w.br⟩, rfl⟩
    · exact w.mono.up (by simp)
    · simp; omega
    · intro t ht
      rcases List.mem_append.1 ht with h | h
      · exact hl t (List.mem_reverse.1 h)
      · exact w.st t h
theorem dieW_ok {s : Wk} (w : WF s) : WF (dieW s) ∧ (dieW s).fr.length = s.fr.length := by
  unfold dieW
  split
  · exact ⟨w, rfl⟩
  · rename_i f r hf
    have m := w.mono
    have hb := w.br
    rw [hf] at m hb
    refine ⟨⟨⟨?_, m.2⟩, ?_, ?_, ?_⟩, by rw [hf]; rfl⟩
    · show f.base ≤ (s.st.drop (s.st.length - f.base)).length
      have := m.1
      rw [List.length_drop]; omega
    · show (s.st.drop _).length ≤ 16
      have := w.small
      rw [List.length_drop]; omega
    · intro t ht; exact w.st t (List.mem_of_mem_drop ht)
    · intro g hg
      rcases List.mem_cons.1 hg with rfl | hg
      · exact hb f (List.mem_cons_self ..)
      · exact hb g (List.mem_cons_of_mem _ hg)
theorem die_len {s : Wk} {f : Fm} {r : List Fm} (w : WF s) (h : s.fr = f :: r) : (dieW s).st.length = f.base := by
  have m := w.mono
  rw [h] at m
  have := m.1
  simp only [dieW, h, List.length_drop]; omega
end Go.Proofs.YtamofhkmhjckaabGreatDoor
namespace Go.Proofs.YtamofhkmhjckaabGreatDoor

theorem tgt_mem {n : Int} {s : Wk} {f : Fm} (h : tgtW n s = .ok f) : f ∈ s.fr := by
  unfold tgtW at h
  split at h
  · rename_i hx; cases h; exact List.mem_of_getElem? hx
  · cases h
theorem takes_ty {f : Fm} {s : Wk} (hw : WF s) (hf : f ∈ s.fr) : ∀ t ∈ takes f, ty0 t := by
  obtain ⟨_, h2⟩ := hw.br f hf
  unfold takes
  split
  · simp
  · exact h2
theorem cal_mem {M : Mo} {n : Int} {G : Sg} {host tr : Bool} (h : callee M n = some (G, host, tr)) : G ∈ M.sigs := by
  unfold callee at h
  split at h
  · cases h
  · split at h
    · obtain ⟨g, h1, h2⟩ := Option.bind_eq_some_iff.1 h
      split at h2
      · cases h2; exact List.mem_of_getElem? h1
      · cases h2
    · obtain ⟨f, _, h2⟩ := Option.bind_eq_some_iff.1 h
      obtain ⟨g, h3, h4⟩ := Option.bind_eq_some_iff.1 h2
      split at h4
      · cases h4; exact List.mem_of_getElem? h3
      · cases h4
theorem loc_ty {C : Cx} (hC : CxOk C) {n t : Int} (h : locW C n = .ok t) : ty0 t := by
  unfold locW at h
  split at h
  · rename_i hx; cases h; exact hC.L _ (List.mem_of_getElem? hx)
  · cases h
theorem glo_ty {C : Cx} (hC : CxOk C) {n t : Int} (h : gloW C n = .ok t) : ty0 t := by
  unfold gloW at h
  split at h
  · rename_i hx; cases h; exact hC.gl _ (List.mem_of_getElem? hx)
  · cases h
theorem joi_ty {lo up t : Int} (h : joinW lo up = .ok t) (hl : ty lo) (hu : ty up) : ty t := by
  unfold joinW at h
  split at h
  · cases h; exact hl
  · split at h
    · cases h; exact hu
    · split at h
      · rename_i hj; cases h; rw [(jn_yes hj).2.2.2]; exact (ty0_ot _ _).ty
      · cases h
theorem push_l {l : List Int} {s s' : Wk} (w : WF s) (hl : ∀ t ∈ l, ty t) (h : pushL l s = .ok s') : WF s' ∧ s'.fr.length = s.fr.length := by
  obtain ⟨a, b⟩ := pushL_ok w hl h; exact ⟨a, by rw [b]⟩
theorem fill_ok {s s' : Wk} (hw : WF s) (h : fillW s = .ok s') : WF s' ∧ s'.fr = s.fr ∧ ∀ f r, s'.fr = f :: r → s'.st.length = f.base := by
  unfold fillW at h
  split at h
  · cases h
  · rename_i f r hf
    obtain ⟨⟨b, s1⟩, h1, h2⟩ := bnd_yes h
    obtain ⟨w1, e1, _⟩ := popTo_ok hw h1
    simp only at h2
    split at h2
    · rename_i hl
      cases h2
      refine ⟨w1, e1, fun f' r' hf' => ?_⟩
      rw [e1, hf] at hf'
      cases hf'; exact hl
    · cases h2
theorem turn_ok {s s' : Wk} (hw : WF s) (h : turnW s = .ok s') : WF s' ∧ s'.fr.length = s.fr.length := by
  obtain ⟨s1, h1, h2⟩ := bnd_yes h
  obtain ⟨w1, e1, _⟩ := fill_ok hw h1
  split at h2
  · cases h2
  · rename_i f r hf
    cases h2
    have m := w1.mono
    have hb := w1.br
    rw [hf] at m hb
    refine ⟨⟨⟨m.1, m.2⟩, w1.small, w1.st, fun g hg => ?_⟩, by rw [← e1, hf]; rfl⟩
    rcases List.mem_cons.1 hg with rfl | hg
    · exact hb f (List.mem_cons_self ..)
    · exact hb g (List.mem_cons_of_mem _ hg)
theorem close_ok {s s' : Wk} (hw : WF s) (h : closeW s = .ok s') : WF s' ∧ s'.fr.length + 1 = s.fr.length := by
  obtain ⟨s1, h1, h2⟩ := bnd_yes h
  obtain ⟨w1, e1, hl⟩ := fill_ok hw h1
  split at h2
  · cases h2
  · rename_i f r hf
    split at h2
    · cases h2
    · have m := w1.mono
      have hb := w1.br
      rw [hf] at m hb
      have wc : WF ⟨s1.st, r⟩ := ⟨by show Mono s1.st.length r; rw [hl f r hf]; exact m.2, w1.small, w1.st, fun g hg => hb g (List.mem_cons_of_mem _ hg)⟩
      obtain ⟨a, b⟩ := push_l wc (fun t ht => ((hb f (List.mem_cons_self ..)).2 t ht).ty) h2
      refine ⟨a, ?_⟩
      rw [b, ← e1, hf]; rfl
theorem open_ok {s : Wk} (hw : WF s) (x : In) (hx : 0 ≤ x.m ∧ x.m ≤ 4) : WF (openW x s) ∧ (openW x s).fr.length = s.fr.length + 1 := by
  refine ⟨⟨⟨Nat.le_refl _, hw.mono⟩, hw.small, hw.st, fun f hf => ?_⟩, rfl⟩
  rcases List.mem_cons.1 hf with rfl | hf
  · show (brM x.m).length ≤ 1 ∧ ∀ t ∈ brM x.m, ty0 t
    unfold brM
    split
    · simp
    · rename_i h0
      refine ⟨by simp, fun t ht => ?_⟩
      simp at ht
      subst ht
      exact ⟨by omega, by omega⟩
  · exact hw.br f hf
theorem bt_rt {x : In} (hx : rtI x = true) (h : x.op = 2 ∨ x.op = 3 ∨ x.op = 4) : 0 ≤ x.m ∧ x.m ≤ 4 := by
  have k : kd x.op = 2 := by rcases h with h | h | h <;> rw [h] <;> rfl
  unfold rtI rt at hx
  rw [k] at hx
  simp at hx
  exact hx.2
theorem ite_or {p : Prop} [Decidable p] {α : Type} {a b x : α} (h : (if p then a else b) = x) : (p ∧ a = x) ∨ (¬p ∧ b = x) := by
  by_cases hp : p
  · rw [if_pos hp] at h; exact .inl ⟨hp, h⟩
  · rw [if_neg hp] at h; exact .inr ⟨hp, h⟩
/-- what an instruction leaves -/
theorem ins_ok {C : Cx} (hC : CxOk C) {x : In} (hx : rtI x = true) {s s' : Wk} (hw : WF s) (h : insW C x s = .ok s') : WF s' ∧ (s'.fr.length : Int) = nxt s.fr.length x.op := by
  have pt : ∀ {l b s1 s2}, WF s1 → popTo l s1 = .ok (b, s2) → WF s2 ∧ s2.fr.length = s1.fr.length := fun w h => by
    obtain ⟨a, e, _⟩ := popTo_ok w h; exact ⟨a, by rw [e]⟩
  have pp : ∀ {t s1 s2}, WF s1 → popW s1 = .ok (t, s2) → WF s2 ∧ ty t ∧ s2.fr.length = s1.fr.length := fun w h => by
    obtain ⟨a, b, e, _⟩ := popW_ok w h; exact ⟨a, b, by rw [e]⟩
  have p1 : ∀ {t s1 s2}, WF s1 → ty t → pushL [t] s1 = .ok s2 → WF s2 ∧ s2.fr.length = s1.fr.length := fun w ht h => push_l w (by simpa using ht) h
  delta insW at h
  have no : (x.op ≠ 2 ∧ x.op ≠ 3 ∧ x.op ≠ 4 ∧ x.op ≠ 11) → nxt (s.fr.length : Int) x.op = s.fr.length := fun h => by
    unfold nxt; rw [if_neg (by omega), if_neg (by omega)]
  have fin : WF s' ∧ s'.fr.length = s.fr.length → (x.op ≠ 2 ∧ x.op ≠ 3 ∧ x.op ≠ 4 ∧ x.op ≠ 11) → WF s' ∧ (s'.fr.length : Int) = nxt s.fr.length x.op := fun ⟨a, b⟩ h => ⟨a, by rw [no h, b]⟩
  show WF s' ∧ (s'.fr.length : Int) = nxt s.fr.length x.op
  rcases ite_or h with ⟨e, h⟩ | ⟨e, h⟩
  · cases h; exact fin ⟨hw, rfl⟩ (by omega)
  rcases ite_or h with ⟨e, h⟩ | ⟨e, h⟩
  · cases h; exact fin (dieW_ok hw) (by omega)
  rcases ite_or h with ⟨e, h⟩ | ⟨e, h⟩
  · obtain ⟨⟨b, s1⟩, h1, h2⟩ := bnd_yes h
    cases h2
    obtain ⟨w1, l1⟩ := pt hw h1
    obtain ⟨a, l⟩ := open_ok w1 x (bt_rt hx (by omega))
    refine ⟨a, ?_⟩
    show ((openW x s1).fr.length : Int) = _
    rw [l, l1, nxt, if_pos (by omega)]; rfl
  rcases ite_or h with ⟨e, h⟩ | ⟨e, h⟩
  · cases h
    obtain ⟨a, l⟩ := open_ok hw x (bt_rt hx (by omega))
    refine ⟨a, ?_⟩
    rw [l, nxt, if_pos (by omega)]; rfl
  rcases ite_or h with ⟨e, h⟩ | ⟨e, h⟩
  · exact fin (turn_ok hw h) (by omega)
  rcases ite_or h with ⟨e, h⟩ | ⟨e, h⟩
  · obtain ⟨a, l⟩ := close_ok hw h
    refine ⟨a, ?_⟩
    rw [nxt, if_neg (by omega), if_pos e]; omega
  rcases ite_or h with ⟨e, h⟩ | ⟨e, h⟩
  · obtain ⟨f, h1, h2⟩ := bnd_yes h
    obtain ⟨⟨b, s1⟩, h3, h4⟩ := bnd_yes h2
    cases h4
    obtain ⟨w1, l1⟩ := pt hw h3
    obtain ⟨a, l⟩ := dieW_ok w1
    exact fin ⟨a, l.trans l1⟩ (by omega)
  rcases ite_or h with ⟨e, h⟩ | ⟨e, h⟩
  · obtain ⟨⟨b, s1⟩, h1, h2⟩ := bnd_yes h
    obtain ⟨w1, l1⟩ := pt hw h1
    obtain ⟨f, h3, h4⟩ := bnd_yes h2
    obtain ⟨⟨b2, s2⟩, h5, h6⟩ := bnd_yes h4
    obtain ⟨w2, l2⟩ := pt w1 h5
    obtain ⟨a, l⟩ := push_l w2 (fun t ht => (takes_ty w1 (tgt_mem h3) t ht).ty) h6
    exact fin ⟨a, l.trans (l2.trans l1)⟩ (by omega)
  rcases ite_or h with ⟨e, h⟩ | ⟨e, h⟩
  · obtain ⟨⟨b, s1⟩, h1, h2⟩ := bnd_yes h
    cases h2
    obtain ⟨w1, l1⟩ := pt hw h1
    obtain ⟨a, l⟩ := dieW_ok w1
    exact fin ⟨a, l.trans l1⟩ (by omega)
  rcases ite_or h with ⟨e, h⟩ | ⟨e, h⟩
  · unfold callW at h
    split at h
    · cases h
    · rename_i g hst t hc
      split at h
      · cases h
      · obtain ⟨⟨b, s1⟩, h1, h2⟩ := bnd_yes h
        obtain ⟨w1, l1⟩ := pt hw h1
        obtain ⟨a, l⟩ := push_l w1 (fun t ht => ((hC.sg _ (cal_mem hc)).2.2.2 t ht).ty) h2
        exact fin ⟨a, l.trans l1⟩ (by omega)
  rcases ite_or h with ⟨e, h⟩ | ⟨e, h⟩
  · obtain ⟨⟨t, s1⟩, h1, h2⟩ := bnd_yes h
    cases h2
    obtain ⟨w1, _, l1⟩ := pp hw h1
    exact fin ⟨w1, l1⟩ (by omega)
  rcases ite_or h with ⟨e, h⟩ | ⟨e, h⟩
  · obtain ⟨⟨t1, s1⟩, h1, h2⟩ := bnd_yes h
    obtain ⟨w1, y1, l1⟩ := pp hw h1
    simp only at h2
    split at h2
    · cases h2
    · obtain ⟨⟨t2, s2⟩, h3, h4⟩ := bnd_yes h2
      obtain ⟨w2, y2, l2⟩ := pp w1 h3
      obtain ⟨⟨t3, s3⟩, h5, h6⟩ := bnd_yes h4
      obtain ⟨w3, y3, l3⟩ := pp w2 h5
      obtain ⟨t, h7, h8⟩ := bnd_yes h6
      have yt := joi_ty h7 y3 y2
      obtain ⟨a, l⟩ := p1 w3 (by split; exact ty_relab true; exact yt) h8
      exact fin ⟨a, by omega⟩ (by omega)
  rcases ite_or h with ⟨e, h⟩ | ⟨e, h⟩
  · obtain ⟨t, h1, h2⟩ := bnd_yes h
    exact fin (p1 hw (loc_ty hC h1).ty h2) (by omega)
  rcases ite_or h with ⟨e, h⟩ | ⟨e, h⟩
  · obtain ⟨t, h1, h2⟩ := bnd_yes h
    obtain ⟨⟨b, s1⟩, h3, h4⟩ := bnd_yes h2
    cases h4
    exact fin (pt hw h3) (by omega)
  rcases ite_or h with ⟨e, h⟩ | ⟨e, h⟩
  · obtain ⟨t, h1, h2⟩ := bnd_yes h
    obtain ⟨⟨b, s1⟩, h3, h4⟩ := bnd_yes h2
    obtain ⟨w1, l1⟩ := pt hw h3
    obtain ⟨a, l⟩ := p1 w1 (loc_ty hC h1).ty h4
    exact fin ⟨a, l.trans l1⟩ (by omega)
  rcases ite_or h with ⟨e, h⟩ | ⟨e, h⟩
  · obtain ⟨t, h1, h2⟩ := bnd_yes h
    exact fin (p1 hw (glo_ty hC h1).ty h2) (by omega)
  rcases ite_or h with ⟨e, h⟩ | ⟨e, h⟩
  · obtain ⟨t, h1, h2⟩ := bnd_yes h
    obtain ⟨⟨b, s1⟩, h3, h4⟩ := bnd_yes h2
    cases h4
    exact fin (pt hw h3) (by omega)
  have ld : ∀ {wd}, loadW C wd x.m s = .ok s' → WF s' ∧ s'.fr.length = s.fr.length := fun h => by
    unfold loadW at h
    split at h
    · cases h
    · obtain ⟨⟨b, s1⟩, h3, h4⟩ := bnd_yes h
      obtain ⟨w1, l1⟩ := pt hw h3
      obtain ⟨a, l⟩ := p1 w1 (ty0_ot _ _).ty h4
      exact ⟨a, l.trans l1⟩
  have sto : ∀ {wd}, storeW C wd x.m s = .ok s' → WF s' ∧ s'.fr.length = s.fr.length := fun h => by
    unfold storeW at h
    split at h
    · cases h
    · obtain ⟨⟨b, s1⟩, h3, h4⟩ := bnd_yes h
      cases h4
      exact pt hw h3
  rcases ite_or h with ⟨e, h⟩ | ⟨e, h⟩
  · exact fin (ld h) (by omega)
  rcases ite_or h with ⟨e, h⟩ | ⟨e, h⟩
  · exact fin (ld h) (by omega)
  rcases ite_or h with ⟨e, h⟩ | ⟨e, h⟩
  · exact fin (sto h) (by omega)
  rcases ite_or h with ⟨e, h⟩ | ⟨e, h⟩
  · exact fin (sto h) (by omega)
  rcases ite_or h with ⟨e, h⟩ | ⟨e, h⟩
  · exact fin (p1 hw ⟨by decide, by decide⟩ h) (by omega)
  rcases ite_or h with ⟨e, h⟩ | ⟨e, h⟩
  · exact fin (p1 hw ⟨by decide, by decide⟩ h) (by omega)
  rcases ite_or h with ⟨e, h⟩ | ⟨e, h⟩
  · obtain ⟨⟨t, s1⟩, h1, h2⟩ := bnd_yes h
    obtain ⟨w1, _, l1⟩ := pp hw h1
    obtain ⟨a, l⟩ := p1 w1 (ty_relab true) h2
    exact fin ⟨a, l.trans l1⟩ (by omega)
  rcases ite_or h with ⟨e, h⟩ | ⟨e, h⟩
  · split at h
    · obtain ⟨⟨t, s1⟩, h1, h2⟩ := bnd_yes h
      obtain ⟨w1, _, l1⟩ := pp hw h1
      obtain ⟨a, l⟩ := p1 w1 (ty_relab false) h2
      exact fin ⟨a, l.trans l1⟩ (by omega)
    · cases h
  · obtain ⟨⟨b, s1⟩, h1, h2⟩ := bnd_yes h
    obtain ⟨w1, e1, _⟩ := popN_ok _ _ _ _ hw h1
    obtain ⟨a, l⟩ := p1 w1 (ty0_ot _ _).ty h2
    exact fin ⟨a, by rw [l, e1]⟩ (by omega)
end Go.Proofs.YtamofhkmhjckaabGreatDoor
namespace Go.Proofs.YtamofhkmhjckaabGreatDoor.Nest

theorem desc_eq : ∀ {a b : List Nat}, a.Pairwise (· > ·) → b.Pairwise (· > ·) → (∀ k, k ∈ a ↔ k ∈ b) → a = b
  | [], [], _, _, _ => rfl
  | [], y :: b, _, _, h => absurd ((h y).2 (by simp)) (by simp)
  | x :: a, [], _, _, h => absurd ((h x).1 (by simp)) (by simp)
  | x :: a, y :: b, ha, hb, h => by
    obtain ⟨ha1, ha2⟩ := List.pairwise_cons.1 ha
    obtain ⟨hb1, hb2⟩ := List.pairwise_cons.1 hb
    have hxy : x = y := by
      have h1 := (h x).1 (by simp)
      have h2 := (h y).2 (by simp)
      rw [List.mem_cons] at h1 h2
      rcases h1 with h1 | h1
      · exact h1
      · rcases h2 with h2 | h2
        · exact h2.symm
        · have := ha1 y h2; have := hb1 x h1; omega
    subst hxy
    have : a = b := desc_eq ha2 hb2 fun k => by
      constructor
      · intro hk
        have := (h k).1 (by simp [hk])
        rw [List.mem_cons] at this
        rcases this with rfl | e
        · exact absurd (ha1 k hk) (by omega)
        · exact e
      · intro hk
        have := (h k).2 (by simp [hk])
        rw [List.mem_cons] at this
        rcases this with rfl | e
        · exact absurd (hb1 k hk) (by omega)
        · exact e
    rw [this]

/-- a span holds a place -/
def holB (x : Sp) (p : Nat) : Bool := decide (x.b < (p : Int)) && decide ((p : Int) < x.d) && !((p : Int) == x.e)
/-- of the first K spans those that hold a place, the last first -/
def remL (l : List Sp) (p : Nat) : Nat → List Nat
  | 0 => []
  | K + 1 => if holB (spAt l K) p then K :: remL l p K else remL l p K
theorem remL_mem (l : List Sp) (p : Nat) : ∀ K k, k ∈ remL l p K ↔ k < K ∧ holB (spAt l k) p = true
  | 0, k => by simp [remL]
  | K + 1, k => by
    unfold remL
    have ih := remL_mem l p K k
    cases hK : holB (spAt l K) p with
    | true =>
      rw [if_pos rfl, List.mem_cons, ih]
      constructor
      · rintro (rfl | ⟨a, b⟩)
        · exact ⟨by omega, hK⟩
        · exact ⟨by omega, b⟩
      · rintro ⟨a, b⟩
        rcases Nat.lt_or_ge k K with h | h
        · exact .inr ⟨h, b⟩
        · exact .inl (by omega)
    | false =>
      rw [if_neg (by simp), ih]
      constructor
      · rintro ⟨a, b⟩; exact ⟨by omega, b⟩
      · rintro ⟨a, b⟩
        rcases Nat.lt_or_ge k K with h | h
        · exact ⟨h, b⟩
        · obtain rfl : k = K := by omega
          rw [hK] at b; cases b
theorem remL_desc (l : List Sp) (p : Nat) : ∀ K, (remL l p K).Pairwise (· > ·)
  | 0 => .nil
  | K + 1 => by
    unfold remL
    split
    · exact List.Pairwise.cons (fun k hk => ((remL_mem l p K k).1 hk).1) (remL_desc l p K)
    · exact remL_desc l p K
theorem remL_le (l : List Sp) (p : Nat) : ∀ K, (remL l p K).length ≤ K
  | 0 => Nat.le_refl _
  | K + 1 => by
    have := remL_le l p K
    unfold remL
    split
    · simp; omega
    · omega
theorem remL_eq {f : Nat → Int} {n p : Nat} (hw : (run f n).wrong = false) (he : (run f n).ended = true) (hp : p < n) :
    remL (run f n).sp p ((run f n).sp.length - 1) = arL f p (run f p) := by
  refine desc_eq (remL_desc _ _ _) (arL_desc' hw hp) fun k => ?_
  rw [remL_mem, ← around_iff hw he hp k]
  simp only [holB, Bool.and_eq_true, decide_eq_true_eq, Bool.not_eq_true', beq_eq_false_iff_ne, ne_eq]
  constructor
  · rintro ⟨a, ⟨b, c⟩, d⟩; exact ⟨by omega, b, c, d⟩
  · rintro ⟨a, b, c, d⟩; exact ⟨by omega, ⟨b, c⟩, d⟩

/-! the errors -/
theorem er_cases (f : Nat → Int) (n : Nat) : er f n = 0 ∨ er f n = 1 ∨ er f n = 3 := by
  unfold er; split
  · exact .inr (.inr rfl)
  · split
    · exact .inr (.inl rfl)
    · exact .inl rfl
theorem er_ok {f : Nat → Int} {n : Nat} (h : er f n = 0) : (run f n).wrong = false ∧ (run f n).ended = true ∧ (run f n).deep ≤ 8 := by
  unfold er at h
  cases hw : (run f n).wrong <;> cases he : (run f n).ended <;> simp [hw, he] at h
  exact ⟨rfl, rfl, by omega⟩
theorem er_3 {f : Nat → Int} {n : Nat} (h : (run f n).wrong = true ∨ (run f n).ended = false) : er f n = 3 := by
  unfold er
  rcases h with h | h <;> simp [h]
theorem er_1 {f : Nat → Int} {n : Nat} (hw : (run f n).wrong = false) (he : (run f n).ended = true) (hd : 8 < (run f n).deep) : er f n = 1 := by
  unfold er; simp [hw, he, hd]
theorem er_0 {f : Nat → Int} {n : Nat} (hw : (run f n).wrong = false) (he : (run f n).ended = true) (hd : (run f n).deep ≤ 8) : er f n = 0 := by
  unfold er; simp [hw, he]; omega

/-! sizes -/
theorem run_len (f : Nat → Int) : ∀ i, (run f i).sp.length ≤ i ∧ (run f i).op.length ≤ i ∧ (run f i).deep ≤ i
  | 0 => by simp [run, St0]
  | i + 1 => by
    obtain ⟨h1, h2, h3⟩ := run_len f i
    have e : run f (i + 1) = stp f i (run f i) := rfl
    rw [e]
    cases way f i (run f i) with
    | stop h0 => rw [stp_stop h0]; exact ⟨by show (run f i).sp.length ≤ _; omega, by show (run f i).op.length ≤ _; omega, by show (run f i).deep ≤ _; omega⟩
    | opens hw he h1 => rw [stp_open hw he h1]; simp; omega
    | else0 hw he h1 ho => rw [stp_else0 hw he h1 ho]; exact ⟨by show (run f i).sp.length ≤ _; omega, by show (run f i).op.length ≤ _; omega, by show (run f i).deep ≤ _; omega⟩
    | elseN k r hw he h1 ho hl => rw [stp_elseN hw he h1 ho hl]; exact ⟨by show (run f i).sp.length ≤ _; omega, by show (run f i).op.length ≤ _; omega, by show (run f i).deep ≤ _; omega⟩
    | elseY k r hw he h1 ho hl => rw [stp_elseY hw he h1 ho hl]; simp; omega
    | end0 hw he h1 ho => rw [stp_end0 hw he h1 ho]; simp; omega
    | endY k r hw he h1 ho => rw [stp_endY hw he h1 ho]; rw [ho] at h2; simp at h2 ⊢; omega
    | other hw he h0 h1 h2 => rw [stp_other hw he h0 h1 h2]; omega

/-- where a branch goes: the place, whether back, the error -/
def tgt (f : Nat → Int) (n : Nat) (p d : Int) : Int × Bool × Int :=
  if er f n ≠ 0 then (0, false, er f n)
  else if p < 0 ∨ (n : Int) ≤ p ∨ d < 0 ∨ ((arL f p.toNat (run f p.toNat)).length : Int) < d then (0, false, 3)
  else if d = (arL f p.toNat (run f p.toNat)).length then ((n : Int) - 1, false, 0)
  else if f (spAt (run f n).sp ((arL f p.toNat (run f p.toNat)).getD d.toNat 0)).b.toNat = 3 then
    ((spAt (run f n).sp ((arL f p.toNat (run f p.toNat)).getD d.toNat 0)).b, true, 0)
  else ((spAt (run f n).sp ((arL f p.toNat (run f p.toNat)).getD d.toNat 0)).d, false, 0)
/-- what is known of one that is open around a place of a nested body -/
theorem around_is {f : Nat → Int} {n p : Nat} (hw : (run f n).wrong = false) (he : (run f n).ended = true) (hp : p < n) {k : Nat} (hk : k ∈ arL f p (run f p)) :
    ∃ b d : Nat, (spAt (run f n).sp k).b = b ∧ (spAt (run f n).sp k).d = d ∧ b < p ∧ p < d ∧ d < n ∧ f d = 11 ∧ k + 1 < (run f n).sp.length ∧ opn (f b) = true := by
  obtain ⟨h1, h2, h3, _⟩ := (around_iff hw he hp k).2 hk
  obtain ⟨m, rfl, hw', he', hop, hf, hwf, hsp, _⟩ := fin_run hw he
  have hk' : k < (run f m).sp.length := by rw [hsp] at h1; simpa using h1
  rw [hsp, spAt_lt _ _ hk'] at h2 h3 ⊢
  obtain ⟨b, hb, hbm, hop⟩ := hwf.beg k hk'
  rcases hwf.fin k hk' with e | ⟨d, e, _, hd, hfd⟩
  · rw [e] at h3; omega
  · rw [hb] at h2
    rw [e] at h3
    exact ⟨b, d, hb, e, by omega, by omega, by omega, hfd, by simpa using hk', hop⟩

/-! two spans -/
theorem two_spans {f : Nat → Int} {n : Nat} (hw : (run f n).wrong = false) (he : (run f n).ended = true) {j k : Nat} (hjk : j < k) (hk : k < (run f n).sp.length) :
    (((spAt (run f n).sp k).b < (spAt (run f n).sp j).b ∧ (spAt (run f n).sp j).d < (spAt (run f n).sp k).d) ∨ ((spAt (run f n).sp j).b < (spAt (run f n).sp k).b ∧ (spAt (run f n).sp k).d < (spAt (run f n).sp j).d)) ∨
      ¬ ((spAt (run f n).sp j).b < (spAt (run f n).sp k).d) ∨ ¬ ((spAt (run f n).sp k).b < (spAt (run f n).sp j).d) := by
  obtain ⟨m, rfl, hw', he', hop, hf, hwf, hsp, _⟩ := fin_run hw he
  have hcl : ∀ k, k < (run f m).sp.length → (spAt (run f m).sp k).d ≠ -1 := by
    intro k hk hd
    have := (hwf.mem k).2 ⟨hk, hd⟩
    rw [hop] at this; cases this
  rw [hsp] at hk ⊢
  simp at hk
  rcases Nat.lt_or_ge k (run f m).sp.length with hl | hl
  · rw [spAt_lt _ _ hl, spAt_lt _ _ (by omega)]
    have hi := hwf.inc j k hjk hl
    rcases hwf.nest j k hjk hl (hcl j (by omega)) with a | ⟨_, a⟩
    · exact .inr (.inr (by omega))
    · exact .inl (.inr ⟨hi, a⟩)
  · obtain rfl : k = (run f m).sp.length := by omega
    rw [spAt_new, spAt_lt _ _ hjk]
    obtain ⟨b, hb, _, _⟩ := hwf.beg j hjk
    rcases hwf.fin j hjk with e | ⟨d, e, _, hd, _⟩
    · exact absurd e (hcl j hjk)
    · refine .inl (.inl ⟨?_, ?_⟩)
      · rw [hb]; show (-1 : Int) < b; omega
      · rw [e]; show (d : Int) < m; omega
theorem one_span {f : Nat → Int} {n : Nat} (hw : (run f n).wrong = false) (he : (run f n).ended = true) {k : Nat} (hk : k < (run f n).sp.length) :
    ((spAt (run f n).sp k).e < 0 ∨ ((spAt (run f n).sp k).b < (spAt (run f n).sp k).e ∧ (spAt (run f n).sp k).e < (spAt (run f n).sp k).d)) ∧
      (k + 1 = (run f n).sp.length → (spAt (run f n).sp k).b = -1 ∧ (spAt (run f n).sp k).d = (n : Int) - 1) := by
  obtain ⟨m, rfl, hw', he', hop, hf, hwf, hsp, _⟩ := fin_run hw he
  have hcl : ∀ k, k < (run f m).sp.length → (spAt (run f m).sp k).d ≠ -1 := by
    intro k hk hd
    have := (hwf.mem k).2 ⟨hk, hd⟩
    rw [hop] at this; cases this
  rw [hsp] at hk ⊢
  simp only [List.length_append, List.length_cons, List.length_nil] at hk ⊢
  rcases Nat.lt_or_ge k (run f m).sp.length with hl | hl
  · rw [spAt_lt _ _ hl]
    refine ⟨?_, fun h => by omega⟩
    rcases hwf.els k hl with a | ⟨x, a, b, _, c⟩
    · exact .inl (by omega)
    · rcases c with c | c
      · exact absurd c (hcl k hl)
      · exact .inr ⟨by omega, by omega⟩
  · obtain rfl : k = (run f m).sp.length := by omega
    rw [spAt_new]
    exact ⟨.inl (by show (-1 : Int) < 0; omega), fun _ => ⟨rfl, by show (m : Int) = (m + 1 : Nat) - 1; omega⟩⟩

/-! a body within a Block -/
def sh (x : Sp) : Sp := ⟨x.b + 1, if x.e = -1 then -1 else x.e + 1, if x.d = -1 then -1 else x.d + 1⟩
def ins0 (f : Nat → Int) : Nat → Int
  | 0 => 2
  | j + 1 => f j
theorem spAt_sh (l : List Sp) {k : Nat} (h : k < l.length) : spAt (⟨0, -1, -1⟩ :: l.map sh) (k + 1) = sh (spAt l k) := by
  simp [spAt, h]
def shS (s : St) : St := ⟨⟨0, -1, -1⟩ :: s.sp.map sh, s.op.map (· + 1) ++ [0], s.deep + 1, false, false⟩
theorem lacks_sh {f : Nat → Int} {i : Nat} {s : St} (h : WF f i s) {k : Nat} (hk : k < s.sp.length) : lacks (ins0 f) (sh (spAt s.sp k)) = lacks f (spAt s.sp k) := by
  obtain ⟨m, hb, _, _⟩ := h.beg k hk
  have h1 : ins0 f (sh (spAt s.sp k)).b.toNat = f (spAt s.sp k).b.toNat := by
    have e : (sh (spAt s.sp k)).b.toNat = (spAt s.sp k).b.toNat + 1 := by
      show ((spAt s.sp k).b + 1).toNat = _
      rw [hb]; omega
    rw [e]; rfl
  have h2 : ((sh (spAt s.sp k)).e == -1) = ((spAt s.sp k).e == -1) := by
    show ((if (spAt s.sp k).e = -1 then (-1 : Int) else (spAt s.sp k).e + 1) == -1) = _
    rcases h.els k hk with a | ⟨x, a, _⟩
    · simp [a]
    · rw [a]
      rw [if_neg (by omega)]
      have e1 : (((x : Int) + 1) == -1) = false := by simp; omega
      have e2 : ((x : Int) == -1) = false := by simp
      rw [e1, e2]
  unfold lacks
  rw [h1, h2]
theorem more_run {f : Nat → Int} {m : Nat} (hw : (run f m).wrong = false) (he : (run f m).ended = false) : ∀ i, i ≤ m → run (ins0 f) (i + 1) = shS (run f i)
  | 0, _ => by
    show stp (ins0 f) 0 St0 = _
    rw [stp_open (s := St0) rfl rfl rfl]
    simp [shS, run, St0]
  | i + 1, hi => by
    have ih := more_run hw he i (by omega)
    have hw1 := right_back hw hi
    have he1 : (run f (i + 1)).ended = false := by
      rcases Nat.lt_or_ge (i + 1) m with h | h
      · exact open_back hw h
      · obtain rfl : m = i + 1 := by omega
        exact he
    have hw' := right_back hw1 (Nat.le_succ i)
    have he' := open_back hw1 (Nat.lt_succ_self i)
    have h := wf_run f i hw' he'
    show stp (ins0 f) (i + 1) (run (ins0 f) (i + 1)) = shS (stp f i (run f i))
    have e : run f (i + 1) = stp f i (run f i) := rfl
    rw [e] at hw1 he1
    rw [ih]
    have hfi : ins0 f (i + 1) = f i := rfl
    cases way f i (run f i) with
    | stop h0 => rcases h0 with h0 | h0 <;> simp_all
    | opens _ _ h1 =>
      rw [stp_open hw' he' h1, stp_open (s := shS (run f i)) rfl rfl (by rw [hfi]; exact h1)]
      simp [shS, sh]
    | else0 _ _ h1 ho => rw [stp_else0 hw' he' h1 ho] at hw1; cases hw1
    | elseN k r _ _ h1 ho hl => rw [stp_elseN hw' he' h1 ho hl] at hw1; cases hw1
    | elseY k r _ _ h1 ho hl =>
      have hk := ((h.mem k).1 (by rw [ho]; simp)).1
      rw [stp_elseY hw' he' h1 ho hl, stp_elseY (s := shS (run f i)) (k := k + 1) (r := r.map (· + 1) ++ [0]) rfl rfl (by rw [hfi]; exact h1) (by simp [shS, ho])
        (by show lacks (ins0 f) (spAt (⟨0, -1, -1⟩ :: (run f i).sp.map sh) (k + 1)) = true; rw [spAt_sh _ hk, lacks_sh h hk]; exact hl)]
      have e2 : spAt (shS (run f i)).sp (k + 1) = sh (spAt (run f i).sp k) := spAt_sh _ hk
      rw [e2]
      simp [shS, sh, List.map_set, ho]
    | end0 _ _ h1 ho => rw [stp_end0 hw' he' h1 ho] at he1; cases he1
    | endY k r _ _ h1 ho =>
      have hk := ((h.mem k).1 (by rw [ho]; simp)).1
      rw [stp_endY hw' he' h1 ho, stp_endY (s := shS (run f i)) (k := k + 1) (r := r.map (· + 1) ++ [0]) rfl rfl (by rw [hfi]; exact h1) (by simp [shS, ho])]
      have e2 : spAt (shS (run f i)).sp (k + 1) = sh (spAt (run f i).sp k) := spAt_sh _ hk
      rw [e2]
      simp [shS, sh, List.map_set]
    | other _ _ h0 h1 h2 => rw [stp_other hw' he' h0 h1 h2, stp_other (s := shS (run f i)) rfl rfl (by rw [hfi]; exact h0) (by rw [hfi]; exact h1) (by rw [hfi]; exact h2)]
/-- a nested body, followed by an End, within a Block -/
theorem more_er {f : Nat → Int} {n : Nat} (hw : (run f n).wrong = false) (he : (run f n).ended = true) (hf : f n = 11) :
    er (ins0 f) (n + 2) = 0 ∨ er (ins0 f) (n + 2) = 1 := by
  obtain ⟨m, rfl, hw', he', hop, hfm, hwf, hsp, _⟩ := fin_run hw he
  have h1 := more_run hw' he' m (Nat.le_refl m)
  have h2' : run (ins0 f) (m + 2) = stp (ins0 f) (m + 1) (shS (run f m)) := by
    show stp (ins0 f) (m + 1) (run (ins0 f) (m + 1)) = _
    rw [h1]
  rw [stp_endY (f := ins0 f) (i := m + 1) (s := shS (run f m)) (k := 0) (r := []) rfl rfl hfm (by simp [shS, hop])] at h2'
  have h2 : ∃ z, run (ins0 f) (m + 2) = ⟨z, [], (run f m).deep + 1, false, false⟩ := ⟨_, h2'⟩
  obtain ⟨z, h2⟩ := h2
  have h3 : run (ins0 f) (m + 3) = stp (ins0 f) (m + 2) (run (ins0 f) (m + 2)) := rfl
  rw [h2, stp_end0 (f := ins0 f) (i := m + 2) rfl rfl hf rfl] at h3
  unfold er
  have e : m + 1 + 2 = m + 3 := rfl
  rw [e, h3]
  simp
  omega
theorem more_arL {f : Nat → Int} {n k : Nat} (hw : (run f n).wrong = false) (he : (run f n).ended = true) (hk : k + 1 < n) :
    (arL (ins0 f) (k + 1) (run (ins0 f) (k + 1))).length = (arL f k (run f k)).length + 1 := by
  obtain ⟨m, rfl, hw', he', hop, hfm, hwf, hsp, _⟩ := fin_run hw he
  have hkm : k < m := by omega
  rw [more_run hw' he' k (by omega)]
  have hwk := right_back hw' (show k ≤ m by omega)
  have hek := open_back hw' hkm
  have h := wf_run f k hwk hek
  have hw1 := right_back hw' (show k + 1 ≤ m by omega)
  have he1 : (run f (k + 1)).ended = false := by
    rcases Nat.lt_or_ge (k + 1) m with h | h
    · exact open_back hw' h
    · obtain rfl : m = k + 1 := by omega
      exact he'
  have e : run f (k + 1) = stp f k (run f k) := rfl
  rw [e] at hw1 he1
  have hfi : ins0 f (k + 1) = f k := rfl
  cases way f k (run f k) with
  | stop h0 => rcases h0 with h0 | h0 <;> simp_all
  | opens _ _ h1 =>
    rw [arL_open hwk hek h1, arL_open (s := shS (run f k)) rfl rfl (by rw [hfi]; exact h1)]
    simp [shS]
  | else0 _ _ h1 ho => rw [stp_else0 hwk hek h1 ho] at hw1; cases hw1
  | elseN k r _ _ h1 ho hl => rw [stp_elseN hwk hek h1 ho hl] at hw1; cases hw1
  | elseY j r _ _ h1 ho hl =>
    have hj := ((h.mem j).1 (by rw [ho]; simp)).1
    rw [arL_elseY hwk hek h1 ho hl, arL_elseY (s := shS (run f k)) (k := j + 1) (r := r.map (· + 1) ++ [0]) rfl rfl (by rw [hfi]; exact h1) (by simp [shS, ho])
      (by show lacks (ins0 f) (spAt (⟨0, -1, -1⟩ :: (run f k).sp.map sh) (j + 1)) = true; rw [spAt_sh _ hj, lacks_sh h hj]; exact hl)]
    simp
  | end0 _ _ h1 ho => rw [stp_end0 hwk hek h1 ho] at he1; cases he1
  | endY j r _ _ h1 ho =>
    rw [arL_endY hwk hek h1 ho, arL_endY (s := shS (run f k)) (k := j + 1) (r := r.map (· + 1) ++ [0]) rfl rfl (by rw [hfi]; exact h1) (by simp [shS, ho])]
    simp
  | other _ _ h0 h1 h2 =>
    rw [arL_other hwk hek h0 h1 h2, arL_other (s := shS (run f k)) rfl rfl (by rw [hfi]; exact h0) (by rw [hfi]; exact h1) (by rw [hfi]; exact h2)]
    simp [shS]

/-! what plays no part -/
def prt (x : Int) : Bool := x == 2 || x == 3 || x == 4 || x == 5 || x == 11
def oth (f : Nat → Int) (x : Int) : Nat → Int := fun j => if prt (f j) then f j else x
theorem oth_opn {f : Nat → Int} {x : Int} (hx : prt x = false) (j : Nat) : opn (oth f x j) = opn (f j) := by
  unfold oth
  cases h : prt (f j) with
  | true => simp
  | false =>
    rw [if_neg (by simp)]
    simp [prt] at h hx
    have e : ∀ y : Int, ¬ y = 2 → ¬ y = 3 → ¬ y = 4 → opn y = false := fun y a b c => by simp [opn, a, b, c]
    rw [e x hx.1.1.1.1 hx.1.1.1.2 hx.1.1.2, e (f j) h.1.1.1.1 h.1.1.1.2 h.1.1.2]
theorem oth_eq {f : Nat → Int} {x : Int} (hx : prt x = false) (j : Nat) {c : Int} (hc : prt c = true) : (oth f x j = c) ↔ f j = c := by
  unfold oth
  cases h : prt (f j) with
  | true => simp
  | false =>
    rw [if_neg (by simp)]
    constructor
    · rintro rfl; rw [hx] at hc; cases hc
    · rintro rfl; rw [h] at hc; cases hc
theorem oth_lacks {f : Nat → Int} {x : Int} (hx : prt x = false) (s : Sp) : lacks (oth f x) s = lacks f s := by
  unfold lacks
  have : (oth f x s.b.toNat == 4) = (f s.b.toNat == 4) := by
    rw [Bool.eq_iff_iff]
    simp only [beq_iff_eq]
    exact oth_eq hx _ (by decide)
  rw [this]
theorem oth_stp {f : Nat → Int} {x : Int} (hx : prt x = false) (i : Nat) (s : St) : stp (oth f x) i s = stp f i s := by
  unfold stp
  rw [oth_opn hx]
  simp only [oth_eq hx i (c := 5) (by decide), oth_eq hx i (c := 11) (by decide), oth_lacks hx]
theorem oth_run {f : Nat → Int} {x : Int} (hx : prt x = false) : ∀ n, run (oth f x) n = run f n
  | 0 => rfl
  | n + 1 => by
    show stp (oth f x) n (run (oth f x) n) = _
    rw [oth_run hx n, oth_stp hx]; rfl
theorem oth_er {f : Nat → Int} {x : Int} (hx : prt x = false) (n : Nat) : er (oth f x) n = er f n := by
  unfold er; rw [oth_run hx]
end Go.Proofs.YtamofhkmhjckaabGreatDoor.Nest
namespace Go.Proofs.YtamofhkmhjckaabGreatDoor.Nest

structure AS where
  fl : List Bool
  deep : Nat
  ended : Bool
  wrong : Bool
def A0 : AS := ⟨[], 0, false, false⟩
def astp (x : Int) (s : AS) : AS :=
  if s.wrong || s.ended then { s with wrong := true }
  else if opn x then { s with fl := (x == 4) :: s.fl, deep := max s.deep (s.fl.length + 1) }
  else if x = 5 then match s.fl with
    | true :: r => { s with fl := false :: r }
    | _ => { s with wrong := true }
  else if x = 11 then match s.fl with
    | [] => { s with ended := true }
    | _ :: r => { s with fl := r }
  else s
def arun (f : Nat → Int) : Nat → AS
  | 0 => A0
  | i + 1 => astp (f i) (arun f i)
def aer (a : AS) : Int := if a.wrong || !a.ended then 3 else if 8 < a.deep then 1 else 0
structure Rl (f : Nat → Int) (s : St) (a : AS) : Prop where
  wrong : s.wrong = a.wrong
  ended : s.wrong = false → s.ended = a.ended
  deep : s.wrong = false → s.deep = a.deep
  fl : s.wrong = false → s.ended = false → s.op.map (fun k => lacks f (spAt s.sp k)) = a.fl
theorem rl_run (f : Nat → Int) : ∀ i, Rl f (run f i) (arun f i)
  | 0 => ⟨rfl, fun _ => rfl, fun _ => rfl, fun _ _ => rfl⟩
  | i + 1 => by
    have ih := rl_run f i
    show Rl f (stp f i (run f i)) (astp (f i) (arun f i))
    generalize hs : run f i = s at *
    generalize arun f i = a at *
    have wf : s.wrong = false → s.ended = false → WF f i s := fun h1 h2 => by rw [← hs] at h1 h2 ⊢; exact wf_run f i h1 h2
    clear hs
    obtain ⟨afl, adeep, aended, awrong⟩ := a
    have e1 := ih.wrong
    have e2 := ih.ended
    have e3 := ih.deep
    have e4 := ih.fl
    simp only at e1 e2 e3 e4
    rcases way f i s with h | ⟨hw, he, h⟩ | ⟨hw, he, h, ho⟩ | ⟨k, r, hw, he, h, ho, hl⟩ | ⟨k, r, hw, he, h, ho, hl⟩ | ⟨hw, he, h, ho⟩ | ⟨k, r, hw, he, h, ho⟩ | ⟨hw, he, h0, h1, h2⟩
    · rw [stp_stop h]
      have hh : (awrong || aended) = true := by
        rcases h with h | h
        · rw [← e1, h]; rfl
        · cases hw : s.wrong
          · rw [← e2 hw, h]; simp
          · rw [← e1, hw]; rfl
      have : astp (f i) ⟨afl, adeep, aended, awrong⟩ = ⟨afl, adeep, aended, true⟩ := by simp only [astp, hh, if_true]
      rw [this]
      exact ⟨rfl, fun h => by simp at h, fun h => by simp at h, fun h => by simp at h⟩
    all_goals
      have W := wf hw he
      rw [hw] at e1
      have e2 := e2 hw
      rw [he] at e2
      have e3 := e3 hw
      have e4 := e4 hw he
      subst e1 e2 e3 e4
    · rw [stp_open hw he h]
      have : astp (f i) ⟨s.op.map (fun k => lacks f (spAt s.sp k)), s.deep, false, false⟩ = ⟨(f i == 4) :: s.op.map (fun k => lacks f (spAt s.sp k)), max s.deep ((s.op.map (fun k => lacks f (spAt s.sp k))).length + 1), false, false⟩ := by simp [astp, h]
      rw [this]
      refine ⟨hw, fun _ => he, fun _ => by simp, fun _ _ => ?_⟩
      simp only [List.map_cons, spAt_new, lacks]
      congr 1
      · simp
      · refine List.map_congr_left fun k hk => ?_
        rw [spAt_lt _ _ ((W.mem k).1 hk).1]
    · rw [stp_else0 hw he h ho, ho]
      have : astp (f i) ⟨([] : List Nat).map (fun k => lacks f (spAt s.sp k)), s.deep, false, false⟩ = ⟨[], s.deep, false, true⟩ := by simp [astp, h, opn5]
      rw [this]
      exact ⟨rfl, fun h => by simp at h, fun h => by simp at h, fun h => by simp at h⟩
    · rw [stp_elseN hw he h ho hl, ho]
      have : astp (f i) ⟨(k :: r).map (fun k => lacks f (spAt s.sp k)), s.deep, false, false⟩ = ⟨(k :: r).map (fun k => lacks f (spAt s.sp k)), s.deep, false, true⟩ := by simp [astp, h, opn5, hl]
      rw [this]
      exact ⟨rfl, fun h => by simp at h, fun h => by simp at h, fun h => by simp at h⟩
    · rw [stp_elseY hw he h ho hl, ho]
      have : astp (f i) ⟨(k :: r).map (fun k => lacks f (spAt s.sp k)), s.deep, false, false⟩ = ⟨false :: r.map (fun k => lacks f (spAt s.sp k)), s.deep, false, false⟩ := by simp [astp, h, opn5, hl]
      rw [this]
      have hk := ((W.mem k).1 (by rw [ho]; simp)).1
      have hd := W.desc
      rw [ho, List.pairwise_cons] at hd
      refine ⟨hw, fun _ => he, fun _ => rfl, fun _ _ => ?_⟩
      simp only [List.map_cons]
      congr 1
      · rw [spAt_set _ _ hk]; simp [lacks]
      · refine List.map_congr_left fun j hj => ?_
        rw [spAt_ne _ _ (by have := hd.1 j hj; omega)]
    · rw [stp_end0 hw he h ho, ho]
      have : astp (f i) ⟨([] : List Nat).map (fun k => lacks f (spAt s.sp k)), s.deep, false, false⟩ = ⟨[], s.deep, true, false⟩ := by simp [astp, h, opn11]
      rw [this]
      exact ⟨hw, fun _ => rfl, fun _ => rfl, fun _ h => by simp at h⟩
    · rw [stp_endY hw he h ho, ho]
      have : astp (f i) ⟨(k :: r).map (fun k => lacks f (spAt s.sp k)), s.deep, false, false⟩ = ⟨r.map (fun k => lacks f (spAt s.sp k)), s.deep, false, false⟩ := by simp [astp, h, opn11]
      rw [this]
      have hd := W.desc
      rw [ho, List.pairwise_cons] at hd
      refine ⟨hw, fun _ => he, fun _ => rfl, fun _ _ => ?_⟩
      refine List.map_congr_left fun j hj => ?_
      rw [spAt_ne _ _ (by have := hd.1 j hj; omega)]
    · rw [stp_other hw he h0 h1 h2]
      have : astp (f i) ⟨s.op.map (fun k => lacks f (spAt s.sp k)), s.deep, false, false⟩ = ⟨s.op.map (fun k => lacks f (spAt s.sp k)), s.deep, false, false⟩ := by simp [astp, h0, h1, h2]
      rw [this]
      exact ⟨hw, fun _ => he, fun _ => rfl, fun _ _ => rfl⟩
theorem er_aer (f : Nat → Int) (n : Nat) : er f n = aer (arun f n) := by
  have h := rl_run f n
  unfold er aer
  rw [← h.wrong]
  cases hw : (run f n).wrong
  · rw [← h.ended hw, ← h.deep hw]
  · simp
def al (l : List Int) (a : AS) : AS := l.foldl (fun a x => astp x a) a
theorem arun_al (f : Nat → Int) : ∀ n, arun f n = al ((List.range n).map f) A0
  | 0 => rfl
  | n + 1 => by
    rw [List.range_succ, List.map_append, al, List.foldl_append]
    show astp (f n) (arun f n) = _
    rw [arun_al f n]; rfl
theorem er_list (l : List In) : er (opsF l) l.length = aer (al (l.map In.op) A0) := by
  rw [er_aer, arun_al]
  congr 2
  refine List.ext_getElem (by simp) fun j h1 h2 => ?_
  simp at h1
  simp [opsF, h1]
theorem astp_bad {x : Int} {a : AS} (h : a.wrong = true ∨ a.ended = true) : (astp x a).wrong = true := by
  rcases h with h | h <;> simp [astp, h]
theorem al_bad : ∀ {l : List Int} {a : AS}, a.wrong = true → (al l a).wrong = true
  | [], _, h => h
  | x :: l, a, h => by
    show (al l (astp x a)).wrong = true
    exact al_bad (astp_bad (.inl h))
theorem aer_zero {a : AS} (h : aer a = 0) : a.wrong = false ∧ a.ended = true ∧ a.deep ≤ 8 := by
  unfold aer at h
  cases hw : a.wrong <;> cases he : a.ended <;> simp [hw, he] at h ⊢
  omega
theorem astp_idle {x : Int} {a : AS} (hx : prt x = false) (hw : a.wrong = false) (he : a.ended = false) : astp x a = a := by
  simp only [prt, Bool.or_eq_false_iff, beq_eq_false_iff_ne] at hx
  obtain ⟨⟨⟨⟨h2, h3⟩, h4⟩, h5⟩, h11⟩ := hx
  simp [astp, opn, hw, he, h2, h3, h4, h5, h11]
theorem al_app (l m : List Int) (a : AS) : al (l ++ m) a = al m (al l a) := by simp [al, List.foldl_append]
/-- an instruction that opens and closes nothing -/
theorem ins_nest {l1 l2 : List Int} {x : Int} {a : AS} (hx : prt x = false) (h2 : l2 ≠ []) (h : aer (al (l1 ++ l2) a) = 0) : al (l1 ++ x :: l2) a = al (l1 ++ l2) a := by
  rw [al_app] at h
  rw [al_app, al_app]
  generalize al l1 a = b at *
  have hb : b.wrong = false ∧ b.ended = false := by
    cases l2 with
    | nil => exact absurd rfl h2
    | cons y r =>
      have hf := (aer_zero h).1
      cases hw : b.wrong
      · cases he : b.ended
        · exact ⟨rfl, rfl⟩
        · have : (al (y :: r) b).wrong = true := al_bad (l := r) (astp_bad (.inr he))
          rw [this] at hf; cases hf
      · rw [al_bad hw] at hf; cases hf
  show al l2 (astp x b) = _
  rw [astp_idle hx hb.1 hb.2]
end Go.Proofs.YtamofhkmhjckaabGreatDoor.Nest
namespace Go.Proofs.YtamofhkmhjckaabGreatDoor.Nest
open Go.RowKit

theorem hide {p : Prop} (h : p) : Hid p := h
theorem ret_bool {a b : Bool} (h : a = b) : Ending.returned (.bool a) = .returned (.bool b) := by rw [h]
theorem ret_int {k : IntKind} {a b : Int} (h : a = b) : Ending.returned (.int k a) = .returned (.int k b) := by rw [h]
def ptr (b : Nat) : Value := .pointer (some ⟨b, 0, none⟩)
/-- the six variables: the body, the spans, those that are open, the most, ended, wrong -/
structure Bx (B : Nat) (l vs vo : Value) (d : Int) (e r : Bool) (w : World) : Prop where
  h0 : w.heap[B]? = some (.cells #[l] 36 (0, 0))
  h1 : w.heap[B + 1]? = some (.cells #[vs] 94 (0, 0))
  h2 : w.heap[B + 2]? = some (.cells #[vo] 23 (0, 0))
  h3 : w.heap[B + 3]? = some (.cells #[.int .i64 d] 3 (0, 0))
  h4 : w.heap[B + 4]? = some (.cells #[.bool e] 4 (0, 0))
  h5 : w.heap[B + 5]? = some (.cells #[.bool r] 4 (0, 0))
section
variable {B : Nat} {l vs vo : Value} {d : Int} {e r : Bool} {w : World}
theorem Bx.size (h : Bx B l vs vo d e r w) : B + 6 ≤ w.heap.size := lt_of_block h.h5
theorem Bx.grow {w' : World} {row : Option Nat} (h : Bx B l vs vo d e r w) (hg : w.grownBy w' row) (hr : ∀ k, row = some k → B + 6 ≤ k) : Bx B l vs vo d e r w' := by
  have hs := h.size
  have ne : ∀ i, i < 6 → w'.heap[B + i]? = w.heap[B + i]? := fun i hi => hg.block (B + i) (by omega) (fun e => by have := hr _ e.symm; omega)
  exact ⟨(ne 0 (by omega)).trans h.h0, (ne 1 (by omega)).trans h.h1, (ne 2 (by omega)).trans h.h2, (ne 3 (by omega)).trans h.h3, (ne 4 (by omega)).trans h.h4, (ne 5 (by omega)).trans h.h5⟩
theorem Bx.alloc (h : Bx B l vs vo d e r w) (o : Obj) : Bx B l vs vo d e r (w.alloc o) := h.grow (World.grownBy_alloc w o none) (fun _ h => by cases h)
theorem Bx.below {w' : World} {C : Nat} (h : Bx B l vs vo d e r w) (hb : Below C w w') (hC : B + 6 ≤ C) : Bx B l vs vo d e r w' := by
  have ne : ∀ i, i < 6 → w'.heap[B + i]? = w.heap[B + i]? := fun i hi => hb.block (B + i) (by omega)
  exact ⟨(ne 0 (by omega)).trans h.h0, (ne 1 (by omega)).trans h.h1, (ne 2 (by omega)).trans h.h2, (ne 3 (by omega)).trans h.h3, (ne 4 (by omega)).trans h.h4, (ne 5 (by omega)).trans h.h5⟩
theorem Bx.far (h : Bx B l vs vo d e r w) {a : Addr} (ha : B + 6 ≤ a.block) (u : Value) : Bx B l vs vo d e r (w.setCell a u) := by
  have ne : ∀ i, i < 6 → (w.setCell a u).heap[B + i]? = w.heap[B + i]? := fun i hi => Below.heap_setCell _ _ _ _ (by omega)
  exact ⟨(ne 0 (by omega)).trans h.h0, (ne 1 (by omega)).trans h.h1, (ne 2 (by omega)).trans h.h2, (ne 3 (by omega)).trans h.h3, (ne 4 (by omega)).trans h.h4, (ne 5 (by omega)).trans h.h5⟩
theorem Bx.drew (h : Bx B l vs vo d e r w) : Bx B l vs vo d e r w.drew := ⟨h.h0, h.h1, h.h2, h.h3, h.h4, h.h5⟩
theorem Bx.set5 (h : Bx B l vs vo d e r w) (x : Bool) : Bx B l vs vo d e x (w.setCell ⟨B + 5, 0, none⟩ (.bool x)) := by
  have ne : ∀ i, i < 6 → i ≠ 5 → (w.setCell ⟨B + 5, 0, none⟩ (.bool x)).heap[B + i]? = w.heap[B + i]? := fun i _ hi => Below.heap_setCell _ _ _ _ (by show B + i ≠ B + 5; omega)
  exact ⟨(ne 0 (by omega) (by omega)).trans h.h0, (ne 1 (by omega) (by omega)).trans h.h1, (ne 2 (by omega) (by omega)).trans h.h2, (ne 3 (by omega) (by omega)).trans h.h3, (ne 4 (by omega) (by omega)).trans h.h4, one_setCell h.h5⟩
theorem Bx.set4 (h : Bx B l vs vo d e r w) (x : Bool) : Bx B l vs vo d x r (w.setCell ⟨B + 4, 0, none⟩ (.bool x)) := by
  have ne : ∀ i, i < 6 → i ≠ 4 → (w.setCell ⟨B + 4, 0, none⟩ (.bool x)).heap[B + i]? = w.heap[B + i]? := fun i _ hi => Below.heap_setCell _ _ _ _ (by show B + i ≠ B + 4; omega)
  exact ⟨(ne 0 (by omega) (by omega)).trans h.h0, (ne 1 (by omega) (by omega)).trans h.h1, (ne 2 (by omega) (by omega)).trans h.h2, (ne 3 (by omega) (by omega)).trans h.h3, one_setCell h.h4, (ne 5 (by omega) (by omega)).trans h.h5⟩
theorem Bx.set3 (h : Bx B l vs vo d e r w) (x : Int) : Bx B l vs vo x e r (w.setCell ⟨B + 3, 0, none⟩ (.int .i64 x)) := by
  have ne : ∀ i, i < 6 → i ≠ 3 → (w.setCell ⟨B + 3, 0, none⟩ (.int .i64 x)).heap[B + i]? = w.heap[B + i]? := fun i _ hi => Below.heap_setCell _ _ _ _ (by show B + i ≠ B + 3; omega)
  exact ⟨(ne 0 (by omega) (by omega)).trans h.h0, (ne 1 (by omega) (by omega)).trans h.h1, (ne 2 (by omega) (by omega)).trans h.h2, one_setCell h.h3, (ne 4 (by omega) (by omega)).trans h.h4, (ne 5 (by omega) (by omega)).trans h.h5⟩
theorem Bx.set2 (h : Bx B l vs vo d e r w) (x : Value) : Bx B l vs x d e r (w.setCell ⟨B + 2, 0, none⟩ x) := by
  have ne : ∀ i, i < 6 → i ≠ 2 → (w.setCell ⟨B + 2, 0, none⟩ x).heap[B + i]? = w.heap[B + i]? := fun i _ hi => Below.heap_setCell _ _ _ _ (by show B + i ≠ B + 2; omega)
  exact ⟨(ne 0 (by omega) (by omega)).trans h.h0, (ne 1 (by omega) (by omega)).trans h.h1, one_setCell h.h2, (ne 3 (by omega) (by omega)).trans h.h3, (ne 4 (by omega) (by omega)).trans h.h4, (ne 5 (by omega) (by omega)).trans h.h5⟩
theorem Bx.set1 (h : Bx B l vs vo d e r w) (x : Value) : Bx B l x vo d e r (w.setCell ⟨B + 1, 0, none⟩ x) := by
  have ne : ∀ i, i < 6 → i ≠ 1 → (w.setCell ⟨B + 1, 0, none⟩ x).heap[B + i]? = w.heap[B + i]? := fun i _ hi => Below.heap_setCell _ _ _ _ (by show B + i ≠ B + 1; omega)
  exact ⟨(ne 0 (by omega) (by omega)).trans h.h0, one_setCell h.h1, (ne 2 (by omega) (by omega)).trans h.h2, (ne 3 (by omega) (by omega)).trans h.h3, (ne 4 (by omega) (by omega)).trans h.h4, (ne 5 (by omega) (by omega)).trans h.h5⟩
end

/-! the rows -/
def cel (x : Sp) : List Value := [.int .i64 x.b, .int .i64 x.e, .int .i64 x.d]
def flat (l : List Sp) : List Value := l.flatMap cel
theorem flat_len (l : List Sp) : (flat l).length = l.length * 3 := by
  induction l with
  | nil => rfl
  | cons x l ih => simp only [flat, List.flatMap_cons, List.length_append, List.length_cons] at ih ⊢; rw [ih]; simp [cel]; omega
theorem flat_add (l : List Sp) (x : Sp) : flat (l ++ [x]) = flat l ++ cel x := by simp [flat, List.flatMap_append]
theorem flat_cons (x : Sp) (l : List Sp) : flat (x :: l) = .int .i64 x.b :: .int .i64 x.e :: .int .i64 x.d :: flat l := rfl
theorem flat_at : ∀ (l : List Sp) (k : Nat), k < l.length → (flat l)[k * 3]? = some (.int .i64 (spAt l k).b) ∧ (flat l)[k * 3 + 1]? = some (.int .i64 (spAt l k).e) ∧ (flat l)[k * 3 + 2]? = some (.int .i64 (spAt l k).d)
  | [], k, h => absurd h (by simp)
  | x :: l, 0, _ => by simp [flat_cons, spAt]
  | x :: l, k + 1, h => by
    have ih := flat_at l k (by simpa using h)
    have e1 : (k + 1) * 3 = k * 3 + 1 + 1 + 1 := by omega
    have e2 : spAt (x :: l) (k + 1) = spAt l k := by simp [spAt]
    rw [flat_cons, e1, e2]
    simp only [List.getElem?_cons_succ]
    exact ih
theorem flat_set1 : ∀ (l : List Sp) (k : Nat) (i : Int), k < l.length → (flat l).set (k * 3 + 1) (.int .i64 i) = flat (l.set k { spAt l k with e := i })
  | [], k, i, h => absurd h (by simp)
  | x :: l, 0, i, _ => by simp [flat_cons, spAt]
  | x :: l, k + 1, i, h => by
    have ih := flat_set1 l k i (by simpa using h)
    have e1 : (k + 1) * 3 + 1 = (k * 3 + 1) + 1 + 1 + 1 := by omega
    have e2 : spAt (x :: l) (k + 1) = spAt l k := by simp [spAt]
    rw [e2, List.set_cons_succ, flat_cons, flat_cons, e1, List.set_cons_succ, List.set_cons_succ, List.set_cons_succ, ih]
theorem flat_set2 : ∀ (l : List Sp) (k : Nat) (i : Int), k < l.length → (flat l).set (k * 3 + 2) (.int .i64 i) = flat (l.set k { spAt l k with d := i })
  | [], k, i, h => absurd h (by simp)
  | x :: l, 0, i, _ => by simp [flat_cons, spAt]
  | x :: l, k + 1, i, h => by
    have ih := flat_set2 l k i (by simpa using h)
    have e1 : (k + 1) * 3 + 2 = (k * 3 + 2) + 1 + 1 + 1 := by omega
    have e2 : spAt (x :: l) (k + 1) = spAt l k := by simp [spAt]
    rw [e2, List.set_cons_succ, flat_cons, flat_cons, e1, List.set_cons_succ, List.set_cons_succ, List.set_cons_succ, ih]
def ints (l : List Nat) : List Value := l.map (fun k : Nat => Value.int .i64 (k : Int))
abbrev OS (B : Nat) (w : World) (v : Value) (l : List Sp) : Prop := w.ownsRow (B + 6) 145 3 v l.length (flat l)
abbrev OO (B : Nat) (w : World) (v : Value) (l : List Nat) : Prop := w.ownsRow (B + 6) 3 1 v l.length (ints l.reverse)
/-- rows of two types are two rows -/
theorem own_ne {w : World} {B B' : Nat} {v v' : Value} {e e' : TypeId} {s s' n n' : Nat} {xs xs' : List Value} (h : w.ownsRow B e s v n xs) (h' : w.ownsRow B' e' s' v' n' xs') (hne : e ≠ e') : v.ownBlock = none ∨ v.ownBlock ≠ v'.ownBlock := by
  rcases h.2 with ⟨rfl, _⟩ | ⟨g, cap, cur, rfl, _, hg, _⟩
  · exact .inl rfl
  · rcases h'.2 with ⟨rfl, _⟩ | ⟨g', cap', cur', rfl, _, hg', _⟩
    · exact .inr (by simp [Value.ownBlock])
    · refine .inr ?_
      simp only [Value.ownBlock, ne_eq, Option.some.injEq]
      rintro rfl
      rw [hg] at hg'
      simp at hg'
      exact hne hg'.2
theorem own_slice {w : World} {base : Nat} {e : TypeId} {size n : Nat} {v : Value} {xs : List Value} (h : w.ownsRow base e size v n xs) : ∃ a c, v = .slice a n c := by
  rcases h.2 with ⟨rfl, rfl⟩ | ⟨g, cap, cur, rfl, _⟩
  · exact ⟨_, _, rfl⟩
  · exact ⟨_, _, rfl⟩
theorem own_some {w : World} {base : Nat} {e : TypeId} {size n : Nat} {a : Option Addr} {m c : Nat} {xs : List Value} (h : w.ownsRow base e size (.slice a m c) n xs) (hn : 0 < n) : ∃ g, a = some ⟨g, 0, none⟩ ∧ m = n ∧ base ≤ g ∧ n ≤ c := by
  rcases h.2 with ⟨_, rfl⟩ | ⟨g, cap, cur, e, hb, _, hc, _⟩
  · omega
  · cases e; exact ⟨g, rfl, rfl, hb, hc⟩
/-- a shorter slice of one's own row is one's own -/
theorem own_take {w : World} {base : Nat} {e : TypeId} {g n c : Nat} {xs : List Value} (h : w.ownsRow base e 1 (.slice (some ⟨g, 0, none⟩) n c) n xs) (m : Nat) (hm : m ≤ n) : w.ownsRow base e 1 (.slice (some ⟨g, 0, none⟩) m c) m (xs.take m) := by
  obtain ⟨h1, h2⟩ := h
  rcases h2 with ⟨h, _⟩ | ⟨g', cap, cur, hv, hb, hg, hc, hm', hs, ht⟩
  · cases h
  · simp only [Value.slice.injEq, Option.some.injEq, Addr.mk.injEq, and_true, true_and] at hv
    obtain ⟨rfl, rfl⟩ := hv
    refine ⟨by simp at h1 ⊢; omega, .inr ⟨g, c, cur, rfl, hb, hg, by omega, hm', hs, ?_⟩⟩
    rw [← ht, List.take_take, Nat.mul_one, Nat.mul_one, Nat.min_eq_left hm]
theorem row_block {w : World} {base : Nat} {e : TypeId} {size n : Nat} {v : Value} {xs : List Value} (h : w.ownsRow base e size v n xs) : ∀ k, v.ownBlock = some k → base ≤ k := fun k hk => (h.lt k hk).1

/-- a slice of numbers, as they stand in memory -/
def Rd (w : World) (a : Option Addr) (m c : Nat) (l : List Nat) : Prop :=
  m = l.length ∧ m ≤ c ∧ ∀ j, j < m → ∃ g, a = some ⟨g, 0, none⟩ ∧ w.cell? ⟨g, j, none⟩ = some (.int .i64 ((l.reverse.getD j 0 : Nat) : Int))
theorem Rd.none (w : World) : Rd w none 0 0 [] := ⟨rfl, Nat.le_refl _, fun _ h => absurd h (by omega)⟩
theorem own_rd {w : World} {B : Nat} {a : Option Addr} {n m c : Nat} {l : List Nat} (h : w.ownsRow B 3 1 (.slice a m c) n (ints l.reverse)) (hm : m = l.length) (hmn : m = n) : Rd w a m c l := by
  subst hmn
  refine ⟨hm, ?_, fun j hj => ?_⟩
  · rcases h.2 with ⟨e, rfl⟩ | ⟨g, cap, cur, e, hb, _, hc, _⟩
    · cases e; exact Nat.le_refl _
    · cases e; exact hc
  · obtain ⟨g, rfl, _, _, _⟩ := own_some h (by omega)
    refine ⟨g, rfl, ?_⟩
    rw [h.cellAt j (by omega)]
    have : j < l.reverse.length := by simp; omega
    generalize l.reverse = q at this ⊢
    simp [ints, this]
/-- the body, by its first bytes -/
def Ops (n₀ : Nat) (w : World) (a : Option Addr) (n : Nat) (f : Nat → Int) : Prop := ∀ j, j < n → ∃ b off, a = some ⟨b, off, none⟩ ∧ b < n₀ ∧ w.cell? ⟨b, off + j * 3, none⟩ = some (.int .i64 (f j))
theorem Ops.below {n₀ : Nat} {w w' : World} {a : Option Addr} {n : Nat} {f : Nat → Int} (h : Ops n₀ w a n f) {B : Nat} (hb : Below B w w') (hB : n₀ ≤ B) : Ops n₀ w' a n f := fun j hj => by
  obtain ⟨b, off, e, hlt, hc⟩ := h j hj
  exact ⟨b, off, e, hlt, (hb.cell (p := ⟨b, off + j * 3, none⟩) (by show b < B; omega)).trans hc⟩
theorem Ops.mono {n₀ n₁ : Nat} {w : World} {a : Option Addr} {n : Nat} {f : Nat → Int} (h : Ops n₀ w a n f) (hn : n₀ ≤ n₁) : Ops n₁ w a n f := fun j hj => by
  obtain ⟨b, off, e, hlt, hc⟩ := h j hj
  exact ⟨b, off, e, by omega, hc⟩
/-- all of it, ahead of place p -/
structure Inv (B : Nat) (a : Option Addr) (n c : Nat) (s : St) (vs vo : Value) (w : World) : Prop where
  bx : Bx B (.slice a n c) vs vo s.deep s.ended s.wrong w
  os : OS B w vs s.sp
  oo : OO B w vo s.op
/-- what a call of the closures lets stand: all but the six variables and the two rows; the rows stay where they are, or move to new blocks -/
structure Fr (B : Nat) (vs vo vs' vo' : Value) (w w' : World) : Prop where
  bl : Below B w w'
  kp : ∀ k, B + 6 ≤ k → k < w.heap.size → vs.ownBlock ≠ some k → vo.ownBlock ≠ some k → w'.heap[k]? = w.heap[k]?
  ns : ∀ k, vs'.ownBlock = some k → vs.ownBlock = some k ∨ w.heap.size ≤ k
  no : ∀ k, vo'.ownBlock = some k → vo.ownBlock = some k ∨ w.heap.size ≤ k
section
variable {B : Nat} {vs vo vs' vo' : Value} {w w' : World}
theorem Fr.refl (B : Nat) (vs vo : Value) (w : World) : Fr B vs vo vs vo w w := ⟨Below.refl _ _, fun _ _ _ _ _ => rfl, fun _ h => .inl h, fun _ h => .inl h⟩
theorem Fr.box (h : Fr B vs vo vs' vo' w w') {a : Addr} (h1 : B ≤ a.block) (h2 : a.block < B + 6) (u : Value) : Fr B vs vo vs' vo' w (w'.setCell a u) :=
  ⟨h.bl.setCell h1 u, fun k hk hl ho hs => (Below.heap_setCell _ _ _ _ (by omega)).trans (h.kp k hk hl ho hs), h.ns, h.no⟩
theorem Fr.drew (h : Fr B vs vo vs' vo' w w') : Fr B vs vo vs' vo' w w'.drew := ⟨h.bl.drew, h.kp, h.ns, h.no⟩
theorem Fr.below {w'' : World} (h : Fr B vs vo vs' vo' w w') (hb : Below w'.heap.size w' w'') (hB : B ≤ w'.heap.size) : Fr B vs vo vs' vo' w w'' :=
  ⟨h.bl.trans (hb.mono hB), fun k hk hl ho hs => (hb.block k (by have := h.bl.size; omega)).trans (h.kp k hk hl ho hs), h.ns, h.no⟩
theorem Fr.alloc (h : Fr B vs vo vs' vo' w w') (hB : B ≤ w'.heap.size) (o : Obj) : Fr B vs vo vs' vo' w (w'.alloc o) := h.below ((Below.refl _ _).alloc (Nat.le_refl _) _) hB
theorem Fr.growO {w'' : World} {vo'' : Value} (h : Fr B vs vo vs' vo' w w') (hg : w'.grownBy w'' vo'.ownBlock) (hn : ∀ k, vo''.ownBlock = some k → vo'.ownBlock = some k ∨ w'.heap.size ≤ k) (hB : B ≤ w'.heap.size) (hr : ∀ k, vo'.ownBlock = some k → B ≤ k) : Fr B vs vo vs' vo'' w w'' :=
  ⟨h.bl.grown hg hB hr, fun k hk hl hs ho => (hg.block k (by have := h.bl.size; omega) (fun e => by
      rcases h.no k e.symm with e | e
      · exact ho e
      · omega)).trans (h.kp k hk hl hs ho), h.ns, fun k hk => by
      rcases hn k hk with e | e
      · exact h.no k e
      · exact .inr (by have := h.bl.size; omega)⟩
theorem Fr.growS {w'' : World} {vs'' : Value} (h : Fr B vs vo vs' vo' w w') (hg : w'.grownBy w'' vs'.ownBlock) (hn : ∀ k, vs''.ownBlock = some k → vs'.ownBlock = some k ∨ w'.heap.size ≤ k) (hB : B ≤ w'.heap.size) (hr : ∀ k, vs'.ownBlock = some k → B ≤ k) : Fr B vs vo vs'' vo' w w'' :=
  ⟨h.bl.grown hg hB hr, fun k hk hl hs ho => (hg.block k (by have := h.bl.size; omega) (fun e => by
      rcases h.ns k e.symm with e | e
      · exact hs e
      · omega)).trans (h.kp k hk hl hs ho), fun k hk => by
      rcases hn k hk with e | e
      · exact h.ns k e
      · exact .inr (by have := h.bl.size; omega), h.no⟩
theorem Fr.rowS (h : Fr B vs vo vs' vo' w w') {g j n c : Nat} (hv : vs' = .slice (some ⟨g, 0, none⟩) n c) (hg : B ≤ g) (u : Value) : Fr B vs vo vs' vo' w (w'.setCell ⟨g, j, none⟩ u) :=
  ⟨h.bl.setCell (by show B ≤ g; omega) u, fun k hk hl hs ho => (Below.heap_setCell _ _ _ _ (by
      intro e0
      have e1 : k = g := e0
      rcases h.ns k (by rw [hv, e1]; rfl) with e | e
      · exact hs e
      · omega)).trans (h.kp k hk hl hs ho), h.ns, h.no⟩
theorem Fr.cutO (h : Fr B vs vo vs' vo' w w') {vo'' : Value} (hv : vo''.ownBlock = vo'.ownBlock) : Fr B vs vo vs' vo'' w w' := ⟨h.bl, h.kp, h.ns, fun k hk => h.no k (by rw [← hv]; exact hk)⟩
theorem Fr.trans {vs'' vo'' : Value} {w'' : World} (h : Fr B vs vo vs' vo' w w') (h' : Fr B vs' vo' vs'' vo'' w' w'') : Fr B vs vo vs'' vo'' w w'' := by
  have hs := h.bl.size
  refine ⟨h.bl.trans h'.bl, fun k hk hl a b => ?_, fun k hk => ?_, fun k hk => ?_⟩
  · refine (h'.kp k hk (by omega) (fun e => ?_) (fun e => ?_)).trans (h.kp k hk hl a b)
    · rcases h.ns k e with e | e
      · exact a e
      · omega
    · rcases h.no k e with e | e
      · exact b e
      · omega
  · rcases h'.ns k hk with e | e
    · exact h.ns k e
    · exact .inr (by omega)
  · rcases h'.no k hk with e | e
    · exact h.no k e
    · exact .inr (by omega)
end
theorem own_mono {w : World} {b b' : Nat} {e : TypeId} {z n : Nat} {v : Value} {xs : List Value} (h : w.ownsRow b e z v n xs) (hb : b' ≤ b) : w.ownsRow b' e z v n xs := by
  refine ⟨h.1, ?_⟩
  rcases h.2 with h' | ⟨g, cap, cur, hv, hg, r⟩
  · exact .inl h'
  · exact .inr ⟨g, cap, cur, hv, by omega, r⟩
/-- append to a row of one's own: it stays where it is, or moves to a new block -/
theorem append_mine {P : Program} (w : World) {ops : Array Oper} {rest : List Oper} {o : Oper} {a : Act} {Q : Exit → Act → World → Prop} (hgd : o.guard = none) (s x : Operand) (t : TypeId)
    (ho : o.op = .call { callee := .builtin .append, args := #[s, x], argTypes := #[t, t] })
    (base : Nat) (e : TypeId) (i : TypeInfo) (z : Value) (size bytes : Nat) (ht : P.underlying t = some (.slice e)) (hi : P.info? e = some i) (hz : i.zero = some z)
    (hsize : i.size = size) (hby : i.bytes = bytes) (hzs : z.cells.size = size) (hsz : 0 < size)
    (v : Value) (n : Nat) (xs : List Value) (hs : a.eval s = v) (hown : w.ownsRow base e size v n xs)
    (ad : Addr) (m c : Nat) (news : List Value) (hx : a.eval x = .slice (some ad) m c) (hl : news.length = m * size) (hnews : ∀ j u, news[j]? = some u → w.cell? (ad.add j) = some u) (h1 : ∀ u ∈ news, u.oneCell' = true)
    (hm : 0 < m) (h63 : n + m ≤ maxLen) (hbytes : (n + m) * bytes ≤ 140737488355328) (hbase : base ≤ w.heap.size)
    (h : ∀ v' w', w'.ownsRow base e size v' (n + m) (xs ++ news) → w.grownBy w' v.ownBlock → (∀ k, v'.ownBlock = some k → v.ownBlock = some k ∨ w.heap.size ≤ k) → wpList P ops Q rest (a.put o.dst v') w') : wpList P ops Q (o :: rest) a w := by
  have hx0 := hown.1
  have gr : ∀ (w' : World) (r : Option Nat), w.grownBy w' none → w.grownBy w' r := fun w' r hg => ⟨hg.os, hg.tape, hg.output, hg.size, fun k hk _ => hg.block k hk (by simp)⟩
  have hnew : ∀ (v' : Value) (w' : World) {nn : Nat} {ys : List Value}, w'.ownsRow w.heap.size e size v' nn ys → ∀ k, v'.ownBlock = some k → v.ownBlock = some k ∨ w.heap.size ≤ k := fun v' w' _ _ ho k hk => .inr (ho.lt k hk).1
  rcases hown.2 with ⟨rfl, rfl⟩ | ⟨g, cap, cur, rfl, hb, hg, hc, hcm, hcs, htake⟩
  · refine wpList_append_grows w hgd s x t ho e i z size bytes ht hi hz hsize hby hzs hsz none 0 0 xs hs (fun _ => ⟨rfl, rfl⟩) hx0 (fun b hb => by cases hb) ad m c news hx hl hnews h1 (by omega) h63 hbytes ?_
    intro v' w' ho hg
    exact h v' w' (own_mono ho hbase) (gr w' _ hg) (hnew v' w' ho)
  · rcases Nat.lt_or_ge cap (n + m) with hlt | hge
    · refine wpList_append_grows w hgd s x t ho e i z size bytes ht hi hz hsize hby hzs hsz (some ⟨g, 0, none⟩) n cap xs hs (fun h => by cases h) hx0 (fun b hb => by cases hb; exact hown.cells rfl) ad m c news hx hl hnews h1 hlt h63 hbytes ?_
      intro v' w' ho hg
      exact h v' w' (own_mono ho hbase) (gr w' _ hg) (hnew v' w' ho)
    · refine wpList_append_fits w hgd s x t ho base e i size ht hi hsize g n cap xs hs hown ad m c news hx hl hnews h1 hge ?_
      intro w' ho hg
      exact h _ w' ho hg (fun k hk => .inl hk)
theorem at_one (v : Value) (w : World) (T : TypeId) : ∀ (j : Nat) (u : Value), [v][j]? = some u → (w.alloc (.cells #[v] T)).cell? ((⟨w.heap.size, 0, none⟩ : Addr).add j) = some u := by
  intro j u hj
  match j, hj with
  | 0, hj => simp at hj; subst hj; simp [Addr.add]
theorem at_one' (v : Value) (w : World) (T : TypeId) (k : Nat) (hk : k = w.heap.size) : ∀ (j : Nat) (u : Value), [v][j]? = some u → (w.alloc (.cells #[v] T)).cell? ((⟨k, 0, none⟩ : Addr).add j) = some u := by
  subst hk; exact at_one v w T
theorem at_cells (cs : List Value) (w : World) (T : TypeId) : ∀ (j : Nat) (u : Value), cs[j]? = some u → (w.alloc (.cells cs.toArray T)).cell? ((⟨w.heap.size, 0, none⟩ : Addr).add j) = some u := by
  intro j u hj
  rw [Addr.add_lit, Nat.zero_add, cell_of_row _ _ j _ T (0, 0) (heap_alloc_new w _)]
  simpa using hj
theorem at_cells' (cs : List Value) (w : World) (T : TypeId) (k : Nat) (hk : k = w.heap.size) : ∀ (j : Nat) (u : Value), cs[j]? = some u → (w.alloc (.cells cs.toArray T)).cell? ((⟨k, 0, none⟩ : Addr).add j) = some u := by
  subst hk; exact at_cells cs w T
end Go.Proofs.YtamofhkmhjckaabGreatDoor.Nest
namespace Go.Proofs.YtamofhkmhjckaabGreatDoor.Nest
open Go.RowKit

def agg3 (x : Sp) : Value := .agg #[.int .i64 x.b, .int .i64 x.e, .int .i64 x.d]
theorem bel_one (w : World) (o : Obj) : Below w.heap.size w (w.alloc o) := (Below.refl _ _).alloc (Nat.le_refl _) _
set_option maxHeartbeats 1000000 in
theorem lacks_any (a : Option Addr) (n c n₀ : Nat) (f : Nat → Int) (x : Sp) (m : Nat) (hb : x.b = m) (hm : m < n) (w : World) (hO : Ops n₀ w a n f) (hn : n₀ ≤ w.heap.size) :
    Calls Tryz.prog 80 #[.slice a n c, agg3 x] w fun e w' => e = .returned (.bool (lacks f x)) ∧ w' = w.alloc (.cells #[.int .i64 x.b, .int .i64 x.e, .int .i64 x.d] 145) := by
  obtain ⟨b, off, rfl, hlt, hc⟩ := hO m hm
  obtain ⟨xb, xe, xd⟩ := x
  simp only at hb
  subst hb
  unfold agg3
  have cc : (w.alloc (.cells #[.int .i64 m, .int .i64 xe, .int .i64 xd] 145)).cell? ⟨b, off + m * 3, none⟩ = some (.int .i64 (f m)) := ((bel_one _ _).cell (p := ⟨b, off + m * 3, none⟩) (by show b < _; omega)).trans hc
  have hl : lacks f ⟨m, xe, xd⟩ = (f m == 4 && xe == -1) := by simp [lacks]
  have HL := hide hl
  clear hl hc hO
  by_cases h4 : f m = 4
  · rw [h4] at cc
    go_enter Tryz.func80, Tryz.ntmps80
    go_wp2_with fail
    go_ret
    exact ⟨ret_bool (by rw [HL.out, h4]; rfl), rfl⟩
  · go_enter Tryz.func80, Tryz.ntmps80
    go_wp2_with fail
    go_ret
    exact ⟨ret_bool (by rw [HL.out]; simp [h4]), rfl⟩
theorem lacks_is (a : Option Addr) (n c n₀ : Nat) (f : Nat → Int) (x : Sp) (r : Bool) (m : Nat) (hr : lacks f x = r) (hb : x.b = m) (hm : m < n) (w : World) (hO : Ops n₀ w a n f) (hn : n₀ ≤ w.heap.size) :
    Calls Tryz.prog 80 #[.slice a n c, .agg #[.int .i64 x.b, .int .i64 x.e, .int .i64 x.d]] w fun e w' => e = .returned (.bool r) ∧ Below w.heap.size w w' := by
  refine (lacks_any a n c n₀ f x m hb hm w hO hn).mono ?_
  rintro e w' ⟨rfl, rfl⟩
  exact ⟨by rw [hr], bel_one _ _⟩
theorem own_below {w w' : World} {b : Nat} {e : TypeId} {z n : Nat} {v : Value} {xs : List Value} (h : w.ownsRow b e z v n xs) (hb : Below w.heap.size w w') : w'.ownsRow b e z v n xs :=
  h.kept (row := none) ⟨hb.os, hb.tape, hb.output, hb.size, fun k hk _ => hb.block k hk⟩ (by cases v.ownBlock <;> simp)
theorem cut_fin {B : Nat} {l vs vo vo' : Value} {d : Int} {e : Bool} {w W wx : World} {sp : List Sp} {op : List Nat} (I : Bx B l vs vo d e false W) (hv : vo' = vo) (S : OS B W vs sp) (O : OO B W vo op) (L : Fr B vs vo vs vo w W)
    (hb : Below W.drew.heap.size W.drew wx) (x : Bool) : Hid (Bx B l vs vo' d e x (wx.setCell ⟨B + 5, 0, none⟩ (.bool x))) ∧ Hid (OS B (wx.setCell ⟨B + 5, 0, none⟩ (.bool x)) vs sp) ∧ Hid (OO B (wx.setCell ⟨B + 5, 0, none⟩ (.bool x)) vo op) ∧ Hid (Fr B vs vo vs vo w (wx.setCell ⟨B + 5, 0, none⟩ (.bool x))) := by
  subst hv
  have hs := I.size
  refine ⟨(I.drew.below hb hs).set5 x, ownsRow_setCell_below (own_below S.drew hb) (by show B + 5 < B + 6; omega) _, ownsRow_setCell_below (own_below O.drew hb) (by show B + 5 < B + 6; omega) _, ?_⟩
  exact (L.drew.below hb (by show B ≤ W.heap.size; omega)).box (by show B ≤ B + 5; omega) (by show B + 5 < B + 6; omega) _
theorem Inv.drew {B : Nat} {a : Option Addr} {n c : Nat} {s : St} {vs vo : Value} {w : World} (h : Inv B a n c s vs vo w) : Inv B a n c s vs vo w.drew := ⟨h.bx.drew, h.os.drew, h.oo.drew⟩
theorem Inv.put {B : Nat} {a : Option Addr} {n c : Nat} {s : St} {g1 cs : Nat} {vo : Value} {w : World} (h : Inv B a n c s (.slice (some ⟨g1, 0, none⟩) s.sp.length cs) vo w) (hg : B + 6 ≤ g1) (j : Nat) (u : Int) (sp' : List Sp)
    (hsp : (flat s.sp).set j (.int .i64 u) = flat sp') (hl : sp'.length = s.sp.length) : Inv B a n c { s with sp := sp' } (.slice (some ⟨g1, 0, none⟩) s.sp.length cs) vo (w.setCell ⟨g1, j, none⟩ (.int .i64 u)) := by
  have hs := (World.ownsRow.stored h.os j (.int .i64 u)).1
  rw [hsp] at hs
  refine ⟨h.bx.far (by show B + 6 ≤ g1; omega) _, ?_, ?_⟩
  · show World.ownsRow _ _ _ _ _ sp'.length (flat sp')
    rw [hl]; exact hs
  · refine ownsRow_setCell_other h.oo ?_ _
    rcases own_ne h.oo h.os (by decide) with e | e
    · rw [e]; simp
    · exact e
theorem rd_row {w : World} {B : Nat} {g c n : Nat} {xs : List Value} {r : List Nat} (h : w.ownsRow B 3 1 (.slice (some ⟨g, 0, none⟩) n c) n xs) (hr : r.length ≤ n) (hl : xs.take r.length = ints r.reverse) : Rd w (some ⟨g, 0, none⟩) r.length c r := by
  have := own_take h r.length hr
  rw [hl] at this
  exact own_rd this rfl rfl
end Go.Proofs.YtamofhkmhjckaabGreatDoor.Nest
