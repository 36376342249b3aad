/-
  The program's Fits: whether a module keeps to the limits, and is made as it must be: the plain functions small and whole; memory that was there stays as it was.
-/
import Derived.Test.YtcbfpikggphokaaGreatDoorAll
import Derived.Test.YtcbfpikggphokaaGreatDoorTold
namespace Go.Proofs.YtcbfpikggphokaaGreatDoor
open Go.RowKit

def wi (t : Int) : Bool := decide (t = 1) || decide (t = 3)
theorem wi_no {t : Int} (h : ri t = false) : wi t = false := by
  have := ri_no h; simp [wi, this]
def idx (n : Int) : Bool := decide (0 ≤ n) && decide (n < 4294967296)
def smMem (x : Int) : Bool := decide (x = 0) || (decide (3 ≤ x) && decide (x ≤ 12))
def smSg (s : Sg) : Bool := decide (s.params.length ≤ 4)
def smFn (f : Fn) : Bool := decide (f.locals.length ≤ 8) && decide (f.body.length ≤ 200)
def small (M : Mo) : Bool := decide (M.sigs.length ≤ 16) && (decide (M.imports.length ≤ 8) && (decide (M.funcs.length ≤ 8) && (decide (M.globals.length ≤ 8) && (decide (M.data.length ≤ 8) && (M.sigs.all smSg && (M.funcs.all smFn && [M.m0, M.m1].all smMem))))))
/-- Whether the last instruction is the only one that closes what is open. -/
def nxt (o op : Int) : Int := if op = 2 ∨ op = 3 ∨ op = 4 then o + 1 else if op = 11 then o - 1 else o
def cl : Int → List In → Bool
  | _, [] => false
  | o, x :: r => if nxt o x.op = 0 then r.isEmpty else cl (nxt o x.op) r
def rtI (x : In) : Bool := rt x.op x.n x.m
def whSg (s : Sg) : Bool := decide (s.results.length ≤ 1) && (s.params.all ri && s.results.all ri)
def whFn (f : Fn) : Bool := idx f.sig && (f.locals.all ri && (f.body.all rtI && cl 1 f.body))
def whGl (g : Gl) : Bool := ri g.t && (wi g.t || idx g.v)
def whDa (d : Da) : Bool := (decide (d.mem = 0) || decide (d.mem = 1)) && idx d.pos
def whole (M : Mo) : Bool := M.sigs.all whSg && (M.imports.all idx && (M.funcs.all whFn && (M.globals.all whGl && M.data.all whDa)))

theorem wide_any (t : Int) (w : World) (ht : I64 t) :
    Calls Tryz.prog 94 #[.int .i64 t] w fun e w' => e = .returned (.bool (wi t)) ∧ w' = w := by
  cases hr : ri t
  · have h := hide (wi_no hr)
    have hr' := hide hr
    have ht' := hide ht
    clear ht hr
    go_enter Tryz.func94, Tryz.ntmps94
    go_wp2_with fail
    refine (right_is t false _ ht'.out hr'.out).mono ?_
    rintro e w1 ⟨rfl, rfl⟩
    go_wp2_with fail
    go_ret
    exact ⟨ret_bool h.out.symm, rfl⟩
  · rcases (ri_iff t).mp hr with rfl | rfl | rfl | rfl <;>
    · clear hr
      have ht' := hide ht
      clear ht
      go_enter Tryz.func94, Tryz.ntmps94
      go_wp2_with fail
      refine (right_is _ true _ ht'.out rfl).mono ?_
      rintro e w1 ⟨rfl, rfl⟩
      go_wp2_with fail
      go_ret
      exact ⟨ret_bool (by decide), rfl⟩
theorem index_any (n : Int) (w : World) (hn : I64 n) :
    Calls Tryz.prog 81 #[.int .i64 n] w fun e w' => e = .returned (.bool (idx n)) ∧ w' = w := by
  have h : (n / 4294967296 == 0) = idx n := by
    unfold idx I64 at *
    by_cases h0 : 0 ≤ n <;> by_cases h1 : n < 4294967296 <;> simp [h0, h1] <;> omega
  have H := hide h
  clear h hn
  go_enter Tryz.func81, Tryz.ntmps81
  go_wp2_with fail
  go_ret
  exact ⟨ret_bool H.out, rfl⟩
theorem smallMem_any (x : Int) (w : World) : Calls Tryz.prog 79 #[.int .i64 x] w fun e w' => e = .returned (.bool (smMem x)) ∧ w' = w := by
  by_cases h0 : x = 0
  · subst h0
    go_enter Tryz.func79, Tryz.ntmps79
    go_wp2_with fail
    go_ret
    exact ⟨rfl, rfl⟩
  · have e0 : (x == 0) = false := by simpa using h0
    by_cases h1 : 3 ≤ x
    · by_cases h2 : x ≤ 12
      · have H : Hid (smMem x = true) := hide (by simp [smMem, h1, h2])
        clear h0
        go_enter Tryz.func79, Tryz.ntmps79
        go_wp2_with fail
        go_ret
        exact ⟨ret_bool H.out.symm, rfl⟩
      · have H : Hid (smMem x = false) := hide (by simp [smMem, h0, h2])
        clear h0
        go_enter Tryz.func79, Tryz.ntmps79
        go_wp2_with fail
        go_ret
        exact ⟨ret_bool H.out.symm, rfl⟩
    · have H : Hid (smMem x = false) := hide (by simp [smMem, h0, h1])
      clear h0
      go_enter Tryz.func79, Tryz.ntmps79
      go_wp2_with fail
      go_ret
      exact ⟨ret_bool H.out.symm, rfl⟩
theorem smallSig_any (x : Sg) (vp vr : Value) (w : World) (hp : SInts w.heap.size w vp x.params) (hr : SInts w.heap.size w vr x.results) :
    Calls Tryz.prog 75 #[.agg #[vp, vr]] w fun e w' => e = .returned (.bool (smSg x)) ∧ Below w.heap.size w w' := by
  obtain ⟨ap, kp, rfl, _⟩ := hp
  obtain ⟨ar, kr, rfl, _⟩ := hr
  by_cases h : x.params.length ≤ 4
  · have h' : (x.params.length : Int) ≤ 4 := by omega
    have H : Hid (smSg x = true) := hide (by simp [smSg, h])
    clear h
    go_enter Tryz.func75, Tryz.ntmps75
    go_wp2_with fail
    go_ret
    exact ⟨ret_bool (by simpa [h'] using H.out.symm), bel_one _ _⟩
  · have h' : ¬ (x.params.length : Int) ≤ 4 := by omega
    have H : Hid (smSg x = false) := hide (by simp [smSg, h])
    clear h
    go_enter Tryz.func75, Tryz.ntmps75
    go_wp2_with fail
    go_ret
    exact ⟨ret_bool (by simpa [h'] using H.out.symm), bel_one _ _⟩
theorem smallFunc_any (x : Fn) (vl vb : Value) (w : World) (hp : SInts w.heap.size w vl x.locals) (hr : SIns w.heap.size w vb x.body) :
    Calls Tryz.prog 77 #[.agg #[.int .i64 x.sig, .bool x.tr, vl, vb]] w fun e w' => e = .returned (.bool (smFn x)) ∧ Below w.heap.size w w' := by
  obtain ⟨ap, kp, rfl, _⟩ := hp
  obtain ⟨ar, kr, rfl, _⟩ := hr
  by_cases h : x.locals.length ≤ 8
  · have h' : (x.locals.length : Int) ≤ 8 := by omega
    by_cases g : x.body.length ≤ 200
    · have g' : (x.body.length : Int) ≤ 200 := by omega
      have H : Hid (smFn x = true) := hide (by simp [smFn, h, g])
      clear h g
      go_enter Tryz.func77, Tryz.ntmps77
      go_wp2_with fail
      go_ret
      exact ⟨ret_bool (by simpa [g'] using H.out.symm), bel_one _ _⟩
    · have g' : ¬ (x.body.length : Int) ≤ 200 := by omega
      have H : Hid (smFn x = false) := hide (by simp [smFn, g])
      clear h g
      go_enter Tryz.func77, Tryz.ntmps77
      go_wp2_with fail
      go_ret
      exact ⟨ret_bool (by simpa [g'] using H.out.symm), bel_one _ _⟩
  · have h' : ¬ (x.locals.length : Int) ≤ 8 := by omega
    have H : Hid (smFn x = false) := hide (by simp [smFn, h])
    clear h
    go_enter Tryz.func77, Tryz.ntmps77
    go_wp2_with fail
    go_ret
    exact ⟨ret_bool (by simpa [h'] using H.out.symm), bel_one _ _⟩
/-- A pure contract leaves all. -/
theorem pure_below {g : FuncId} {args : Array Value} {w : World} {r : Ending} (h : Calls Tryz.prog g args w fun e w' => e = r ∧ w' = w) : Calls Tryz.prog g args w fun e w' => e = r ∧ Below w.heap.size w w' :=
  h.mono fun _ _ ⟨a, b⟩ => ⟨a, b ▸ Below.refl _ _⟩
theorem ints_right (v : Value) (l : List Int) (r : Bool) (w : World) (hl : l.length ≤ 1000) (h : SInts w.heap.size w v l) (hr : l.all ri = r) :
    Calls Tryz.prog 78 #[v, .func (.func 108) #[] #[]] w fun e w' => e = .returned (.bool r) ∧ Below w.heap.size w w' := by
  rw [← hr]; exact all_int 108 ri v l w at108 hl h (fun x _ w hx => pure_below (right_any x w hx))
theorem ints_index (v : Value) (l : List Int) (r : Bool) (w : World) (hl : l.length ≤ 1000) (h : SInts w.heap.size w v l) (hr : l.all idx = r) :
    Calls Tryz.prog 78 #[v, .func (.func 81) #[] #[]] w fun e w' => e = .returned (.bool r) ∧ Below w.heap.size w w' := by
  rw [← hr]; exact all_int 81 idx v l w at81 hl h (fun x _ w hx => pure_below (index_any x w hx))
theorem ints_mem (v : Value) (l : List Int) (r : Bool) (w : World) (hl : l.length ≤ 1000) (h : SInts w.heap.size w v l) (hr : l.all smMem = r) :
    Calls Tryz.prog 78 #[v, .func (.func 79) #[] #[]] w fun e w' => e = .returned (.bool r) ∧ Below w.heap.size w w' := by
  rw [← hr]; exact all_int 79 smMem v l w at79 hl h (fun x _ w _ => pure_below (smallMem_any x w))
theorem index_is (n : Int) (r : Bool) (w : World) (hn : I64 n) (h : idx n = r) :
    Calls Tryz.prog 81 #[.int .i64 n] w fun e w' => e = .returned (.bool r) ∧ w' = w := by
  rw [← h]; exact index_any n w hn
theorem wide_is (t : Int) (r : Bool) (w : World) (ht : I64 t) (h : wi t = r) :
    Calls Tryz.prog 94 #[.int .i64 t] w fun e w' => e = .returned (.bool r) ∧ w' = w := by
  rw [← h]; exact wide_any t w ht
end Go.Proofs.YtcbfpikggphokaaGreatDoor
