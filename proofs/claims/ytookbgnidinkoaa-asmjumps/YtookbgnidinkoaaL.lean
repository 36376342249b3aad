/-
  Instructions and items compared; the program's isLabel, mayGo, size.
-/
import Derived.Test.YtookbgnidinkoaaP
import Derived.Deep.MidRow
import Derived.BigQuiet
import Derived.Deep.QuietTactic
namespace Go.Proofs.Ytookbgnidinkoaa
open Go.RowKit
open Xc
set_option linter.unusedSimpArgs false
set_option linter.unusedVariables false
theorem p_0 (a b c d e f g : Value) (w : World) : (part 3 #[a, b, c, d, e, f, g] 0).run Try.prog w = .ok a w := by kernel_rfl
theorem p_1 (a b c d e f g : Value) (w : World) : (part 4 #[a, b, c, d, e, f, g] 1).run Try.prog w = .ok b w := by kernel_rfl
theorem p_2 (a b c d e f g : Value) (w : World) : (part 3 #[a, b, c, d, e, f, g] 2).run Try.prog w = .ok c w := by kernel_rfl
theorem p_3 (a b c d e f g : Value) (w : World) : (part 3 #[a, b, c, d, e, f, g] 3).run Try.prog w = .ok d w := by kernel_rfl
theorem p_4 (a b c d e f g : Value) (w : World) : (part 3 #[a, b, c, d, e, f, g] 4).run Try.prog w = .ok e w := by kernel_rfl
theorem p_5 (a b c d e f g : Value) (w : World) : (part 3 #[a, b, c, d, e, f, g] 5).run Try.prog w = .ok f w := by kernel_rfl
theorem p_6 (a b c d e f g : Value) (w : World) : (part 3 #[a, b, c, d, e, f, g] 6).run Try.prog w = .ok g w := by kernel_rfl
def xeq (x y : Xi) : Bool := x.op == y.op && (x.wide == y.wide && (x.r == y.r && (x.b == y.b && (x.i == y.i && (x.c == y.c && x.n == y.n)))))
theorem xeq_iff {x y : Xi} : xeq x y = true ↔ x = y := by
  obtain ⟨a, b, c, d, e, f, g⟩ := x
  obtain ⟨a', b', c', d', e', f', g'⟩ := y
  simp [xeq]
theorem eql_xd (dd : Nat) (a : Int) (b : Bool) (c d e f g a' : Int) (b' : Bool) (c' d' e' f' g' : Int) (w : World) :
    (Op.equalIn (dd + 1 + 1) 40 (.agg #[.int .i64 a, .bool b, .int .i64 c, .int .i64 d, .int .i64 e, .int .i64 f, .int .i64 g]) (.agg #[.int .i64 a', .bool b', .int .i64 c', .int .i64 d', .int .i64 e', .int .i64 f', .int .i64 g'])).run Try.prog w = .ok (xeq ⟨a, b, c, d, e, f, g⟩ ⟨a', b', c', d', e', f', g'⟩) w := by
  have hb : ∀ x y (w : World), (Op.equalIn (dd + 1) 4 (.bool x) (.bool y)).run Try.prog w = .ok (x == y) w := fun x y w => run_equalIn_bool w dd 4 x y Try.underlying4
  have hi : ∀ x y (w : World), (Op.equalIn (dd + 1) 3 (.int .i64 x) (.int .i64 y)).run Try.prog w = .ok (x == y) w := fun x y w => run_equalIn_int w dd 3 .i64 .i64 x y Try.underlying3
  rw [run_equalIn_struct w (dd + 1) 40 _ _ (by rw [Try.underlying40]; kernel_rfl) (by kernel_rfl)]
  simp [Program.fieldsOf, Try.underlying40, Op.eqFields, Sem.run_bind, p_0, p_1, p_2, p_3, p_4, p_5, p_6, hb, hi, xeq]
  repeat' split
  all_goals simp_all
theorem eql_x (a : Int) (b : Bool) (c d e f g a' : Int) (b' : Bool) (c' d' e' f' g' : Int) (w : World) :
    (Op.equalIn 10000 40 (.agg #[.int .i64 a, .bool b, .int .i64 c, .int .i64 d, .int .i64 e, .int .i64 f, .int .i64 g]) (.agg #[.int .i64 a', .bool b', .int .i64 c', .int .i64 d', .int .i64 e', .int .i64 f', .int .i64 g'])).run Try.prog w = .ok (xeq ⟨a, b, c, d, e, f, g⟩ ⟨a', b', c', d', e', f', g'⟩) w := eql_xd 9998 a b c d e f g a' b' c' d' e' f' g' w
theorem eql_y (a : Int) (b : Bool) (c d e f g a' : Int) (b' : Bool) (c' d' e' f' g' : Int) (w : World) :
    (Op.equalIn 9999 40 (.agg #[.int .i64 a, .bool b, .int .i64 c, .int .i64 d, .int .i64 e, .int .i64 f, .int .i64 g]) (.agg #[.int .i64 a', .bool b', .int .i64 c', .int .i64 d', .int .i64 e', .int .i64 f', .int .i64 g'])).run Try.prog w = .ok (xeq ⟨a, b, c, d, e, f, g⟩ ⟨a', b', c', d', e', f', g'⟩) w := eql_xd 9997 a b c d e f g a' b' c' d' e' f' g' w
theorem eql_int (x y : Int) (w : World) : (Op.equalIn 9999 3 (.int .i64 x) (.int .i64 y)).run Try.prog w = .ok (x == y) w := run_equalIn_int w 9998 3 .i64 .i64 x y Try.underlying3
theorem r_0 (a b c d e f g h k : Value) (w : World) : (part 40 #[a, b, c, d, e, f, g, h, k] 0).run Try.prog w = .ok (.agg #[a, b, c, d, e, f, g]) w := by kernel_rfl
theorem r_7 (a b c d e f g h k : Value) (w : World) : (part 3 #[a, b, c, d, e, f, g, h, k] 7).run Try.prog w = .ok h w := by kernel_rfl
theorem r_8 (a b c d e f g h k : Value) (w : World) : (part 3 #[a, b, c, d, e, f, g, h, k] 8).run Try.prog w = .ok k w := by kernel_rfl
theorem eql_t (a : Int) (b : Bool) (c d e f g h k a' : Int) (b' : Bool) (c' d' e' f' g' h' k' : Int) (w : World) :
    (Op.equalIn 10000 42 (.agg #[.int .i64 a, .bool b, .int .i64 c, .int .i64 d, .int .i64 e, .int .i64 f, .int .i64 g, .int .i64 h, .int .i64 k]) (.agg #[.int .i64 a', .bool b', .int .i64 c', .int .i64 d', .int .i64 e', .int .i64 f', .int .i64 g', .int .i64 h', .int .i64 k'])).run Try.prog w = .ok (xeq ⟨a, b, c, d, e, f, g⟩ ⟨a', b', c', d', e', f', g'⟩ && (h == h' && k == k')) w := by
  rw [show (10000 : Nat) = 9999 + 1 from rfl, run_equalIn_struct w 9999 42 _ _ (by rw [Try.underlying42]; kernel_rfl) (by kernel_rfl)]
  simp [Program.fieldsOf, Try.underlying42, Op.eqFields, Sem.run_bind, r_0, r_7, r_8, eql_y, eql_int]
  repeat' split
  all_goals simp_all
def iv (t : It) : Value := .agg #[.int .i64 t.x.op, .bool t.x.wide, .int .i64 t.x.r, .int .i64 t.x.b, .int .i64 t.x.i, .int .i64 t.x.c, .int .i64 t.x.n, .int .i64 t.lb, .int .i64 t.tg]
/-- An item in a block of its own. -/
def Row9 (g : Nat) (op : Int) (wd : Bool) (r b i c n lb tg : Int) (w : World) : Prop := w.heap[g]? = some (.cells #[.int .i64 op, .bool wd, .int .i64 r, .int .i64 b, .int .i64 i, .int .i64 c, .int .i64 n, .int .i64 lb, .int .i64 tg] 42)
section
variable {g : Nat} {op : Int} {wd : Bool} {r b i c n lb tg : Int} {w w' : World}
theorem Row9.made (w : World) (op : Int) (wd : Bool) (r b i c n lb tg : Int) : Row9 w.heap.size op wd r b i c n lb tg (w.alloc (.cells #[.int .i64 op, .bool wd, .int .i64 r, .int .i64 b, .int .i64 i, .int .i64 c, .int .i64 n, .int .i64 lb, .int .i64 tg] 42)) := heap_alloc_new w _
theorem Row9.lt (h : Row9 g op wd r b i c n lb tg w) : g < w.heap.size := by
  rcases Nat.lt_or_ge g w.heap.size with h' | h'
  · exact h'
  · unfold Row9 at h; rw [Array.getElem?_eq_none h'] at h; cases h
theorem Row9.kept (h : Row9 g op wd r b i c n lb tg w) (k : Below w.heap.size w w') : Row9 g op wd r b i c n lb tg w' := (k.block g h.lt).trans h
theorem Row9.cells (h : Row9 g op wd r b i c n lb tg w) : w.cell? ⟨g, 0, none⟩ = some (.int .i64 op) ∧ w.cell? ⟨g, 1, none⟩ = some (.bool wd) ∧ w.cell? ⟨g, 2, none⟩ = some (.int .i64 r) ∧ w.cell? ⟨g, 3, none⟩ = some (.int .i64 b) ∧ w.cell? ⟨g, 4, none⟩ = some (.int .i64 i) ∧ w.cell? ⟨g, 5, none⟩ = some (.int .i64 c) ∧ w.cell? ⟨g, 6, none⟩ = some (.int .i64 n) ∧ w.cell? ⟨g, 7, none⟩ = some (.int .i64 lb) ∧ w.cell? ⟨g, 8, none⟩ = some (.int .i64 tg) := by
  unfold Row9 at h
  refine ⟨?_, ?_, ?_, ?_, ?_, ?_, ?_, ?_, ?_⟩ <;> simp [World.cell?, h]
theorem Row9.fr (h : Row9 g op wd r b i c n lb tg w) (k : Nat) : w.frozen? ⟨g, k, none⟩ = false := by
  unfold Row9 at h; simp [World.frozen?, h]
end
set_option maxHeartbeats 1000000 in
theorem isLabel_f (op : Int) (wd : Bool) (r b i c n lb tg : Int) (w : World) {q : Bool} (hL : isL ⟨⟨op, wd, r, b, i, c, n⟩, lb, tg⟩ = q) :
    Calls Try.prog 29 #[.agg #[.int .i64 op, .bool wd, .int .i64 r, .int .i64 b, .int .i64 i, .int .i64 c, .int .i64 n, .int .i64 lb, .int .i64 tg]] w fun e w' => e = .returned (.bool q) ∧ Below w.heap.size w w' := by
  have hq := fun w => eql_t op wd r b i c n lb tg 0 false 0 0 0 0 0 lb 0 w
  by_cases h : 0 < lb
  · have e : isL ⟨⟨op, wd, r, b, i, c, n⟩, lb, tg⟩ = (xeq ⟨op, wd, r, b, i, c, n⟩ ⟨0, false, 0, 0, 0, 0, 0⟩ && tg == 0) := by
      simp only [isL, nul, xeq, decide_eq_true h, Bool.true_and]
    have E := hide (e.symm.trans hL)
    clear e hL
    go_enter Try.func29, Try.ntmps29
    go_wp2
    go_ret
    exact ⟨ret_bool E.out, bel_one _ _⟩
  · have e : isL ⟨⟨op, wd, r, b, i, c, n⟩, lb, tg⟩ = false := by
      simp only [isL, decide_eq_false h, Bool.false_and]
    have E := hide (e.symm.trans hL)
    clear e hL
    go_enter Try.func29, Try.ntmps29
    go_wp2
    go_ret
    exact ⟨ret_bool E.out, bel_one _ _⟩
set_option maxHeartbeats 1000000 in
theorem mayGo_f (op : Int) (wd : Bool) (r b i c n lb tg : Int) (w : World) {q : Bool} (hL : mG ⟨⟨op, wd, r, b, i, c, n⟩, lb, tg⟩ = q) :
    Calls Try.prog 30 #[.agg #[.int .i64 op, .bool wd, .int .i64 r, .int .i64 b, .int .i64 i, .int .i64 c, .int .i64 n, .int .i64 lb, .int .i64 tg]] w fun e w' => e = .returned (.bool q) ∧ Below w.heap.size w w' := by
  have e : mG ⟨⟨op, wd, r, b, i, c, n⟩, lb, tg⟩ = (jmp op && (decide (0 < tg) && n == 0)) := rfl
  rw [e] at hL
  unfold jmp at hL
  have E := hide hL
  clear e hL
  go_enter Try.func30, Try.ntmps30
  go_wp2
  all_goals
    go_ret
    refine ⟨ret_bool ?_, bel_one _ _⟩
    rw [← E.out]
    simp_all <;> (intro h; omega)
set_option maxHeartbeats 2000000 in
theorem size_f (op : Int) (wd : Bool) (r b i c n lb tg : Int) (w : World) (hi : I64 i) (hn : I64 n) {q : Bool} {m : Int} (hq : sOk ⟨⟨op, wd, r, b, i, c, n⟩, lb, tg⟩ = q) (hm : ((sN ⟨⟨op, wd, r, b, i, c, n⟩, lb, tg⟩ : Nat) : Int) = m) :
    Calls Try.prog 18 #[.agg #[.int .i64 op, .bool wd, .int .i64 r, .int .i64 b, .int .i64 i, .int .i64 c, .int .i64 n, .int .i64 lb, .int .i64 tg]] w fun e w' => e = .returned (.tuple #[.int .i64 m, .bool q]) ∧ Below w.heap.size w w' := by
  have IL := hide (fun U => isLabel_f op wd r b i c n lb tg U rfl)
  have MG := hide (fun U => mayGo_f op wd r b i c n lb tg U rfl)
  have EN := hide (fun U => enc_is op wd r b i c n U hi hn rfl rfl)
  unfold sOk at hq
  unfold sN sOk at hm
  simp only at hq hm
  clear hi hn
  by_cases h0 : lb = 0
  · subst h0
    simp only [if_true] at hq hm
    by_cases h1 : tg = 0
    · subst h1
      simp only [if_true] at hq hm
      have HQ := hide hq
      have HM := hide hm
      clear hq hm
      go_enter Try.func18, Try.ntmps18
      go_wp2_with fail
      refine (EN.out _).mono ?_
      rintro e w1 ⟨rfl, b1⟩
      cases hr : rt ⟨op, wd, r, b, i, c, n⟩
      all_goals
        rw [hr] at HQ HM
        obtain rfl := HQ.out
        obtain rfl := HM.out
        simp only [enS, enE, hr, if_true, if_false, Bool.false_eq_true]
        go_wp2
        go_ret2
        exact ⟨by simp [str_size], bel_tr (bel_one _ _) b1⟩
    · simp only [h1, if_false] at hq hm
      cases hg : mG ⟨⟨op, wd, r, b, i, c, n⟩, 0, tg⟩
      · rw [hg] at hq hm MG
        obtain rfl := hq
        obtain rfl := hm
        go_enter Try.func18, Try.ntmps18
        go_wp2_with fail
        refine (MG.out _).mono ?_
        rintro e w1 ⟨rfl, b1⟩
        go_wp2
        go_ret2
        exact ⟨rfl, bel_tr (bel_one _ _) b1⟩
      · rw [hg] at hq hm MG
        have HQ := hide hq
        have HM := hide hm
        have Y := hide (Row9.made w op wd r b i c n 0 tg)
        clear hq hm
        go_enter Try.func18, Try.ntmps18
        go_wp2_with fail
        refine (MG.out _).mono ?_
        rintro e w1 ⟨rfl, b1⟩
        obtain ⟨d0, d1, d2, d3, d4, d5, d6, d7, d8⟩ := (Y.out.kept b1).cells
        go_wp2_with fail
        refine (EN.out _).mono ?_
        rintro e w2 ⟨rfl, b2⟩
        cases hr : rt ⟨op, wd, r, b, i, c, n⟩
        all_goals
          rw [hr] at HQ HM
          obtain rfl := HQ.out
          obtain rfl := HM.out
          simp only [enS, enE, hr, if_true, if_false, Bool.false_eq_true]
          go_wp2
          go_ret2
          exact ⟨by simp [str_size], bel_tr (bel_tr (bel_one _ _) b1) b2⟩
  · simp only [h0, if_false] at hq hm
    subst hm
    rw [hq] at IL
    clear hq
    go_enter Try.func18, Try.ntmps18
    go_wp2_with fail
    refine (IL.out _).mono ?_
    rintro e w1 ⟨rfl, b1⟩
    go_wp2
    go_ret2
    exact ⟨rfl, bel_tr (bel_one _ _) b1⟩
end Go.Proofs.Ytookbgnidinkoaa
