/-
  Merged: CAllW P L M T.
-/
import Derived.Test.YtookbgnidinkoaaCDec
import Derived.Laws.StructEq
import Derived.Deep.MidRow
import Derived.BigQuiet
import Derived.Deep.QuietTactic
import Derived.Laws.OwnMore
import Derived.OwnWalk
import Derived.Maps.AppendAt
/-
  A list of instructions: the program's All, and the document's, write them one behind the other, or refuse.
-/
namespace Go.Proofs.Ytookbgnidinkoaa.Xc
open Go.RowKit
set_option linter.unusedSimpArgs false
set_option linter.unusedVariables false

/-- Instructions in a row of memory. -/
def XL (B : Nat) (W : World) (b off : Nat) (l : List Xi) : Prop :=
  ∀ j (h : j < l.length), b < B ∧ l[j].ok ∧ W.cell? ⟨b, off + j * 7, none⟩ = some (.int .i64 l[j].op) ∧ W.cell? ⟨b, off + j * 7 + 1, none⟩ = some (.bool l[j].wide) ∧ W.cell? ⟨b, off + j * 7 + 2, none⟩ = some (.int .i64 l[j].r) ∧ W.cell? ⟨b, off + j * 7 + 3, none⟩ = some (.int .i64 l[j].b) ∧ W.cell? ⟨b, off + j * 7 + 4, none⟩ = some (.int .i64 l[j].i) ∧ W.cell? ⟨b, off + j * 7 + 5, none⟩ = some (.int .i64 l[j].c) ∧ W.cell? ⟨b, off + j * 7 + 6, none⟩ = some (.int .i64 l[j].n)
def encs (l : List Xi) : List UInt8 := l.flatMap enc
theorem encs_snoc (l : List Xi) (k : Nat) (h : k < l.length) : encs (l.take (k + 1)) = encs (l.take k) ++ enc l[k] := by
  show (l.take (k + 1)).flatMap enc = _
  rw [List.take_succ_eq_append_getElem h, List.flatMap_append]; simp [encs]
theorem encs_len (l : List Xi) : (encs l).length ≤ 13 * l.length := by
  induction l with
  | nil => simp [encs]
  | cons x l ih =>
    have := (enc_len x).2
    simp only [encs, List.flatMap_cons, List.length_append, List.length_cons] at *
    omega
theorem encs_pos (l : List Xi) (h : 0 < l.length) : 0 < (encs l).length := by
  cases l with
  | nil => simp at h
  | cons x l =>
    have := (enc_len x).1
    simp only [encs, List.flatMap_cons, List.length_append]
    omega
def aOk (l : List Xi) : Bool := l.all rt
def aS (l : List Xi) : List UInt8 := if aOk l then encs l else []
def aE (l : List Xi) : Int := if aOk l then 0 else 4
theorem aOk_no {l : List Xi} {k : Nat} (h : k < l.length) (hq : rt l[k] = false) : aOk l = false := by
  cases ha : aOk l
  · rfl
  · unfold aOk at ha
    rw [List.all_eq_true] at ha
    rw [ha _ (List.getElem_mem h)] at hq; cases hq
theorem aOk_yes {l : List Xi} (h : ∀ j (hj : j < l.length), rt l[j] = true) : aOk l = true := by
  unfold aOk
  rw [List.all_eq_true]
  intro x hx
  obtain ⟨j, hj, rfl⟩ := List.getElem_of_mem hx
  exact h j hj
theorem cv_nil (w : World) : (convert 59 9 (.slice none 0 0)).run Try.prog w = .ok (.string ⟨#[]⟩) w := by kernel_rfl
end Go.Proofs.Ytookbgnidinkoaa.Xc
/-
  Plain: items, their sizes and places, labels, and what is assembled.
-/
namespace Go.Proofs.Ytookbgnidinkoaa
open Go.RowKit
open Xc
set_option linter.unusedSimpArgs false
set_option linter.unusedVariables false
structure It where
  x : Xi
  lb : Int
  tg : Int
def It.ok (t : It) : Prop := t.x.ok ∧ I64 t.lb ∧ I64 t.tg
def nul (x : Xi) : Bool := x.op == 0 && (x.wide == false && (x.r == 0 && (x.b == 0 && (x.i == 0 && (x.c == 0 && x.n == 0)))))
def isL (t : It) : Bool := decide (0 < t.lb) && (nul t.x && t.tg == 0)
def jmp (op : Int) : Bool := op == 17 || (op == 18 || op == 19)
def mG (t : It) : Bool := jmp t.x.op && (decide (0 < t.tg) && t.x.n == 0)
def sOk (t : It) : Bool := if t.lb = 0 then (if t.tg = 0 then rt t.x else mG t && rt t.x) else isL t
def sN (t : It) : Nat := if t.lb = 0 then (if sOk t then (enc t.x).length else 0) else 0
theorem sN_le (t : It) : sN t ≤ 13 := by
  unfold sN
  have := (enc_len t.x).2
  split
  · split <;> omega
  · omega
def pt (l : List It) (k : Nat) : Nat := ((l.take k).map sN).sum
theorem pt_0 (l : List It) : pt l 0 = 0 := by simp [pt]
theorem pt_succ {l : List It} {k : Nat} (h : k < l.length) : pt l (k + 1) = pt l k + sN l[k] := by
  unfold pt
  rw [List.take_succ_eq_append_getElem h, List.map_append, List.sum_append, List.map_cons, List.map_nil, List.sum_cons, List.sum_nil, Nat.add_zero]
theorem pt_le (l : List It) : ∀ k, pt l k ≤ 13 * k
  | 0 => by simp [pt_0]
  | k + 1 => by
    have ih := pt_le l k
    rcases Nat.lt_or_ge k l.length with h | h
    · rw [pt_succ h]
      have := sN_le l[k]
      omega
    · unfold pt at *
      rw [List.take_of_length_le (by omega)]
      rw [List.take_of_length_le h] at ih
      omega
def pOk (l : List It) : Bool := l.all sOk
theorem pOk_no {l : List It} {k : Nat} (h : k < l.length) (hq : sOk l[k] = false) : pOk l = false := by
  cases ha : pOk l
  · rfl
  · unfold pOk at ha
    rw [List.all_eq_true] at ha
    rw [ha _ (List.getElem_mem h)] at hq; cases hq
theorem pOk_yes {l : List It} (h : ∀ j (hj : j < l.length), sOk l[j] = true) : pOk l = true := by
  unfold pOk
  rw [List.all_eq_true]
  intro x hx
  obtain ⟨j, hj, rfl⟩ := List.getElem_of_mem hx
  exact h j hj
theorem pOk_at {l : List It} (h : pOk l = true) {j : Nat} (hj : j < l.length) : sOk l[j] = true := by
  unfold pOk at h
  rw [List.all_eq_true] at h
  exact h _ (List.getElem_mem hj)
/-- The item of a label. -/
def fd (l : List It) (y : Int) : Option Nat := l.findIdx? fun t => t.lb == y
theorem fd_nil (y : Int) : fd [] y = none := rfl
theorem fd_succ {l : List It} {k : Nat} (h : k < l.length) (y : Int) : fd (l.take (k + 1)) y = (fd (l.take k) y).or (if l[k].lb = y then some k else none) := by
  unfold fd
  rw [List.take_succ_eq_append_getElem h, List.findIdx?_append]
  have e : (l.take k).length = k := by simp; omega
  by_cases hy : l[k].lb = y
  · simp [List.findIdx?_cons, hy, e]
  · simp [List.findIdx?_cons, hy]
theorem fd_lt {l : List It} {y : Int} {j : Nat} (h : fd l y = some j) : ∃ hj : j < l.length, l[j].lb = y := by
  unfold fd at h
  rw [List.findIdx?_eq_some_iff_getElem] at h
  obtain ⟨hj, h1, _⟩ := h
  exact ⟨hj, by simpa using h1⟩
theorem fd_none {l : List It} {y : Int} (h : fd l y = none) : ∀ j (hj : j < l.length), l[j].lb ≠ y := by
  intro j hj e
  unfold fd at h
  rw [List.findIdx?_eq_none_iff] at h
  have := h _ (List.getElem_mem hj)
  simp [e] at this
def Uq (l : List It) : Prop := ∀ k (h : k < l.length), l[k].lb ≠ 0 → fd (l.take k) l[k].lb = none
def Lost (l : List It) : Prop := ∃ k, ∃ h : k < l.length, l[k].lb = 0 ∧ l[k].tg ≠ 0 ∧ fd l l[k].tg = none
def jx (l : List It) (k : Nat) (t : It) : Xi := if t.tg = 0 then t.x else { t.x with n := (pt l ((fd l t.tg).getD 0) : Int) - (pt l (k + 1) : Int) }
def one (l : List It) (k : Nat) (t : It) : List Xi := if t.lb = 0 then [jx l k t] else []
def oL (l : List It) : Nat → List Xi
  | 0 => []
  | k + 1 => oL l k ++ (match l[k]? with | some t => one l k t | none => [])
theorem oL_succ {l : List It} {k : Nat} (h : k < l.length) : oL l (k + 1) = oL l k ++ one l k l[k] := by
  simp only [oL, List.getElem?_eq_getElem h]
theorem oL_len (l : List It) : ∀ k, (oL l k).length ≤ k
  | 0 => Nat.le_refl _
  | k + 1 => by
    have ih := oL_len l k
    rcases Nat.lt_or_ge k l.length with h | h
    · rw [oL_succ h]
      unfold one
      split <;> simp <;> omega
    · simp only [oL, List.getElem?_eq_none h]; simp; omega
open Classical in
noncomputable def asR (l : List It) : Option (List Xi) := if pOk l = true ∧ Uq l ∧ ¬ Lost l then some (oL l l.length) else none
noncomputable def asS (l : List It) : List UInt8 := match asR l with | some o => aS o | none => []
noncomputable def asE (l : List It) : Int := match asR l with | some o => aE o | none => 4
theorem asR_no {l : List It} (h : ¬ (pOk l = true ∧ Uq l ∧ ¬ Lost l)) : asS l = [] ∧ asE l = 4 := by
  have : asR l = none := by unfold asR; rw [if_neg h]
  exact ⟨by simp [asS, this], by simp [asE, this]⟩
theorem asR_yes {l : List It} (h1 : pOk l = true) (h2 : Uq l) (h3 : ¬ Lost l) : asS l = aS (oL l l.length) ∧ asE l = aE (oL l l.length) := by
  have : asR l = some (oL l l.length) := by unfold asR; rw [if_pos ⟨h1, h2, h3⟩]
  exact ⟨by simp [asS, this], by simp [asE, this]⟩
theorem jx_ok {l : List It} {k : Nat} (hl : l.length ≤ 1000) (h : k < l.length) (ho : l[k].ok) : (jx l k l[k]).ok := by
  unfold jx
  split
  · exact ho.1
  · obtain ⟨a, b, c, d, e, f⟩ := ho.1
    refine ⟨a, b, c, d, e, ?_⟩
    have h1 := pt_le l (k + 1)
    have h2 : (pt l ((fd l l[k].tg).getD 0)) ≤ 13 * 1000 := by
      cases hf : fd l l[k].tg with
      | none => simp [pt_0]
      | some j =>
        obtain ⟨hj, _⟩ := fd_lt hf
        have := pt_le l j
        simp; omega
    show I64 (_ - _)
    unfold I64
    omega
end Go.Proofs.Ytookbgnidinkoaa
/-
  Instructions and items compared; the program's isLabel, mayGo, size.
-/
namespace Go.Proofs.Ytookbgnidinkoaa
open Go.RowKit
open Xc
set_option linter.unusedSimpArgs false
set_option linter.unusedVariables false
theorem p_0 (a b c d e f g : Value) (w : World) : (part 3 #[a, b, c, d, e, f, g] 0).run Try.prog w = .ok a w := by kernel_rfl
theorem p_1 (a b c d e f g : Value) (w : World) : (part 4 #[a, b, c, d, e, f, g] 1).run Try.prog w = .ok b w := by kernel_rfl
theorem p_2 (a b c d e f g : Value) (w : World) : (part 3 #[a, b, c, d, e, f, g] 2).run Try.prog w = .ok c w := by kernel_rfl
theorem p_3 (a b c d e f g : Value) (w : World) : (part 3 #[a, b, c, d, e, f, g] 3).run Try.prog w = .ok d w := by kernel_rfl
theorem p_4 (a b c d e f g : Value) (w : World) : (part 3 #[a, b, c, d, e, f, g] 4).run Try.prog w = .ok e w := by kernel_rfl
theorem p_5 (a b c d e f g : Value) (w : World) : (part 3 #[a, b, c, d, e, f, g] 5).run Try.prog w = .ok f w := by kernel_rfl
theorem p_6 (a b c d e f g : Value) (w : World) : (part 3 #[a, b, c, d, e, f, g] 6).run Try.prog w = .ok g w := by kernel_rfl
def xeq (x y : Xi) : Bool := x.op == y.op && (x.wide == y.wide && (x.r == y.r && (x.b == y.b && (x.i == y.i && (x.c == y.c && x.n == y.n)))))
theorem xeq_iff {x y : Xi} : xeq x y = true ↔ x = y := by
  obtain ⟨a, b, c, d, e, f, g⟩ := x
  obtain ⟨a', b', c', d', e', f', g'⟩ := y
  simp [xeq]
theorem eql_xd (dd : Nat) (a : Int) (b : Bool) (c d e f g a' : Int) (b' : Bool) (c' d' e' f' g' : Int) (w : World) :
    (Op.equalIn (dd + 1 + 1) 40 (.agg #[.int .i64 a, .bool b, .int .i64 c, .int .i64 d, .int .i64 e, .int .i64 f, .int .i64 g]) (.agg #[.int .i64 a', .bool b', .int .i64 c', .int .i64 d', .int .i64 e', .int .i64 f', .int .i64 g'])).run Try.prog w = .ok (xeq ⟨a, b, c, d, e, f, g⟩ ⟨a', b', c', d', e', f', g'⟩) w := by
  have hb : ∀ x y (w : World), (Op.equalIn (dd + 1) 4 (.bool x) (.bool y)).run Try.prog w = .ok (x == y) w := fun x y w => run_equalIn_bool w dd 4 x y Try.underlying4
  have hi : ∀ x y (w : World), (Op.equalIn (dd + 1) 3 (.int .i64 x) (.int .i64 y)).run Try.prog w = .ok (x == y) w := fun x y w => run_equalIn_int w dd 3 .i64 .i64 x y Try.underlying3
  rw [run_equalIn_struct w (dd + 1) 40 _ _ (by rw [Try.underlying40]; kernel_rfl) (by kernel_rfl)]
  simp [Program.fieldsOf, Try.underlying40, Op.eqFields, Sem.run_bind, p_0, p_1, p_2, p_3, p_4, p_5, p_6, hb, hi, xeq]
  repeat' split
  all_goals simp_all
theorem eql_x (a : Int) (b : Bool) (c d e f g a' : Int) (b' : Bool) (c' d' e' f' g' : Int) (w : World) :
    (Op.equalIn 10000 40 (.agg #[.int .i64 a, .bool b, .int .i64 c, .int .i64 d, .int .i64 e, .int .i64 f, .int .i64 g]) (.agg #[.int .i64 a', .bool b', .int .i64 c', .int .i64 d', .int .i64 e', .int .i64 f', .int .i64 g'])).run Try.prog w = .ok (xeq ⟨a, b, c, d, e, f, g⟩ ⟨a', b', c', d', e', f', g'⟩) w := eql_xd 9998 a b c d e f g a' b' c' d' e' f' g' w
theorem eql_y (a : Int) (b : Bool) (c d e f g a' : Int) (b' : Bool) (c' d' e' f' g' : Int) (w : World) :
    (Op.equalIn 9999 40 (.agg #[.int .i64 a, .bool b, .int .i64 c, .int .i64 d, .int .i64 e, .int .i64 f, .int .i64 g]) (.agg #[.int .i64 a', .bool b', .int .i64 c', .int .i64 d', .int .i64 e', .int .i64 f', .int .i64 g'])).run Try.prog w = .ok (xeq ⟨a, b, c, d, e, f, g⟩ ⟨a', b', c', d', e', f', g'⟩) w := eql_xd 9997 a b c d e f g a' b' c' d' e' f' g' w
theorem eql_int (x y : Int) (w : World) : (Op.equalIn 9999 3 (.int .i64 x) (.int .i64 y)).run Try.prog w = .ok (x == y) w := run_equalIn_int w 9998 3 .i64 .i64 x y Try.underlying3
theorem r_0 (a b c d e f g h k : Value) (w : World) : (part 40 #[a, b, c, d, e, f, g, h, k] 0).run Try.prog w = .ok (.agg #[a, b, c, d, e, f, g]) w := by kernel_rfl
theorem r_7 (a b c d e f g h k : Value) (w : World) : (part 3 #[a, b, c, d, e, f, g, h, k] 7).run Try.prog w = .ok h w := by kernel_rfl
theorem r_8 (a b c d e f g h k : Value) (w : World) : (part 3 #[a, b, c, d, e, f, g, h, k] 8).run Try.prog w = .ok k w := by kernel_rfl
theorem eql_t (a : Int) (b : Bool) (c d e f g h k a' : Int) (b' : Bool) (c' d' e' f' g' h' k' : Int) (w : World) :
    (Op.equalIn 10000 42 (.agg #[.int .i64 a, .bool b, .int .i64 c, .int .i64 d, .int .i64 e, .int .i64 f, .int .i64 g, .int .i64 h, .int .i64 k]) (.agg #[.int .i64 a', .bool b', .int .i64 c', .int .i64 d', .int .i64 e', .int .i64 f', .int .i64 g', .int .i64 h', .int .i64 k'])).run Try.prog w = .ok (xeq ⟨a, b, c, d, e, f, g⟩ ⟨a', b', c', d', e', f', g'⟩ && (h == h' && k == k')) w := by
  rw [show (10000 : Nat) = 9999 + 1 from rfl, run_equalIn_struct w 9999 42 _ _ (by rw [Try.underlying42]; kernel_rfl) (by kernel_rfl)]
  simp [Program.fieldsOf, Try.underlying42, Op.eqFields, Sem.run_bind, r_0, r_7, r_8, eql_y, eql_int]
  repeat' split
  all_goals simp_all
def iv (t : It) : Value := .agg #[.int .i64 t.x.op, .bool t.x.wide, .int .i64 t.x.r, .int .i64 t.x.b, .int .i64 t.x.i, .int .i64 t.x.c, .int .i64 t.x.n, .int .i64 t.lb, .int .i64 t.tg]
/-- An item in a block of its own. -/
def Row9 (g : Nat) (op : Int) (wd : Bool) (r b i c n lb tg : Int) (w : World) : Prop := w.heap[g]? = some (.cells #[.int .i64 op, .bool wd, .int .i64 r, .int .i64 b, .int .i64 i, .int .i64 c, .int .i64 n, .int .i64 lb, .int .i64 tg] 42)
section
variable {g : Nat} {op : Int} {wd : Bool} {r b i c n lb tg : Int} {w w' : World}
theorem Row9.made (w : World) (op : Int) (wd : Bool) (r b i c n lb tg : Int) : Row9 w.heap.size op wd r b i c n lb tg (w.alloc (.cells #[.int .i64 op, .bool wd, .int .i64 r, .int .i64 b, .int .i64 i, .int .i64 c, .int .i64 n, .int .i64 lb, .int .i64 tg] 42)) := heap_alloc_new w _
theorem Row9.lt (h : Row9 g op wd r b i c n lb tg w) : g < w.heap.size := by
  rcases Nat.lt_or_ge g w.heap.size with h' | h'
  · exact h'
  · unfold Row9 at h; rw [Array.getElem?_eq_none h'] at h; cases h
theorem Row9.kept (h : Row9 g op wd r b i c n lb tg w) (k : Below w.heap.size w w') : Row9 g op wd r b i c n lb tg w' := (k.block g h.lt).trans h
theorem Row9.cells (h : Row9 g op wd r b i c n lb tg w) : w.cell? ⟨g, 0, none⟩ = some (.int .i64 op) ∧ w.cell? ⟨g, 1, none⟩ = some (.bool wd) ∧ w.cell? ⟨g, 2, none⟩ = some (.int .i64 r) ∧ w.cell? ⟨g, 3, none⟩ = some (.int .i64 b) ∧ w.cell? ⟨g, 4, none⟩ = some (.int .i64 i) ∧ w.cell? ⟨g, 5, none⟩ = some (.int .i64 c) ∧ w.cell? ⟨g, 6, none⟩ = some (.int .i64 n) ∧ w.cell? ⟨g, 7, none⟩ = some (.int .i64 lb) ∧ w.cell? ⟨g, 8, none⟩ = some (.int .i64 tg) := by
  unfold Row9 at h
  refine ⟨?_, ?_, ?_, ?_, ?_, ?_, ?_, ?_, ?_⟩ <;> simp [World.cell?, h]
theorem Row9.fr (h : Row9 g op wd r b i c n lb tg w) (k : Nat) : w.frozen? ⟨g, k, none⟩ = false := by
  unfold Row9 at h; simp [World.frozen?, h]
end
set_option maxHeartbeats 1000000 in
theorem isLabel_f (op : Int) (wd : Bool) (r b i c n lb tg : Int) (w : World) {q : Bool} (hL : isL ⟨⟨op, wd, r, b, i, c, n⟩, lb, tg⟩ = q) :
    Calls Try.prog 29 #[.agg #[.int .i64 op, .bool wd, .int .i64 r, .int .i64 b, .int .i64 i, .int .i64 c, .int .i64 n, .int .i64 lb, .int .i64 tg]] w fun e w' => e = .returned (.bool q) ∧ Below w.heap.size w w' := by
  have hq := fun w => eql_t op wd r b i c n lb tg 0 false 0 0 0 0 0 lb 0 w
  by_cases h : 0 < lb
  · have e : isL ⟨⟨op, wd, r, b, i, c, n⟩, lb, tg⟩ = (xeq ⟨op, wd, r, b, i, c, n⟩ ⟨0, false, 0, 0, 0, 0, 0⟩ && tg == 0) := by
      simp only [isL, nul, xeq, decide_eq_true h, Bool.true_and]
    have E := hide (e.symm.trans hL)
    clear e hL
    go_enter Try.func29, Try.ntmps29
    go_wp2
    go_ret
    exact ⟨ret_bool E.out, bel_one _ _⟩
  · have e : isL ⟨⟨op, wd, r, b, i, c, n⟩, lb, tg⟩ = false := by
      simp only [isL, decide_eq_false h, Bool.false_and]
    have E := hide (e.symm.trans hL)
    clear e hL
    go_enter Try.func29, Try.ntmps29
    go_wp2
    go_ret
    exact ⟨ret_bool E.out, bel_one _ _⟩
set_option maxHeartbeats 1000000 in
theorem mayGo_f (op : Int) (wd : Bool) (r b i c n lb tg : Int) (w : World) {q : Bool} (hL : mG ⟨⟨op, wd, r, b, i, c, n⟩, lb, tg⟩ = q) :
    Calls Try.prog 30 #[.agg #[.int .i64 op, .bool wd, .int .i64 r, .int .i64 b, .int .i64 i, .int .i64 c, .int .i64 n, .int .i64 lb, .int .i64 tg]] w fun e w' => e = .returned (.bool q) ∧ Below w.heap.size w w' := by
  have e : mG ⟨⟨op, wd, r, b, i, c, n⟩, lb, tg⟩ = (jmp op && (decide (0 < tg) && n == 0)) := rfl
  rw [e] at hL
  unfold jmp at hL
  have E := hide hL
  clear e hL
  go_enter Try.func30, Try.ntmps30
  go_wp2
  all_goals
    go_ret
    refine ⟨ret_bool ?_, bel_one _ _⟩
    rw [← E.out]
    simp_all <;> (intro h; omega)
set_option maxHeartbeats 2000000 in
theorem size_f (op : Int) (wd : Bool) (r b i c n lb tg : Int) (w : World) (hi : I64 i) (hn : I64 n) {q : Bool} {m : Int} (hq : sOk ⟨⟨op, wd, r, b, i, c, n⟩, lb, tg⟩ = q) (hm : ((sN ⟨⟨op, wd, r, b, i, c, n⟩, lb, tg⟩ : Nat) : Int) = m) :
    Calls Try.prog 18 #[.agg #[.int .i64 op, .bool wd, .int .i64 r, .int .i64 b, .int .i64 i, .int .i64 c, .int .i64 n, .int .i64 lb, .int .i64 tg]] w fun e w' => e = .returned (.tuple #[.int .i64 m, .bool q]) ∧ Below w.heap.size w w' := by
  have IL := hide (fun U => isLabel_f op wd r b i c n lb tg U rfl)
  have MG := hide (fun U => mayGo_f op wd r b i c n lb tg U rfl)
  have EN := hide (fun U => enc_is op wd r b i c n U hi hn rfl rfl)
  unfold sOk at hq
  unfold sN sOk at hm
  simp only at hq hm
  clear hi hn
  by_cases h0 : lb = 0
  · subst h0
    simp only [if_true] at hq hm
    by_cases h1 : tg = 0
    · subst h1
      simp only [if_true] at hq hm
      have HQ := hide hq
      have HM := hide hm
      clear hq hm
      go_enter Try.func18, Try.ntmps18
      go_wp2_with fail
      refine (EN.out _).mono ?_
      rintro e w1 ⟨rfl, b1⟩
      cases hr : rt ⟨op, wd, r, b, i, c, n⟩
      all_goals
        rw [hr] at HQ HM
        obtain rfl := HQ.out
        obtain rfl := HM.out
        simp only [enS, enE, hr, if_true, if_false, Bool.false_eq_true]
        go_wp2
        go_ret2
        exact ⟨by simp [str_size], bel_tr (bel_one _ _) b1⟩
    · simp only [h1, if_false] at hq hm
      cases hg : mG ⟨⟨op, wd, r, b, i, c, n⟩, 0, tg⟩
      · rw [hg] at hq hm MG
        obtain rfl := hq
        obtain rfl := hm
        go_enter Try.func18, Try.ntmps18
        go_wp2_with fail
        refine (MG.out _).mono ?_
        rintro e w1 ⟨rfl, b1⟩
        go_wp2
        go_ret2
        exact ⟨rfl, bel_tr (bel_one _ _) b1⟩
      · rw [hg] at hq hm MG
        have HQ := hide hq
        have HM := hide hm
        have Y := hide (Row9.made w op wd r b i c n 0 tg)
        clear hq hm
        go_enter Try.func18, Try.ntmps18
        go_wp2_with fail
        refine (MG.out _).mono ?_
        rintro e w1 ⟨rfl, b1⟩
        obtain ⟨d0, d1, d2, d3, d4, d5, d6, d7, d8⟩ := (Y.out.kept b1).cells
        go_wp2_with fail
        refine (EN.out _).mono ?_
        rintro e w2 ⟨rfl, b2⟩
        cases hr : rt ⟨op, wd, r, b, i, c, n⟩
        all_goals
          rw [hr] at HQ HM
          obtain rfl := HQ.out
          obtain rfl := HM.out
          simp only [enS, enE, hr, if_true, if_false, Bool.false_eq_true]
          go_wp2
          go_ret2
          exact ⟨by simp [str_size], bel_tr (bel_tr (bel_one _ _) b1) b2⟩
  · simp only [h0, if_false] at hq hm
    subst hm
    rw [hq] at IL
    clear hq
    go_enter Try.func18, Try.ntmps18
    go_wp2_with fail
    refine (IL.out _).mono ?_
    rintro e w1 ⟨rfl, b1⟩
    go_wp2
    go_ret2
    exact ⟨rfl, bel_tr (bel_one _ _) b1⟩
end Go.Proofs.Ytookbgnidinkoaa
/-
  Memory: items and numbers in rows; the program's Places.
-/
namespace Go.Proofs.Ytookbgnidinkoaa
open Go.RowKit
open Xc
set_option linter.unusedSimpArgs false
set_option linter.unusedVariables false
/-- Items in a row of memory. -/
def IL (B : Nat) (W : World) (b off : Nat) (l : List It) : Prop :=
  ∀ j (h : j < l.length), b < B ∧ l[j].ok ∧ W.cell? ⟨b, off + j * 9, none⟩ = some (.int .i64 l[j].x.op) ∧ W.cell? ⟨b, off + j * 9 + 1, none⟩ = some (.bool l[j].x.wide) ∧ W.cell? ⟨b, off + j * 9 + 2, none⟩ = some (.int .i64 l[j].x.r) ∧ W.cell? ⟨b, off + j * 9 + 3, none⟩ = some (.int .i64 l[j].x.b) ∧ W.cell? ⟨b, off + j * 9 + 4, none⟩ = some (.int .i64 l[j].x.i) ∧ W.cell? ⟨b, off + j * 9 + 5, none⟩ = some (.int .i64 l[j].x.c) ∧ W.cell? ⟨b, off + j * 9 + 6, none⟩ = some (.int .i64 l[j].x.n) ∧ W.cell? ⟨b, off + j * 9 + 7, none⟩ = some (.int .i64 l[j].lb) ∧ W.cell? ⟨b, off + j * 9 + 8, none⟩ = some (.int .i64 l[j].tg)
def IS (W : World) (a : Option Addr) (l : List It) : Prop := l = [] ∨ ∃ b off, a = some ⟨b, off, none⟩ ∧ IL W.heap.size W b off l
theorem IL.below {W U : World} {b off : Nat} {l : List It} (h : IL W.heap.size W b off l) (k : Below W.heap.size W U) : IL U.heap.size U b off l := fun j hj => by
  obtain ⟨hb, ho, c0, c1, c2, c3, c4, c5, c6, c7, c8⟩ := h j hj
  have cc : ∀ n v, W.cell? ⟨b, n, none⟩ = some v → U.cell? ⟨b, n, none⟩ = some v := fun n v h => (k.cell (p := ⟨b, n, none⟩) hb).trans h
  exact ⟨Nat.lt_of_lt_of_le hb k.size, ho, cc _ _ c0, cc _ _ c1, cc _ _ c2, cc _ _ c3, cc _ _ c4, cc _ _ c5, cc _ _ c6, cc _ _ c7, cc _ _ c8⟩
theorem IS.below {W U : World} {a : Option Addr} {l : List It} (h : IS W a l) (k : Below W.heap.size W U) : IS U a l := by
  rcases h with h | ⟨b, off, e, hX⟩
  · exact Or.inl h
  · exact Or.inr ⟨b, off, e, hX.below k⟩
theorem IL.ok {B : Nat} {W : World} {b off : Nat} {l : List It} (h : IL B W b off l) {j : Nat} (hj : j < l.length) : l[j].ok := (h j hj).2.1
/-- Numbers in a row of one's own. -/
def NR (B : Nat) (v : Value) (ns : List Int) (w : World) : Prop := w.ownsRow B 3 1 v ns.length (ns.map (Value.int .i64))
section
variable {B e s n : Nat} {v : Value} {xs : List Value} {w w' : World}
theorem own_kept (h : w.ownsRow B e s v n xs) (k : Below w.heap.size w w') : w'.ownsRow B e s v n xs := by
  refine ⟨h.1, ?_⟩
  rcases h.2 with h' | ⟨g, cap, cur, e', h1, h2, h3⟩
  · exact Or.inl h'
  · refine Or.inr ⟨g, cap, cur, e', h1, ?_, h3⟩
    have hg : g < w.heap.size := (h.lt g (by rw [e']; rfl)).2
    rw [k.block g hg]; exact h2
theorem own_bel (hr : w.ownsRow B e s v n xs) (hB : B ≤ w.heap.size) (hg : w.grownBy w' v.ownBlock) : Below B w w' :=
  ⟨hg.os, hg.tape, hg.output, hg.size, fun b hb => hg.block b (by omega) fun e => by have := hr.lt b e.symm; omega⟩
end
theorem NR.kept {B : Nat} {v : Value} {ns : List Int} {w w' : World} (h : NR B v ns w) (k : Below w.heap.size w w') : NR B v ns w' := own_kept h k
theorem NR.form {B : Nat} {v : Value} {ns : List Int} {w : World} (h : NR B v ns w) : ∃ a c, v = .slice a ns.length c := by
  rcases h.2 with ⟨rfl, e⟩ | ⟨g, cap, cur, rfl, _⟩
  · rw [e]; exact ⟨_, _, rfl⟩
  · exact ⟨_, _, rfl⟩
/-- Where a row's numbers lie. -/
theorem NR.at {B : Nat} {v : Value} {ns : List Int} {w : World} (h : NR B v ns w) (h0 : 0 < ns.length) : ∃ g c, v = .slice (some ⟨g, 0, none⟩) ns.length c ∧ B ≤ g ∧ g < w.heap.size ∧ ∀ j (hj : j < ns.length), w.cell? ⟨g, j, none⟩ = some (.int .i64 ns[j]) := by
  rcases h.2 with ⟨_, e⟩ | ⟨g, cap, cur, rfl, hb, _⟩
  · omega
  · refine ⟨g, cap, rfl, hb, (h.lt g rfl).2, fun j hj => ?_⟩
    rw [World.ownsRow.cellAt h j (by omega)]
    simp [hj]
def pls (l : List It) (k : Nat) : List Int := (List.range (k + 1)).map fun j => (pt l j : Int)
theorem pls_len (l : List It) (k : Nat) : (pls l k).length = k + 1 := by simp [pls]
theorem pls_get (l : List It) (k j : Nat) (h : j < (pls l k).length) : (pls l k)[j] = (pt l j : Int) := by simp [pls]
theorem pls_snoc (l : List It) (k : Nat) : pls l (k + 1) = pls l k ++ [(pt l (k + 1) : Int)] := by simp [pls, List.range_succ (n := k + 1)]
theorem info3 : (Try.prog.info? 3).map (fun i => (i.zero, i.size, i.bytes)) = some (some (.int .i64 0), 1, 8) := by kernel_rfl
theorem one_at3 (w : World) (x : Int) : ∀ j u, [Value.int .i64 x][j]? = some u → (w.alloc (.cells #[.int .i64 x] 3)).cell? ((⟨w.heap.size, 0, none⟩ : Addr).add j) = some u := by
  intro j u h
  have e := heap_alloc_new w (.cells #[.int .i64 x] 3)
  cases j with
  | zero => simp at h; subst h; exact cell_one_new w (.int .i64 x) 3 0 _ rfl
  | succ j => simp at h
theorem one_cell3 (x : Int) : ∀ u, u ∈ [Value.int .i64 x] → u.oneCell' = true := by
  intro u h; simp at h; subst h; rfl
theorem made_row (w : World) (n : Nat) (hn : n ≤ 2000) : NR w.heap.size (.slice (some ⟨w.heap.size, 0, none⟩) 1 (n + 1)) [0] (w.alloc (.cells (madeCells #[Value.int .i64 0] (n + 1)) 3)) := by
  refine ⟨rfl, Or.inr ⟨w.heap.size, n + 1, madeCells #[Value.int .i64 0] (n + 1), rfl, Nat.le_refl _, heap_alloc_new w _, by simp, by unfold maxLen; omega, by simp [size_madeCells], ?_⟩⟩
  rw [toList_madeCells_one]
  simp [List.replicate_succ]
def PlEnds (l : List It) (w : World) (e : Ending) (w' : World) : Prop :=
  (pOk l = true ∧ ∃ v, e = .returned (.tuple #[v, .int .i64 0]) ∧ NR w.heap.size v (pls l l.length) w' ∧ Below w.heap.size w w') ∨ (pOk l = false ∧ e = .returned (.tuple #[.slice none 0 0, .int .i64 4]) ∧ Below w.heap.size w w')
set_option maxHeartbeats 4000000 in
theorem places_any (a : Option Addr) (cap : Nat) (l : List It) (w : World) (hl : l.length ≤ 1000) (hX : IS w a l) : Calls Try.prog 9 #[.slice a l.length cap] w (PlEnds l w) := by
  have HX := hide hX
  clear hX
  obtain ⟨i0, hi, hz0, hz1, hz2⟩ := info_parts info3
  have hmk : ∀ X : World, (Instr.makeSlice 24 (.int .i64 1) (.int .i64 ((l.length : Int) + 1))).run Try.prog X = .ok (.slice (some ⟨X.heap.size, 0, none⟩) 1 (l.length + 1)) (X.alloc (.cells (madeCells #[Value.int .i64 0] (l.length + 1)) 3)) := fun X => by
    have := run_make X 24 3 i0 (.int .i64 0) Try.underlying24 hi hz0 .i64 .i64 1 ((l.length : Int) + 1) (by decide) (by omega) (by rw [hz2]; omega) (by omega)
    rw [this, hz1]
    have e : ((l.length : Int) + 1).toNat = l.length + 1 := by omega
    rw [e, Nat.mul_one]; rfl
  have MR := hide (made_row w l.length (by omega))
  go_enter Try.func9, Try.ntmps9
  go_wp2
  clear hmk
  go_loopw [4, 15] (fun sv iv wr => ∃ k : Nat, k ≤ l.length ∧ iv = .int .i64 (k : Int) ∧ Hid (NR w.heap.size sv (pls l k) wr) ∧ Below w.heap.size w wr ∧ Hid (∀ j (hj : j < l.length), j < k → sOk l[j] = true)) (fun _ iv _ => l.length - (intOf iv).toNat)
  case atStart => exact ⟨0, by omega, rfl, hide (by show NR _ _ _ _; simpa [pls, pt_0] using MR.out), bel_one _ _, hide (fun j hj h => absurd h (by omega))⟩
  case round =>
    obtain ⟨k, hk, rfl, hR, hb, hA⟩ := hrel
    clear MR
    obtain ⟨g, c, rfl, hg1, hg2, hgc⟩ := hR.out.at (by rw [pls_len]; omega)
    rw [pls_len] at hR ⊢
    by_cases hlt : k < l.length
    · rcases HX.out with h | ⟨b, off, rfl, hX⟩
      · rw [h] at hlt; simp at hlt
      obtain ⟨hbb, ho, c0, c1, c2, c3, c4, c5, c6, c7, c8⟩ := hX k hlt
      have d0 := (hb.cell (p := ⟨b, off + k * 9, none⟩) hbb).trans c0
      have d1 := (hb.cell (p := ⟨b, off + k * 9 + 1, none⟩) hbb).trans c1
      have d2 := (hb.cell (p := ⟨b, off + k * 9 + 2, none⟩) hbb).trans c2
      have d3 := (hb.cell (p := ⟨b, off + k * 9 + 3, none⟩) hbb).trans c3
      have d4 := (hb.cell (p := ⟨b, off + k * 9 + 4, none⟩) hbb).trans c4
      have d5 := (hb.cell (p := ⟨b, off + k * 9 + 5, none⟩) hbb).trans c5
      have d6 := (hb.cell (p := ⟨b, off + k * 9 + 6, none⟩) hbb).trans c6
      have d7 := (hb.cell (p := ⟨b, off + k * 9 + 7, none⟩) hbb).trans c7
      have d8 := (hb.cell (p := ⟨b, off + k * 9 + 8, none⟩) hbb).trans c8
      clear c0 c1 c2 c3 c4 c5 c6 c7 c8
      have hpk := hgc k (by rw [pls_len]; omega)
      rw [pls_get] at hpk
      have SZ := hide (fun U => size_f l[k].x.op l[k].x.wide l[k].x.r l[k].x.b l[k].x.i l[k].x.c l[k].x.n l[k].lb l[k].tg U ho.1.2.2.2.1 ho.1.2.2.2.2.2 rfl rfl)
      have PS := hide (pt_succ hlt)
      have hp1 := pt_le l k
      have hs1 := sN_le l[k]
      have hp : (0 : Int) ≤ (pt l k : Int) ∧ (pt l k : Int) ≤ 13000 := by omega
      have hs : (0 : Int) ≤ (sN l[k] : Int) ∧ (sN l[k] : Int) ≤ 13 := by omega
      obtain ⟨hp2, hp3⟩ := hp
      obtain ⟨hs2, hs3⟩ := hs
      have PSI : Hid ((pt l k : Int) + (sN l[k] : Int) = (pt l (k + 1) : Int)) := by show _ = _; rw [PS.out]; simp
      have PLS := hide (pls_snoc l k)
      clear hp1 hs1 ho hgc
      cases hq : sOk l[k]
      · have HN := hide (pOk_no hlt hq)
        have SZ' : Hid (∀ U, Calls Try.prog 18 #[.agg #[.int .i64 l[k].x.op, .bool l[k].x.wide, .int .i64 l[k].x.r, .int .i64 l[k].x.b, .int .i64 l[k].x.i, .int .i64 l[k].x.c, .int .i64 l[k].x.n, .int .i64 l[k].lb, .int .i64 l[k].tg]] U fun e w' => e = .returned (.tuple #[.int .i64 (sN l[k] : Int), .bool false]) ∧ Below U.heap.size U w') := by rw [← hq]; exact SZ.out
        clear SZ hq
        go_wp2_with fail
        refine (SZ'.out _).mono ?_
        rintro e w1 ⟨rfl, b1⟩
        go_wp2_with fail
        go_ret2
        exact Or.inr ⟨HN.out, rfl, bel_tr (bel_al hb _) b1⟩
      · have SZ' : Hid (∀ U, Calls Try.prog 18 #[.agg #[.int .i64 l[k].x.op, .bool l[k].x.wide, .int .i64 l[k].x.r, .int .i64 l[k].x.b, .int .i64 l[k].x.i, .int .i64 l[k].x.c, .int .i64 l[k].x.n, .int .i64 l[k].lb, .int .i64 l[k].tg]] U fun e w' => e = .returned (.tuple #[.int .i64 (sN l[k] : Int), .bool true]) ∧ Below U.heap.size U w') := by rw [← hq]; exact SZ.out
        have hA2 : Hid (∀ j (hj : j < l.length), j < k + 1 → sOk l[j] = true) := fun j hj h => by
          rcases Nat.lt_or_ge j k with h' | h'
          · exact hA.out j hj h'
          · have : j = k := by omega
            subst this; exact hq
        clear SZ hq hA
        generalize (sN l[k] : Int) = m at *
        generalize hP : (pt l k : Int) = p at *
        have W1 : Hid (∀ V w1, V = wr.alloc (.cells #[.int .i64 l[k].x.op, .bool l[k].x.wide, .int .i64 l[k].x.r, .int .i64 l[k].x.b, .int .i64 l[k].x.i, .int .i64 l[k].x.c, .int .i64 l[k].x.n, .int .i64 l[k].lb, .int .i64 l[k].tg] 42) → Below V.heap.size V w1 → Hid (NR w.heap.size (.slice (some ⟨g, 0, none⟩) (k + 1) c) (pls l k) w1) ∧ Below w.heap.size w w1 ∧ w1.cell? ⟨g, k, none⟩ = some (.int .i64 p)) := fun V w1 hV b1 => by
          subst hV
          have bb := bel_tr (bel_one wr _) b1
          exact ⟨hR.out.kept bb, bel_tr hb bb, (bb.cell (p := ⟨g, k, none⟩) hg2).trans hpk⟩
        go_wp2_with fail
        refine (SZ'.out _).mono ?_
        rintro e w1 ⟨rfl, b1⟩
        obtain ⟨hR1, hb1, hc1⟩ := W1.out _ w1 rfl b1
        have HBS : Hid (w.heap.size ≤ (w1.alloc (.cells #[.int .i64 (p + m)] 3)).heap.size) := by have := hb1.size; show _ ≤ _; simp; omega
        have OWN : Hid ((w1.alloc (.cells #[.int .i64 (p + m)] 3)).ownsRow w.heap.size 3 1 (.slice (some ⟨g, 0, none⟩) (k + 1) c) (k + 1) ((pls l k).map (Value.int .i64))) := by
          have := World.ownsRow.alloc hR1.out (.cells #[.int .i64 (p + m)] 3)
          rw [pls_len] at this; exact this
        clear b1 W1 hR hpk d0 d1 d2 d3 d4 d5 d6 d7 d8
        go_wp2_with (at_builtin; (refine wpList_append_own _ rfl (.tmp 27) (.tmp 34) 24 rfl w.heap.size 3 i0 _ 1 8 Try.underlying24 hi hz0 hz1 hz2 rfl (by decide) _ (k + 1) _ rfl OWN.out ⟨w1.heap.size, 0, none⟩ 1 1 [.int .i64 (p + m)] rfl rfl (one_at3 w1 (p + m)) (one_cell3 (p + m)) (by unfold maxLen; omega) (by omega) HBS.out ?_))
        intro v' w3 hown hgrow _
        have R3 : Hid (NR w.heap.size v' (pls l (k + 1)) w3) := by
          show w3.ownsRow _ _ _ _ _ _
          rw [PLS.out, ← PSI.out, List.map_append, List.length_append, pls_len]
          exact hown
        have B3 : Below w.heap.size w w3 := (bel_al hb1 _).trans (own_bel OWN.out HBS.out hgrow)
        clear hown hgrow OWN HBS hc1 hR1 hb1
        go_wp2_with fail
        go_roundw
        case rel => exact ⟨k + 1, by omega, by go_num, R3, B3, hA2⟩
        case measure => simp [intOf]; omega
    · have hkm : k = l.length := by omega
      subst hkm
      have ha : pOk l = true := pOk_yes fun j hj => hA.out j hj hj
      go_wp2_with fail
      go_ret2
      exact Or.inl ⟨ha, _, rfl, hR.out, hb⟩
end Go.Proofs.Ytookbgnidinkoaa
/-
  The program's Starts: where instructions begin.
-/
namespace Go.Proofs.Ytookbgnidinkoaa
open Go.RowKit
open Xc
set_option linter.unusedSimpArgs false
set_option linter.unusedVariables false
/-- Instructions that may be written. -/
def Gd (o : List Xi) : Prop := ∀ x ∈ o, rt x = true ∧ I64 x.n
theorem encs_nil : encs [] = [] := rfl
theorem encs_cons (x : Xi) (o : List Xi) : encs (x :: o) = enc x ++ encs o := by simp [encs]
theorem encs_app (o p : List Xi) : encs (o ++ p) = encs o ++ encs p := by simp [encs]
/-- Bytes are instructions in one way. -/
theorem uniq : ∀ (o o' : List Xi) (r : List UInt8), Gd o → Gd o' → encs o ++ r = encs o' → ∃ o2, o' = o ++ o2 ∧ encs o2 = r
  | [], o', r, _, _, h => ⟨o', rfl, by rw [encs_nil, List.nil_append] at h; exact h.symm⟩
  | x :: o, [], r, _, _, h => by
    have := (enc_len x).1
    rw [encs_cons, encs_nil] at h
    have := congrArg List.length h
    simp only [List.length_append, List.length_nil] at this; omega
  | x :: o, y :: o', r, g, g', h => by
    obtain ⟨a1, a2⟩ := g x (by simp)
    obtain ⟨b1, b2⟩ := g' y (by simp)
    have e1 : dcX (encs (x :: o) ++ r) = some x := dc_is a1 a2 (by rw [encs_cons, List.append_assoc]; exact List.prefix_append _ _)
    have e2 : dcX (encs (y :: o')) = some y := dc_is b1 b2 (by rw [encs_cons]; exact List.prefix_append _ _)
    rw [h, e2] at e1
    obtain rfl := Option.some.inj e1
    rw [encs_cons, encs_cons, List.append_assoc] at h
    obtain ⟨o2, e, f⟩ := uniq o o' r (fun z hz => g z (by simp [hz])) (fun z hz => g' z (by simp [hz])) (List.append_cancel_left h)
    exact ⟨o2, by rw [e]; rfl, f⟩
/-- Where they begin. -/
def offs (o : List Xi) : List Int := (List.range o.length).map fun j => ((encs (o.take j)).length : Int)
theorem offs_len (o : List Xi) : (offs o).length = o.length := by simp [offs]
theorem offs_get (o : List Xi) (j : Nat) (h : j < (offs o).length) : (offs o)[j] = ((encs (o.take j)).length : Int) := by simp [offs]
theorem offs_snoc (o : List Xi) (x : Xi) : offs (o ++ [x]) = offs o ++ [((encs o).length : Int)] := by
  apply List.ext_getElem
  · simp [offs_len]
  · intro j h1 h2
    rw [offs_get]
    rw [offs_len] at h1
    simp at h1
    by_cases hj : j < o.length
    · rw [List.getElem_append_left (by rw [offs_len]; exact hj), offs_get, List.take_append_of_le_length (by omega)]
    · have : j = o.length := by omega
      subst this
      rw [List.getElem_append_right (by rw [offs_len]; omega)]
      simp
theorem len_le : ∀ (o : List Xi), o.length ≤ (encs o).length
  | [] => Nat.le_refl _
  | x :: o => by
    have := (enc_len x).1
    have := len_le o
    rw [encs_cons]; simp; omega
theorem dE_eq (b : List UInt8) : dE b = if (dcX b).isSome then 0 else 6 := by unfold dE; cases dcX b <;> rfl
theorem dX_none {b : List UInt8} (h : dcX b = none) : dE b = 6 := by unfold dE; rw [h]; rfl
theorem dX_some {b : List UInt8} {x : Xi} (h : dcX b = some x) : dX b = x ∧ dN b = ((enc x).length : Int) ∧ dE b = 0 := by
  unfold dX dN dE; rw [h]; exact ⟨rfl, rfl, rfl⟩
theorem drop_data (t : ByteArray) (k : Nat) : (t.extract k t.size).data.toList = t.data.toList.drop k := by
  simp [ByteArray.data_extract, Array.toList_extract]
  exact List.take_of_length_le (by simp)
def StEnds (c : List UInt8) (w : World) (e : Ending) (w' : World) : Prop :=
  (∃ o v, Gd o ∧ encs o = c ∧ e = .returned (.tuple #[v, .int .i64 0]) ∧ NR w.heap.size v (offs o) w' ∧ Below w.heap.size w w') ∨ ((¬ ∃ o, Gd o ∧ encs o = c) ∧ e = .returned (.tuple #[.slice none 0 0, .int .i64 6]) ∧ Below w.heap.size w w')
set_option maxHeartbeats 4000000 in
theorem starts_any (t : ByteArray) (w : World) (hl : t.size ≤ 1048576) : Calls Try.prog 14 #[.string t] w (StEnds t.data.toList w) := by
  obtain ⟨i0, hi, hz0, hz1, hz2⟩ := info_parts info3
  have hz : t.data.toList.length = t.size := by simp
  have HZ := hide hz
  clear hz
  go_enter Try.func14, Try.ntmps14
  go_wp2
  go_loopw [4, 5] (fun sv iv wr => ∃ (k : Nat) (o : List Xi), k ≤ t.size ∧ iv = .int .i64 (k : Int) ∧ Hid (NR w.heap.size sv (offs o) wr) ∧ Below w.heap.size w wr ∧ Hid (Gd o ∧ encs o ++ t.data.toList.drop k = t.data.toList ∧ (encs o).length = k)) (fun _ iv _ => t.size - (intOf iv).toNat)
  case atStart => exact ⟨0, [], by omega, rfl, hide (World.ownsRow_nil _ _ _ _), Below.refl _ _, hide ⟨fun x hx => by simp at hx, by simp [encs_nil], rfl⟩⟩
  case round =>
    obtain ⟨k, o, hk, rfl, hR, hb, hG⟩ := hrel
    by_cases hlt : k < t.size
    · have DI := hide (fun U => decode_any (t.extract k t.size) U)
      have DD := hide (drop_data t k)
      unfold DcIs at DI
      rw [DD.out] at DI
      cases hd : dcX (t.data.toList.drop k) with
      | none =>
        have NO : Hid (¬ ∃ o, Gd o ∧ encs o = t.data.toList) := fun ⟨o', g', e'⟩ => by
          obtain ⟨g1, e1, _⟩ := hG.out
          obtain ⟨o2, e2, f2⟩ := uniq o o' _ g1 g' (e1.trans e'.symm)
          cases o2 with
          | nil =>
            have := congrArg List.length f2
            have := HZ.out
            simp [encs_nil] at *; omega
          | cons z o2 =>
            have gz := g' z (by rw [e2]; simp)
            rw [dc_is gz.1 gz.2 (by rw [← f2, encs_cons]; exact List.prefix_append _ _)] at hd
            cases hd
        have hE := dX_none hd
        rw [hE] at DI
        clear hd hE hG hR
        generalize dX (t.data.toList.drop k) = xx at *
        generalize dN (t.data.toList.drop k) = nn at *
        obtain ⟨o1, o2, o3, o4, o5, o6, o7⟩ := xx
        unfold xv at DI
        simp only at DI
        go_wp2_with fail
        refine (DI.out _).mono ?_
        rintro e w1 ⟨rfl, b1⟩
        go_wp2_with fail
        go_ret2
        exact Or.inr ⟨NO.out, rfl, bel_al (bel_tr hb b1) _⟩
      | some x =>
        obtain ⟨hX, hN, hE⟩ := dX_some hd
        rw [hX, hN, hE] at DI
        obtain ⟨q1, q2, q3, q4⟩ := dc_some hd
        obtain ⟨g1, e1, e2⟩ := hG.out
        have hL : (enc x).length ≤ t.size - k := by
          have := q2.length_le
          have := HZ.out
          simp at *; omega
        have h1 := (enc_len x).1
        have G2 : Hid (Gd (o ++ [x]) ∧ encs (o ++ [x]) ++ t.data.toList.drop (k + (enc x).length) = t.data.toList ∧ (encs (o ++ [x])).length = k + (enc x).length) := by
          refine ⟨fun z hz => ?_, ?_, ?_⟩
          · rcases List.mem_append.1 hz with h | h
            · exact g1 z h
            · simp at h; subst h; exact ⟨q1, q3⟩
          · obtain ⟨r, hr⟩ := q2
            rw [encs_app, encs_cons, encs_nil, List.append_nil, List.append_assoc, ← List.drop_drop, ← hr, List.drop_left, hr, e1]
          · rw [encs_app, encs_cons, encs_nil, List.append_nil, List.length_append, e2]
        have PLS := hide (offs_snoc o x)
        have OL := hide (len_le o)
        have E2 := hide e2
        clear hX hN hE q1 q2 q3 q4 g1 e1 e2 hG hd
        generalize hm : (enc x).length = m at *
        clear hm
        have hkm : k + m ≤ t.size := by omega
        have hk0 : (0 : Int) ≤ (k : Int) ∧ (k : Int) ≤ 1048576 := by omega
        have hm0 : (0 : Int) ≤ (m : Int) ∧ (m : Int) ≤ 1048576 := by omega
        obtain ⟨hk1, hk2⟩ := hk0
        obtain ⟨hm1, hm2⟩ := hm0
        obtain ⟨o1, o2, o3, o4, o5, o6, o7⟩ := x
        unfold xv at DI
        simp only at DI
        go_wp2_with fail
        refine (DI.out _).mono ?_
        rintro e w1 ⟨rfl, b1⟩
        have hR1 := hR.out.kept b1
        have hB1 := bel_tr hb b1
        have HB1 := hide hB1
        have WA : Hid (∀ V, V = w1.alloc (.cells #[.int .i64 o1, .bool o2, .int .i64 o3, .int .i64 o4, .int .i64 o5, .int .i64 o6, .int .i64 o7] 40) → NR w.heap.size u4 (offs o) V ∧ Below w.heap.size w V) := fun V hV => by
          subst hV; exact ⟨hR1.kept (bel_one _ _), bel_al hB1 _⟩
        clear hR hb b1 hR1 hB1 DI DD
        go_upto_region 7 with fail
        refine gen_world (motive := fun x => Code.wp _ _ _ _ x) (fun V => NR w.heap.size u4 (offs o) V ∧ Below w.heap.size w V) (WA.out _ rfl) ?_
        clear WA HB1
        rintro V ⟨hR1, hB1⟩
        have HBS : Hid (w.heap.size ≤ (V.alloc (.cells #[.int .i64 (k : Int)] 3)).heap.size) := by have := hB1.size; show _ ≤ _; simp; omega
        have OWN : Hid ((V.alloc (.cells #[.int .i64 (k : Int)] 3)).ownsRow w.heap.size 3 1 u4 o.length ((offs o).map (Value.int .i64))) := by
          have := World.ownsRow.alloc hR1 (.cells #[.int .i64 (k : Int)] 3)
          rw [offs_len] at this; exact this
        have hol : o.length ≤ 1048576 := by have := OL.out; have := E2.out; omega
        go_wp2_with (at_builtin; (refine wpList_append_own _ rfl (.tmp 23) (.tmp 25) 24 rfl w.heap.size 3 i0 _ 1 8 Try.underlying24 hi hz0 hz1 hz2 rfl (by decide) _ o.length _ rfl OWN.out ⟨V.heap.size, 0, none⟩ 1 1 [.int .i64 (k : Int)] rfl rfl (one_at3 V (k : Int)) (one_cell3 (k : Int)) (by unfold maxLen; omega) (by omega) HBS.out ?_))
        intro v' w3 hown hgrow _
        have R3 : Hid (NR w.heap.size v' (offs (o ++ [⟨o1, o2, o3, o4, o5, o6, o7⟩])) w3) := by
          show w3.ownsRow _ _ _ _ _ _
          rw [PLS.out, E2.out, List.map_append, List.length_append, offs_len]
          exact hown
        have B3 : Below w.heap.size w w3 := (bel_al hB1 _).trans (own_bel OWN.out HBS.out hgrow)
        clear hown hgrow OWN HBS hR1 hB1 PLS
        go_wp2_with fail
        go_roundw
        case rel => exact ⟨k + m, o ++ [⟨o1, o2, o3, o4, o5, o6, o7⟩], by omega, by go_num, R3, B3, G2⟩
        case measure => simp [intOf]; omega
    · have hkm : k = t.size := by omega
      subst hkm
      obtain ⟨g1, e1, e2⟩ := hG.out
      have e3 : encs o = t.data.toList := by
        rw [← e1, ← HZ.out, List.drop_length, List.append_nil]
      have G1 := hide g1
      have E3 := hide e3
      clear g1 e1 e2 e3 hG
      obtain ⟨a9, c9, hv9⟩ := hR.out.form
      subst hv9
      go_wp2_with fail
      go_ret2
      exact Or.inl ⟨o, _, G1.out, E3.out, rfl, hR.out, hb⟩
end Go.Proofs.Ytookbgnidinkoaa
