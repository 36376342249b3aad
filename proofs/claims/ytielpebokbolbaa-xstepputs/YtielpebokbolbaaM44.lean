/-
  Boxes of machines, for the statements; runs in two parts. XstepTwo: steps in two parts are the steps in one.
-/
import Derived.Test.YtielpebokbolbaaM43
namespace Go.Proofs.Ytielpebokbolbaa
open Go.RowKit
open Xc (hide bel_one bel_tr bel_al bel_set Xi xv xc)
set_option linter.unusedSimpArgs false
set_option linter.unusedVariables false
/-- A machine in a box. -/
structure BM (q : Nat) (m : Mc) (vr : Value) (W : World) : Prop where
  row : W.heap[q]? = some (.cells (ml m vr).toArray 27)
  mv : MV m (.agg (mc m vr)) W
theorem BM.lt {q : Nat} {m : Mc} {vr : Value} {W : World} (h : BM q m vr W) : q < W.heap.size := by
  rcases Nat.lt_or_ge q W.heap.size with h' | h'
  · exact h'
  · have := h.row; rw [Array.getElem?_eq_none h'] at this; cases this
theorem BM.bel {q : Nat} {m : Mc} {vr : Value} {W W' : World} (h : BM q m vr W) (k : Below W.heap.size W W') : BM q m vr W' := ⟨(k.block _ h.lt).trans h.row, h.mv.bel k⟩
theorem BM.rg {q : Nat} {m : Mc} {vr : Value} {W : World} (h : BM q m vr W) : W.rangeAt q 0 (ml m vr) := rng_row h.row
theorem BM.il {q : Nat} {m : Mc} {vr : Value} {W : World} (h : BM q m vr W) : (Try.prog.info? 27).map (·.size) = some (ml m vr).length := by
  obtain ⟨ra, rc, ss, e, _, _, ok, _⟩ := h.mv
  exact i27l ok.1 vr
theorem bm_arg {m : Mc} {vr : Value} {w : World} (h : MV m (.agg (mc m vr)) w) : BM w.heap.size m vr (w.alloc (.cells (ml m vr).toArray 27)) := ⟨heap_alloc_new w _, h.bel (bel_one w _)⟩
/-- A machine is laid into a new box. -/
theorem bm_new {m : Mc} {vr : Value} {w : World} (h : MV m (.agg (mc m vr)) w) : BM w.heap.size m vr ((w.alloc (.cells zm 27)).setRow w.heap.size (ml m vr).toArray) ∧ Below w.heap.size w ((w.alloc (.cells zm 27)).setRow w.heap.size (ml m vr).toArray) := by
  have k := below_setRow (bel_one w (.cells zm 27)) (Nat.le_refl _) (ml m vr).toArray
  exact ⟨⟨setRow_heap _ _ _ _ _ (0, 0) (heap_alloc_new w (.cells zm 27)), h.bel k⟩, k⟩
theorem MV.sl {m : Mc} {v : Value} {w : World} (h : MV m v w) : ∃ ra rc, v = .agg (mc m (.slice ra m.g.length rc)) := by
  obtain ⟨ra, rc, ss, e, _⟩ := h
  exact ⟨ra, rc, e⟩
theorem MV.len {m : Mc} {v : Value} {w : World} (h : MV m v w) : m.r.length = 16 := by
  obtain ⟨ra, rc, ss, e, _, _, ok, _⟩ := h
  exact ok.1
theorem z_row (w : World) : (w.alloc (.cells zm 27)).heap[w.heap.size]? = some (.cells zm 27) := heap_alloc_new w _
theorem z_inf {m : Mc} (h : m.r.length = 16) (vr : Value) : (Try.prog.info? 27).map (·.size) = some (ml m vr).toArray.size := by rw [List.size_toArray]; exact i27l h vr
theorem z_siz {m : Mc} (h : m.r.length = 16) (vr : Value) : zm.size = (ml m vr).toArray.size := (show zm.size = 23 from rfl).trans (by rw [List.size_toArray, ml_len h])
theorem run_two : ∀ (a b : Nat) (m : Mc), runM (a + b) m = ((runM b (runM a m).1).1, (runM a m).2 ++ (runM b (runM a m).1).2)
  | 0, b, m => by simp [runM]
  | a + 1, b, m => by
    rw [show a + 1 + b = (a + b) + 1 by omega]
    by_cases h : m.st = 0
    · simp only [runM, h, if_true, run_two a b, List.cons_append]
    · have : ∀ n, runM n m = (m, []) := fun n => by cases n <;> simp [runM, h]
      rw [this, this, this]; rfl
theorem run_len : ∀ (n : Nat) (m : Mc), (runM n m).2.length ≤ n
  | 0, _ => Nat.le_refl _
  | n + 1, m => by
    unfold runM
    split
    · simp only [List.length_cons]; have := run_len n (stp m).1; omega
    · simp
/-- A number of steps, as the statements take it. -/
def ab61 (x : Int) : Int := if x < 0 then (-(x + 1)).tmod 61 else x.tmod 61
theorem ab61_neg {x : Int} (h : x < 0) : (x + 1).tmod 61 = - ab61 x := by unfold ab61; rw [if_pos h, Int.neg_tmod]; omega
theorem ab61_pos {x : Int} (h : ¬ x < 0) : x.tmod 61 = ab61 x := by unfold ab61; rw [if_neg h]
theorem ab61_bd (x : Int) : 0 ≤ ab61 x ∧ ab61 x ≤ 60 := by
  unfold ab61
  split
  · have h1 := Int.tmod_nonneg (b := 61) (a := -(x + 1)) (by omega)
    have h2 := Int.tmod_lt_of_pos (-(x + 1)) (b := 61) (by decide)
    omega
  · have h1 := Int.tmod_nonneg (b := 61) (a := x) (by omega)
    have h2 := Int.tmod_lt_of_pos x (b := 61) (by decide)
    omega
theorem LV.cellj {b0 : Nat} {L : List Lk} {v : Value} {w : World} (h : LV b0 L v w) (hn : 0 < L.length) : ∃ g c, v = .slice (some ⟨g, 0, none⟩) L.length c ∧ ∀ j u, (lkl L)[j]? = some u → w.cell? ((⟨g, 0, none⟩ : Addr).add j) = some u := by
  rcases h.2 with ⟨_, e⟩ | ⟨g, cap, cur, rfl, h1, h2, h3, h4, h5, h6⟩
  · omega
  · refine ⟨g, cap, rfl, fun j u hu => ?_⟩
    have hj : j < L.length * 4 := by rw [← lkl_len]; exact (List.getElem?_eq_some_iff.1 hu).1
    rw [← h6, List.getElem?_take, if_pos hj] at hu
    rw [add_at]
    simp only [World.cell?, h2, Nat.zero_add]
    simpa using hu
theorem LV.cap {b0 : Nat} {L : List Lk} {v : Value} {w : World} (h : LV b0 L v w) : ∃ a c, v = .slice a L.length c ∧ L.length ≤ c := by
  rcases h.2 with ⟨rfl, e⟩ | ⟨g, cap, cur, rfl, _, _, h3, _⟩
  · rw [e]; exact ⟨_, _, rfl, Nat.le_refl _⟩
  · exact ⟨_, _, rfl, h3⟩
theorem lkl_app (L L2 : List Lk) : lkl (L ++ L2) = lkl L ++ lkl L2 := by simp [lkl]
theorem lkl_one (L : List Lk) : ∀ u ∈ lkl L, u.oneCell' = true := fun u hu => by
  simp only [lkl, List.mem_flatMap, List.mem_cons, List.not_mem_nil, or_false] at hu
  obtain ⟨l, _, rfl | rfl | rfl | rfl⟩ := hu <;> rfl
/-- Leaks behind leaks. -/
theorem wpl_app {ops : Array Oper} {rest : List Oper} {o : Oper} {a : Act} {w : World} {Q : Exit → Act → World → Prop} (hg : o.guard = none) (s x : Operand) (ho : o.op = .call { callee := .builtin .append, args := #[s, x], argTypes := #[35, 35] })
    {b0 b1 : Nat} {L L2 : List Lk} {va vb : Value} (hs : a.eval s = va) (hx : a.eval x = vb) (ha : LV b0 L va w) (hb : LV b1 L2 vb w) (hn : L.length + L2.length ≤ 1000000) (hb0 : b0 ≤ w.heap.size)
    (h : ∀ v' w', LV b0 (L ++ L2) v' w' → Below b0 w w' → wpList Try.prog ops Q rest (a.put o.dst v') w') : wpList Try.prog ops Q (o :: rest) a w := by
  obtain ⟨i0, hi, hz0, hz1, hz2⟩ := info_parts infoLk
  cases L2 with
  | nil =>
    obtain ⟨xb, xc, rfl⟩ := hb.sl
    obtain ⟨sb, sc, rfl, hle⟩ := ha.cap
    refine append_nothing w hg s x 35 ho 52 i0 Try.underlying35 hi sb _ sc hs hle xb xc hx ?_
    exact h _ _ (by rw [List.append_nil]; exact ha) (Below.refl _ _)
  | cons l L2 =>
    obtain ⟨g, c, rfl, hc⟩ := hb.cellj (by simp)
    refine wpList_append_own w hg s x 35 ho b0 52 i0 _ 4 32 Try.underlying35 hi hz0 hz1 hz2 rfl (by decide) va L.length (lkl L) hs ha ⟨g, 0, none⟩ (l :: L2).length c (lkl (l :: L2)) hx (lkl_len _) hc (lkl_one _) (by unfold maxLen; omega) (by omega) hb0 ?_
    intro v' w' hown hgrow _
    refine h v' w' ?_ ⟨hgrow.os, hgrow.tape, hgrow.output, hgrow.size, fun k hk => hgrow.block k (by omega) fun e => ?_⟩
    · unfold LV
      rw [lkl_app, List.length_append]; exact hown
    · have := ha.ge e.symm; omega
end Go.Proofs.Ytielpebokbolbaa
