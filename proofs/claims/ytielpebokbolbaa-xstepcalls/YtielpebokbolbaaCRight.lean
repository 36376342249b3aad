/-
  The program's Right answers what the plain function rt answers; only boxes of its own are made.
-/
import Derived.Test.YtielpebokbolbaaCLeaf
namespace Go.Proofs.Ytielpebokbolbaa.Xc
open Go.RowKit
set_option linter.unusedSimpArgs false
set_option linter.unusedVariables false

/-- An instruction, as a value. -/
def xv (x : Xi) : Value := .agg #[.int .i64 x.op, .bool x.wide, .int .i64 x.r, .int .i64 x.b, .int .i64 x.i, .int .i64 x.c, .int .i64 x.n]
theorem bel_one (w : World) (o : Obj) : Below w.heap.size w (w.alloc o) := (Below.refl _ w).alloc (Nat.le_refl _) _
theorem bel_tr {a w w' : World} (h : Below a.heap.size a w) (k : Below w.heap.size w w') : Below a.heap.size a w' := h.trans (k.mono h.size)
theorem bel_al {a w : World} (h : Below a.heap.size a w) (x : Obj) : Below a.heap.size a (w.alloc x) := bel_tr h (bel_one w x)
theorem bel_set {a w : World} (h : Below a.heap.size a w) {b : Nat} (hb : a.heap.size ≤ b) (k : Nat) (v : Value) : Below a.heap.size a (w.setCell ⟨b, k, none⟩ v) := h.setCell (p := ⟨b, k, none⟩) hb v
set_option maxHeartbeats 4000000 in
theorem width_any (op : Int) (wd : Bool) (r b i c n : Int) (w : World) (h1 : 1 ≤ op) (h2 : op ≤ 23) :
    Calls Try.prog 42 #[xv ⟨op, wd, r, b, i, c, n⟩] w fun e w' => e = .returned (.bool (rwd op wd)) ∧ Below w.heap.size w w' := by
  unfold xv
  rcases op_cases h1 h2 with rfl | rfl | rfl | rfl | rfl | rfl | rfl | rfl | rfl | rfl | rfl | rfl | rfl | rfl | rfl | rfl | rfl | rfl | rfl | rfl | rfl | rfl | rfl <;>
    (clear h1 h2; go_enter Try.func42, Try.ntmps42; go_wp2; go_ret; exact ⟨rfl, bel_one _ _⟩)
set_option maxHeartbeats 4000000 in
theorem kind_any (op : Int) (wd : Bool) (r b i c n : Int) (w : World) (h1 : 1 ≤ op) (h2 : op ≤ 23) :
    Calls Try.prog 44 #[xv ⟨op, wd, r, b, i, c, n⟩] w fun e w' => e = .returned (.bool (rkd op c)) ∧ Below w.heap.size w w' := by
  unfold xv
  rcases op_cases h1 h2 with rfl | rfl | rfl | rfl | rfl | rfl | rfl | rfl | rfl | rfl | rfl | rfl | rfl | rfl | rfl | rfl | rfl | rfl | rfl | rfl | rfl | rfl | rfl <;>
    (clear h1 h2; go_enter Try.func44, Try.ntmps44
     go_wp2_with (first | (go_at_call 65; refine (sum_any _ _).mono ?_; rintro e w' ⟨rfl, rfl⟩) | (go_at_call 66; refine (shiftK_any _ _).mono ?_; rintro e w' ⟨rfl, rfl⟩) | (go_at_call 67; refine (condK_any _ _).mono ?_; rintro e w' ⟨rfl, rfl⟩))
     go_ret; exact ⟨rfl, bel_one _ _⟩)
theorem s32_is (n : Int) : (n == wrap64 (wrap32 n)) = s32 n := by
  rw [Bool.eq_iff_iff]
  simp only [s32, beq_iff_eq, Bool.and_eq_true, decide_eq_true_eq]
  unfold wrap64 wrap32; omega
set_option maxHeartbeats 4000000 in
theorem numb_any (op : Int) (wd : Bool) (r b i c n : Int) (w : World) (h1 : 1 ≤ op) (h2 : op ≤ 23) :
    Calls Try.prog 45 #[xv ⟨op, wd, r, b, i, c, n⟩] w fun e w' => e = .returned (.bool (rnm op n)) ∧ Below w.heap.size w w' := by
  unfold xv
  cases h : h32 op
  · have hh := hide h
    by_cases h0 : n = 0
    · subst h0
      have hr : rnm op 0 = true := by simp [rnm, h]
      rw [hr]
      clear hr h h1 h2
      go_enter Try.func45, Try.ntmps45
      go_wp2_with (go_at_call 52; refine (has_any _ _).mono ?_; rw [hh.out]; rintro e w' ⟨rfl, rfl⟩)
      go_ret
      exact ⟨rfl, bel_one _ _⟩
    · have hr : rnm op n = (op == 2) := by simp [rnm, h, h0]
      rw [hr]
      have hd : (n == 0) = false := by simpa using h0
      clear hr h h1 h2 h0
      go_enter Try.func45, Try.ntmps45
      go_wp2_with (go_at_call 52; refine (has_any _ _).mono ?_; rw [hh.out]; rintro e w' ⟨rfl, rfl⟩)
      go_ret
      exact ⟨rfl, bel_one _ _⟩
  · have hh := hide h
    have hr : rnm op n = s32 n := by simp [rnm, h]
    rw [hr, ← s32_is]
    clear hr h h1 h2
    go_enter Try.func45, Try.ntmps45
    go_wp2_with (go_at_call 52; refine (has_any _ _).mono ?_; rw [hh.out]; rintro e w' ⟨rfl, rfl⟩)
    go_ret
    exact ⟨rfl, bel_one _ _⟩
end Go.Proofs.Ytielpebokbolbaa.Xc
