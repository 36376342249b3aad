/-
  The program's Right, whole; an instruction in a box.
-/
import Derived.Test.YtielpebokbolbaaCPlaces
namespace Go.Proofs.Ytielpebokbolbaa.Xc
open Go.RowKit
set_option linter.unusedSimpArgs false
set_option linter.unusedVariables false

/-- An instruction's cells. -/
def xc (x : Xi) : Array Value := #[.int .i64 x.op, .bool x.wide, .int .i64 x.r, .int .i64 x.b, .int .i64 x.i, .int .i64 x.c, .int .i64 x.n]
/-- It lies in block g. -/
def Bx (g : Nat) (x : Xi) (w : World) : Prop := w.heap[g]? = some (.cells (xc x) 49)
theorem Bx.lt {g : Nat} {x : Xi} {w : World} (h : Bx g x w) : g < w.heap.size := by
  rcases Nat.lt_or_ge g w.heap.size with h' | h'
  · exact h'
  · simp [Bx, Array.getElem?_eq_none h'] at h
theorem Bx.kept {g : Nat} {x : Xi} {w w' : World} (h : Bx g x w) (k : Below w.heap.size w w') : Bx g x w' := by
  have hl := h.lt
  unfold Bx at *; rw [k.block g hl]; exact h
theorem Bx.made (w : World) (x : Xi) : Bx w.heap.size x (w.alloc (.cells (xc x) 49)) := heap_alloc_new w _
theorem Bx.alloc {g : Nat} {x : Xi} {w : World} (h : Bx g x w) (o : Obj) : Bx g x (w.alloc o) := h.kept (bel_one w o)
theorem Bx.cell {g : Nat} {x : Xi} {w : World} (h : Bx g x w) (k : Nat) (v : Value) (hv : (xc x)[k]? = some v) : w.cell? ⟨g, k, none⟩ = some v := by
  simp only [Bx] at h; simp [World.cell?, h, hv]
theorem Bx.fr {g : Nat} {x : Xi} {w : World} (h : Bx g x w) (k : Nat) : w.frozen? ⟨g, k, none⟩ = false := by
  simp only [Bx] at h; simp [World.frozen?, h]
theorem Bx.cells {g : Nat} {x : Xi} {w : World} (h : Bx g x w) :
    w.cell? ⟨g, 0, none⟩ = some (.int .i64 x.op) ∧ w.cell? ⟨g, 1, none⟩ = some (.bool x.wide) ∧ w.cell? ⟨g, 2, none⟩ = some (.int .i64 x.r) ∧ w.cell? ⟨g, 3, none⟩ = some (.int .i64 x.b) ∧ w.cell? ⟨g, 4, none⟩ = some (.int .i64 x.i) ∧ w.cell? ⟨g, 5, none⟩ = some (.int .i64 x.c) ∧ w.cell? ⟨g, 6, none⟩ = some (.int .i64 x.n) :=
  ⟨h.cell 0 _ rfl, h.cell 1 _ rfl, h.cell 2 _ rfl, h.cell 3 _ rfl, h.cell 4 _ rfl, h.cell 5 _ rfl, h.cell 6 _ rfl⟩

theorem width_is (op : Int) (wd : Bool) (r b i c n : Int) (w : World) (h1 : 1 ≤ op) (h2 : op ≤ 23) {v : Bool} (h : rwd op wd = v) :
    Calls Try.prog 42 #[.agg #[.int .i64 op, .bool wd, .int .i64 r, .int .i64 b, .int .i64 i, .int .i64 c, .int .i64 n]] w fun e w' => e = .returned (.bool v) ∧ Below w.heap.size w w' := by subst h; exact width_any op wd r b i c n w h1 h2
theorem places_is (op : Int) (wd : Bool) (r b i c n : Int) (w : World) (h1 : 1 ≤ op) (h2 : op ≤ 23) (hi : I64 i) {v : Bool} (h : rpl op r b i = v) :
    Calls Try.prog 43 #[.agg #[.int .i64 op, .bool wd, .int .i64 r, .int .i64 b, .int .i64 i, .int .i64 c, .int .i64 n]] w fun e w' => e = .returned (.bool v) ∧ Below w.heap.size w w' := by subst h; exact places_any op wd r b i c n w h1 h2 hi
theorem kind_is (op : Int) (wd : Bool) (r b i c n : Int) (w : World) (h1 : 1 ≤ op) (h2 : op ≤ 23) {v : Bool} (h : rkd op c = v) :
    Calls Try.prog 44 #[.agg #[.int .i64 op, .bool wd, .int .i64 r, .int .i64 b, .int .i64 i, .int .i64 c, .int .i64 n]] w fun e w' => e = .returned (.bool v) ∧ Below w.heap.size w w' := by subst h; exact kind_any op wd r b i c n w h1 h2
theorem numb_is (op : Int) (wd : Bool) (r b i c n : Int) (w : World) (h1 : 1 ≤ op) (h2 : op ≤ 23) {v : Bool} (h : rnm op n = v) :
    Calls Try.prog 45 #[.agg #[.int .i64 op, .bool wd, .int .i64 r, .int .i64 b, .int .i64 i, .int .i64 c, .int .i64 n]] w fun e w' => e = .returned (.bool v) ∧ Below w.heap.size w w' := by subst h; exact numb_any op wd r b i c n w h1 h2
theorem rt_lo {op : Int} {wd : Bool} {r b i c n : Int} (h : op < 1) : rt ⟨op, wd, r, b, i, c, n⟩ = false := by
  unfold rt; simp only []; rw [decide_eq_false (by omega), Bool.false_and]
theorem rt_hi {op : Int} {wd : Bool} {r b i c n : Int} (h : 23 < op) : rt ⟨op, wd, r, b, i, c, n⟩ = false := by
  unfold rt; simp only []; rw [decide_eq_false (p := op ≤ 23) (by omega), Bool.false_and, Bool.and_false]
theorem rt_in {op : Int} {wd : Bool} {r b i c n : Int} (h1 : 1 ≤ op) (h2 : op ≤ 23) : rt ⟨op, wd, r, b, i, c, n⟩ = (rwd op wd && (rpl op r b i && (rkd op c && rnm op n))) := by
  unfold rt; simp only []; rw [decide_eq_true h1, decide_eq_true h2, Bool.true_and, Bool.true_and]
set_option maxHeartbeats 2000000 in
theorem right_any (op : Int) (wd : Bool) (r b i c n : Int) (w : World) (hi : I64 i) :
    Calls Try.prog 29 #[xv ⟨op, wd, r, b, i, c, n⟩] w fun e w' => e = .returned (.bool (rt ⟨op, wd, r, b, i, c, n⟩)) ∧ Below w.heap.size w w' := by
  unfold xv
  have HI := hide hi
  clear hi
  by_cases h1 : op < 1
  · rw [rt_lo h1]
    have d := decide_eq_true h1
    clear h1
    go_enter Try.func29, Try.ntmps29
    go_wp2
    go_ret
    exact ⟨rfl, bel_one _ _⟩
  by_cases h2 : 23 < op
  · rw [rt_hi h2]
    have d1 := decide_eq_false h1
    have d := decide_eq_true h2
    clear h1 h2
    go_enter Try.func29, Try.ntmps29
    go_wp2
    go_ret
    exact ⟨rfl, bel_one _ _⟩
  have g1 : 1 ≤ op := by omega
  have g2 : op ≤ 23 := by omega
  rw [rt_in g1 g2]
  have G1 := hide g1
  have G2 := hide g2
  have d1 := decide_eq_false h1
  have d2 := decide_eq_false h2
  have B0 := hide (Bx.made w ⟨op, wd, r, b, i, c, n⟩)
  have W0 := hide (bel_one w (.cells (xc ⟨op, wd, r, b, i, c, n⟩) 49))
  clear g1 g2 h1 h2
  cases hw : rwd op wd
  · have E1 := hide hw
    clear hw
    go_enter Try.func29, Try.ntmps29
    go_wp2_with (go_at_call 42; refine (width_is _ _ _ _ _ _ _ _ G1.out G2.out E1.out).mono ?_; rintro e w1 ⟨rfl, hb1⟩)
    go_ret
    exact ⟨rfl, bel_tr W0.out hb1⟩
  cases hp : rpl op r b i
  · have E1 := hide hw
    have E2 := hide hp
    clear hw hp
    go_enter Try.func29, Try.ntmps29
    go_wp2_with (first
      | (go_at_call 42; refine (width_is _ _ _ _ _ _ _ _ G1.out G2.out E1.out).mono ?_; rintro e w1 ⟨rfl, hb1⟩; have B1 := hide (B0.out.kept hb1); obtain ⟨c0, c1, c2, c3, c4, c5, c6⟩ := B1.out.cells)
      | (go_at_call 43; refine (places_is _ _ _ _ _ _ _ _ G1.out G2.out HI.out E2.out).mono ?_; rintro e w2 ⟨rfl, hb2⟩))
    go_ret
    exact ⟨rfl, bel_tr (bel_tr W0.out hb1) hb2⟩
  cases hk : rkd op c
  · have E1 := hide hw
    have E2 := hide hp
    have E3 := hide hk
    clear hw hp hk
    go_enter Try.func29, Try.ntmps29
    go_wp2_with (first
      | (go_at_call 42; refine (width_is _ _ _ _ _ _ _ _ G1.out G2.out E1.out).mono ?_; rintro e w1 ⟨rfl, hb1⟩; have B1 := hide (B0.out.kept hb1); obtain ⟨c0, c1, c2, c3, c4, c5, c6⟩ := B1.out.cells)
      | (go_at_call 43; refine (places_is _ _ _ _ _ _ _ _ G1.out G2.out HI.out E2.out).mono ?_; rintro e w2 ⟨rfl, hb2⟩; have B2 := hide (B1.out.kept hb2); clear c0 c1 c2 c3 c4 c5 c6; obtain ⟨c0, c1, c2, c3, c4, c5, c6⟩ := B2.out.cells)
      | (go_at_call 44; refine (kind_is _ _ _ _ _ _ _ _ G1.out G2.out E3.out).mono ?_; rintro e w3 ⟨rfl, hb3⟩))
    go_ret
    exact ⟨rfl, bel_tr (bel_tr (bel_tr W0.out hb1) hb2) hb3⟩
  have E1 := hide hw
  have E2 := hide hp
  have E3 := hide hk
  obtain ⟨vn, hn⟩ : ∃ vn, rnm op n = vn := ⟨_, rfl⟩
  have E4 := hide hn
  rw [hn]
  clear hw hp hk hn
  go_enter Try.func29, Try.ntmps29
  go_wp2_with (first
    | (go_at_call 42; refine (width_is _ _ _ _ _ _ _ _ G1.out G2.out E1.out).mono ?_; rintro e w1 ⟨rfl, hb1⟩; have B1 := hide (B0.out.kept hb1); obtain ⟨c0, c1, c2, c3, c4, c5, c6⟩ := B1.out.cells)
    | (go_at_call 43; refine (places_is _ _ _ _ _ _ _ _ G1.out G2.out HI.out E2.out).mono ?_; rintro e w2 ⟨rfl, hb2⟩; have B2 := hide (B1.out.kept hb2); clear c0 c1 c2 c3 c4 c5 c6; obtain ⟨c0, c1, c2, c3, c4, c5, c6⟩ := B2.out.cells)
    | (go_at_call 44; refine (kind_is _ _ _ _ _ _ _ _ G1.out G2.out E3.out).mono ?_; rintro e w3 ⟨rfl, hb3⟩; have B3 := hide (B2.out.kept hb3); clear c0 c1 c2 c3 c4 c5 c6; obtain ⟨c0, c1, c2, c3, c4, c5, c6⟩ := B3.out.cells)
    | (go_at_call 45; refine (numb_is _ _ _ _ _ _ _ _ G1.out G2.out E4.out).mono ?_; rintro e w4 ⟨rfl, hb4⟩))
  go_ret
  exact ⟨rfl, bel_tr (bel_tr (bel_tr (bel_tr W0.out hb1) hb2) hb3) hb4⟩
end Go.Proofs.Ytielpebokbolbaa.Xc
