/-
  The law's examples.
-/
import Derived.Test.YtjgaaofpfepfhaaEx4
namespace Go.Proofs.Ytjgaaofpfepfhaa
open Go.RowKit
set_option linter.unusedSimpArgs false
set_option linter.unusedVariables false
def row4 : Array Value := #[.int .i64 1, .int .i64 0, .int .i64 0, .int .i64 0, .int .i64 0, .int .i64 0, .int .i64 0, .int .i64 1, .int .i64 1, .int .i64 0, .int .i64 0, .int .i64 0, .int .i64 0, .int .i64 0, .int .i64 3, .int .i64 0, .int .i64 0, .int .i64 1, .int .i64 0, .int .i64 0, .int .i64 0, .int .i64 15, .int .i64 0, .int .i64 0, .int .i64 0, .int .i64 0, .int .i64 0, .int .i64 0]
/-- The examples' code: its row, its box. -/
structure E4 (q : Nat) (w W : World) : Prop where
  b : Below w.heap.size w W
  e : q = w.heap.size
  lt : q + 1 < W.heap.size
  r : W.heap[q]? = some (.cells row4 43)
  x : W.heap[q + 1]? = some (.cells #[.int .i64 2, .int .i64 0, .slice (some ⟨q, 0, none⟩) 4 4, .int .i64 0] 24)
theorem E4.bel {q : Nat} {w W U : World} (h : E4 q w W) (k : Below W.heap.size W U) : E4 q w U :=
  ⟨h.b.trans (k.mono h.b.size), h.e, Nat.lt_of_lt_of_le h.lt k.size, (k.block _ (by have := h.lt; omega)).trans h.r, (k.block _ h.lt).trans h.x⟩
theorem E4.ir {q : Nat} {w W : World} (h : E4 q w W) : IR W.heap.size W (some ⟨q, 0, none⟩) L4 := fun j hj => by
  have e := h.r
  unfold row4 at e
  refine ⟨q, 0, rfl, by have := h.lt; omega, ?_, ?_⟩
  · match j, hj with
    | 0, _ => constructor <;> simp [World.cell?, e, L4]
    | 1, _ => constructor <;> simp [World.cell?, e, L4]
    | 2, _ => constructor <;> simp [World.cell?, e, L4]
    | 3, _ => constructor <;> simp [World.cell?, e, L4]
    | j + 4, h => exact absurd h (by simp [L4])
  · match j, hj with
    | 0, _ => simp [L4, Ir.ok, I64]
    | 1, _ => simp [L4, Ir.ok, I64]
    | 2, _ => simp [L4, Ir.ok, I64]
    | 3, _ => simp [L4, Ir.ok, I64]
    | j + 4, h => exact absurd h (by simp [L4])
theorem E4.cells {q : Nat} {w W : World} (h : E4 q w W) : W.cell? ⟨q + 1, 0, none⟩ = some (.int .i64 2) ∧ W.cell? ⟨q + 1, 1, none⟩ = some (.int .i64 0) ∧ W.cell? ⟨q + 1, 2, none⟩ = some (.slice (some ⟨q, 0, none⟩) 4 4) ∧ W.cell? ⟨q + 1, 3, none⟩ = some (.int .i64 0) := by
  simp [World.cell?, h.x]
theorem e4_made (w : World) : E4 w.heap.size w ((w.alloc (.cells row4 43)).alloc (.cells #[.int .i64 2, .int .i64 0, .slice (some ⟨w.heap.size, 0, none⟩) 4 4, .int .i64 0] 24)) := by
  have x1 := heap_alloc_new w (.cells row4 43)
  have k1 := bel_one w (.cells row4 43)
  have s1 : (w.alloc (.cells row4 43)).heap.size = w.heap.size + 1 := by simp
  generalize w.alloc (.cells row4 43) = U at *
  have x2 := heap_alloc_new U (.cells #[.int .i64 2, .int .i64 0, .slice (some ⟨w.heap.size, 0, none⟩) 4 4, .int .i64 0] 24)
  have k2 := bel_one U (.cells #[.int .i64 2, .int .i64 0, .slice (some ⟨w.heap.size, 0, none⟩) 4 4, .int .i64 0] 24)
  rw [s1] at x2
  exact ⟨k1.trans (k2.mono (by omega)), rfl, by simp [s1], (k2.block _ (by omega)).trans x1, x2⟩
theorem num4 (r : Nat) (A : Nat → Nat) (W : World) (h : NRow r 4 A W) (z0 z1 z2 z3 : Int) (e0 : (A 0 : Int) = z0) (e1 : (A 1 : Int) = z1) (e2 : (A 2 : Int) = z2) (e3 : (A 3 : Int) = z3) :
    Calls Try.prog 10 #[.slice (some ⟨r, 0, none⟩) 4 4, .slice (some ⟨W.heap.size, 0, none⟩) 4 4] (W.alloc (.cells #[.int .i64 z0, .int .i64 z1, .int .i64 z2, .int .i64 z3] 3)) fun e w' => e = .returned (.bool true) ∧ Below (W.alloc (.cells #[.int .i64 z0, .int .i64 z1, .int .i64 z2, .int .i64 z3] 3)).heap.size (W.alloc (.cells #[.int .i64 z0, .int .i64 z1, .int .i64 z2, .int .i64 z3] 3)) w' := by
  have x := heap_alloc_new W (.cells #[.int .i64 z0, .int .i64 z1, .int .i64 z2, .int .i64 z3] 3)
  have k := bel_one W (.cells #[.int .i64 z0, .int .i64 z1, .int .i64 z2, .int .i64 z3] 3)
  have s : (W.alloc (.cells #[.int .i64 z0, .int .i64 z1, .int .i64 z2, .int .i64 z3] 3)).heap.size = W.heap.size + 1 := by simp
  have hn := h.of (k.block _ h.lt)
  have hl := h.lt
  generalize W.alloc (.cells #[.int .i64 z0, .int .i64 z1, .int .i64 z2, .int .i64 z3] 3) = U at *
  refine numbers_yes r W.heap.size 4 4 4 (fun k => (A k : Int)) U (by decide) (by omega) (by omega) hn.c fun k hk => ?_
  match k, hk with
  | 0, _ => simp [World.cell?, x, e0]
  | 1, _ => simp [World.cell?, x, e1]
  | 2, _ => simp [World.cell?, x, e2]
  | 3, _ => simp [World.cell?, x, e3]
  | k + 4, h => omega
theorem num1 (r c : Nat) (z : Int) (W : World) (hr : r < W.heap.size) (h : W.cell? ⟨r, 0, none⟩ = some (.int .i64 z)) :
    Calls Try.prog 10 #[.slice (some ⟨r, 0, none⟩) 1 c, .slice (some ⟨W.heap.size, 0, none⟩) 1 1] (W.alloc (.cells #[.int .i64 z] 3)) fun e w' => e = .returned (.bool true) ∧ Below (W.alloc (.cells #[.int .i64 z] 3)).heap.size (W.alloc (.cells #[.int .i64 z] 3)) w' := by
  have x := heap_alloc_new W (.cells #[.int .i64 z] 3)
  have k := bel_one W (.cells #[.int .i64 z] 3)
  have s : (W.alloc (.cells #[.int .i64 z] 3)).heap.size = W.heap.size + 1 := by simp
  have hn := (k.cell (p := ⟨r, 0, none⟩) hr).trans h
  generalize W.alloc (.cells #[.int .i64 z] 3) = U at *
  refine numbers_yes r W.heap.size 1 c 1 (fun _ => z) U (by decide) (by omega) (by omega) (fun k hk => ?_) fun k hk => ?_
  · obtain rfl : k = 0 := by omega
    exact hn
  · obtain rfl : k = 0 := by omega
    simp [World.cell?, x]
set_option maxRecDepth 100000 in
set_option maxHeartbeats 6400000 in
theorem examples_any (w : World) : Calls Try.prog 6 #[] w fun e w' => e = .returned (.bool true) ∧ Below w.heap.size w w' := by
  have E0 := e4_made w
  unfold row4 at E0
  go_enter Try.func6, Try.ntmps6
  go_wp2_with fail
  refine gw (motive := fun x => Calls _ _ _ x _) (fun W => Hid (E4 w.heap.size w W)) E0 ?_
  rintro W HE
  clear E0
  obtain ⟨c0, c1, c2, c3⟩ := HE.out.cells
  have AF : Hid (Calls Try.prog 7 #[.agg #[.int .i64 2, .int .i64 0, .slice (some ⟨w.heap.size, 0, none⟩) 4 4, .int .i64 0]] W (TwoEnds ⟨2, 0, 0⟩ L4 true W)) := after_any ⟨2, 0, 0⟩ _ 4 L4 W (by decide) HE.out.ir
  refine AF.out.mono ?_
  rintro e W1 (⟨hf, _⟩ | ⟨hf, r, A, F, rfl, k1, n1, s1, b1⟩)
  · rw [fit4] at hf; cases hf
  clear c0 c1 c2 c3 AF
  have HE1 := hide (HE.out.bel b1)
  obtain ⟨⟨a0, a1, a2, a3⟩, f0, f1, f2, f3⟩ := sol4 s1
  have HN1 : Hid (NRow r 4 F W1) := n1
  obtain ⟨c0, c1, c2, c3⟩ := HE1.out.cells
  have AG : Hid (Calls Try.prog 8 #[.agg #[.int .i64 2, .int .i64 0, .slice (some ⟨w.heap.size, 0, none⟩) 4 4, .int .i64 0]] W1 (TwoEnds ⟨2, 0, 0⟩ L4 false W1)) := ahead_any ⟨2, 0, 0⟩ _ 4 L4 W1 (by decide) HE1.out.ir
  clear s1 n1 b1 k1 hf
  go_wp2_with fail
  refine AG.out.mono ?_
  rintro e W2 (⟨hf, _⟩ | ⟨hf, r', A', F', rfl, k2, n2, s2, b2⟩)
  · rw [fit4] at hf; cases hf
  clear c0 c1 c2 c3 AG
  have HE2 := hide (HE1.out.bel b2)
  obtain ⟨⟨a0', a1', a2', a3'⟩, _⟩ := sol4 s2
  have HN2 : Hid (NRow r' 4 A' W2) := n2
  have HN1b := hide (HN1.out.of (b2.block _ HN1.out.lt))
  clear s2 n2 b2 k2 hf HN1
  go_wp2_with fail
  refine (num4 r F W2 HN1b.out 1 3 1 0 (by rw [f0]; rfl) (by rw [f1]; rfl) (by rw [f2]; rfl) (by rw [f3]; rfl)).mono ?_
  rintro e W3 ⟨rfl, b3⟩
  have HE3 := hide ((HE2.out.bel (bel_one W2 _)).bel b3)
  have HN3 := hide ((HN2.out.of ((bel_one W2 (.cells #[.int .i64 1, .int .i64 3, .int .i64 1, .int .i64 0] 3)).block _ HN2.out.lt)).of (b3.block _ (by simp; have := HN2.out.lt; omega)))
  clear b3 HN1b HN2
  go_wp2_with fail
  refine (num4 r' A' W3 HN3.out 0 1 3 1 (by rw [a0']; rfl) (by rw [a1']; rfl) (by rw [a2']; rfl) (by rw [a3']; rfl)).mono ?_
  rintro e W4 ⟨rfl, b4⟩
  have HE4 := hide ((HE3.out.bel (bel_one W3 _)).bel b4)
  clear b4 HN3
  obtain ⟨c0, c1, c2, c3⟩ := HE4.out.cells
  have CL : Hid (Calls Try.prog 15 #[.agg #[.int .i64 2, .int .i64 0, .slice (some ⟨w.heap.size, 0, none⟩) 4 4, .int .i64 0], .int .i64 0, .int .i64 1] W4 (ClsEnds ⟨2, 0, 0⟩ L4 0 1 W4)) := clash_any ⟨2, 0, 0⟩ _ 4 L4 0 1 W4 (by decide) HE4.out.ir
  go_wp2_with fail
  refine CL.out.mono ?_
  rintro e W5 ⟨v, n, rfl, b5, h5⟩
  have hvn : v = true ∧ n = 0 := by
    rcases h5 with ⟨h, _⟩ | ⟨_, hn, h⟩
    · exact absurd h (by rw [fit4]; decide)
    · rcases h with ⟨h, _⟩ | ⟨_, A5, F5, s5, hv⟩
      · cases h
      · exact ⟨hv.trans (cls4 s5), hn⟩
  obtain ⟨rfl, rfl⟩ := hvn
  have HE5 := hide (HE4.out.bel b5)
  clear b5 h5 CL c0 c1 c2 c3
  obtain ⟨c0, c1, c2, c3⟩ := HE5.out.cells
  have NX : Hid (Calls Try.prog 11 #[.agg #[.int .i64 2, .int .i64 0, .slice (some ⟨w.heap.size, 0, none⟩) 4 4, .int .i64 0], .int .i64 2] W5 fun e w' => ∃ v, e = .returned v ∧ Nv W5.heap.size v (nxt L4 2) w' ∧ Below W5.heap.size W5 w') := ask_next ⟨2, 0, 0⟩ _ 4 L4 2 W5 (by decide) (by decide) HE5.out.ir
  go_wp2_with fail
  refine NX.out.mono ?_
  rintro e W6 ⟨v, rfl, hv, b6⟩
  have HE6 := hide (HE5.out.bel b6)
  clear NX c0 c1 c2 c3 b6
  rw [n2] at hv
  rcases hv with ⟨h, _⟩ | ⟨g, c, rfl, g1, g2, g3⟩
  · cases h
  have hg := g3 0 (by decide)
  go_wp2_with fail
  refine (num1 g c 3 W6 g2 hg).mono ?_
  rintro e W7 ⟨rfl, b7⟩
  have HE7 := hide ((HE6.out.bel (bel_one W6 _)).bel b7)
  clear b7 g3 hg
  obtain ⟨c0, c1, c2, c3⟩ := HE7.out.cells
  have FA : Hid (Calls Try.prog 13 #[.agg #[.int .i64 2, .int .i64 0, .slice (some ⟨w.heap.size, 0, none⟩) 4 4, .int .i64 0]] W7 fun e w' => e = .returned (.bool (fitb ⟨2, 0, 0⟩ L4)) ∧ Below W7.heap.size W7 w') := fits_any ⟨2, 0, 0⟩ _ 4 L4 W7 (by decide) HE7.out.ir
  rw [fit4] at FA
  go_wp2_with fail
  refine FA.out.mono ?_
  rintro e W8 ⟨rfl, b8⟩
  have HB8 := hide (HE7.out.b.trans (b8.mono HE7.out.b.size))
  clear b8 c0 c1 c2 c3
  go_wp2_with fail
  go_ret
  exact ⟨rfl, HB8.out⟩
end Go.Proofs.Ytjgaaofpfepfhaa
