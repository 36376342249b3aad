/-
  The chapter's examples come out; nothing old changes.
-/
import Derived.Test.YtglagdbkcigojaaEx
namespace Go.Proofs.Ytglagdbkcigojaa
open Go.RowKit

def fx : Nat → Int := fun j => [2, 4, 12, 5, 11, 11, 11].getD j 0
theorem fx_er : er fx 7 = 0 := by rfl
theorem fx_sp : (run fx 7).sp = [⟨0, -1, 5⟩, ⟨1, 3, 4⟩, ⟨-1, -1, 6⟩] := by rfl
theorem fx_t0 : tgt fx 7 2 0 = (4, false, 0) := by decide
theorem fx_t1 : tgt fx 7 2 1 = (5, false, 0) := by decide
theorem fx_t2 : tgt fx 7 2 2 = (6, false, 0) := by decide
theorem fx_t3 : tgt fx 7 2 3 = (0, false, 3) := by decide
theorem target_is (a : Option Addr) (n c n₀ : Nat) (f : Nat → Int) (p d : Int) (r1 : Int) (r2 : Bool) (r3 : Int) (hr : tgt f n p d = (r1, r2, r3)) (w : World) (hO : Ops n₀ w a n f) (hn₀ : n₀ ≤ w.heap.size) (hn : n ≤ 1000) :
    Calls Try.prog 16 #[.slice a n c, .int .i64 p, .int .i64 d] w fun e w' => e = .returned (.tuple #[.int .i64 r1, .bool r2, .int .i64 r3]) ∧ Below w.heap.size w w' := by
  have := target_any a n c n₀ f p d w hO hn₀ hn
  rw [hr] at this
  exact this
theorem ops_on {n₀ : Nat} {w w' : World} {a : Option Addr} {n : Nat} {f : Nat → Int} (h : Ops n₀ w a n f) (hn : n₀ ≤ w.heap.size) (hb : Below w.heap.size w w') : Ops n₀ w' a n f := h.below hb hn

set_option maxRecDepth 100000 in
set_option maxHeartbeats 4000000 in
theorem examples_any (w : World) : Calls Try.prog 9 #[] w fun e w' => e = .returned (.bool true) ∧ Below w.heap.size w w' := by
  have F := hide (of_any w.heap.size 7 7 fx (w.alloc (.cells #[.int .i64 2, .int .i64 4, .int .i64 12, .int .i64 5, .int .i64 11, .int .i64 11, .int .i64 11] 3)) (by simp) (fun j hj => by
    rw [cell_of_row _ _ j _ 3 (0, 0) (heap_alloc_new w _)]
    match j, hj with
    | 0, _ => rfl
    | 1, _ => rfl
    | 2, _ => rfl
    | 3, _ => rfl
    | 4, _ => rfl
    | 5, _ => rfl
    | 6, _ => rfl) (by omega))
  have hb0 := bel_one w (.cells #[.int .i64 2, .int .i64 4, .int .i64 12, .int .i64 5, .int .i64 11, .int .i64 11, .int .i64 11] 3)
  go_enter Try.func9, Try.ntmps9
  go_wp2_with fail
  refine F.out.mono ?_
  rintro e w1 ⟨a, c, rfl, hO, hb1⟩
  have b1 := hb0.trans (hb1.mono hb0.size)
  have O1 := hide hO
  have S := hide (spans_any a 7 c w1.heap.size fx w1 hO (Nat.le_refl _) (by omega))
  rw [fx_er, fx_sp] at S
  clear F hO hb1 hb0
  go_wp2_with fail
  refine S.out.mono ?_
  rintro e w2 ⟨v, rfl, ho, _, hb2⟩
  have b2 := b1.trans (hb2.mono b1.size)
  have O2 := hide (ops_on O1.out (Nat.le_refl _) hb2)
  have n2 := hb2.size
  have own := ho (by simp)
  obtain ⟨av, cv, rfl⟩ := own_slice own
  have E := hide (same_spans (.slice av 3 cv) (.slice (some ⟨w2.heap.size, 0, none⟩) 3 3) w1.heap.size 0 [⟨0, -1, 5⟩, ⟨1, 3, 4⟩, ⟨-1, -1, 6⟩] (w2.alloc (.cells #[.int .i64 0, .int .i64 (-1), .int .i64 5, .int .i64 1, .int .i64 3, .int .i64 4, .int .i64 (-1), .int .i64 (-1), .int .i64 6] 51)) (own.alloc _) (World.ownsRow_lit w2 #[.int .i64 0, .int .i64 (-1), .int .i64 5, .int .i64 1, .int .i64 3, .int .i64 4, .int .i64 (-1), .int .i64 (-1), .int .i64 6] 3 (Nat.zero_le _) (by unfold maxLen; omega) rfl) (by simp))
  have b3 := b2.alloc b2.size (.cells #[.int .i64 0, .int .i64 (-1), .int .i64 5, .int .i64 1, .int .i64 3, .int .i64 4, .int .i64 (-1), .int .i64 (-1), .int .i64 6] 51)
  have O3 := hide (ops_on O2.out n2 (bel_one w2 (.cells #[.int .i64 0, .int .i64 (-1), .int .i64 5, .int .i64 1, .int .i64 3, .int .i64 4, .int .i64 (-1), .int .i64 (-1), .int .i64 6] 51)))
  clear S own ho hb2
  go_wp2_with fail
  refine E.out.mono ?_
  rintro e w3 ⟨rfl, q, hq⟩
  have b4 : Below w.heap.size w w3 := by rw [hq]; exact bel_drew b3 q
  have n3 : w1.heap.size ≤ w3.heap.size := by rw [hq]; show w1.heap.size ≤ (w2.alloc _).heap.size; simp; omega
  have O4 : Hid (Ops w1.heap.size w3 a 7 fx) := hide (by rw [hq]; exact ops_drew O3.out q)
  clear hq E b3
  have T0 := hide (target_is a 7 c w1.heap.size fx 2 0 4 false 0 fx_t0 w3 O4.out n3 (by omega))
  go_wp2_with fail
  refine T0.out.mono ?_
  rintro e w4 ⟨rfl, hb4⟩
  have b5 := b4.trans (hb4.mono b4.size)
  have O5 := hide (ops_on O4.out n3 hb4)
  have n4 := Nat.le_trans n3 hb4.size
  have T1 := hide (target_is a 7 c w1.heap.size fx 2 1 5 false 0 fx_t1 w4 O5.out n4 (by omega))
  clear T0 hb4
  go_wp2_with fail
  refine T1.out.mono ?_
  rintro e w5 ⟨rfl, hb5⟩
  have b6 := b5.trans (hb5.mono b5.size)
  have O6 := hide (ops_on O5.out n4 hb5)
  have n5 := Nat.le_trans n4 hb5.size
  have T2 := hide (target_is a 7 c w1.heap.size fx 2 2 6 false 0 fx_t2 w5 O6.out n5 (by omega))
  clear T1 hb5
  go_wp2_with fail
  refine T2.out.mono ?_
  rintro e w6 ⟨rfl, hb6⟩
  have b7 := b6.trans (hb6.mono b6.size)
  have O7 := hide (ops_on O6.out n5 hb6)
  have n6 := Nat.le_trans n5 hb6.size
  have T3 := hide (target_is a 7 c w1.heap.size fx 2 3 0 false 3 fx_t3 w6 O7.out n6 (by omega))
  clear T2 hb6
  go_wp2_with fail
  refine T3.out.mono ?_
  rintro e w7 ⟨rfl, hb7⟩
  have b8 := b7.trans (hb7.mono b7.size)
  clear T3 hb7
  go_wp2_with fail
  go_ret
  exact ⟨rfl, b8⟩
end Go.Proofs.Ytglagdbkcigojaa
