/-
  The program's Spans: the spans of the plain run, or the error.
-/
import Derived.Test.YtglagdbkcigojaaAroundAll
namespace Go.Proofs.Ytglagdbkcigojaa
open Go.RowKit

set_option maxRecDepth 100000 in
set_option maxHeartbeats 2000000 in
theorem spans_any (a : Option Addr) (n c n₀ : Nat) (f : Nat → Int) (w : World) (hO : Ops n₀ w a n f) (hn₀ : n₀ ≤ w.heap.size) (hn : n ≤ 1000) :
    Calls Try.prog 10 #[.slice a n c] w fun e w' => ∃ v, e = .returned (.tuple #[v, .int .i64 (er f n)]) ∧ (er f n = 0 → w'.ownsRow w.heap.size 45 3 v (run f n).sp.length (flat (run f n).sp)) ∧ (er f n ≠ 0 → v = .slice none 0 0) ∧ Below w.heap.size w w' := by
  have HO := hide hO
  have HN := hide hn₀
  have OP := hide (opened_any a n c w)
  clear hO hn₀
  go_enter Try.func10, Try.ntmps10
  go_wp2_with fail
  refine OP.out.mono ?_
  rintro e w1 ⟨rfl, hI, hb⟩
  have HI := hide hI
  clear hI OP
  unfold cloA cloE
  go_wp2_with fail
  go_loopw [14] (fun i wr => ∃ (k : Nat) (vs vo : Value), k ≤ n ∧ i = .int .i64 k ∧ Hid (Inv w.heap.size a n c (run f k) vs vo wr) ∧ Below w.heap.size w wr) (fun i _ => n - (intOf i).toNat)
  case atStart => exact ⟨0, _, _, by omega, rfl, HI, hb⟩
  case round =>
    obtain ⟨k, vs, vo, hk, rfl, hIk, hbk⟩ := hrel
    by_cases hlt : k < n
    · have AR := hide (around_any w.heap.size n c a f k vs vo wr hIk.out ((HO.out.below hbk HN.out).mono HN.out) hlt hn)
      clear hIk HI
      go_wp2_with fail
      refine AR.out.mono ?_
      rintro e w2 ⟨a2, m2, c2, rfl, _, vs2, vo2, hI2, hF2⟩
      have HI2 := hide hI2
      have hb2 := hbk.trans hF2.bl
      clear hI2 hF2 AR
      go_wp2_with fail
      go_roundw
      case rel => exact ⟨k + 1, vs2, vo2, by omega, by go_num, HI2, hb2⟩
      case measure => simp [intOf]; omega
    · obtain rfl : k = n := by omega
      have EN := hide (end_any w.heap.size a k c (run f k) vs vo wr hIk.out (by have := (run_len f k).2.2; omega))
      clear HI
      go_wp2_with fail
      refine EN.out.mono ?_
      rintro e w2 ⟨v, rfl, h0, h1, rfl⟩
      have H0 := hide h0
      have H1 := hide h1
      clear h0 h1 EN
      go_wp2_with fail
      go_ret2
      refine ⟨v, rfl, fun h => ?_, H1.out, hbk⟩
      rw [H0.out h]
      exact own_mono hIk.out.os (by omega)
end Go.Proofs.Ytglagdbkcigojaa
