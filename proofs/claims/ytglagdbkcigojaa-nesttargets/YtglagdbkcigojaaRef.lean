/-
  The document's opens and around; its Spans: the spans of the plain run, or the error.
-/
import Derived.Test.YtglagdbkcigojaaLists
namespace Go.Proofs.Ytglagdbkcigojaa
open Go.RowKit

theorem opens_any (x : Int) (w : World) : Calls Try.prog 21 #[.int .i64 x] w fun e w' => e = .returned (.bool (opn x)) ∧ w' = w := by
  by_cases h2 : x = 2
  · subst h2
    go_enter Try.func21, Try.ntmps21
    go_wp2_with fail
    go_ret
    exact ⟨rfl, rfl⟩
  · by_cases h3 : x = 3
    · subst h3
      go_enter Try.func21, Try.ntmps21
      go_wp2_with fail
      go_ret
      exact ⟨rfl, rfl⟩
    · go_enter Try.func21, Try.ntmps21
      go_wp2_with fail
      go_ret
      exact ⟨ret_bool (by simp [opn]), rfl⟩
theorem opens_is (x : Int) (r : Bool) (hr : opn x = r) (w : World) : Calls Try.prog 21 #[.int .i64 x] w fun e w' => e = .returned (.bool r) ∧ w' = w := by
  rw [← hr]; exact opens_any x w
set_option maxHeartbeats 1000000 in
theorem hold_any (x : Sp) (p : Nat) (w : World) : Calls Try.prog 22 #[.agg #[.int .i64 x.b, .int .i64 x.e, .int .i64 x.d], .int .i64 p] w fun e w' => e = .returned (.bool (holB x p)) ∧ Below w.heap.size w w' := by
  obtain ⟨xb, xe, xd⟩ := x
  have hb := bel_one w (.cells #[.int .i64 xb, .int .i64 xe, .int .i64 xd] 51)
  by_cases h1 : xb < p
  · by_cases h2 : (p : Int) < xd
    · by_cases h3 : (p : Int) = xe
      · have R := hide (show holB ⟨xb, xe, xd⟩ p = false by simp [holB, h3])
        have hn : ((p : Int) != xe) = false := by simp [h3]
        clear h3
        go_enter Try.func22, Try.ntmps22
        go_wp2_with fail
        go_ret
        exact ⟨ret_bool R.out.symm, hb⟩
      · have R := hide (show holB ⟨xb, xe, xd⟩ p = true by simp [holB, h1, h2, h3])
        have hn : ((p : Int) != xe) = true := by simp [h3]
        clear h3
        go_enter Try.func22, Try.ntmps22
        go_wp2_with fail
        go_ret
        exact ⟨ret_bool R.out.symm, hb⟩
    · have R := hide (show holB ⟨xb, xe, xd⟩ p = false by simp [holB, h2])
      go_enter Try.func22, Try.ntmps22
      go_wp2_with fail
      go_ret
      exact ⟨ret_bool R.out.symm, hb⟩
  · have R := hide (show holB ⟨xb, xe, xd⟩ p = false by simp [holB, h1])
    go_enter Try.func22, Try.ntmps22
    go_wp2_with fail
    go_ret
    exact ⟨ret_bool R.out.symm, hb⟩
theorem hold_is (x : Sp) (p : Nat) (r : Bool) (hr : holB x p = r) (w : World) : Calls Try.prog 22 #[.agg #[.int .i64 x.b, .int .i64 x.e, .int .i64 x.d], .int .i64 p] w fun e w' => e = .returned (.bool r) ∧ Below w.heap.size w w' := by
  rw [← hr]; exact hold_any x p w
theorem Try.parts51 : (Try.prog.info? 51).map (fun i => (i.zero, i.size, i.bytes)) = some (some (.agg #[.int .i64 0, .int .i64 0, .int .i64 0]), 3, 24) := by kernel_rfl
end Go.Proofs.Ytglagdbkcigojaa
