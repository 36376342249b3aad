/-
  The program's small functions of memory: within, size.
-/
import Derived.Test.YtielpebokbolbaaP
import Derived.Test.YtielpebokbolbaaCRight
import Derived.BigQuiet
namespace Go.Proofs.Ytielpebokbolbaa
open Go.RowKit
open Xc (hide bel_one bel_tr bel_al bel_set)
set_option linter.unusedSimpArgs false
set_option linter.unusedVariables false
theorem str_len (s : ByteArray) : s.data.toList.length = s.size := by simp
theorem within_any (a0 : Int) (s : ByteArray) (cd : Bool) (a n : Int) (w : World) (h0 : I64 a0) (ha : I64 a) (hn : 1 ≤ n ∧ n ≤ 8) (hs : s.size ≤ 140737488351232) :
    Calls Try.prog 53 #[.agg #[.int .i64 a0, .string s, .bool cd], .int .i64 a, .int .i64 n] w fun e w' => e = .returned (.bool (wn ⟨a0, s.data.toList, cd⟩ a n)) ∧ Below w.heap.size w w' := by
  unfold I64 Xc.I64 at h0 ha
  by_cases h1 : a < a0
  · have e : wn ⟨a0, s.data.toList, cd⟩ a n = false := by simp [wn]; omega
    rw [e]
    clear e h0 ha hn hs
    go_enter Try.func53, Try.ntmps53
    go_wp2
    go_ret
    exact ⟨rfl, bel_one _ _⟩
  · by_cases h2 : (s.size : Int) < n
    · have e : wn ⟨a0, s.data.toList, cd⟩ a n = false := by simp [wn]; omega
      rw [e]
      clear e h0 ha hn hs
      go_enter Try.func53, Try.ntmps53
      go_wp2
      go_ret
      exact ⟨rfl, bel_one _ _⟩
    · have e : wn ⟨a0, s.data.toList, cd⟩ a n = decide (a - a0 ≤ (s.size : Int) - n) := by
        have e1 : decide (a0 ≤ a) = true := by simp; omega
        have e2 : decide (n ≤ (s.size : Int)) = true := by simp; omega
        simp only [wn, str_len, e1, e2, Bool.true_and]
      rw [e]
      have k1 : IntKind.u64.wrap (wrap64 (a - a0)) = a - a0 := by
        rw [IntKind.wrap_u64]; unfold wrap64; omega
      have k2 : IntKind.u64.wrap (wrap64 ((s.size : Int) - n)) = (s.size : Int) - n := by
        rw [IntKind.wrap_u64]; unfold wrap64; omega
      clear e h0 ha hn hs
      go_enter Try.func53, Try.ntmps53
      go_wp2
      go_ret
      exact ⟨rfl, bel_one _ _⟩
theorem size_any (op : Int) (wd : Bool) (r b i c n : Int) (w : World) :
    Calls Try.prog 55 #[.agg #[.int .i64 op, .bool wd, .int .i64 r, .int .i64 b, .int .i64 i, .int .i64 c, .int .i64 n]] w fun e w' => e = .returned (.int .i64 (if wd then 8 else 4)) ∧ Below w.heap.size w w' := by
  cases wd
  · go_enter Try.func55, Try.ntmps55
    go_wp2
    go_ret
    exact ⟨rfl, bel_one _ _⟩
  · go_enter Try.func55, Try.ntmps55
    go_wp2
    go_ret
    exact ⟨rfl, bel_one _ _⟩
end Go.Proofs.Ytielpebokbolbaa
