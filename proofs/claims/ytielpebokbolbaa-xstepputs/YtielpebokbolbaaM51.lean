/-
  XstepPuts: what was put is read as it was; beside it all stays.
-/
import Derived.Test.YtielpebokbolbaaM49
import Derived.Test.YtielpebokbolbaaM50
namespace Go.Proofs.Ytielpebokbolbaa
open Go.RowKit
open Xc (hide bel_one bel_tr bel_al bel_set Xi xv xc bys jn)
set_option linter.unusedSimpArgs false
set_option linter.unusedVariables false
theorem puts_4 {m : Mc} {v : Value} {w : World} (h : MV m v w) (a x other : Int) (ia : I64 a) (ix : I64 x) (io : I64 other) : Calls Try.prog 6 #[v, .int .i64 a, .bool false, .int .i64 x, .int .i64 other] w fun e w' => e = .returned (.bool true) ∧ Below w.heap.size w w' := by
  cases hf : fnN m.g a 4 with
  | none => exact puts_no4 h a x other ia ix io hf
  | some i =>
    obtain ⟨hn, hi, _⟩ := fnN_some hf
    have hp := ptM_some (v := x) hf hi
    have hr := rdM_some hf hi
    have hr2 : rdM (m.g.set i (ptR m.g[i] a 4 x)) a 4 = some (x % 4294967296) := by rw [put_read hf hi]; exact congrArg some (jn_bys4 x)
    have hb := put_back (v := x) hf hi
    have hd := put_there (v := x) hf hi other 4
    have iw : I64 (rdV m.g[i] a 4) := Xc.jn_I64 _
    have bd := ia
    have bo := io
    unfold I64 Xc.I64 at bd bo
    by_cases h1 : a < other
    · by_cases h2 : 4 ≤ wrap64 (other - a)
      · by_cases hl : 1 < m.g.length
        · exact puts_4_1a h a x other ia ix io iw hp hr hr2 hb hd h1 h2 hl
        · have hac := congrArg (·.getD 0) (put_apart (v := x) hf hi (by omega) other (Or.inl ⟨h1, by unfold wrap64 at h2; omega⟩))
          exact puts_4_1b h a x other ia ix io iw hp hr hr2 hb hd h1 h2 hac
      · exact puts_4_2 h a x other ia ix io iw hp hr hr2 hb hd h1 h2 (by omega)
    · by_cases h3 : other < a
      · by_cases h4 : 4 ≤ wrap64 (a - other)
        · by_cases hl : 1 < m.g.length
          · exact puts_4_3a h a x other ia ix io iw hp hr hr2 hb hd h1 h3 h4 hl
          · have hac := congrArg (·.getD 0) (put_apart (v := x) hf hi (by omega) other (Or.inr ⟨h3, by unfold wrap64 at h4; omega⟩))
            exact puts_4_3b h a x other ia ix io iw hp hr hr2 hb hd h1 h3 h4 hac
        · exact puts_4_4 h a x other ia ix io iw hp hr hr2 hb hd h1 h3 h4
      · exact puts_4_5 h a x other ia ix io iw hp hr hr2 hb hd h1 h3
theorem puts_8 {m : Mc} {v : Value} {w : World} (h : MV m v w) (a x other : Int) (ia : I64 a) (ix : I64 x) (io : I64 other) : Calls Try.prog 6 #[v, .int .i64 a, .bool true, .int .i64 x, .int .i64 other] w fun e w' => e = .returned (.bool true) ∧ Below w.heap.size w w' := by
  cases hf : fnN m.g a 8 with
  | none => exact puts_no8 h a x other ia ix io hf
  | some i =>
    obtain ⟨hn, hi, _⟩ := fnN_some hf
    have hp := ptM_some (v := x) hf hi
    have hr := rdM_some hf hi
    have hr2 : rdM (m.g.set i (ptR m.g[i] a 8 x)) a 8 = some (x) := by rw [put_read hf hi]; exact congrArg some (jn_bys8 ix)
    have hb := put_back (v := x) hf hi
    have hd := put_there (v := x) hf hi other 4
    have iw : I64 (rdV m.g[i] a 8) := Xc.jn_I64 _
    have bd := ia
    have bo := io
    unfold I64 Xc.I64 at bd bo
    by_cases h1 : a < other
    · by_cases h2 : 8 ≤ wrap64 (other - a)
      · by_cases hl : 1 < m.g.length
        · exact puts_8_1a h a x other ia ix io iw hp hr hr2 hb hd h1 h2 hl
        · have hac := congrArg (·.getD 0) (put_apart (v := x) hf hi (by omega) other (Or.inl ⟨h1, by unfold wrap64 at h2; omega⟩))
          exact puts_8_1b h a x other ia ix io iw hp hr hr2 hb hd h1 h2 hac
      · exact puts_8_2 h a x other ia ix io iw hp hr hr2 hb hd h1 h2 (by omega)
    · by_cases h3 : other < a
      · by_cases h4 : 4 ≤ wrap64 (a - other)
        · by_cases hl : 1 < m.g.length
          · exact puts_8_3a h a x other ia ix io iw hp hr hr2 hb hd h1 h3 h4 hl
          · have hac := congrArg (·.getD 0) (put_apart (v := x) hf hi (by omega) other (Or.inr ⟨h3, by unfold wrap64 at h4; omega⟩))
            exact puts_8_3b h a x other ia ix io iw hp hr hr2 hb hd h1 h3 h4 hac
        · exact puts_8_4 h a x other ia ix io iw hp hr hr2 hb hd h1 h3 h4
      · exact puts_8_5 h a x other ia ix io iw hp hr hr2 hb hd h1 h3
theorem puts_walk {m : Mc} {v : Value} {w : World} (h : MV m v w) (a : Int) (wd : Bool) (x other : Int) (ia : I64 a) (ix : I64 x) (io : I64 other) : Calls Try.prog 6 #[v, .int .i64 a, .bool wd, .int .i64 x, .int .i64 other] w fun e w' => e = .returned (.bool true) ∧ Below w.heap.size w w' := by
  cases wd
  · exact puts_4 h a x other ia ix io
  · exact puts_8 h a x other ia ix io
end Go.Proofs.Ytielpebokbolbaa
