/-
  The statement FlagsCompare: a comparison's conditions tell how the numbers stand, without and with signs, and whether they are the same: for any inputs it returns true; nothing older is changed.
-/
import Derived.Test.YtmcjdlmbidlckaaCmpF
import Derived.Test.YtmcjdlmbidlckaaCmpnpp
import Derived.Test.YtmcjdlmbidlckaaCmpnpm
import Derived.Test.YtmcjdlmbidlckaaCmpnmp
import Derived.Test.YtmcjdlmbidlckaaCmpnmm
import Derived.Test.YtmcjdlmbidlckaaCmpw
namespace Go.Proofs.Ytmcjdlmbidlckaa
open Go.RowKit

theorem sn_pos (X : Int) (h : Wd false X) (h1 : ¬ (2147483648 ≤ X)) : sn false X = X := by
  simp only [Wd, Bool.false_eq_true, if_false] at h; simp only [sn_no, wrap32]; omega
theorem sn_neg (X : Int) (h : Wd false X) (h1 : 2147483648 ≤ X) : sn false X = wrap64 (X - 4294967296) := by
  simp only [Wd, Bool.false_eq_true, if_false] at h; simp only [sn_no, wrap32, wrap64]; omega
theorem compare_walk (wide : Bool) (a b : Int) (w : World) (ha : I64 a) (hb : I64 b) :
    Calls Try.prog 7 #[.bool wide, .int .i64 a, .int .i64 b] w fun e w' => e = .returned (.bool true) ∧ Below w.heap.size w w' := by
  have hx := tr_wd wide a ha
  have hy := tr_wd wide b hb
  have T := fun w => alu_is 7 wide a b _ _ _ _ _ true w ha hb (show aV 7 wide (tr wide a) (tr wide b) = tr wide a from rfl) rfl rfl rfl rfl rfl
  cases wide
  · by_cases h1 : 2147483648 ≤ tr false a <;> by_cases h2 : 2147483648 ≤ tr false b
    · obtain ⟨d0, d1, d2, d3, d4, d5, d6, d7, d8, d9⟩ := c_is false _ _ _ _ _ _ _ _ hx hy (sn_neg _ hx h1) (sn_neg _ hy h2) rfl rfl rfl rfl
      exact cmp_nmm a b _ _ _ _ _ _ _ _ _ _ _ _ _ _ _ _ _ _ w (hide rfl) (hide rfl) h1 (decide_eq_true h1) rfl h2 (decide_eq_true h2) rfl d0 d1 d2 d3 d4 d5 d6 d7 d8 d9 (hide rfl) (hide rfl) (hide rfl) (hide rfl) (hide rfl) (hide rfl) (hide rfl) (hide rfl) (hide rfl) (hide rfl) (hide T)
    · obtain ⟨d0, d1, d2, d3, d4, d5, d6, d7, d8, d9⟩ := c_is false _ _ _ _ _ _ _ _ hx hy (sn_neg _ hx h1) (sn_pos _ hy h2) rfl rfl rfl rfl
      exact cmp_nmp a b _ _ _ _ _ _ _ _ _ _ _ _ _ _ _ _ _ w (hide rfl) (hide rfl) h1 (decide_eq_true h1) rfl h2 (decide_eq_false h2) d0 d1 d2 d3 d4 d5 d6 d7 d8 d9 (hide rfl) (hide rfl) (hide rfl) (hide rfl) (hide rfl) (hide rfl) (hide rfl) (hide rfl) (hide rfl) (hide rfl) (hide T)
    · obtain ⟨d0, d1, d2, d3, d4, d5, d6, d7, d8, d9⟩ := c_is false _ _ _ _ _ _ _ _ hx hy (sn_pos _ hx h1) (sn_neg _ hy h2) rfl rfl rfl rfl
      exact cmp_npm a b _ _ _ _ _ _ _ _ _ _ _ _ _ _ _ _ _ w (hide rfl) (hide rfl) h1 (decide_eq_false h1) h2 (decide_eq_true h2) rfl d0 d1 d2 d3 d4 d5 d6 d7 d8 d9 (hide rfl) (hide rfl) (hide rfl) (hide rfl) (hide rfl) (hide rfl) (hide rfl) (hide rfl) (hide rfl) (hide rfl) (hide T)
    · obtain ⟨d0, d1, d2, d3, d4, d5, d6, d7, d8, d9⟩ := c_is false _ _ _ _ _ _ _ _ hx hy (sn_pos _ hx h1) (sn_pos _ hy h2) rfl rfl rfl rfl
      exact cmp_npp a b _ _ _ _ _ _ _ _ _ _ _ _ _ _ _ _ w (hide rfl) (hide rfl) h1 (decide_eq_false h1) h2 (decide_eq_false h2) d0 d1 d2 d3 d4 d5 d6 d7 d8 d9 (hide rfl) (hide rfl) (hide rfl) (hide rfl) (hide rfl) (hide rfl) (hide rfl) (hide rfl) (hide rfl) (hide rfl) (hide T)
  · obtain ⟨d0, d1, d2, d3, d4, d5, d6, d7, d8, d9⟩ := c_is true _ _ _ _ _ _ _ _ hx hy (sn_yes _) (sn_yes _) rfl rfl rfl rfl
    exact cmp_w a b _ _ _ _ _ _ _ _ _ _ _ _ _ _ _ _ w (hide rfl) (hide rfl) d0 d1 d2 d3 d4 d5 d6 d7 d8 d9 (hide rfl) (hide rfl) (hide rfl) (hide rfl) (hide rfl) (hide rfl) (hide rfl) (hide rfl) (hide rfl) (hide rfl) (hide T)
end Go.Proofs.Ytmcjdlmbidlckaa
