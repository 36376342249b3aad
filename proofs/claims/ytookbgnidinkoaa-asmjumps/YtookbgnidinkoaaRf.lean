/-
  The document's find: the item of a label, or none.
-/
import Derived.Test.YtookbgnidinkoaaM
namespace Go.Proofs.Ytookbgnidinkoaa
open Go.RowKit
open Xc
set_option linter.unusedSimpArgs false
set_option linter.unusedVariables false
/-- What is found in the first items: none: two; below 0: nothing yet. -/
def ff (l : List It) (y : Int) : Nat → Option Int
  | 0 => some (-1)
  | k + 1 => match ff l y k, l[k]? with
    | none, _ => none
    | some p, none => some p
    | some p, some t => if t.lb = y then (if 0 ≤ p then none else some (k : Int)) else some p
theorem ff_none {l : List It} {y : Int} {k : Nat} (h : ff l y k = none) : ∀ n, k ≤ n → ff l y n = none
  | 0, hn => by have : k = 0 := by omega
                subst this; exact h
  | n + 1, hn => by
    rcases Nat.lt_or_ge k (n + 1) with h' | h'
    · have := ff_none h n (by omega)
      simp only [ff, this]
    · have : k = n + 1 := by omega
      rw [← this]; exact h
theorem ff_other {l : List It} {y p : Int} {k : Nat} (h : ff l y k = some p) (hk : k < l.length) (hy : l[k].lb ≠ y) : ff l y (k + 1) = some p := by
  simp only [ff, h, List.getElem?_eq_getElem hk, hy, if_false]
theorem ff_two {l : List It} {y p : Int} {k : Nat} (h : ff l y k = some p) (hk : k < l.length) (hy : l[k].lb = y) (hp : 0 ≤ p) : ff l y (k + 1) = none := by
  simp only [ff, h, List.getElem?_eq_getElem hk, hy, hp, if_true]
theorem ff_new {l : List It} {y p : Int} {k : Nat} (h : ff l y k = some p) (hk : k < l.length) (hy : l[k].lb = y) (hp : ¬ 0 ≤ p) : ff l y (k + 1) = some (k : Int) := by
  simp only [ff, h, List.getElem?_eq_getElem hk, hy, hp, if_true, if_false]
set_option maxHeartbeats 2000000 in
theorem rfind_any (a : Option Addr) (cap : Nat) (l : List It) (y : Int) (w : World) (hl : l.length ≤ 1000) (hX : IS w a l) : Calls Try.prog 21 #[.slice a l.length cap, .int .i64 y] w fun e w' => e = .returned (.int .i64 ((ff l y l.length).getD (-1))) ∧ w' = w := by
  have HX := hide hX
  clear hX
  go_enter Try.func21, Try.ntmps21
  go_wp2
  go_loopw [5, 6] (fun pv iv wr => ∃ (k : Nat) (p : Int), k ≤ l.length ∧ iv = .int .i64 (k : Int) ∧ pv = .int .i64 p ∧ Hid (ff l y k = some p) ∧ wr = w) (fun _ iv _ => l.length - (intOf iv).toNat)
  case atStart => exact ⟨0, -1, by omega, rfl, rfl, hide rfl, rfl⟩
  case round =>
    obtain ⟨k, p, hk, rfl, rfl, hF, rfl⟩ := hrel
    by_cases hlt : k < l.length
    · rcases HX.out with h | ⟨b, off, rfl, hX⟩
      · rw [h] at hlt; simp at hlt
      obtain ⟨hbb, ho, c0, c1, c2, c3, c4, c5, c6, c7, c8⟩ := hX k hlt
      clear c0 c1 c2 c3 c4 c5 c6 c8 ho
      by_cases hy : l[k].lb = y
      · by_cases hp : 0 ≤ p
        · have HN := hide (ff_none (ff_two hF.out hlt hy hp) l.length hlt)
          clear hF
          rw [hy] at c7
          clear hy
          go_wp2_with fail
          go_ret
          exact ⟨by rw [HN.out]; rfl, rfl⟩
        · have HN := hide (ff_new hF.out hlt hy hp)
          clear hF
          rw [hy] at c7
          clear hy
          go_wp2_with fail
          go_roundw
          case rel => exact ⟨k + 1, _, by omega, by go_num, rfl, HN, trivial⟩
          case measure => simp [intOf]; omega
      · have HN := hide (ff_other hF.out hlt hy)
        have hy' : (l[k].lb == y) = false := by simpa using hy
        clear hF
        generalize l[k].lb = z at *
        go_wp2_with fail
        go_roundw
        case rel => exact ⟨k + 1, _, by omega, by go_num, rfl, HN, trivial⟩
        case measure => simp [intOf]; omega
    · have hkm : k = l.length := by omega
      subst hkm
      go_wp2_with fail
      go_ret
      exact ⟨by rw [hF.out]; rfl, rfl⟩
end Go.Proofs.Ytookbgnidinkoaa
