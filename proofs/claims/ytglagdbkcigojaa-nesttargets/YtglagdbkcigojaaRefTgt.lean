/-
  Where a branch goes, told by the spans from the last one on. No program.
-/
import Derived.Test.YtglagdbkcigojaaRefDepth
namespace Go.Proofs.Ytglagdbkcigojaa
open Go.RowKit

/-- what is left to be told: of those around, those below number K, and how many are still to be left -/
def rst (f : Nat → Int) (n : Nat) (sp : List Sp) (l : List Nat) (d : Nat) : Int × Bool × Int :=
  match l[d]? with
  | some k => if f (spAt sp k).b.toNat = 3 then ((spAt sp k).b, true, 0) else ((spAt sp k).d, false, 0)
  | none => if d = l.length then ((n : Int) - 1, false, 0) else (0, false, 3)
theorem rst_skip {f : Nat → Int} {n p K : Nat} {sp : List Sp} {d : Nat} (h : holB (spAt sp K) p = false) : rst f n sp (remL sp p (K + 1)) d = rst f n sp (remL sp p K) d := by
  rw [show remL sp p (K + 1) = remL sp p K from if_neg (by rw [h]; simp)]
theorem rst_less {f : Nat → Int} {n p K : Nat} {sp : List Sp} {d : Nat} (h : holB (spAt sp K) p = true) : rst f n sp (remL sp p (K + 1)) (d + 1) = rst f n sp (remL sp p K) d := by
  rw [show remL sp p (K + 1) = K :: remL sp p K from if_pos h]
  unfold rst
  simp
theorem rst_here {f : Nat → Int} {n p K : Nat} {sp : List Sp} (h : holB (spAt sp K) p = true) : rst f n sp (remL sp p (K + 1)) 0 = if f (spAt sp K).b.toNat = 3 then ((spAt sp K).b, true, 0) else ((spAt sp K).d, false, 0) := by
  rw [show remL sp p (K + 1) = K :: remL sp p K from if_pos h]
  unfold rst
  simp
theorem tgt_rst {f : Nat → Int} {n p d : Nat} (he : er f n = 0) (hp : p < n) : tgt f n p d = rst f n (run f n).sp (remL (run f n).sp p ((run f n).sp.length - 1)) d := by
  obtain ⟨hw, hd, _⟩ := er_ok he
  rw [remL_eq hw hd hp]
  rcases Nat.lt_or_ge d (arL f p (run f p)).length with h | h
  · rw [tgt_in he (by omega) (by omega) (by rw [lft_at (by omega) (by omega)]; simpa using h), lft_at (by omega) (by omega)]
    unfold rst
    simp [List.getElem?_eq_getElem h]
  · unfold rst
    rw [List.getElem?_eq_none h]
    rcases Nat.eq_or_lt_of_le h with h' | h'
    · rw [tgt_body he (by omega) (by omega) (by rw [lft_at (by omega) (by omega)]; simp [h'])]
      simp [h']
    · rw [tgt_inv he (.inr (.inr (.inr ⟨by omega, by omega, by rw [lft_at (by omega) (by omega)]; simpa using h'⟩)))]
      simp; omega

end Go.Proofs.Ytglagdbkcigojaa
