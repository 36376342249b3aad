/-
  Plain: the examples' two codes and their places.
-/
import Derived.Test.YtjgaaofpfepfhaaDoorEx4
import Derived.Test.YtjgaaofpfepfhaaDoorPla
namespace Go.Proofs.YtjgaaofpfepfhaaDoor
open Go.RowKit
set_option linter.unusedSimpArgs false
set_option linter.unusedVariables false
def L3 : List Ir := [⟨1, 0, 0, 0, 0, 0, 0⟩, ⟨14, -1, 0, 0, 0, 0, 0⟩, ⟨15, 0, 0, 0, 0, 0, 0⟩]
theorem m0 : nxt L3 0 = [1] := by kernel_rfl
theorem m1 : nxt L3 1 = [2] := by kernel_rfl
theorem m2 : nxt L3 2 = [] := by kernel_rfl
theorem fit3 : fitb ⟨1, 0, 0⟩ L3 = true := by kernel_rfl
theorem sol3 {A F : Nat → Nat} (h : Sol (sy L3) A F) : F 1 = 1 := by
  have f2 : F 2 = un (sy L3) A 2 := h.f 2 (by decide)
  have f1 : F 1 = un (sy L3) A 1 := h.f 1 (by decide)
  have a2 : A 2 = rdS (L3.getD 2 ir0) ||| dn (F 2) (wrS (L3.getD 2 ir0)) := h.a 2 (by decide)
  have e2 : un (sy L3) A 2 = 0 := by show ors (((nxt L3 2).map Int.toNat).map A) = 0; rw [m2]; rfl
  have e1 : un (sy L3) A 1 = A 2 := by show ors (((nxt L3 1).map Int.toNat).map A) = A 2; rw [m1]; show 0 ||| A 2 = _; simp
  have g2 : F 2 = 0 := f2.trans e2
  have h2 : A 2 = 1 := by rw [a2, g2]; kernel_rfl
  exact (f1.trans e1).trans h2
theorem cr3 {F : Nat → Nat} (h : F 1 = 1) : crT L3 F 3 = 1 := by
  have e0 : crT L3 F 1 = 0 := by kernel_rfl
  have e1 : crT L3 F 2 = crT L3 F 1 ||| dn (F 1) 0 := by kernel_rfl
  have e2 : crT L3 F 3 = crT L3 F 2 := by kernel_rfl
  rw [e2, e1, e0, h]
  decide
theorem cr4 (F : Nat → Nat) : crT L4 F 4 = 0 := rfl
theorem nm3 : nmT L3 0 3 = 1 := by kernel_rfl
theorem nm4 : nmT L4 0 4 = 3 := by
  rw [nmT_is, nmT_is, nmT_is, nmT_is, r0, r1, r2, r3, w2_]
  kernel_rfl
theorem tkn_zero (pl : Nat → Int) (s : Nat) (q : Int) : tkn pl s 0 q = false := rfl
theorem fre_zero {pl : Nat → Int} {s : Nat} {a p : Int} (h : Fre pl s 0 a p) : p = a := by
  obtain ⟨h1, _, h3⟩ := h
  by_cases e : a < p
  · have := h3 a (by omega) e
    rw [tkn_zero] at this; cases this
  · omega
theorem pl3 {S : Nat → Nat} {pl : Nat → Int} (h : Plc 1 1 S 1 pl) : pl 0 = 6 := by
  have := fre_zero ((h 0 (by omega)).2 (by decide))
  rw [this]
  decide
theorem pl4 {S : Nat → Nat} {pl : Nat → Int} (h : Plc 3 0 S 2 pl) (hs : (S 1).testBit 0 = true) : pl 0 = 0 ∧ pl 1 = 1 := by
  have z : pl 0 = 0 := by
    have := fre_zero ((h 0 (by omega)).2 (by decide))
    rw [this]
    decide
  refine ⟨z, ?_⟩
  obtain ⟨h1, h2, h3⟩ := (h 1 (by omega)).2 (by decide)
  have e0 : fsz 0 1 = 0 := by decide
  rw [e0] at h1 h3
  have t : ∀ q, tkn pl (S 1) 1 q = decide (q = 0) := fun q => by
    unfold tkn
    rw [show List.range 1 = [0] from rfl]
    simp [z, hs, eq_comm]
  have hp : ¬ pl 1 = 0 := fun e => by rw [e, t] at h2; simp at h2
  by_cases e : 1 < pl 1
  · have := h3 1 (by omega) e
    rw [t] at this; simp at this
  · omega
theorem st4 {A F : Nat → Nat} (h : Sol (sy L4) A F) : mu (stB L4 A F 0) 2 1 0 = true := by
  rw [mu_sym (by omega) (by omega), st_cls (d := ⟨2, 0, 0⟩) rfl (by omega) (by omega)]
  have := cls4 h
  simp only [Int.ofNat_zero] at *
  show (decide (0 ≠ 1) && cls ⟨2, 0, 0⟩ L4 A F 0 1) = true
  rw [this]
  rfl
end Go.Proofs.YtjgaaofpfepfhaaDoor
