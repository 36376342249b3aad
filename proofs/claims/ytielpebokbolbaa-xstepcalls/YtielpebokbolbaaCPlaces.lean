/-
  The program's rightPlaces and Right answer what the plain functions rpl and rt answer; only boxes of their own are made.
-/
import Derived.Test.YtielpebokbolbaaCRight
namespace Go.Proofs.Ytielpebokbolbaa.Xc
open Go.RowKit
set_option linter.unusedSimpArgs false
set_option linter.unusedVariables false

def PlIs (op : Int) (wd : Bool) (r b i c n : Int) (w : World) : Prop :=
  Calls Try.prog 43 #[xv ⟨op, wd, r, b, i, c, n⟩] w fun e w' => e = .returned (.bool (rpl op r b i)) ∧ Below w.heap.size w w'
set_option maxHeartbeats 4000000 in
theorem places_p (op : Int) (wd : Bool) (r b i c n : Int) (w : World) (hi : I64 i) (h : op = 11 ∨ op = 12) : PlIs op wd r b i c n w := by
  unfold PlIs xv
  have HI := hide hi
  clear hi
  cases hx : ix i
  · have hv : rpl op r b i = false := by rcases h with rfl | rfl <;> simp [rpl, fP, hx]
    rw [hv]
    have X := hide hx
    clear hv hx
    rcases h with rfl | rfl <;>
      (go_enter Try.func43, Try.ntmps43
       go_wp2_with (go_at_call 63; refine (index_any _ _ HI.out).mono ?_; rw [X.out]; rintro e w' ⟨rfl, rfl⟩)
       go_ret; exact ⟨rfl, bel_one _ _⟩)
  · have X := hide hx
    cases hr : rg r
    · have hv : rpl op r b i = false := by rcases h with rfl | rfl <;> simp [rpl, fP, hx, hr]
      rw [hv]
      have R := hide hr
      clear hv hx hr
      rcases h with rfl | rfl <;>
        (go_enter Try.func43, Try.ntmps43
         go_wp2_with (first | (go_at_call 63; refine (index_any _ _ HI.out).mono ?_; rw [X.out]; rintro e w' ⟨rfl, rfl⟩) | (go_at_call 64; refine (reg_any _ _).mono ?_; rw [R.out]; rintro e w' ⟨rfl, rfl⟩))
         go_ret; exact ⟨rfl, bel_one _ _⟩)
    · have hv : rpl op r b i = rg b := by rcases h with rfl | rfl <;> simp [rpl, fP, hx, hr]
      rw [hv]
      have R := hide hr
      cases hb : rg b <;>
      (have B := hide hb
       clear hv hx hr hb
       rcases h with rfl | rfl <;>
         (go_enter Try.func43, Try.ntmps43
          go_wp2_with (first | (go_at_call 63; refine (index_any _ _ HI.out).mono ?_; rw [X.out]; rintro e w' ⟨rfl, rfl⟩) | (go_at_call 64; refine (reg_any _ _).mono ?_; (first | rw [R.out] | rw [B.out]); rintro e w' ⟨rfl, rfl⟩))
          go_ret; exact ⟨rfl, bel_one _ _⟩))
set_option maxHeartbeats 4000000 in
theorem places_r (op : Int) (wd : Bool) (r b i c n : Int) (w : World) (h : op = 1 ∨ op = 3 ∨ op = 5 ∨ op = 6 ∨ op = 15 ∨ op = 16) : PlIs op wd r b i c n w := by
  unfold PlIs xv
  cases hr : rg r
  · have hv : rpl op r b i = false := by rcases h with rfl | rfl | rfl | rfl | rfl | rfl <;> simp [rpl, fP, fRR, hr]
    rw [hv]
    have R := hide hr
    clear hv hr
    rcases h with rfl | rfl | rfl | rfl | rfl | rfl <;>
      (go_enter Try.func43, Try.ntmps43
       go_wp2_with (go_at_call 64; refine (reg_any _ _).mono ?_; rw [R.out]; rintro e w' ⟨rfl, rfl⟩)
       go_ret; exact ⟨rfl, bel_one _ _⟩)
  · have R := hide hr
    cases hb : rg b
    · have hv : rpl op r b i = false := by rcases h with rfl | rfl | rfl | rfl | rfl | rfl <;> simp [rpl, fP, fRR, hr, hb]
      rw [hv]
      have B := hide hb
      clear hv hr hb
      rcases h with rfl | rfl | rfl | rfl | rfl | rfl <;>
        (go_enter Try.func43, Try.ntmps43
         go_wp2_with (go_at_call 64; refine (reg_any _ _).mono ?_; (first | rw [R.out] | rw [B.out]); rintro e w' ⟨rfl, rfl⟩)
         go_ret; exact ⟨rfl, bel_one _ _⟩)
    · have hv : rpl op r b i = (i == 0) := by rcases h with rfl | rfl | rfl | rfl | rfl | rfl <;> simp [rpl, fP, fRR, hr, hb]
      rw [hv]
      have B := hide hb
      clear hv hr hb
      rcases h with rfl | rfl | rfl | rfl | rfl | rfl <;>
        (go_enter Try.func43, Try.ntmps43
         go_wp2_with (go_at_call 64; refine (reg_any _ _).mono ?_; (first | rw [R.out] | rw [B.out]); rintro e w' ⟨rfl, rfl⟩)
         go_ret; exact ⟨rfl, bel_one _ _⟩)
set_option maxHeartbeats 4000000 in
theorem places_b (op : Int) (wd : Bool) (r b i c n : Int) (w : World) (h : op = 4 ∨ op = 7 ∨ op = 8 ∨ op = 9) : PlIs op wd r b i c n w := by
  unfold PlIs xv
  cases hb : rg b
  · have hv : rpl op r b i = false := by rcases h with rfl | rfl | rfl | rfl <;> simp [rpl, fP, fRR, fB, hb]
    rw [hv]
    have B := hide hb
    clear hv hb
    rcases h with rfl | rfl | rfl | rfl <;>
      (go_enter Try.func43, Try.ntmps43
       go_wp2_with (go_at_call 64; refine (reg_any _ _).mono ?_; rw [B.out]; rintro e w' ⟨rfl, rfl⟩)
       go_ret; exact ⟨rfl, bel_one _ _⟩)
  · have hv : rpl op r b i = (r == 0 && i == 0) := by rcases h with rfl | rfl | rfl | rfl <;> simp [rpl, fP, fRR, fB, hb]
    rw [hv]
    have B := hide hb
    clear hv hb
    cases h0 : (r == 0) <;>
    rcases h with rfl | rfl | rfl | rfl <;>
      (go_enter Try.func43, Try.ntmps43
       go_wp2_with (go_at_call 64; refine (reg_any _ _).mono ?_; rw [B.out]; rintro e w' ⟨rfl, rfl⟩)
       go_ret; exact ⟨rfl, bel_one _ _⟩)
set_option maxHeartbeats 4000000 in
theorem places_2 (wd : Bool) (r b i c n : Int) (w : World) : PlIs 2 wd r b i c n w := by
  unfold PlIs xv
  cases hr : rg r
  · have hv : rpl 2 r b i = false := by simp [rpl, fP, fRR, fB, hr]
    rw [hv]
    have R := hide hr
    clear hv hr
    go_enter Try.func43, Try.ntmps43
    go_wp2_with (go_at_call 64; refine (reg_any _ _).mono ?_; rw [R.out]; rintro e w' ⟨rfl, rfl⟩)
    go_ret; exact ⟨rfl, bel_one _ _⟩
  · have hv : rpl 2 r b i = (b == 0 && i == 0) := by simp [rpl, fP, fRR, fB, hr]
    rw [hv]
    have R := hide hr
    clear hv hr
    cases h0 : (b == 0) <;>
      (go_enter Try.func43, Try.ntmps43
       go_wp2_with (go_at_call 64; refine (reg_any _ _).mono ?_; rw [R.out]; rintro e w' ⟨rfl, rfl⟩)
       go_ret; exact ⟨rfl, bel_one _ _⟩)
set_option maxHeartbeats 4000000 in
theorem places_0 (op : Int) (wd : Bool) (r b i c n : Int) (w : World) (h : op = 10 ∨ op = 13 ∨ op = 14 ∨ op = 17 ∨ op = 18 ∨ op = 19 ∨ op = 20 ∨ op = 21 ∨ op = 22 ∨ op = 23) : PlIs op wd r b i c n w := by
  unfold PlIs xv
  have hv : rpl op r b i = (r == 0 && (b == 0 && i == 0)) := by rcases h with rfl | rfl | rfl | rfl | rfl | rfl | rfl | rfl | rfl | rfl <;> simp [rpl, fP, fRR, fB]
  rw [hv]
  clear hv
  cases h0 : (r == 0)
  · rcases h with rfl | rfl | rfl | rfl | rfl | rfl | rfl | rfl | rfl | rfl <;>
      (go_enter Try.func43, Try.ntmps43; go_wp2; go_ret; exact ⟨rfl, bel_one _ _⟩)
  · cases h1 : (b == 0) <;>
    rcases h with rfl | rfl | rfl | rfl | rfl | rfl | rfl | rfl | rfl | rfl <;>
      (go_enter Try.func43, Try.ntmps43; go_wp2; go_ret; exact ⟨rfl, bel_one _ _⟩)
theorem places_any (op : Int) (wd : Bool) (r b i c n : Int) (w : World) (h1 : 1 ≤ op) (h2 : op ≤ 23) (hi : I64 i) : PlIs op wd r b i c n w := by
  by_cases hp : op = 11 ∨ op = 12
  · exact places_p op wd r b i c n w hi hp
  by_cases hr : op = 1 ∨ op = 3 ∨ op = 5 ∨ op = 6 ∨ op = 15 ∨ op = 16
  · exact places_r op wd r b i c n w hr
  by_cases hb : op = 4 ∨ op = 7 ∨ op = 8 ∨ op = 9
  · exact places_b op wd r b i c n w hb
  by_cases h : op = 2
  · subst h; exact places_2 wd r b i c n w
  · exact places_0 op wd r b i c n w (by omega)
end Go.Proofs.Ytielpebokbolbaa.Xc
