/-
  The program's small functions answer what the plain functions answer: registers, kinds, REX, MR, parts of bytes.
-/
import Derived.Test.YtielpebokbolbaaRows
import Derived.Test.YtielpebokbolbaaCMathB
import Derived.WalkKit
import Derived.WalkSpells
import Derived.Handy
import Derived.PlainAid
import Derived.OwnWalk
namespace Go.Proofs.Ytielpebokbolbaa.Xc
open Go.RowKit

theorem hide {p : Prop} (h : p) : Hid p := h
theorem ret_int {k : IntKind} {a b : Int} (h : a = b) : Ending.returned (.int k a) = .returned (.int k b) := by rw [h]
theorem ret_bool {a b : Bool} (h : a = b) : Ending.returned (.bool a) = .returned (.bool b) := by rw [h]

theorem reg_any (r : Int) (w : World) : Calls Try.prog 64 #[.int .i64 r] w fun e w' => e = .returned (.bool (rg r)) ∧ w' = w := by
  by_cases h0 : 0 ≤ r
  · go_enter Try.func64, Try.ntmps64
    go_wp2
    go_ret
    exact ⟨ret_bool (by simp [rg, h0]), rfl⟩
  · have hd : decide (0 ≤ r) = false := by simpa using h0
    go_enter Try.func64, Try.ntmps64
    go_wp2
    go_ret
    exact ⟨ret_bool (by simp [rg, hd]), rfl⟩
theorem ix_out {i : Int} (h : I64 i) (h0 : i ≠ 0) : rg (wrap64 (i - 1)) = (decide (0 ≤ i) && decide (i ≤ 16)) := by
  unfold I64 at h
  rw [Bool.eq_iff_iff]
  simp only [rg, Bool.and_eq_true, decide_eq_true_eq]
  unfold wrap64; omega
theorem index_any (i : Int) (w : World) (hi : I64 i) : Calls Try.prog 63 #[.int .i64 i] w fun e w' => e = .returned (.bool (ix i)) ∧ w' = w := by
  by_cases h0 : i = 0
  · subst h0
    go_enter Try.func63, Try.ntmps63
    go_wp2
    go_ret
    exact ⟨rfl, rfl⟩
  · have hd : (i == 0) = false := by simpa using h0
    have hr := ix_out hi h0
    cases hk : (decide (0 ≤ i) && decide (i ≤ 16))
    · have hr' := hide (hr.trans hk)
      have hx : ix i = false := by simp only [Bool.and_eq_false_iff, decide_eq_false_iff_not] at hk; simp only [ix]; rcases hk with h | h <;> simp [h]
      clear hr hi
      go_enter Try.func63, Try.ntmps63
      go_wp2_with (go_at_call 64; refine (reg_any _ _).mono ?_; rw [hr'.out]; rintro e w' ⟨rfl, rfl⟩)
      go_ret
      exact ⟨ret_bool hx.symm, rfl⟩
    · have hr' := hide (hr.trans hk)
      have hx : ix i = (wrap64 (i - 1) != 4) := by
        simp only [Bool.and_eq_true, decide_eq_true_eq] at hk
        rw [Bool.eq_iff_iff]
        simp [ix]
        unfold wrap64; omega
      have hx' := hide hx
      clear hr hi hx
      go_enter Try.func63, Try.ntmps63
      go_wp2_with (go_at_call 64; refine (reg_any _ _).mono ?_; rw [hr'.out]; rintro e w' ⟨rfl, rfl⟩)
      go_ret
      exact ⟨ret_bool hx'.out.symm, rfl⟩
theorem sum_any (c : Int) (w : World) : Calls Try.prog 65 #[.int .i64 c] w fun e w' => e = .returned (.bool (smK c)) ∧ w' = w := by
  cases h : smK c
  · simp only [smK, Bool.or_eq_false_iff] at h
    obtain ⟨⟨⟨⟨⟨h0, h1⟩, h4⟩, h5⟩, h6⟩, h7⟩ := h
    go_enter Try.func65, Try.ntmps65
    go_wp2
    go_ret
    exact ⟨rfl, rfl⟩
  · rcases sm_cases h with rfl | rfl | rfl | rfl | rfl | rfl <;> (go_enter Try.func65, Try.ntmps65; go_wp2; go_ret; exact ⟨rfl, rfl⟩)
theorem shiftK_any (c : Int) (w : World) : Calls Try.prog 66 #[.int .i64 c] w fun e w' => e = .returned (.bool (shK c)) ∧ w' = w := by
  cases h : shK c
  · simp only [shK, Bool.or_eq_false_iff] at h
    obtain ⟨⟨⟨⟨h0, h1⟩, h4⟩, h5⟩, h7⟩ := h
    go_enter Try.func66, Try.ntmps66
    go_wp2
    go_ret
    exact ⟨rfl, rfl⟩
  · rcases sh_cases h with rfl | rfl | rfl | rfl | rfl <;> (go_enter Try.func66, Try.ntmps66; go_wp2; go_ret; exact ⟨rfl, rfl⟩)
theorem condK_any (c : Int) (w : World) : Calls Try.prog 67 #[.int .i64 c] w fun e w' => e = .returned (.bool (cnK c)) ∧ w' = w := by
  cases h : cnK c
  · simp only [cnK, Bool.or_eq_false_iff] at h
    obtain ⟨⟨⟨⟨⟨⟨⟨⟨⟨h2, h3⟩, h4⟩, h5⟩, h6⟩, h7⟩, h12⟩, h13⟩, h14⟩, h15⟩ := h
    go_enter Try.func67, Try.ntmps67
    go_wp2
    go_ret
    exact ⟨rfl, rfl⟩
  · rcases cn_cases h with rfl | rfl | rfl | rfl | rfl | rfl | rfl | rfl | rfl | rfl <;> (go_enter Try.func67, Try.ntmps67; go_wp2; go_ret; exact ⟨rfl, rfl⟩)
theorem has_cases {op : Int} (h : h32 op = true) : op = 4 ∨ op = 11 ∨ op = 12 ∨ op = 17 ∨ op = 18 ∨ op = 19 := by simpa [h32, fP, or_assoc] using h
theorem has_any (op : Int) (w : World) : Calls Try.prog 52 #[.int .i64 op] w fun e w' => e = .returned (.bool (h32 op)) ∧ w' = w := by
  cases h : h32 op
  · simp only [h32, fP, Bool.or_eq_false_iff] at h
    obtain ⟨⟨⟨⟨h4, h11, h12⟩, h17⟩, h18⟩, h19⟩ := h
    go_enter Try.func52, Try.ntmps52
    go_wp2
    go_ret
    exact ⟨rfl, rfl⟩
  · rcases has_cases h with rfl | rfl | rfl | rfl | rfl | rfl <;> (go_enter Try.func52, Try.ntmps52; go_wp2; go_ret; exact ⟨rfl, rfl⟩)
theorem rex_any (wd : Bool) (m i l : Int) (w : World) : Calls Try.prog 48 #[.bool wd, .int .i64 m, .int .i64 i, .int .i64 l] w fun e w' => e = .returned (.int .i64 (rxb wd m i l)) ∧ w' = w := by
  cases wd <;> by_cases hm : 7 < m <;> by_cases hi : 7 < i <;> by_cases hl : 7 < l <;>
    (go_enter Try.func48, Try.ntmps48; go_wp2; go_ret; exact ⟨ret_int (by simp [rxb, up]; omega), rfl⟩)
theorem all256 {p : Int → Prop} (h : ∀ k : Fin 256, p ((k.val : Nat) : Int)) (v : Int) (h0 : 0 ≤ v) (h1 : v ≤ 255) : p v := by
  have := h ⟨v.toNat, by omega⟩
  rwa [show (((⟨v.toNat, by omega⟩ : Fin 256).val : Nat) : Int) = v from Int.toNat_of_nonneg h0] at this
theorem upb_1 : ∀ p : Int, 0 ≤ p → p ≤ 255 → (if bits .and .i64 p 1 != 0 then (8 : Int) else 0) = upr p 1 := all256 (by decide +kernel)
theorem upb_2 : ∀ p : Int, 0 ≤ p → p ≤ 255 → (if bits .and .i64 p 2 != 0 then (8 : Int) else 0) = upr p 2 := all256 (by decide +kernel)
theorem upb_4 : ∀ p : Int, 0 ≤ p → p ≤ 255 → (if bits .and .i64 p 4 != 0 then (8 : Int) else 0) = upr p 4 := all256 (by decide +kernel)
theorem upper_1 (p : Int) (w : World) (h0 : 0 ≤ p) (h1 : p ≤ 255) : Calls Try.prog 80 #[.int .i64 p, .int .i64 1] w fun e w' => e = .returned (.int .i64 (upr p 1)) ∧ w' = w := by
  have hu : (if bits .and .i64 p 1 != 0 then (8 : Int) else 0) = upr p 1 := upb_1 p h0 h1
  cases h : (bits .and .i64 p 1 != 0)
  · have hu' : upr p 1 = 0 := by rw [← hu, h]; rfl
    go_enter Try.func80, Try.ntmps80
    go_wp2
    go_ret
    exact ⟨ret_int hu'.symm, rfl⟩
  · have hu' : upr p 1 = 8 := by rw [← hu, h]; rfl
    go_enter Try.func80, Try.ntmps80
    go_wp2
    go_ret
    exact ⟨ret_int hu'.symm, rfl⟩
theorem upper_2 (p : Int) (w : World) (h0 : 0 ≤ p) (h1 : p ≤ 255) : Calls Try.prog 80 #[.int .i64 p, .int .i64 2] w fun e w' => e = .returned (.int .i64 (upr p 2)) ∧ w' = w := by
  have hu : (if bits .and .i64 p 2 != 0 then (8 : Int) else 0) = upr p 2 := upb_2 p h0 h1
  cases h : (bits .and .i64 p 2 != 0)
  · have hu' : upr p 2 = 0 := by rw [← hu, h]; rfl
    go_enter Try.func80, Try.ntmps80
    go_wp2
    go_ret
    exact ⟨ret_int hu'.symm, rfl⟩
  · have hu' : upr p 2 = 8 := by rw [← hu, h]; rfl
    go_enter Try.func80, Try.ntmps80
    go_wp2
    go_ret
    exact ⟨ret_int hu'.symm, rfl⟩
theorem upper_4 (p : Int) (w : World) (h0 : 0 ≤ p) (h1 : p ≤ 255) : Calls Try.prog 80 #[.int .i64 p, .int .i64 4] w fun e w' => e = .returned (.int .i64 (upr p 4)) ∧ w' = w := by
  have hu : (if bits .and .i64 p 4 != 0 then (8 : Int) else 0) = upr p 4 := upb_4 p h0 h1
  cases h : (bits .and .i64 p 4 != 0)
  · have hu' : upr p 4 = 0 := by rw [← hu, h]; rfl
    go_enter Try.func80, Try.ntmps80
    go_wp2
    go_ret
    exact ⟨ret_int hu'.symm, rfl⟩
  · have hu' : upr p 4 = 8 := by rw [← hu, h]; rfl
    go_enter Try.func80, Try.ntmps80
    go_wp2
    go_ret
    exact ⟨ret_int hu'.symm, rfl⟩
theorem field_any (i : Int) (w : World) (h0 : 0 ≤ i) (h1 : i ≤ 255) : Calls Try.prog 82 #[.int .i64 i] w fun e w' => e = .returned (.int .i64 (inf i)) ∧ w' = w := by
  by_cases h : i = 4
  · subst h
    go_enter Try.func82, Try.ntmps82
    go_wp2
    go_ret
    exact ⟨rfl, rfl⟩
  · have hd : (i == 4) = false := by simpa using h
    go_enter Try.func82, Try.ntmps82
    go_wp2
    go_ret
    exact ⟨ret_int (by simp [inf, h]), rfl⟩
theorem mr_bits (mod m l : Int) (h0 : 0 ≤ mod) (h1 : mod ≤ 3) : bits BinOp.or IntKind.i64 (bits BinOp.or IntKind.i64 (mod * 64) (m % 8 * 8)) (l % 8) = mri mod m l := by
  unfold mri
  have ha : 0 ≤ m % 8 ∧ m % 8 < 8 := by omega
  have hb : 0 ≤ l % 8 ∧ l % 8 < 8 := by omega
  generalize m % 8 = a at *
  generalize l % 8 = b at *
  have key : ∀ (p : Fin 4) (q r : Fin 8), bits BinOp.or IntKind.i64 (bits BinOp.or IntKind.i64 (((p.val : Nat) : Int) * 64) (((q.val : Nat) : Int) * 8)) ((r.val : Nat) : Int) = 64 * ((p.val : Nat) : Int) + 8 * ((q.val : Nat) : Int) + ((r.val : Nat) : Int) := by decide +kernel
  have := key ⟨mod.toNat, by omega⟩ ⟨a.toNat, by omega⟩ ⟨b.toNat, by omega⟩
  simp only [Int.toNat_of_nonneg h0, Int.toNat_of_nonneg ha.1, Int.toNat_of_nonneg hb.1] at this
  exact this
theorem mr_any (mod m l : Int) (w : World) (h0 : 0 ≤ mod) (h1 : mod ≤ 3) (hm : 0 ≤ m) (hl : 0 ≤ l) : Calls Try.prog 50 #[.int .i64 mod, .int .i64 m, .int .i64 l] w fun e w' => e = .returned (.int .i64 (mri mod m l)) ∧ w' = w := by
  go_enter Try.func50, Try.ntmps50
  go_wp2
  go_ret
  exact ⟨ret_int (mr_bits mod m l h0 h1), rfl⟩
theorem split_any (b : Int) (w : World) (h0 : 0 ≤ b) (h1 : b ≤ 255) : Calls Try.prog 78 #[.int .u8 b] w fun e w' => e = .returned (.tuple #[.int .i64 (b / 64), .int .i64 (b / 8 % 8), .int .i64 (b % 8)]) ∧ w' = w := by
  go_enter Try.func78, Try.ntmps78
  go_wp2
  go_ret3

  exact ⟨rfl, rfl⟩
end Go.Proofs.Ytielpebokbolbaa.Xc
