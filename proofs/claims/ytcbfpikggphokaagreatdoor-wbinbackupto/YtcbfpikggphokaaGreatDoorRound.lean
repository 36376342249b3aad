/-
  Plain mathematics of instructions as bytes: what is written, with anything behind, is read as it was; what is read is written as it stood; no program.
-/
import Derived.Test.YtcbfpikggphokaaGreatDoorTake
namespace Go.Proofs.YtcbfpikggphokaaGreatDoor
open Go.RowKit

theorem tkS_enc (n : Int) (r : List UInt8) (hn : I64 n) (b : Int) (h1 : 1 ≤ b) (h64 : b ≤ 64) :
    tkS (enc n (szS n) ++ r) b = if n / 2 ^ (b.toNat - 1) = 0 ∨ n / 2 ^ (b.toNat - 1) = -1 then (n, r, 0) else (0, [], 6) := by
  have bd := szS_bd n
  unfold tkS
  rw [if_neg (by omega), vS_enc n r hn, spn_enc n _ r bd.1 bd.2, List.take_left' (enc_length _ _), List.drop_left' (enc_length _ _)]
  simp
theorem tkU_enc (n : Int) (r : List UInt8) (h0 : 0 ≤ n) (h : n ≤ 9223372036854775807) (b : Int) (h1 : 1 ≤ b) (h63 : b ≤ 63) :
    tkU (enc n (szU n) ++ r) b = if n / 2 ^ b.toNat = 0 then (n, r, 0) else (0, [], 6) := by
  have bd := szU_bd n
  have e := vU_enc n r h0 h
  unfold vU at e
  unfold tkU
  rw [if_neg (by omega), e, spn_enc n _ r bd.1 (by omega), List.take_left' (enc_length _ _), List.drop_left' (enc_length _ _)]
  simp [h0]
theorem u32_back (n : Int) (r : List UInt8) (h : 0 ≤ n ∧ n < 4294967296) : tkU (enc n (szU n) ++ r) 32 = (n, r, 0) := by
  rw [tkU_enc n r h.1 (by omega) 32 (by decide) (by decide), if_pos]
  exact Int.ediv_eq_zero_of_lt h.1 h.2
theorem u1_back (n : Int) (r : List UInt8) (h : n = 0 ∨ n = 1) : tkU (enc n (szU n) ++ r) 1 = (n, r, 0) := by
  rw [tkU_enc n r (by omega) (by omega) 1 (by decide) (by decide), if_pos]
  exact Int.ediv_eq_zero_of_lt (by omega) (show n < 2 ^ 1 by omega)
theorem s32_back (n : Int) (r : List UInt8) (h : -2147483648 ≤ n ∧ n < 2147483648) : tkS (enc n (szS n) ++ r) 32 = (n, r, 0) := by
  rw [tkS_enc n r (by unfold I64; omega) 32 (by decide) (by decide), if_pos]
  show n / 2147483648 = 0 ∨ n / 2147483648 = -1
  omega
theorem s64_back (n : Int) (r : List UInt8) (h : I64 n) : tkS (enc n (szS n) ++ r) 64 = (n, r, 0) := by
  unfold I64 at h
  rw [tkS_enc n r h 64 (by decide) (by decide), if_pos]
  show n / 9223372036854775808 = 0 ∨ n / 9223372036854775808 = -1
  omega
theorem tkU_inv {l r : List UInt8} {b a : Int} (hb : 1 ≤ b ∧ b ≤ 63) (h : tkU l b = (a, r, 0)) : 0 ≤ a ∧ a / 2 ^ b.toNat = 0 ∧ enc a (szU a) ++ r = l := by
  unfold tkU at h
  rw [if_neg (by omega)] at h
  split at h
  · rename_i c
    generalize w64 (jl (l.take (spn 10 0 l))) = v at *
    generalize spn 10 0 l = k at *
    simp only [Prod.mk.injEq, and_true] at h
    obtain ⟨rfl, rfl⟩ := h
    refine ⟨c.1, c.2.2, ?_⟩
    rw [c.2.1, List.take_append_drop]
  · simp at h
theorem tkS_inv {l r : List UInt8} {b a : Int} (hb : 1 ≤ b ∧ b ≤ 64) (h : tkS l b = (a, r, 0)) : (a / 2 ^ (b.toNat - 1) = 0 ∨ a / 2 ^ (b.toNat - 1) = -1) ∧ enc a (szS a) ++ r = l := by
  unfold tkS at h
  rw [if_neg (by omega)] at h
  split at h
  · rename_i c
    generalize vS l = v at *
    generalize spn 10 0 l = k at *
    simp only [Prod.mk.injEq, and_true] at h
    obtain ⟨rfl, rfl⟩ := h
    refine ⟨c.2, ?_⟩
    rw [c.1, List.take_append_drop]
  · simp at h
theorem u32_inv {l r : List UInt8} {a : Int} (h : tkU l 32 = (a, r, 0)) : (0 ≤ a ∧ a < 4294967296) ∧ enc a (szU a) ++ r = l := by
  obtain ⟨h0, h1, h2⟩ := tkU_inv (by omega) h
  have h1 : a / 4294967296 = 0 := h1
  exact ⟨by omega, h2⟩
theorem u1_inv {l r : List UInt8} {a : Int} (h : tkU l 1 = (a, r, 0)) : (a = 0 ∨ a = 1) ∧ enc a (szU a) ++ r = l := by
  obtain ⟨h0, h1, h2⟩ := tkU_inv (by omega) h
  have h1 : a / 2 = 0 := h1
  exact ⟨by omega, h2⟩
theorem s32_inv {l r : List UInt8} {a : Int} (h : tkS l 32 = (a, r, 0)) : (-2147483648 ≤ a ∧ a < 2147483648) ∧ enc a (szS a) ++ r = l := by
  obtain ⟨h1, h2⟩ := tkS_inv (by omega) h
  have h1 : a / 2147483648 = 0 ∨ a / 2147483648 = -1 := h1
  exact ⟨by omega, h2⟩
theorem s64_inv {l r : List UInt8} {a : Int} (h : tkS l 64 = (a, r, 0)) : I64 a ∧ enc a (szS a) ++ r = l := by
  obtain ⟨h1, h2⟩ := tkS_inv (by omega) h
  have h1 : a / 9223372036854775808 = 0 ∨ a / 9223372036854775808 = -1 := h1
  exact ⟨by unfold I64; omega, h2⟩
theorem byI_back (d : UInt8) : byI (d.toNat : Int) = d := by
  simp [byI]
theorem tb_back (m : Int) (r : List UInt8) (h : 0 ≤ m ∧ m ≤ 4) : tb (byI (bb m) :: r) = some (m, r) := by
  have e : ((byI (bb m)).toNat : Int) = bb m := byI_val (by unfold bb; split <;> omega) (by unfold bb; split <;> omega)
  simp only [tb, e]
  unfold bb
  by_cases h0 : m = 0
  · subst h0; simp
  · rw [if_neg h0, if_neg (by omega), if_pos (by omega)]
    simp
    omega
theorem tb_inv {l r : List UInt8} {m : Int} (h : tb l = some (m, r)) : (0 ≤ m ∧ m ≤ 4) ∧ byI (bb m) :: r = l := by
  cases l with
  | nil => simp [tb] at h
  | cons d q =>
    simp only [tb] at h
    split at h
    · rename_i c
      cases h
      refine ⟨by omega, ?_⟩
      rw [← byI_back d, c]; rfl
    · split at h
      · rename_i c c2
        cases h
        refine ⟨by omega, ?_⟩
        rw [← byI_back d]
        unfold bb
        rw [byI_back d, if_neg (by omega)]
        rw [show 128 - (128 - (d.toNat : Int)) = d.toNat by omega, byI_back d]
      · cases h

/-- What was written, with anything behind, is read as it was. -/
theorem back_1 (op n m : Int) (r : List UInt8) (hn : I64 n) (h : rt op n m = true) : tkI (iby op n m ++ r) = some ((op, n, m), r) := by
  have hb := kd_byte (rt_kd h)
  unfold iby
  rw [List.cons_append]
  simp only [tkI, byI_val hb.1 hb.2]
  rcases kd_bd op with k | k | k | k | k | k | k
  · exact absurd k (rt_kd h)
  · rw [rt_1 n m k] at h; simp at h
    rw [tl_1 n m k]; simp [tkR, k, h]
  · rw [rt_2 n m k] at h; simp at h
    rw [tl_2 n m k]
    have := tb_back m r h.2
    simp only [List.cons_append, List.nil_append, tkR, k]
    simp [this, h.1]
  · rw [rt_3 n m k] at h; simp at h
    rw [tl_3 n m k]
    have := u32_back n r h.1
    simp [tkR, k, this, ok3, h.2]
  · rw [rt_4 n m k] at h; simp at h
    rw [tl_4 n m k, List.append_assoc]
    have e1 := u1_back m (enc n (szU n) ++ r) h.2
    have e2 := u32_back n r h.1
    simp [tkR, k, e1, e2, ok3]
  · rw [rt_5 n m k] at h; simp at h
    rw [tl_5 n m k]
    have := s32_back n r h.1
    simp [tkR, k, this, ok3, h.2]
  · rw [rt_6 n m k] at h; simp at h
    rw [tl_6 n m k]
    have := s64_back n r hn
    simp [tkR, k, this, ok3, h]
/-- What is read is right, and is written as it stood. -/
theorem back_2 {l r : List UInt8} {op n m : Int} (h : tkI l = some ((op, n, m), r)) : rt op n m = true ∧ iby op n m ++ r = l ∧ I64 n ∧ I64 m ∧ r.length ≤ l.length := by
  have key : rt op n m = true ∧ iby op n m ++ r = l ∧ I64 n ∧ I64 m := by
    cases l with
    | nil => simp [tkI] at h
    | cons d q =>
      have e0 := byI_back d
      simp only [tkI] at h
      generalize (d.toNat : Int) = c at *
      rcases kd_bd c with k | k | k | k | k | k | k
      · simp [tkR, k] at h
      · simp [tkR, k] at h; obtain ⟨⟨rfl, rfl, rfl⟩, rfl⟩ := h
        refine ⟨by rw [rt_1 0 0 k]; rfl, by unfold iby; rw [tl_1 0 0 k, e0]; rfl, by unfold I64; omega, by unfold I64; omega⟩
      · cases e : tb q with
        | none => simp [tkR, k, e] at h
        | some x =>
          obtain ⟨a, b⟩ := x
          simp [tkR, k, e] at h; obtain ⟨⟨rfl, rfl, rfl⟩, rfl⟩ := h
          obtain ⟨e1, e2⟩ := tb_inv e
          refine ⟨by rw [rt_2 0 a k]; simp; omega, by unfold iby; rw [tl_2 0 a k, e0, ← e2]; rfl, by unfold I64; omega, by unfold I64; omega⟩
      · rcases tkU_two q 32 (by omega) with e | ⟨a, b, e⟩
        · simp [tkR, k, e, ok3] at h
        · simp [tkR, k, e, ok3] at h; obtain ⟨⟨rfl, rfl, rfl⟩, rfl⟩ := h
          obtain ⟨e1, e2⟩ := u32_inv e
          refine ⟨by rw [rt_3 a 0 k]; simp; omega, by unfold iby; rw [tl_3 a 0 k, e0, ← e2]; rfl, by unfold I64; omega, by unfold I64; omega⟩
      · rcases tkU_two q 1 (by omega) with e | ⟨a, b, e⟩
        · simp [tkR, k, e, ok3] at h
        · rcases tkU_two b 32 (by omega) with f | ⟨a2, b2, f⟩
          · simp [tkR, k, e, f, ok3] at h
          · simp [tkR, k, e, f, ok3] at h; obtain ⟨⟨rfl, rfl, rfl⟩, rfl⟩ := h
            obtain ⟨e1, e2⟩ := u1_inv e
            obtain ⟨f1, f2⟩ := u32_inv f
            refine ⟨by rw [rt_4 a2 a k]; simp; omega, by unfold iby; rw [tl_4 a2 a k, e0, ← e2, ← f2]; simp, by unfold I64; omega, by unfold I64; omega⟩
      · rcases tkS_two q 32 (by omega) with e | ⟨a, b, e⟩
        · simp [tkR, k, e, ok3] at h
        · simp [tkR, k, e, ok3] at h; obtain ⟨⟨rfl, rfl, rfl⟩, rfl⟩ := h
          obtain ⟨e1, e2⟩ := s32_inv e
          refine ⟨by rw [rt_5 a 0 k]; simp; omega, by unfold iby; rw [tl_5 a 0 k, e0, ← e2]; rfl, by unfold I64; omega, by unfold I64; omega⟩
      · rcases tkS_two q 64 (by omega) with e | ⟨a, b, e⟩
        · simp [tkR, k, e, ok3] at h
        · simp [tkR, k, e, ok3] at h; obtain ⟨⟨rfl, rfl, rfl⟩, rfl⟩ := h
          obtain ⟨e1, e2⟩ := s64_inv e
          refine ⟨by rw [rt_6 a 0 k]; rfl, by unfold iby; rw [tl_6 a 0 k, e0, ← e2]; rfl, e1, by unfold I64; omega⟩
  refine ⟨key.1, key.2.1, key.2.2.1, key.2.2.2, ?_⟩
  rw [← key.2.1]; simp
end Go.Proofs.YtcbfpikggphokaaGreatDoor
