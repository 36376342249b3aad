/-
  The program's function Right, and the document's own, answer what the plain function rt answers: whether an instruction's numbers are as its kind says; memory that was there stays as it was.
-/
import Derived.Test.YtamofhkmhjckaabGreatDoorKind
import Derived.BigQuiet
import Derived.Deep.QuietTactic
import Derived.WalkSmall
namespace Go.Proofs.YtamofhkmhjckaabGreatDoor
open Go.RowKit

/-- Whether the numbers are as the kind says. -/
def rt (op n m : Int) : Bool :=
  if kd op = 1 then decide (n = 0) && decide (m = 0) else if kd op = 2 then decide (n = 0) && decide (0 ≤ m ∧ m ≤ 4)
  else if kd op = 3 then decide (0 ≤ n ∧ n < 4294967296) && decide (m = 0) else if kd op = 4 then decide (0 ≤ n ∧ n < 4294967296) && decide (m = 0 ∨ m = 1)
  else if kd op = 5 then decide (-2147483648 ≤ n ∧ n < 2147483648) && decide (m = 0) else if kd op = 6 then decide (m = 0) else false
/-- An instruction, as a value. -/
def ins (op n m : Int) : Value := .agg #[.int .i64 op, .int .i64 n, .int .i64 m]

theorem fits_div (n : Int) (b : Nat) : (n / 2 ^ b == 0) = decide (0 ≤ n ∧ n < 2 ^ b) := by
  have hp := pow_pos2 b
  generalize (2 : Int) ^ b = P at *
  rw [Bool.eq_iff_iff]
  simp only [beq_iff_eq, decide_eq_true_eq]
  constructor
  · intro h
    have h1 := Int.emod_add_mul_ediv n P
    have h2 := Int.emod_nonneg n (Int.ne_of_gt hp)
    have h3 := Int.emod_lt_of_pos n hp
    rw [h] at h1
    simp at h1
    omega
  · intro h
    exact Int.ediv_eq_zero_of_lt h.1 h.2
theorem fits_is (n : Int) (b : Nat) (r : Bool) (w : World) (hb : b ≤ 62) (h : decide (0 ≤ n ∧ n < 2 ^ b) = r) :
    Calls Tryz.prog 102 #[.int .i64 n, .int .i64 (b : Int)] w fun e w' => e = .returned (.bool r) ∧ w' = w := by
  have hd := hide ((fits_div n b).trans h)
  clear h
  go_enter Tryz.func102, Tryz.ntmps102
  go_wp2
  go_ret
  exact ⟨ret_bool hd.out, rfl⟩
theorem fits_1 (n : Int) (r : Bool) (w : World) (h : decide (0 ≤ n ∧ n < 2) = r) :
    Calls Tryz.prog 102 #[.int .i64 n, .int .i64 1] w fun e w' => e = .returned (.bool r) ∧ w' = w := fits_is n 1 r w (by decide) h
theorem fits_32 (n : Int) (r : Bool) (w : World) (h : decide (0 ≤ n ∧ n < 4294967296) = r) :
    Calls Tryz.prog 102 #[.int .i64 n, .int .i64 32] w fun e w' => e = .returned (.bool r) ∧ w' = w := fits_is n 32 r w (by decide) h
theorem w_dec (m : Int) (hm : I64 m) : I64 (wrap64 (m - 1)) ∧ ri (wrap64 (m - 1)) = decide (1 ≤ m ∧ m ≤ 4) := by
  unfold I64 at *
  constructor
  · unfold wrap64; omega
  · rw [Bool.eq_iff_iff, ri_iff]
    simp only [decide_eq_true_eq]
    unfold wrap64; omega
theorem bel_box (w : World) (o : Obj) (k : Nat) : Below w.heap.size w ((w.alloc o).drewN k) := below_drewN ((Below.refl _ _).alloc (Nat.le_refl _) _) k
theorem bel_one (w : World) (o : Obj) : Below w.heap.size w (w.alloc o) := (Below.refl _ _).alloc (Nat.le_refl _) _
theorem i32_far (n : Int) (hn : I64 n) (h : ¬ (-2147483648 ≤ n ∧ n < 2147483648)) : (n != wrap64 (wrap32 n)) = true := by
  unfold I64 at hn
  unfold wrap64 wrap32
  simp
  omega
theorem i32_near (n : Int) (h : -2147483648 ≤ n ∧ n < 2147483648) : (n != wrap64 (wrap32 n)) = false := by
  unfold wrap64 wrap32
  simp
  omega
theorem right_1a (op m : Int) (w : World) (hk : kd op = 1) :
    Calls Tryz.prog 97 #[ins op 0 m] w fun e w' => e = .returned (.bool (m == 0)) ∧ Below w.heap.size w w' := by
  have hk' := hide hk
  clear hk
  unfold ins
  go_enter Tryz.func97, Tryz.ntmps97
  go_wp2_with fail
  go_quiet (fail)
  go_wp2_with fail
  refine (kind_is op 1 _ hk'.out).mono ?_
  rintro e w1 ⟨rfl, rfl⟩
  go_wp2
  go_ret
  exact ⟨rfl, bel_box _ _ _⟩
theorem right_1b (op n m : Int) (w : World) (hk : kd op = 1) (h : ¬ n = 0) :
    Calls Tryz.prog 97 #[ins op n m] w fun e w' => e = .returned (.bool false) ∧ Below w.heap.size w w' := by
  have hk' := hide hk
  clear hk
  have hn : (n != 0) = true := by simpa using h
  clear h
  unfold ins
  go_enter Tryz.func97, Tryz.ntmps97
  go_wp2_with fail
  go_quiet (fail)
  go_wp2_with fail
  refine (kind_is op 1 _ hk'.out).mono ?_
  rintro e w1 ⟨rfl, rfl⟩
  go_wp2
  go_ret
  exact ⟨rfl, bel_box _ _ _⟩
theorem right_2a (op n m : Int) (w : World) (hk : kd op = 2) (h : ¬ n = 0) :
    Calls Tryz.prog 97 #[ins op n m] w fun e w' => e = .returned (.bool false) ∧ Below w.heap.size w w' := by
  have hk' := hide hk
  clear hk
  have hn : (n == 0) = false := by simpa using h
  clear h
  unfold ins
  go_enter Tryz.func97, Tryz.ntmps97
  go_wp2_with fail
  go_quiet (fail)
  go_wp2_with fail
  refine (kind_is op 2 _ hk'.out).mono ?_
  rintro e w1 ⟨rfl, rfl⟩
  go_wp2
  go_ret
  exact ⟨rfl, bel_box _ _ _⟩
theorem right_2b (op  : Int) (w : World) (hk : kd op = 2) :
    Calls Tryz.prog 97 #[ins op 0 0] w fun e w' => e = .returned (.bool true) ∧ Below w.heap.size w w' := by
  have hk' := hide hk
  clear hk
  unfold ins
  go_enter Tryz.func97, Tryz.ntmps97
  go_wp2_with fail
  go_quiet (fail)
  go_wp2_with fail
  refine (kind_is op 2 _ hk'.out).mono ?_
  rintro e w1 ⟨rfl, rfl⟩
  go_wp2
  go_ret
  exact ⟨rfl, bel_box _ _ _⟩
theorem right_2c (op m : Int) (w : World) (hk : kd op = 2) (r : Bool) (h : ¬ m = 0) (hm : I64 m) (hr : decide (1 ≤ m ∧ m ≤ 4) = r) :
    Calls Tryz.prog 97 #[ins op 0 m] w fun e w' => e = .returned (.bool r) ∧ Below w.heap.size w w' := by
  have hk' := hide hk
  clear hk
  have hm0 : (m == 0) = false := by simpa using h
  have H2 := hide hr
  clear hr
  have H := hide (w_dec m hm)
  clear h hm
  unfold ins
  go_enter Tryz.func97, Tryz.ntmps97
  go_wp2_with fail
  go_quiet (fail)
  go_wp2_with fail
  refine (kind_is op 2 _ hk'.out).mono ?_
  rintro e w1 ⟨rfl, rfl⟩
  go_wp2_with fail
  refine (right_is (wrap64 (m - 1)) r _ H.out.1 (H.out.2.trans H2.out)).mono ?_
  rintro e w1 ⟨rfl, rfl⟩
  go_wp2
  go_ret
  exact ⟨rfl, bel_box _ _ _⟩
theorem right_3a (op n m : Int) (w : World) (hk : kd op = 3) (h : ¬ m = 0) :
    Calls Tryz.prog 97 #[ins op n m] w fun e w' => e = .returned (.bool false) ∧ Below w.heap.size w w' := by
  have hk' := hide hk
  clear hk
  have hm : (m == 0) = false := by simpa using h
  clear h
  unfold ins
  go_enter Tryz.func97, Tryz.ntmps97
  go_wp2_with fail
  go_quiet (fail)
  go_wp2_with fail
  refine (kind_is op 3 _ hk'.out).mono ?_
  rintro e w1 ⟨rfl, rfl⟩
  go_wp2
  go_ret
  exact ⟨rfl, bel_box _ _ _⟩
theorem right_3b (op n : Int) (w : World) (hk : kd op = 3) (r : Bool) (hr : decide (0 ≤ n ∧ n < 4294967296) = r) :
    Calls Tryz.prog 97 #[ins op n 0] w fun e w' => e = .returned (.bool r) ∧ Below w.heap.size w w' := by
  have hk' := hide hk
  clear hk
  have H2 := hide hr
  clear hr
  unfold ins
  go_enter Tryz.func97, Tryz.ntmps97
  go_wp2_with fail
  go_quiet (fail)
  go_wp2_with fail
  refine (kind_is op 3 _ hk'.out).mono ?_
  rintro e w1 ⟨rfl, rfl⟩
  go_wp2_with fail
  refine (fits_32 n r _ H2.out).mono ?_
  rintro e w1 ⟨rfl, rfl⟩
  go_wp2
  go_ret
  exact ⟨rfl, bel_box _ _ _⟩
theorem right_4a (op n m : Int) (w : World) (hk : kd op = 4) (h : ¬ (m = 0 ∨ m = 1)) :
    Calls Tryz.prog 97 #[ins op n m] w fun e w' => e = .returned (.bool false) ∧ Below w.heap.size w w' := by
  have hk' := hide hk
  clear hk
  have hm := hide (show decide (0 ≤ m ∧ m < 2) = false by simp; omega)
  clear h
  unfold ins
  go_enter Tryz.func97, Tryz.ntmps97
  go_wp2_with fail
  go_quiet (fail)
  go_wp2_with fail
  refine (kind_is op 4 _ hk'.out).mono ?_
  rintro e w1 ⟨rfl, rfl⟩
  go_wp2_with fail
  refine (fits_1 m false _ hm.out).mono ?_
  rintro e w1 ⟨rfl, rfl⟩
  go_wp2
  go_ret
  exact ⟨rfl, bel_box _ _ _⟩
theorem right_4b (op n m : Int) (w : World) (hk : kd op = 4) (r : Bool) (h : m = 0 ∨ m = 1) (hr : decide (0 ≤ n ∧ n < 4294967296) = r) :
    Calls Tryz.prog 97 #[ins op n m] w fun e w' => e = .returned (.bool r) ∧ Below w.heap.size w w' := by
  have hk' := hide hk
  clear hk
  have H2 := hide hr
  clear hr
  have hm := hide (show decide (0 ≤ m ∧ m < 2) = true by simp; omega)
  clear h
  unfold ins
  go_enter Tryz.func97, Tryz.ntmps97
  go_wp2_with fail
  go_quiet (fail)
  go_wp2_with fail
  refine (kind_is op 4 _ hk'.out).mono ?_
  rintro e w1 ⟨rfl, rfl⟩
  go_wp2_with fail
  refine (fits_1 m true _ hm.out).mono ?_
  rintro e w1 ⟨rfl, rfl⟩
  go_wp2_with fail
  refine (fits_32 n r _ H2.out).mono ?_
  rintro e w1 ⟨rfl, rfl⟩
  go_wp2
  go_ret
  exact ⟨rfl, bel_box _ _ _⟩
theorem right_5a (op n m : Int) (w : World) (hk : kd op = 5) (h : ¬ (-2147483648 ≤ n ∧ n < 2147483648)) (hn : I64 n) :
    Calls Tryz.prog 97 #[ins op n m] w fun e w' => e = .returned (.bool false) ∧ Below w.heap.size w w' := by
  have hk' := hide hk
  clear hk
  have hf := i32_far n hn h
  clear h hn
  unfold ins
  go_enter Tryz.func97, Tryz.ntmps97
  go_wp2_with fail
  go_quiet (fail)
  go_wp2_with fail
  refine (kind_is op 5 _ hk'.out).mono ?_
  rintro e w1 ⟨rfl, rfl⟩
  go_wp2
  go_ret
  exact ⟨rfl, bel_box _ _ _⟩
theorem right_5b (op n m : Int) (w : World) (hk : kd op = 5) (h : -2147483648 ≤ n ∧ n < 2147483648) :
    Calls Tryz.prog 97 #[ins op n m] w fun e w' => e = .returned (.bool (m == 0)) ∧ Below w.heap.size w w' := by
  have hk' := hide hk
  clear hk
  have hf := i32_near n h
  clear h
  unfold ins
  go_enter Tryz.func97, Tryz.ntmps97
  go_wp2_with fail
  go_quiet (fail)
  go_wp2_with fail
  refine (kind_is op 5 _ hk'.out).mono ?_
  rintro e w1 ⟨rfl, rfl⟩
  go_wp2
  go_ret
  exact ⟨rfl, bel_box _ _ _⟩
theorem right_6 (op n m : Int) (w : World) (hk : kd op = 6) :
    Calls Tryz.prog 97 #[ins op n m] w fun e w' => e = .returned (.bool (m == 0)) ∧ Below w.heap.size w w' := by
  have hk' := hide hk
  clear hk
  unfold ins
  go_enter Tryz.func97, Tryz.ntmps97
  go_wp2_with fail
  go_quiet (fail)
  go_wp2_with fail
  refine (kind_is op 6 _ hk'.out).mono ?_
  rintro e w1 ⟨rfl, rfl⟩
  go_wp2
  go_ret
  exact ⟨rfl, bel_box _ _ _⟩
theorem right_0 (op n m : Int) (w : World) (hk : kd op = 0) :
    Calls Tryz.prog 97 #[ins op n m] w fun e w' => e = .returned (.bool false) ∧ Below w.heap.size w w' := by
  have hk' := hide hk
  clear hk
  unfold ins
  go_enter Tryz.func97, Tryz.ntmps97
  go_wp2_with fail
  go_quiet (fail)
  go_wp2_with fail
  refine (kind_is op 0 _ hk'.out).mono ?_
  rintro e w1 ⟨rfl, rfl⟩
  go_wp2
  go_ret
  exact ⟨rfl, bel_box _ _ _⟩
theorem rt_0 {op : Int} (n m : Int) (hk : kd op = 0) : rt op n m = (false) := by
  simp [rt, hk]
theorem rt_1 {op : Int} (n m : Int) (hk : kd op = 1) : rt op n m = (decide (n = 0) && decide (m = 0)) := by
  simp [rt, hk]
theorem rt_2 {op : Int} (n m : Int) (hk : kd op = 2) : rt op n m = (decide (n = 0) && decide (0 ≤ m ∧ m ≤ 4)) := by
  simp [rt, hk]
theorem rt_3 {op : Int} (n m : Int) (hk : kd op = 3) : rt op n m = (decide (0 ≤ n ∧ n < 4294967296) && decide (m = 0)) := by
  simp [rt, hk]
theorem rt_4 {op : Int} (n m : Int) (hk : kd op = 4) : rt op n m = (decide (0 ≤ n ∧ n < 4294967296) && decide (m = 0 ∨ m = 1)) := by
  simp [rt, hk]
theorem rt_5 {op : Int} (n m : Int) (hk : kd op = 5) : rt op n m = (decide (-2147483648 ≤ n ∧ n < 2147483648) && decide (m = 0)) := by
  simp [rt, hk]
theorem rt_6 {op : Int} (n m : Int) (hk : kd op = 6) : rt op n m = (decide (m = 0)) := by
  simp [rt, hk]
theorem right_all (op n m : Int) (w : World) (hn : I64 n) (hm : I64 m) :
    Calls Tryz.prog 97 #[ins op n m] w fun e w' => e = .returned (.bool (rt op n m)) ∧ Below w.heap.size w w' := by
  rcases kd_bd op with k | k | k | k | k | k | k
  · rw [rt_0 n m k]; exact right_0 op n m w k
  · rw [rt_1 n m k]
    by_cases h : n = 0
    · subst h
      have := right_1a op m w k
      rw [show (m == 0) = (decide ((0 : Int) = 0) && decide (m = 0)) by rw [Bool.eq_iff_iff]; simp] at this
      exact this
    · rw [show (decide (n = 0) && decide (m = 0)) = false by simp [h]]
      exact right_1b op n m w k h
  · rw [rt_2 n m k]
    by_cases h : n = 0
    · subst h
      by_cases h0 : m = 0
      · subst h0
        exact right_2b op w k
      · exact right_2c op m w k _ h0 hm (by rw [Bool.eq_iff_iff]; simp; omega)
    · rw [show (decide (n = 0) && decide (0 ≤ m ∧ m ≤ 4)) = false by simp [h]]
      exact right_2a op n m w k h
  · rw [rt_3 n m k]
    by_cases h : m = 0
    · subst h
      exact right_3b op n w k _ (by simp)
    · rw [show (decide (0 ≤ n ∧ n < 4294967296) && decide (m = 0)) = false by simp [h]]
      exact right_3a op n m w k h
  · rw [rt_4 n m k]
    by_cases h : m = 0 ∨ m = 1
    · exact right_4b op n m w k _ h (by simp [h])
    · rw [show (decide (0 ≤ n ∧ n < 4294967296) && decide (m = 0 ∨ m = 1)) = false by simp [h]]
      exact right_4a op n m w k h
  · rw [rt_5 n m k]
    by_cases h : -2147483648 ≤ n ∧ n < 2147483648
    · have := right_5b op n m w k h
      rw [show (m == 0) = (decide (-2147483648 ≤ n ∧ n < 2147483648) && decide (m = 0)) by rw [Bool.eq_iff_iff]; simp [h]] at this
      exact this
    · rw [show (decide (-2147483648 ≤ n ∧ n < 2147483648) && decide (m = 0)) = false by simp [h]]
      exact right_5a op n m w k h hn
  · rw [rt_6 n m k]
    have := right_6 op n m w k
    rw [show (m == 0) = decide (m = 0) by rw [Bool.eq_iff_iff]; simp] at this
    exact this
theorem right_as (op n m : Int) (r : Bool) (w : World) (hn : I64 n) (hm : I64 m) (h : rt op n m = r) :
    Calls Tryz.prog 97 #[ins op n m] w fun e w' => e = .returned (.bool r) ∧ Below w.heap.size w w' := by
  rw [← h]; exact right_all op n m w hn hm
end Go.Proofs.YtamofhkmhjckaabGreatDoor
