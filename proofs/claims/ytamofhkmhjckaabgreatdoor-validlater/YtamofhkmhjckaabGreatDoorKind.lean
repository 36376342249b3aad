/-
  The program's function Kind, and the document's own, answer what the plain function kd answers: what an instruction has behind its first byte; they change nothing.
-/
import Derived.Test.YtamofhkmhjckaabGreatDoorArity
namespace Go.Proofs.YtamofhkmhjckaabGreatDoor
open Go.RowKit

/-- What an instruction has behind its first byte: 0 none, 1 nothing, 2 what a block brings, 3 an index, 4 a memory and an offset, 5 and 6 a constant. -/
def kd (op : Int) : Int :=
  if op = 0 ∨ op = 1 ∨ op = 5 ∨ op = 11 ∨ op = 15 ∨ op = 26 ∨ op = 27 ∨ op = 240 ∨ op = 241 then 1
  else if op = 2 ∨ op = 3 ∨ op = 4 then 2
  else if op = 12 ∨ op = 13 ∨ op = 16 ∨ op = 32 ∨ op = 33 ∨ op = 34 ∨ op = 35 ∨ op = 36 then 3
  else if op = 40 ∨ op = 41 ∨ op = 54 ∨ op = 55 then 4
  else if op = 65 then 5
  else if op = 66 then 6
  else if (ar op).2.2.2 = true then 1 else 0
theorem kd_none {op : Int} (h : ¬ op = 0 ∧ ¬ op = 1 ∧ ¬ op = 5 ∧ ¬ op = 11 ∧ ¬ op = 15 ∧ ¬ op = 26 ∧ ¬ op = 27 ∧ ¬ op = 240 ∧ ¬ op = 241 ∧ ¬ op = 2 ∧ ¬ op = 3 ∧ ¬ op = 4 ∧ ¬ op = 12 ∧ ¬ op = 13 ∧ ¬ op = 16 ∧ ¬ op = 32 ∧ ¬ op = 33 ∧ ¬ op = 34 ∧ ¬ op = 35 ∧ ¬ op = 36 ∧ ¬ op = 40 ∧ ¬ op = 41 ∧ ¬ op = 54 ∧ ¬ op = 55 ∧ ¬ op = 65 ∧ ¬ op = 66) : kd op = if (ar op).2.2.2 = true then 1 else 0 := by
  simp only [kd, h, or_self, if_false]
theorem kind_0 (w : World) : Calls Tryz.prog 101 #[.int .i64 0] w fun e w' => e = .returned (.int .i64 1) ∧ w' = w := by
  go_enter Tryz.func101, Tryz.ntmps101
  go_wp2
  go_ret
  exact ⟨rfl, rfl⟩
theorem kind_1 (w : World) : Calls Tryz.prog 101 #[.int .i64 1] w fun e w' => e = .returned (.int .i64 1) ∧ w' = w := by
  go_enter Tryz.func101, Tryz.ntmps101
  go_wp2
  go_ret
  exact ⟨rfl, rfl⟩
theorem kind_5 (w : World) : Calls Tryz.prog 101 #[.int .i64 5] w fun e w' => e = .returned (.int .i64 1) ∧ w' = w := by
  go_enter Tryz.func101, Tryz.ntmps101
  go_wp2
  go_ret
  exact ⟨rfl, rfl⟩
theorem kind_11 (w : World) : Calls Tryz.prog 101 #[.int .i64 11] w fun e w' => e = .returned (.int .i64 1) ∧ w' = w := by
  go_enter Tryz.func101, Tryz.ntmps101
  go_wp2
  go_ret
  exact ⟨rfl, rfl⟩
theorem kind_15 (w : World) : Calls Tryz.prog 101 #[.int .i64 15] w fun e w' => e = .returned (.int .i64 1) ∧ w' = w := by
  go_enter Tryz.func101, Tryz.ntmps101
  go_wp2
  go_ret
  exact ⟨rfl, rfl⟩
theorem kind_26 (w : World) : Calls Tryz.prog 101 #[.int .i64 26] w fun e w' => e = .returned (.int .i64 1) ∧ w' = w := by
  go_enter Tryz.func101, Tryz.ntmps101
  go_wp2
  go_ret
  exact ⟨rfl, rfl⟩
theorem kind_27 (w : World) : Calls Tryz.prog 101 #[.int .i64 27] w fun e w' => e = .returned (.int .i64 1) ∧ w' = w := by
  go_enter Tryz.func101, Tryz.ntmps101
  go_wp2
  go_ret
  exact ⟨rfl, rfl⟩
theorem kind_240 (w : World) : Calls Tryz.prog 101 #[.int .i64 240] w fun e w' => e = .returned (.int .i64 1) ∧ w' = w := by
  go_enter Tryz.func101, Tryz.ntmps101
  go_wp2
  go_ret
  exact ⟨rfl, rfl⟩
theorem kind_241 (w : World) : Calls Tryz.prog 101 #[.int .i64 241] w fun e w' => e = .returned (.int .i64 1) ∧ w' = w := by
  go_enter Tryz.func101, Tryz.ntmps101
  go_wp2
  go_ret
  exact ⟨rfl, rfl⟩
theorem kind_2 (w : World) : Calls Tryz.prog 101 #[.int .i64 2] w fun e w' => e = .returned (.int .i64 2) ∧ w' = w := by
  go_enter Tryz.func101, Tryz.ntmps101
  go_wp2
  go_ret
  exact ⟨rfl, rfl⟩
theorem kind_3 (w : World) : Calls Tryz.prog 101 #[.int .i64 3] w fun e w' => e = .returned (.int .i64 2) ∧ w' = w := by
  go_enter Tryz.func101, Tryz.ntmps101
  go_wp2
  go_ret
  exact ⟨rfl, rfl⟩
theorem kind_4 (w : World) : Calls Tryz.prog 101 #[.int .i64 4] w fun e w' => e = .returned (.int .i64 2) ∧ w' = w := by
  go_enter Tryz.func101, Tryz.ntmps101
  go_wp2
  go_ret
  exact ⟨rfl, rfl⟩
theorem kind_12 (w : World) : Calls Tryz.prog 101 #[.int .i64 12] w fun e w' => e = .returned (.int .i64 3) ∧ w' = w := by
  go_enter Tryz.func101, Tryz.ntmps101
  go_wp2
  go_ret
  exact ⟨rfl, rfl⟩
theorem kind_13 (w : World) : Calls Tryz.prog 101 #[.int .i64 13] w fun e w' => e = .returned (.int .i64 3) ∧ w' = w := by
  go_enter Tryz.func101, Tryz.ntmps101
  go_wp2
  go_ret
  exact ⟨rfl, rfl⟩
theorem kind_16 (w : World) : Calls Tryz.prog 101 #[.int .i64 16] w fun e w' => e = .returned (.int .i64 3) ∧ w' = w := by
  go_enter Tryz.func101, Tryz.ntmps101
  go_wp2
  go_ret
  exact ⟨rfl, rfl⟩
theorem kind_32 (w : World) : Calls Tryz.prog 101 #[.int .i64 32] w fun e w' => e = .returned (.int .i64 3) ∧ w' = w := by
  go_enter Tryz.func101, Tryz.ntmps101
  go_wp2
  go_ret
  exact ⟨rfl, rfl⟩
theorem kind_33 (w : World) : Calls Tryz.prog 101 #[.int .i64 33] w fun e w' => e = .returned (.int .i64 3) ∧ w' = w := by
  go_enter Tryz.func101, Tryz.ntmps101
  go_wp2
  go_ret
  exact ⟨rfl, rfl⟩
theorem kind_34 (w : World) : Calls Tryz.prog 101 #[.int .i64 34] w fun e w' => e = .returned (.int .i64 3) ∧ w' = w := by
  go_enter Tryz.func101, Tryz.ntmps101
  go_wp2
  go_ret
  exact ⟨rfl, rfl⟩
theorem kind_35 (w : World) : Calls Tryz.prog 101 #[.int .i64 35] w fun e w' => e = .returned (.int .i64 3) ∧ w' = w := by
  go_enter Tryz.func101, Tryz.ntmps101
  go_wp2
  go_ret
  exact ⟨rfl, rfl⟩
theorem kind_36 (w : World) : Calls Tryz.prog 101 #[.int .i64 36] w fun e w' => e = .returned (.int .i64 3) ∧ w' = w := by
  go_enter Tryz.func101, Tryz.ntmps101
  go_wp2
  go_ret
  exact ⟨rfl, rfl⟩
theorem kind_40 (w : World) : Calls Tryz.prog 101 #[.int .i64 40] w fun e w' => e = .returned (.int .i64 4) ∧ w' = w := by
  go_enter Tryz.func101, Tryz.ntmps101
  go_wp2
  go_ret
  exact ⟨rfl, rfl⟩
theorem kind_41 (w : World) : Calls Tryz.prog 101 #[.int .i64 41] w fun e w' => e = .returned (.int .i64 4) ∧ w' = w := by
  go_enter Tryz.func101, Tryz.ntmps101
  go_wp2
  go_ret
  exact ⟨rfl, rfl⟩
theorem kind_54 (w : World) : Calls Tryz.prog 101 #[.int .i64 54] w fun e w' => e = .returned (.int .i64 4) ∧ w' = w := by
  go_enter Tryz.func101, Tryz.ntmps101
  go_wp2
  go_ret
  exact ⟨rfl, rfl⟩
theorem kind_55 (w : World) : Calls Tryz.prog 101 #[.int .i64 55] w fun e w' => e = .returned (.int .i64 4) ∧ w' = w := by
  go_enter Tryz.func101, Tryz.ntmps101
  go_wp2
  go_ret
  exact ⟨rfl, rfl⟩
theorem kind_65 (w : World) : Calls Tryz.prog 101 #[.int .i64 65] w fun e w' => e = .returned (.int .i64 5) ∧ w' = w := by
  go_enter Tryz.func101, Tryz.ntmps101
  go_wp2
  go_ret
  exact ⟨rfl, rfl⟩
theorem kind_66 (w : World) : Calls Tryz.prog 101 #[.int .i64 66] w fun e w' => e = .returned (.int .i64 6) ∧ w' = w := by
  go_enter Tryz.func101, Tryz.ntmps101
  go_wp2
  go_ret
  exact ⟨rfl, rfl⟩
theorem kind_else (op : Int) (w : World) (h : ¬ op = 0 ∧ ¬ op = 1 ∧ ¬ op = 5 ∧ ¬ op = 11 ∧ ¬ op = 15 ∧ ¬ op = 26 ∧ ¬ op = 27 ∧ ¬ op = 240 ∧ ¬ op = 241 ∧ ¬ op = 2 ∧ ¬ op = 3 ∧ ¬ op = 4 ∧ ¬ op = 12 ∧ ¬ op = 13 ∧ ¬ op = 16 ∧ ¬ op = 32 ∧ ¬ op = 33 ∧ ¬ op = 34 ∧ ¬ op = 35 ∧ ¬ op = 36 ∧ ¬ op = 40 ∧ ¬ op = 41 ∧ ¬ op = 54 ∧ ¬ op = 55 ∧ ¬ op = 65 ∧ ¬ op = 66) :
    Calls Tryz.prog 101 #[.int .i64 op] w fun e w' => e = .returned (.int .i64 (kd op)) ∧ w' = w := by
  have hk := hide (kd_none h)
  have n0 : (op == 0) = false := by simp; omega
  have n1 : (op == 1) = false := by simp; omega
  have n5 : (op == 5) = false := by simp; omega
  have n11 : (op == 11) = false := by simp; omega
  have n15 : (op == 15) = false := by simp; omega
  have n26 : (op == 26) = false := by simp; omega
  have n27 : (op == 27) = false := by simp; omega
  have n240 : (op == 240) = false := by simp; omega
  have n241 : (op == 241) = false := by simp; omega
  have n2 : (op == 2) = false := by simp; omega
  have n3 : (op == 3) = false := by simp; omega
  have n4 : (op == 4) = false := by simp; omega
  have n12 : (op == 12) = false := by simp; omega
  have n13 : (op == 13) = false := by simp; omega
  have n16 : (op == 16) = false := by simp; omega
  have n32 : (op == 32) = false := by simp; omega
  have n33 : (op == 33) = false := by simp; omega
  have n34 : (op == 34) = false := by simp; omega
  have n35 : (op == 35) = false := by simp; omega
  have n36 : (op == 36) = false := by simp; omega
  have n40 : (op == 40) = false := by simp; omega
  have n41 : (op == 41) = false := by simp; omega
  have n54 : (op == 54) = false := by simp; omega
  have n55 : (op == 55) = false := by simp; omega
  have n65 : (op == 65) = false := by simp; omega
  have n66 : (op == 66) = false := by simp; omega
  clear h
  have ha := hide (arity_any op)
  generalize ar op = r at hk ha
  obtain ⟨r1, r2, r3, r4⟩ := r
  cases r4
  · have hk' : Hid (kd op = 0) := hide (by rw [hk.out]; simp)
    clear hk
    go_enter Tryz.func101, Tryz.ntmps101
    go_wp2_with fail
    refine (ha.out _).mono ?_
    rintro e w1 ⟨rfl, rfl⟩
    dsimp only [four]
    go_wp2_with fail
    go_ret
    exact ⟨ret_int hk'.out.symm, rfl⟩
  · have hk' : Hid (kd op = 1) := hide (by rw [hk.out]; simp)
    clear hk
    go_enter Tryz.func101, Tryz.ntmps101
    go_wp2_with fail
    refine (ha.out _).mono ?_
    rintro e w1 ⟨rfl, rfl⟩
    dsimp only [four]
    go_wp2_with fail
    go_ret
    exact ⟨ret_int hk'.out.symm, rfl⟩
theorem kind_any (op : Int) (w : World) : Calls Tryz.prog 101 #[.int .i64 op] w fun e w' => e = .returned (.int .i64 (kd op)) ∧ w' = w := by
  by_cases h0 : op = 0
  · subst h0; exact kind_0 w
  by_cases h1 : op = 1
  · subst h1; exact kind_1 w
  by_cases h5 : op = 5
  · subst h5; exact kind_5 w
  by_cases h11 : op = 11
  · subst h11; exact kind_11 w
  by_cases h15 : op = 15
  · subst h15; exact kind_15 w
  by_cases h26 : op = 26
  · subst h26; exact kind_26 w
  by_cases h27 : op = 27
  · subst h27; exact kind_27 w
  by_cases h240 : op = 240
  · subst h240; exact kind_240 w
  by_cases h241 : op = 241
  · subst h241; exact kind_241 w
  by_cases h2 : op = 2
  · subst h2; exact kind_2 w
  by_cases h3 : op = 3
  · subst h3; exact kind_3 w
  by_cases h4 : op = 4
  · subst h4; exact kind_4 w
  by_cases h12 : op = 12
  · subst h12; exact kind_12 w
  by_cases h13 : op = 13
  · subst h13; exact kind_13 w
  by_cases h16 : op = 16
  · subst h16; exact kind_16 w
  by_cases h32 : op = 32
  · subst h32; exact kind_32 w
  by_cases h33 : op = 33
  · subst h33; exact kind_33 w
  by_cases h34 : op = 34
  · subst h34; exact kind_34 w
  by_cases h35 : op = 35
  · subst h35; exact kind_35 w
  by_cases h36 : op = 36
  · subst h36; exact kind_36 w
  by_cases h40 : op = 40
  · subst h40; exact kind_40 w
  by_cases h41 : op = 41
  · subst h41; exact kind_41 w
  by_cases h54 : op = 54
  · subst h54; exact kind_54 w
  by_cases h55 : op = 55
  · subst h55; exact kind_55 w
  by_cases h65 : op = 65
  · subst h65; exact kind_65 w
  by_cases h66 : op = 66
  · subst h66; exact kind_66 w
  exact kind_else op w ⟨h0, h1, h5, h11, h15, h26, h27, h240, h241, h2, h3, h4, h12, h13, h16, h32, h33, h34, h35, h36, h40, h41, h54, h55, h65, h66⟩
theorem kind_is (op k : Int) (w : World) (h : kd op = k) : Calls Tryz.prog 101 #[.int .i64 op] w fun e w' => e = .returned (.int .i64 k) ∧ w' = w := by
  rw [← h]; exact kind_any op w
theorem kd_bd (op : Int) : kd op = 0 ∨ kd op = 1 ∨ kd op = 2 ∨ kd op = 3 ∨ kd op = 4 ∨ kd op = 5 ∨ kd op = 6 := by
  unfold kd
  repeat' split
  all_goals omega
theorem ar_bd {op : Int} (h : (ar op).2.2.2 = true) : 0 ≤ op ∧ op ≤ 255 := by
  unfold ar at h
  repeat' split at h
  all_goals first | omega | simp at h
theorem kd_byte {op : Int} (h : kd op ≠ 0) : 0 ≤ op ∧ op ≤ 255 := by
  unfold kd at h
  repeat' split at h
  all_goals first | omega | (exact ar_bd (by assumption)) | simp at h
end Go.Proofs.YtamofhkmhjckaabGreatDoor
