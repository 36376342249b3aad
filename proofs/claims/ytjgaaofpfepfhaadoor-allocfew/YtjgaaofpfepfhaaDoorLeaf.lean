/-
  The program's isCell, cell, Defs, isJump; the document's jump, writes, Defs.
-/
import Derived.Test.YtjgaaofpfepfhaaDoorRows
import Derived.Test.YtjgaaofpfepfhaaDoorFix
import Derived.WalkSpells
import Derived.Handy
import Derived.PlainAid
import Derived.Lib.QuietBelow
namespace Go.Proofs.YtjgaaofpfepfhaaDoor
open Go.RowKit
set_option linter.unusedSimpArgs false
set_option linter.unusedVariables false
theorem hide {p : Prop} (h : p) : Hid p := h
theorem ret_bool {a b : Bool} (h : a = b) : Ending.returned (.bool a) = .returned (.bool b) := by rw [h]
theorem bel_one (w : World) (o : Obj) : Below w.heap.size w (w.alloc o) := (Below.refl _ w).alloc (Nat.le_refl _) _
theorem bel_al {w w' : World} (h : Below w.heap.size w w') (o : Obj) : Below w.heap.size w (w'.alloc o) := h.alloc h.size _
theorem bel_tr {w w' w2 : World} (h : Below w.heap.size w w') (k : Below w'.heap.size w' w2) : Below w.heap.size w w2 := h.trans (k.mono h.size)
theorem gw {motive : World → Prop} {w5 : World} (Pr : World → Prop) (h : Pr w5) (k : ∀ x, Pr x → motive x) : motive w5 := k _ h
def isC (n m : Int) : Bool := decide (0 ≤ n) && decide (n < m)
theorem isc_any (n m : Int) (w : World) : Calls Tryd.prog 34 #[.int .i64 n, .int .i64 m] w fun e w' => e = .returned (.bool (isC n m)) ∧ w' = w := by
  go_enter Tryd.func34, Tryd.ntmps34
  by_cases h1 : 0 ≤ n <;> by_cases h2 : n < m
  all_goals
    go_wp2_with fail
    go_ret
    exact ⟨ret_bool (by simp [isC, *]), rfl⟩
theorem shl_one (n : Int) (h0 : 0 ≤ n) (h1 : n < 60) : wrap64 (2 ^ n.toNat) = ((one n : Nat) : Int) := by
  have h := wrap_lim (one_lim h1)
  rw [i64_wrap] at h
  rw [← h]
  unfold one
  simp
theorem cell_any (n : Int) (w : World) (h0 : 0 ≤ n) (h1 : n < 60) : Calls Tryd.prog 36 #[.int .i64 n] w fun e w' => e = .returned (.int .i64 ((one n : Nat) : Int)) ∧ w' = w := by
  have h := shl_one n h0 h1
  have hn : ¬ n < 0 := by omega
  go_enter Tryd.func36, Tryd.ntmps36
  go_wp2_with fail
  go_ret
  exact ⟨rfl, rfl⟩
theorem defs_any (x : Ir) (w : World) : Calls Tryd.prog 37 #[xv x] w fun e w' => e = .returned (.int .i64 (df x)) ∧ Below w.heap.size w w' := by
  obtain ⟨op, dst, a, b, c, n, m⟩ := x
  unfold xv xc
  go_enter Tryd.func37, Tryd.ntmps37
  by_cases h1 : op = 1
  · subst h1; go_wp2_with fail; go_ret; exact ⟨rfl, bel_one _ _⟩
  by_cases h2 : op = 2
  · subst h2; go_wp2_with fail; go_ret; exact ⟨rfl, bel_one _ _⟩
  by_cases h3 : op = 3
  · subst h3; go_wp2_with fail; go_ret; exact ⟨rfl, bel_one _ _⟩
  by_cases h4 : op = 4
  · subst h4; go_wp2_with fail; go_ret; exact ⟨rfl, bel_one _ _⟩
  by_cases h5 : op = 5
  · subst h5; go_wp2_with fail; go_ret; exact ⟨rfl, bel_one _ _⟩
  by_cases h7 : op = 7
  · subst h7; go_wp2_with fail; go_ret; exact ⟨rfl, bel_one _ _⟩
  by_cases h14 : op = 14
  · subst h14; go_wp2_with fail; go_ret; exact ⟨rfl, bel_one _ _⟩
  have hd : Hid (df ⟨op, dst, a, b, c, n, m⟩ = -1) := by show _ = _; simp [df, *]
  go_wp2_with fail
  go_ret
  exact ⟨by rw [hd.out]; rfl, bel_one _ _⟩
def jmp (x : Ir) : Bool := x.op == 10 || x.op == 11 || x.op == 12
theorem jump_any (x : Ir) (w : World) : Calls Tryd.prog 33 #[xv x] w fun e w' => e = .returned (.bool (jmp x)) ∧ Below w.heap.size w w' := by
  obtain ⟨op, dst, a, b, c, n, m⟩ := x
  unfold xv xc
  go_enter Tryd.func33, Tryd.ntmps33
  by_cases h1 : op = 10
  · subst h1; go_wp2_with fail; go_ret; exact ⟨rfl, bel_one _ _⟩
  by_cases h2 : op = 11
  · subst h2; go_wp2_with fail; go_ret; exact ⟨rfl, bel_one _ _⟩
  by_cases h3 : op = 12
  · subst h3; go_wp2_with fail; go_ret; exact ⟨rfl, bel_one _ _⟩
  go_wp2_with fail
  go_ret
  exact ⟨rfl, bel_one _ _⟩
end Go.Proofs.YtjgaaofpfepfhaaDoor
