/-
  The statement NestOthers: its helper part, the list with other instructions in it, two spans that are the same.
-/
import Derived.Test.YtglagdbkcigojaaCopy
import Derived.Laws.StructEq
import Derived.Laws.AppendOwnNone
namespace Go.Proofs.Ytglagdbkcigojaa
open Go.RowKit

theorem row_cells3 {w : World} {A : Nat} {x y z : Value} {t : TypeId} (h : w.heap[A]? = some (.cells #[x, y, z] t (0, 0))) : w.cell? ⟨A, 0, none⟩ = some x ∧ w.cell? ⟨A, 1, none⟩ = some y ∧ w.cell? ⟨A, 2, none⟩ = some z := by
  refine ⟨?_, ?_, ?_⟩
  · rw [cell_of_row w A 0 _ t (0, 0) h]; rfl
  · rw [cell_of_row w A 1 _ t (0, 0) h]; rfl
  · rw [cell_of_row w A 2 _ t (0, 0) h]; rfl
theorem row_free {w : World} {A : Nat} {cs : Array Value} {t : TypeId} (h : w.heap[A]? = some (.cells cs t (0, 0))) (j : Nat) : w.frozen? ⟨A, j, none⟩ = false := frozen_of_row w A j cs t h
theorem row_set0 {w : World} {A : Nat} {x y z u : Value} {t : TypeId} (h : w.heap[A]? = some (.cells #[x, y, z] t (0, 0))) : (w.setCell ⟨A, 0, none⟩ u).heap[A]? = some (.cells #[u, y, z] t (0, 0)) := heap_setCell_same w A 0 _ t u h
set_option maxHeartbeats 1000000 in
theorem part_any (x : Int) (w : World) : Calls Try.prog 18 #[.int .i64 x] w fun e w' => e = .returned (.bool (prt x)) ∧ w' = w := by
  by_cases h2 : x = 2
  · subst h2; go_enter Try.func18, Try.ntmps18; go_wp2_with fail; go_ret; exact ⟨rfl, rfl⟩
  · by_cases h3 : x = 3
    · subst h3; go_enter Try.func18, Try.ntmps18; go_wp2_with fail; go_ret; exact ⟨rfl, rfl⟩
    · by_cases h4 : x = 4
      · subst h4; go_enter Try.func18, Try.ntmps18; go_wp2_with fail; go_ret; exact ⟨rfl, rfl⟩
      · by_cases h5 : x = 5
        · subst h5; go_enter Try.func18, Try.ntmps18; go_wp2_with fail; go_ret; exact ⟨rfl, rfl⟩
        · go_enter Try.func18, Try.ntmps18
          go_wp2_with fail
          go_ret
          exact ⟨ret_bool (by simp [prt]), rfl⟩
theorem part_is (x : Int) (r : Bool) (hr : prt x = r) (w : World) : Calls Try.prog 18 #[.int .i64 x] w fun e w' => e = .returned (.bool r) ∧ w' = w := by
  rw [← hr]; exact part_any x w
/-- with something else in the place of what plays no part, as far as place k -/
def mx (fo g : Nat → Int) (x : Int) (k : Nat) : Nat → Int := fun j => if j < k ∧ prt (fo j) = false then x else g j
theorem mx_0 (fo g : Nat → Int) (x : Int) : mx fo g x 0 = g := by funext j; unfold mx; rw [if_neg (by omega)]
theorem mx_at (fo g : Nat → Int) (x : Int) (k : Nat) : mx fo g x k k = g k := if_neg (by omega)
theorem mx_keep {fo g : Nat → Int} {x : Int} {k : Nat} (h : prt (fo k) = true) : mx fo g x (k + 1) = mx fo g x k := by
  funext j
  unfold mx
  by_cases hj : j < k ∧ prt (fo j) = false
  · rw [if_pos hj, if_pos ⟨by omega, hj.2⟩]
  · rw [if_neg hj, if_neg]
    rintro ⟨h1, h2⟩
    rcases Nat.lt_or_ge j k with h' | h'
    · exact hj ⟨h', h2⟩
    · obtain rfl : j = k := by omega
      rw [h] at h2; cases h2
theorem mx_set {fo g : Nat → Int} {x : Int} {k : Nat} (h : prt (fo k) = false) : mx fo g x (k + 1) = fun j => if j = k then x else mx fo g x k j := by
  funext j
  unfold mx
  by_cases hj : j = k
  · subst hj; rw [if_pos ⟨by omega, h⟩, if_pos rfl]
  · rw [if_neg hj]
    by_cases hk : j < k ∧ prt (fo j) = false
    · rw [if_pos hk, if_pos ⟨by omega, hk.2⟩]
    · rw [if_neg hk, if_neg (fun h' => hk ⟨by omega, h'.2⟩)]
theorem mx_oth {fo : Nat → Int} {x : Int} {m j : Nat} (hj : j < m) : mx fo fo x m j = oth fo x j := by
  unfold mx oth
  cases h : prt (fo j) with
  | true => rw [if_neg (by simp), if_pos rfl]
  | false => rw [if_pos ⟨hj, rfl⟩, if_neg (by simp)]
theorem lcl_set (a b c : Nat → Int) (x y z : Int) : ∀ (m k : Nat), k < m →
    (((lcl a b c m).set (k * 3) (.int .i64 x)).set (k * 3 + 1) (.int .i64 y)).set (k * 3 + 2) (.int .i64 z) = lcl (fun j => if j = k then x else a j) (fun j => if j = k then y else b j) (fun j => if j = k then z else c j) m
  | 0, k, h => absurd h (by omega)
  | m + 1, k, h => by
    rw [lcl_succ, lcl_succ]
    rcases Nat.lt_or_ge k m with hk | hk
    · rw [List.set_append_left _ _ (by rw [lcl_len]; omega), List.set_append_left _ _ (by rw [List.length_set, lcl_len]; omega), List.set_append_left _ _ (by rw [List.length_set, List.length_set, lcl_len]; omega), lcl_set a b c x y z m k hk]
      rw [if_neg (by omega), if_neg (by omega), if_neg (by omega)]
    · obtain rfl : k = m := by omega
      have same : ∀ (f : Nat → Int) (u : Int), ∀ j, j < k → (if j = k then u else f j) = f j := fun f u j hj => if_neg (by omega)
      have hl : lcl (fun j => if j = k then x else a j) (fun j => if j = k then y else b j) (fun j => if j = k then z else c j) k = lcl a b c k := by
        unfold lcl
        rw [List.flatMap_def, List.flatMap_def]
        congr 1
        apply List.map_congr_left
        intro j hj
        have hj' : j < k := by simpa using hj
        show [Value.int .i64 (if j = k then x else a j), Value.int .i64 (if j = k then y else b j), Value.int .i64 (if j = k then z else c j)] = _
        rw [same a x j hj', same b y j hj', same c z j hj']
      rw [hl]
      rw [List.set_append_right _ _ (by rw [lcl_len]; omega), List.set_append_right _ _ (by rw [lcl_len]; omega), List.set_append_right _ _ (by rw [lcl_len]; omega), lcl_len]
      simp
theorem Try.part30 (x y z : Value) (w : World) : (part 3 #[x, y, z] 0).run Try.prog w = .ok x w := by kernel_rfl
theorem Try.part31 (x y z : Value) (w : World) : (part 3 #[x, y, z] 1).run Try.prog w = .ok y w := by kernel_rfl
theorem Try.part32 (x y z : Value) (w : World) : (part 3 #[x, y, z] 2).run Try.prog w = .ok z w := by kernel_rfl
theorem eql_int (x y : Int) (w : World) : (Op.equalIn 9999 3 (.int .i64 x) (.int .i64 y)).run Try.prog w = .ok (x == y) w := run_equalIn_int w 9998 3 .i64 .i64 x y Try.underlying3
theorem eql_sp (a b c a' b' c' : Int) (w : World) : (Op.equalIn 10000 45 (.agg #[.int .i64 a, .int .i64 b, .int .i64 c]) (.agg #[.int .i64 a', .int .i64 b', .int .i64 c'])).run Try.prog w = .ok (a == a' && (b == b' && c == c')) w := by
  rw [show (10000 : Nat) = 9999 + 1 from rfl, run_equalIn_struct w 9999 45 _ _ (by rw [Try.underlying45]; kernel_rfl) (by kernel_rfl)]
  simp [Program.fieldsOf, Try.underlying45, Op.eqFields, Sem.run_bind, Try.part30, Try.part31, Try.part32, eql_int]
  cases h1 : (a == a') <;> cases h2 : (b == b') <;> cases h3 : (c == c') <;> simp_all
theorem spans_sp (a : Option Addr) (n c n₀ : Nat) (f : Nat → Int) (q : Int) (sp : List Sp) (hq : er f n = q) (hsp : sp = if q = 0 then (run f n).sp else []) (w : World) (hO : Ops n₀ w a n f) (hn₀ : n₀ ≤ w.heap.size) (hn : n ≤ 1000) :
    Calls Try.prog 10 #[.slice a n c] w fun e w' => ∃ av cv, e = .returned (.tuple #[.slice av sp.length cv, .int .i64 q]) ∧ w'.ownsRow 0 45 3 (.slice av sp.length cv) sp.length (flat sp) ∧ Below w.heap.size w w' := by
  refine (spans_any a n c n₀ f w hO hn₀ hn).mono ?_
  rintro e w' ⟨v, rfl, h0, h1, hb⟩
  rw [hq] at h0 h1 ⊢
  by_cases h : q = 0
  · rw [if_pos h] at hsp
    rw [hsp]
    obtain ⟨av, cv, rfl⟩ := own_slice (h0 h)
    exact ⟨av, cv, rfl, own_mono (h0 h) (Nat.zero_le _), hb⟩
  · rw [if_neg h] at hsp
    rw [hsp, h1 h]
    exact ⟨none, 0, rfl, World.ownsRow_nil _ _ _ _, hb⟩
end Go.Proofs.Ytglagdbkcigojaa
