/-
  The program's opened makes the six variables and the two closures; end tells the spans or the error.
-/
import Derived.Test.YtglagdbkcigojaaAroundB
namespace Go.Proofs.Ytglagdbkcigojaa
open Go.RowKit

def erS (s : St) : Int := if s.wrong || !s.ended then 3 else if 8 < s.deep then 1 else 0
theorem er_is (f : Nat → Int) (n : Nat) : er f n = erS (run f n) := rfl
/-- the closure around, and end -/
def cloA (B : Nat) : Value := .func (.func 24) #[] #[.pointer (some ⟨B + 5, 0, none⟩), .pointer (some ⟨B + 4, 0, none⟩), .pointer (some ⟨B + 2, 0, none⟩), .pointer (some ⟨B, 0, none⟩), .pointer (some ⟨B + 1, 0, none⟩), .pointer (some ⟨B + 3, 0, none⟩)]
def cloE (B : Nat) : Value := .func (.func 26) #[] #[.pointer (some ⟨B + 5, 0, none⟩), .pointer (some ⟨B + 4, 0, none⟩), .pointer (some ⟨B + 3, 0, none⟩), .pointer (some ⟨B + 1, 0, none⟩)]

theorem six (w : World) (o0 o1 o2 o3 o4 o5 : Obj) : let W := (((((w.alloc o0).alloc o1).alloc o2).alloc o3).alloc o4).alloc o5
    W.heap[w.heap.size]? = some o0 ∧ W.heap[w.heap.size + 1]? = some o1 ∧ W.heap[w.heap.size + 2]? = some o2 ∧ W.heap[w.heap.size + 3]? = some o3 ∧ W.heap[w.heap.size + 4]? = some o4 ∧ W.heap[w.heap.size + 5]? = some o5 := by
  have n0 := heap_alloc_new w o0
  have n1 := heap_alloc_new (w.alloc o0) o1
  have n2 := heap_alloc_new ((w.alloc o0).alloc o1) o2
  have n3 := heap_alloc_new (((w.alloc o0).alloc o1).alloc o2) o3
  have n4 := heap_alloc_new ((((w.alloc o0).alloc o1).alloc o2).alloc o3) o4
  have n5 := heap_alloc_new (((((w.alloc o0).alloc o1).alloc o2).alloc o3).alloc o4) o5
  have z : ∀ (v : World) (o : Obj), (v.alloc o).heap.size = v.heap.size + 1 := fun v o => by simp
  simp only [z] at n1 n2 n3 n4 n5
  have k : ∀ (v : World) (o : Obj) (i : Nat) (x : Obj), v.heap[i]? = some x → (v.alloc o).heap[i]? = some x := fun v o i x h => by
    exact ((World.grownBy_alloc v o none).block i (lt_of_block h) (by simp)).trans h
  exact ⟨k _ _ _ _ (k _ _ _ _ (k _ _ _ _ (k _ _ _ _ (k _ _ _ _ n0)))), k _ _ _ _ (k _ _ _ _ (k _ _ _ _ (k _ _ _ _ n1))), k _ _ _ _ (k _ _ _ _ (k _ _ _ _ n2)), k _ _ _ _ (k _ _ _ _ n3), k _ _ _ _ n4, n5⟩
set_option maxHeartbeats 1000000 in
theorem opened_any (a : Option Addr) (n c : Nat) (w : World) :
    Calls Try.prog 20 #[.slice a n c] w fun e w' => e = .returned (.tuple #[cloA w.heap.size, cloE w.heap.size]) ∧ Inv w.heap.size a n c St0 (.slice none 0 0) (.slice none 0 0) w' ∧ Below w.heap.size w w' := by
  have hmf : ∀ (fn : Fn) (first cap : Array Value) (w : World), (Instr.makeFunc fn first cap).run Try.prog w = .ok (.func fn first cap) w := fun _ _ _ _ => rfl
  go_enter Try.func20, Try.ntmps20
  go_wp2_with fail
  go_ret2
  have hb : Below w.heap.size w (((((((w.alloc (.cells #[.slice a n c] 22)).alloc (.cells #[.slice none 0 0] 24)).alloc (.cells #[.slice none 0 0] 32)).alloc (.cells #[.int .i64 0] 3)).alloc (.cells #[.bool false] 4)).alloc (.cells #[.bool false] 4))) :=
    ((((((Below.refl _ _).alloc (by simp) _).alloc (by simp) _).alloc (by simp; omega) _).alloc (by simp; omega) _).alloc (by simp; omega) _).alloc (by simp; omega) _
  obtain ⟨b0, b1, b2, b3, b4, b5⟩ := six w (.cells #[.slice a n c] 22) (.cells #[.slice none 0 0] 24) (.cells #[.slice none 0 0] 32) (.cells #[.int .i64 0] 3) (.cells #[.bool false] 4) (.cells #[.bool false] 4)
  have I0 : Bx w.heap.size (.slice a n c) (.slice none 0 0) (.slice none 0 0) 0 false false _ := ⟨b0, b1, b2, b3, b4, b5⟩
  exact ⟨rfl, ⟨I0, World.ownsRow_nil _ _ _ _, World.ownsRow_nil _ _ _ _⟩, hb⟩

set_option maxHeartbeats 1000000 in
theorem end_any (B : Nat) (a : Option Addr) (n c : Nat) (s : St) (vs vo : Value) (w : World) (hI : Inv B a n c s vs vo w) (hd : s.deep ≤ 1000) :
    Calls Try.prog 26 #[.pointer (some ⟨B + 5, 0, none⟩), .pointer (some ⟨B + 4, 0, none⟩), .pointer (some ⟨B + 3, 0, none⟩), .pointer (some ⟨B + 1, 0, none⟩)] w fun e w' =>
      ∃ v, e = .returned (.tuple #[v, .int .i64 (erS s)]) ∧ (erS s = 0 → v = vs) ∧ (erS s ≠ 0 → v = .slice none 0 0) ∧ w' = w := by
  have k1 := cell_of_one hI.bx.h1
  have k3 := cell_of_one hI.bx.h3
  have k4 := cell_of_one hI.bx.h4
  have k5 := cell_of_one hI.bx.h5
  clear hI
  cases hw : s.wrong with
  | true =>
    have E := hide (show erS s = 3 by simp [erS, hw])
    rw [hw] at k5
    clear hw
    go_enter Try.func26, Try.ntmps26
    go_wp2_with fail
    go_ret2
    rw [E.out]
    exact ⟨_, rfl, fun h => by simp at h, fun _ => rfl, rfl⟩
  | false =>
    rw [hw] at k5
    cases he : s.ended with
    | false =>
      have E := hide (show erS s = 3 by simp [erS, he])
      rw [he] at k4
      clear hw he
      go_enter Try.func26, Try.ntmps26
      go_wp2_with fail
      go_ret2
      rw [E.out]
      exact ⟨_, rfl, fun h => by simp at h, fun _ => rfl, rfl⟩
    | true =>
      rw [he] at k4
      by_cases hd8 : 8 < s.deep
      · have E := hide (show erS s = 1 by simp [erS, hw, he, hd8])
        clear hw he
        go_enter Try.func26, Try.ntmps26
        go_wp2_with fail
        go_ret2
        rw [E.out]
        exact ⟨_, rfl, fun h => by simp at h, fun _ => rfl, rfl⟩
      · have E := hide (show erS s = 0 by simp [erS, hw, he, hd8])
        clear hw he
        go_enter Try.func26, Try.ntmps26
        go_wp2_with fail
        go_ret2
        rw [E.out]
        exact ⟨_, rfl, fun _ => rfl, fun h => absurd rfl h, rfl⟩
end Go.Proofs.Ytglagdbkcigojaa
