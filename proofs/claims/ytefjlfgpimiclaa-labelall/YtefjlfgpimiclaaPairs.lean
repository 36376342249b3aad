/-
  The program's iterator pairs: its maker boxes both lists; the function that it hands back yields what stands at each place of both, one place behind the other, to whatever loop's body keeps what it reads.
-/
import Derived.Test.YtefjlfgpimiclaaLeaf
import Derived.RangeFuncNested
import Derived.RangeFuncBound
import Derived.RangeFuncCalls
import Derived.RangeFuncLeaves
import Derived.RangeFuncFrom
import Derived.Shelf.Abstract
import Derived.Shelf.RegionOpen
import Derived.WalkKit
import Derived.OwnWalkIn
import Derived.TacticsInMore
import Derived.LoopNIn
import Derived.LoopIn
namespace Go.Proofs.Ytefjlfgpimiclaa
open Go.RowKit Go.Shelf
attribute [local go_sem] Oper.semAt_some

/-- two numbers, each of 64 bits -/
abbrev P64 := { p : Int × Int // I64 p.1 ∧ I64 p.2 }
/-- what has come when k rounds are over -/
def upto {α : Type} (f : Nat → α) (k : Nat) : List α := (List.range k).map f
theorem upto_succ {α : Type} (f : Nat → α) (k : Nat) : upto f (k + 1) = upto f k ++ [f k] := by simp [upto, List.range_succ]
theorem upto_length {α : Type} (f : Nat → α) (k : Nat) : (upto f k).length = k := by simp [upto]
/-- a slice reads so, in a block below n₀ -/
def Reads (n₀ : Nat) (W : World) (a : Option Addr) (len : Nat) (g : Nat → Int) : Prop :=
  ∀ j, j < len → ∃ b off, a = some ⟨b, off, none⟩ ∧ b < n₀ ∧ W.cell? ⟨b, off + j, none⟩ = some (.int .i64 (g j))
theorem Reads.below {n₀ : Nat} {A B : World} (h : Below n₀ A B) {a : Option Addr} {len : Nat} {g : Nat → Int} (hr : Reads n₀ A a len g) : Reads n₀ B a len g := fun j hj => by
  obtain ⟨b, off, e, hb, hc⟩ := hr j hj
  exact ⟨b, off, e, hb, (h.cell (p := ⟨b, off + j, none⟩) hb).trans hc⟩

set_option maxRecDepth 100000 in
set_option maxHeartbeats 2000000 in
theorem pairs1_in (n : Nat) (hn : 1 ≤ n) (l Ba Bb n₀ len ca cb : Nat) (sa sb : Option Addr) (f : Nat → P64) (hlen : len ≤ 9223372036854775807) (J Jx : List P64 → World → Prop)
    (hJ : ∀ pre W, J pre W → J pre W.drew)
    (hY : ∀ pre (x : P64) W, J pre W → pre.length < len → YieldAt Fence.wide (n - 1) Try.prog l #[.int .i64 x.1.1, .int .i64 x.1.2] W fun e W' =>
      (e = .returned (.bool true) ∧ J (pre ++ [x]) W' ∧ Below n₀ W W') ∨ (e = .returned (.bool false) ∧ Jx (pre ++ [x]) W'))
    (W : World) (hBa : Ba < n₀) (hBb : Bb < n₀) (hca : W.cell? ⟨Ba, 0, none⟩ = some (.slice sa len ca)) (hcb : W.cell? ⟨Bb, 0, none⟩ = some (.slice sb len cb))
    (hra : Reads n₀ W sa len (fun j => (f j).1.1)) (hrb : Reads n₀ W sb len (fun j => (f j).1.2)) (h0 : J [] W) :
    CallsIn Fence.wide n Try.prog 24 #[.func (.yield l) #[] #[], .pointer (some ⟨Ba, 0, none⟩), .pointer (some ⟨Bb, 0, none⟩)] W fun e W' => (∃ v, e = .returned v) ∧
      ((∃ ys, ys = upto f len ∧ J ys W') ∨ (∃ pre, (∃ k, k ≤ len ∧ pre = upto f k) ∧ Jx pre W')) := by
  refine callsIn_of_wp Try.func24 rfl trivial ?_ rfl
  simp only [Try.ntmps24, List.size_toArray, List.length_cons, List.length_nil, Nat.reduceAdd, Nat.reduceSub, Array.replicate_succ, Array.replicate_zero, List.push_toArray, List.append_toArray, List.nil_append, List.cons_append]
  gi_wp2
  gi_loopw [10] (fun i wr => ∃ k : Nat, k ≤ len ∧ i = .int .i64 k ∧ J (upto f k) wr ∧ Below n₀ W wr)
    (fun i _ => len - (intOf i).toNat)
  case atStart => exact ⟨0, Nat.zero_le _, rfl, h0, Below.refl _ _⟩
  case round =>
    obtain ⟨k, hk, rfl, hJs, hnx⟩ := hrel
    by_cases hlt : k < len
    · obtain ⟨ba, oa, rfl, hba, hxa⟩ := hra k hlt
      obtain ⟨bb, ob, rfl, hbb, hxb⟩ := hrb k hlt
      have hca' := (hnx.cell (p := ⟨Ba, 0, none⟩) hBa).trans hca
      have hcb' := (hnx.cell (p := ⟨Bb, 0, none⟩) hBb).trans hcb
      have hxa' := (hnx.cell (p := ⟨ba, oa + k, none⟩) hba).trans hxa
      have hxb' := (hnx.cell (p := ⟨bb, ob + k, none⟩) hbb).trans hxb
      obtain ⟨fn, tmps, assign, body, hy, hR⟩ := hY _ (f k) wr.drew (hJ _ _ hJs) (by rw [upto_length]; exact hlt)
      have hR' := hR.mono (R' := fun e W' => ∃ r, e = .returned (.bool r) ∧ ((r = true ∧ J (upto f k ++ [f k]) W' ∧ Below n₀ wr.drew W') ∨ (r = false ∧ Jx (upto f k ++ [f k]) W'))) (by
        rintro e W' (⟨rfl, h⟩ | ⟨rfl, h⟩)
        · exact ⟨true, rfl, .inl ⟨rfl, h⟩⟩
        · exact ⟨false, rfl, .inr ⟨rfl, h⟩⟩)
      clear hR
      gi_wp2_with fail
      gi_region_with (refine hR'.mono ?_; rintro e W3 ⟨r, rfl, hr⟩)
      all_goals
        rcases hr with ⟨rfl, hJ3, hk3⟩ | ⟨rfl, hJx3⟩
        · gi_wp2
          go_roundw
          case rel => exact ⟨k + 1, by omega, by simp, by rw [upto_succ]; exact hJ3, hnx.trans ((Below.refl _ _).drew.trans hk3)⟩
          case measure => simp [intOf]; omega
        · gi_wp2
          refine bodyPost_ret (results_none rfl _ _ _) rfl ?_
          exact ⟨⟨_, rfl⟩, .inr ⟨_, ⟨k + 1, by omega, (upto_succ _ _).symm⟩, hJx3⟩⟩
    · obtain rfl : k = len := by omega
      gi_wp2
      go_end0
      exact ⟨⟨_, rfl⟩, .inl ⟨_, rfl, hJs⟩⟩

theorem grown_drew (W : World) : W.grownBy W.drew none := ⟨rfl, rfl, rfl, Nat.le_refl _, fun _ _ _ => rfl⟩

set_option maxHeartbeats 1000000 in
theorem pairs_in (n : Nat) (sa sb : Option Addr) (la ca lb cb : Nat) (w : World) :
    CallsIn Fence.wide n Try.prog 23 #[.slice sa la ca, .slice sb lb cb] w fun e w' =>
      e = .returned (.func (.func 24) #[] #[.pointer (some ⟨w.heap.size, 0, none⟩), .pointer (some ⟨w.heap.size + 1, 0, none⟩)]) ∧ w' = (w.alloc (.cells #[.slice sa la ca] 28)).alloc (.cells #[.slice sb lb cb] 28) := by
  refine callsIn_of_wp Try.func23 rfl trivial ?_ rfl
  simp only [Try.ntmps23, List.size_toArray, List.length_cons, List.length_nil, Nat.reduceAdd, Nat.reduceSub, Array.replicate_succ, Array.replicate_zero, List.push_toArray, List.append_toArray, List.nil_append, List.cons_append]
  gi_wp2
  go_ret
  exact ⟨rfl, rfl⟩

theorem pairs_stops (n : Nat) (hn : 1 ≤ n) (Ba Bb n₀ len ca cb : Nat) (sa sb : Option Addr) (f : Nat → P64) (hlen : len ≤ 9223372036854775807) (w : World) (hn₀ : n₀ ≤ w.heap.size)
    (hBa : Ba < n₀) (hBb : Bb < n₀) (hca : w.cell? ⟨Ba, 0, none⟩ = some (.slice sa len ca)) (hcb : w.cell? ⟨Bb, 0, none⟩ = some (.slice sb len cb))
    (hra : Reads n₀ w sa len (fun j => (f j).1.1)) (hrb : Reads n₀ w sb len (fun j => (f j).1.2)) :
    SeqStopsK Fence.wide n Try.prog 24 #[.pointer (some ⟨Ba, 0, none⟩), .pointer (some ⟨Bb, 0, none⟩)] (fun x : P64 => #[Value.int .i64 x.1.1, Value.int .i64 x.1.2]) (Below n₀)
      (fun ys => ys = upto f len) (fun pre => ∃ k, k ≤ len ∧ pre = upto f k) len w := fun l J Jx W hW hJ _ hY h0 =>
  pairs1_in n hn l Ba Bb n₀ len ca cb sa sb f hlen J Jx (fun pre W' h => hJ pre W' _ none h (grown_drew W') (fun r e => by cases e)) hY W hBa hBb
    (((hW.mono hn₀).cell (p := ⟨Ba, 0, none⟩) hBa).trans hca) (((hW.mono hn₀).cell (p := ⟨Bb, 0, none⟩) hBb).trans hcb) (hra.below (hW.mono hn₀)) (hrb.below (hW.mono hn₀)) h0
end Go.Proofs.Ytefjlfgpimiclaa
