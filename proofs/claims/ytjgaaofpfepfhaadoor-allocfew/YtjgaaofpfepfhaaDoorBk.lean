/-
  Instructions in rows; the library's Backward of instructions, to whatever loop's body keeps what it reads.
-/
import Derived.Test.YtjgaaofpfepfhaaDoorUses
import Derived.RangeFuncNested
import Derived.RangeFuncBound
import Derived.RangeFuncCalls
import Derived.RangeFuncLeaves
import Derived.RangeFuncFrom
import Derived.RangeFuncWrites
import Derived.Shelf.Abstract
import Derived.Shelf.RegionOpen
import Derived.WalkKit
import Derived.OwnWalkIn
import Derived.TacticsInMore
import Derived.LoopNIn
import Derived.LoopIn
namespace Go.Proofs.YtjgaaofpfepfhaaDoor
open Go.RowKit Go.Shelf
set_option linter.unusedSimpArgs false
set_option linter.unusedVariables false
attribute [local go_sem] Oper.semAt_some
/-- The seven cells of an instruction. -/
structure C7 (b o : Nat) (x : Ir) (W : World) : Prop where
  c0 : W.cell? ⟨b, o, none⟩ = some (.int .i64 x.op)
  c1 : W.cell? ⟨b, o + 1, none⟩ = some (.int .i64 x.dst)
  c2 : W.cell? ⟨b, o + 2, none⟩ = some (.int .i64 x.a)
  c3 : W.cell? ⟨b, o + 3, none⟩ = some (.int .i64 x.b)
  c4 : W.cell? ⟨b, o + 4, none⟩ = some (.int .i64 x.c)
  c5 : W.cell? ⟨b, o + 5, none⟩ = some (.int .i64 x.n)
  c6 : W.cell? ⟨b, o + 6, none⟩ = some (.int .i64 x.m)
theorem C7.of {b o : Nat} {x : Ir} {W W' : World} (h : C7 b o x W) (k : W'.heap[b]? = W.heap[b]?) : C7 b o x W' := by
  have e : ∀ j, W'.cell? ⟨b, j, none⟩ = W.cell? ⟨b, j, none⟩ := fun j => by simp [World.cell?, k]
  exact ⟨(e _).trans h.c0, (e _).trans h.c1, (e _).trans h.c2, (e _).trans h.c3, (e _).trans h.c4, (e _).trans h.c5, (e _).trans h.c6⟩
/-- Instructions in a row, in a block below n₀. -/
def IR (n₀ : Nat) (W : World) (a : Option Addr) (l : List Ir) : Prop :=
  ∀ j (h : j < l.length), ∃ b off, a = some ⟨b, off, none⟩ ∧ b < n₀ ∧ C7 b (off + j * 7) l[j] W ∧ l[j].ok
theorem IR.of {n₀ : Nat} {W W' : World} {a : Option Addr} {l : List Ir} (h : IR n₀ W a l) (k : ∀ b, b < n₀ → W'.heap[b]? = W.heap[b]?) : IR n₀ W' a l := fun j hj => by
  obtain ⟨b, off, e, hb, hc, ho⟩ := h j hj
  exact ⟨b, off, e, hb, hc.of (k b hb), ho⟩
theorem IR.bel {n₀ : Nat} {W W' : World} {a : Option Addr} {l : List Ir} (h : IR n₀ W a l) (k : Below n₀ W W') : IR n₀ W' a l := h.of fun b hb => k.block b hb
theorem IR.up {n₀ n₁ : Nat} {W : World} {a : Option Addr} {l : List Ir} (h : IR n₀ W a l) (k : n₀ ≤ n₁) : IR n₁ W a l := fun j hj => by
  obtain ⟨b, off, e, hb, hc⟩ := h j hj
  exact ⟨b, off, e, by omega, hc⟩
def ir0 : Ir := ⟨0, 0, 0, 0, 0, 0, 0⟩
/-- A place. -/
abbrev Pl := { x : Nat // x < 1024 }
def pl (i : Nat) : Pl := ⟨i % 1024, Nat.mod_lt _ (by decide)⟩
theorem pl_is {i : Nat} (h : i < 1024) : (pl i).1 = i := Nat.mod_eq_of_lt h
/-- The places from the last one on, k of them. -/
def dwn (len k : Nat) : List Pl := (List.range k).map fun j => pl (len - 1 - j)
theorem dwn_succ (len k : Nat) : dwn len (k + 1) = dwn len k ++ [pl (len - 1 - k)] := by simp [dwn, List.range_succ]
theorem dwn_len (len k : Nat) : (dwn len k).length = k := by simp [dwn]
/-- All older blocks but those of X are as they were. -/
def Kx (X : Nat → Prop) (n₀ : Nat) (W W' : World) : Prop := ∀ b, b < n₀ → ¬ X b → W'.heap[b]? = W.heap[b]?
theorem Kx.refl (X : Nat → Prop) (n₀ : Nat) (W : World) : Kx X n₀ W W := fun _ _ _ => rfl
theorem Kx.trans {X : Nat → Prop} {n₀ : Nat} {A B C : World} (h : Kx X n₀ A B) (k : Kx X n₀ B C) : Kx X n₀ A C := fun b hb hx => (k b hb hx).trans (h b hb hx)
theorem Kx.of {X : Nat → Prop} {n₀ : Nat} {A B : World} (h : Below n₀ A B) : Kx X n₀ A B := fun b hb _ => h.block b hb
theorem kx_b {X : Nat → Prop} {n₀ : Nat} {w : World} (hn : n₀ ≤ w.heap.size) (W : World) (l : Nat) (o o' : Obj) (hl : w.heap.size ≤ l) (_ : W.heap[l]? = some o) (_ : o.isCells = false) (_ : o.isWalk = false) : Kx X n₀ W (W.putObj l o') :=
  fun b hb _ => World.putObj_heap_other (by omega)
theorem Kx.cell {X : Nat → Prop} {n₀ : Nat} {W W' : World} (h : Kx X n₀ W W') {b : Nat} (hb : b < n₀) (hx : ¬ X b) (j : Nat) : W'.cell? ⟨b, j, none⟩ = W.cell? ⟨b, j, none⟩ := by simp [World.cell?, h b hb hx]
def encI (l : List Ir) (i : Pl) : Array Value := #[.int .i64 ((i.1 : Nat) : Int), xv (l.getD i.1 ir0)]
set_option maxRecDepth 100000 in
set_option maxHeartbeats 2000000 in
theorem back1_in (n : Nat) (hn : 1 ≤ n) (X : Nat → Prop) (lp Bb n₁ n₀ cap : Nat) (sa : Option Addr) (l : List Ir) (hlen : l.length ≤ 1000) (J Jx : List Pl → World → Prop)
    (hY : ∀ pre (x : Pl) W, J pre W → pre.length < l.length → YieldAt Fence.wide (n - 1) Tryd.prog lp (encI l x) W fun e W' =>
      (e = .returned (.bool true) ∧ J (pre ++ [x]) W' ∧ Kx X n₀ W W') ∨ (e = .returned (.bool false) ∧ Jx (pre ++ [x]) W'))
    (W : World) (hB : Bb < n₀) (hBX : ¬ X Bb) (hc : W.cell? ⟨Bb, 0, none⟩ = some (.slice sa l.length cap)) (hn₁ : n₁ ≤ n₀) (hX : ∀ b, b < n₁ → ¬ X b) (hr : IR n₁ W sa l) (h0 : J [] W) :
    CallsIn Fence.wide n Tryd.prog 80 #[.func (.yield lp) #[] #[], .pointer (some ⟨Bb, 0, none⟩)] W fun e W' => (∃ v, e = .returned v) ∧
      ((∃ ys, ys = dwn l.length l.length ∧ J ys W') ∨ (∃ pre, (∃ k, k ≤ l.length ∧ pre = dwn l.length k) ∧ Jx pre W')) := by
  have HR := hide hr
  clear hr
  refine callsIn_of_wp Tryd.func80 rfl trivial ?_ rfl
  simp only [Tryd.ntmps80, List.size_toArray, List.length_cons, List.length_nil, Nat.reduceAdd, Nat.reduceSub, Array.replicate_succ, Array.replicate_zero, List.push_toArray, List.append_toArray, List.nil_append, List.cons_append]
  gi_wp2
  gi_loopw [3] (fun i wr => ∃ k : Nat, k ≤ l.length ∧ i = .int .i64 ((l.length : Int) - 1 - k) ∧ J (dwn l.length k) wr ∧ Kx X n₀ W wr)
    (fun i _ => ((intOf i) + 1).toNat)
  case atStart => exact ⟨0, Nat.zero_le _, by simp, h0, Kx.refl _ _ _⟩
  case round =>
    obtain ⟨k, hk, rfl, hJs, hnx⟩ := hrel
    by_cases hlt : k < l.length
    · obtain ⟨b, o, rfl, hb, hx, _⟩ := HR.out (l.length - 1 - k) (by omega)
      have hc' := (hnx.cell hB hBX 0).trans hc
      have hx' := hx.of (hnx b (by omega) (hX b hb))
      obtain ⟨c0, c1, c2, c3, c4, c5, c6⟩ := hx'
      obtain ⟨fn, tmps, assign, body, hy, hR⟩ := hY _ (pl (l.length - 1 - k)) wr hJs (by rw [dwn_len]; exact hlt)
      have e1 : l.getD (l.length - 1 - k) ir0 = l[l.length - 1 - k] := by simp [List.getD, show l.length - 1 - k < l.length by omega]
      have e2 : ((l.length - 1 - k : Nat) : Int) = (l.length : Int) - 1 - k := by omega
      unfold encI xv xc at hy
      rw [pl_is (by omega), e1, e2] at hy
      have hR' := hR.mono (R' := fun e W' => ∃ r, e = .returned (.bool r) ∧ ((r = true ∧ J (dwn l.length k ++ [pl (l.length - 1 - k)]) W' ∧ Kx X n₀ wr W') ∨ (r = false ∧ Jx (dwn l.length k ++ [pl (l.length - 1 - k)]) W'))) (by
        rintro e W' (⟨rfl, h⟩ | ⟨rfl, h⟩)
        · exact ⟨true, rfl, .inl ⟨rfl, h⟩⟩
        · exact ⟨false, rfl, .inr ⟨rfl, h⟩⟩)
      have hi : (0 : Int) ≤ (l.length : Int) - 1 - k := by omega
      have hi2 : ((l.length : Int) - 1 - k).toNat = l.length - 1 - k := by omega
      have hi3 : (l.length : Int) - 1 - k < (l.length : Int) := by omega
      clear hR hx e1 e2
      gi_wp2
      refine hR'.mono ?_
      rintro e W3 ⟨r, rfl, ⟨rfl, hJ3, hk3⟩ | ⟨rfl, hJx3⟩⟩
      · gi_wp2
        go_roundw
        case rel => exact ⟨k + 1, by omega, by go_num, by rw [dwn_succ]; exact hJ3, hnx.trans hk3⟩
        case measure => simp [intOf]; omega
      · gi_wp2
        refine bodyPost_ret (results_none rfl _ _ _) rfl ?_
        exact ⟨⟨_, rfl⟩, .inr ⟨_, ⟨k + 1, by omega, (dwn_succ _ _).symm⟩, hJx3⟩⟩
    · have hkl : k = l.length := by omega
      subst hkl
      have hi : (l.length : Int) - 1 - l.length < 0 := by omega
      gi_wp2
      go_end0
      exact ⟨⟨_, rfl⟩, .inl ⟨_, rfl, hJs⟩⟩
theorem back_stops (n : Nat) (hn : 1 ≤ n) (X : Nat → Prop) (Bb n₁ n₀ cap : Nat) (sa : Option Addr) (l : List Ir) (hlen : l.length ≤ 1000) (w : World) (hn₀ : n₀ ≤ w.heap.size) (hB : Bb < n₀) (hBX : ¬ X Bb) (hc : w.cell? ⟨Bb, 0, none⟩ = some (.slice sa l.length cap)) (hn₁ : n₁ ≤ n₀) (hX : ∀ b, b < n₁ → ¬ X b) (hr : IR n₁ w sa l) :
    SeqStopsK Fence.wide n Tryd.prog 80 #[.pointer (some ⟨Bb, 0, none⟩)] (encI l) (Kx X n₀) (fun ys => ys = dwn l.length l.length) (fun pre => ∃ k, k ≤ l.length ∧ pre = dwn l.length k) l.length w := fun lp J Jx W hW hJ _ hY h0 =>
  back1_in n hn X lp Bb n₁ n₀ cap sa l hlen J Jx hY W hB hBX (((hW.mono hn₀).cell (p := ⟨Bb, 0, none⟩) hB).trans hc) hn₁ hX (hr.bel (hW.mono (by omega))) h0
theorem backward_in (n : Nat) (sa : Option Addr) (len cap : Nat) (w : World) :
    CallsIn Fence.wide n Tryd.prog 68 #[.slice sa len cap] w fun e w' => e = .returned (.func (.func 80) #[] #[.pointer (some ⟨w.heap.size, 0, none⟩)]) ∧ w' = w.alloc (.cells #[.slice sa len cap] 22) := by
  refine callsIn_of_wp Tryd.func68 rfl trivial ?_ rfl
  simp only [Tryd.ntmps68, List.size_toArray, List.length_cons, List.length_nil, Nat.reduceAdd, Nat.reduceSub, Array.replicate_succ, Array.replicate_zero, List.push_toArray, List.append_toArray, List.nil_append, List.cons_append]
  gi_wp2
  go_ret
  exact ⟨rfl, rfl⟩
end Go.Proofs.YtjgaaofpfepfhaaDoor
