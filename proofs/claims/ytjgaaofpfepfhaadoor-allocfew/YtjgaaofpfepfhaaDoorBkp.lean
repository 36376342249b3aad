/-
  The library's Backward of parts, to whatever loop's body keeps what it reads.
-/
import Derived.Test.YtjgaaofpfepfhaaDoorParts
import Derived.Test.YtjgaaofpfepfhaaDoorPasd
import Derived.RangeFuncNested
namespace Go.Proofs.YtjgaaofpfepfhaaDoor
open Go.RowKit Go.Shelf
set_option linter.unusedSimpArgs false
set_option linter.unusedVariables false
attribute [local go_sem] Oper.semAt_some
/-- A place and its part. -/
def encP (n : Nat) (vn : Nat → Value) (rd wr_ : Nat → Nat) (x : Pl) : Array Value := #[.int .i64 ((x.1 % n : Nat) : Int), .agg #[vn (x.1 % n), .int .i64 ((rd (x.1 % n) : Nat) : Int), .int .i64 ((wr_ (x.1 % n) : Nat) : Int)]]
set_option maxRecDepth 100000 in
set_option maxHeartbeats 2000000 in
theorem backp1_in (dp : Nat) (hn : 1 ≤ dp) (X : Nat → Prop) (lp Bb pb n₀ n : Nat) (vn : Nat → Value) (rd wr_ : Nat → Nat) (hlen : n ≤ 1000) (J Jx : List Pl → World → Prop)
    (hY : ∀ pre (x : Pl) W, J pre W → pre.length < n → YieldAt Fence.wide (dp - 1) Tryd.prog lp (encP n vn rd wr_ x) W fun e W' =>
      (e = .returned (.bool true) ∧ J (pre ++ [x]) W' ∧ Kx X n₀ W W') ∨ (e = .returned (.bool false) ∧ Jx (pre ++ [x]) W'))
    (W : World) (hB : Bb < n₀) (hBX : ¬ X Bb) (hc : W.cell? ⟨Bb, 0, none⟩ = some (.slice (some ⟨pb, 0, none⟩) n n)) (hpb : pb < n₀) (hX : ¬ X pb) (hr : PRow pb n vn rd wr_ W) (h0 : J [] W) :
    CallsIn Fence.wide dp Tryd.prog 65 #[.func (.yield lp) #[] #[], .pointer (some ⟨Bb, 0, none⟩)] W fun e W' => (∃ v, e = .returned v) ∧
      ((∃ ys, ys = dwn n n ∧ J ys W') ∨ (∃ pre, (∃ k, k ≤ n ∧ pre = dwn n k) ∧ Jx pre W')) := by
  have HR := hide hr
  clear hr
  refine callsIn_of_wp Tryd.func65 rfl trivial ?_ rfl
  simp only [Tryd.ntmps65, List.size_toArray, List.length_cons, List.length_nil, Nat.reduceAdd, Nat.reduceSub, Array.replicate_succ, Array.replicate_zero, List.push_toArray, List.append_toArray, List.nil_append, List.cons_append]
  gi_wp2
  gi_loopw [3] (fun i wr => ∃ k : Nat, k ≤ n ∧ i = .int .i64 ((n : Int) - 1 - k) ∧ J (dwn n k) wr ∧ Kx X n₀ W wr)
    (fun i _ => ((intOf i) + 1).toNat)
  case atStart => exact ⟨0, Nat.zero_le _, by simp, h0, Kx.refl _ _ _⟩
  case round =>
    obtain ⟨k, hk, rfl, hJs, hnx⟩ := hrel
    by_cases hlt : k < n
    · have hc' := (hnx.cell hB hBX 0).trans hc
      have hkn : n - 1 - k < n := by omega
      have hP := HR.out.of (hnx pb hpb hX)
      have c0 := hP.c0 _ hkn
      have c1 := hP.c1 _ hkn
      have c2 := hP.c2 _ hkn
      obtain ⟨fn, tmps, assign, body, hy, hR⟩ := hY _ (pl (n - 1 - k)) wr hJs (by rw [dwn_len]; exact hlt)
      have e1 : (n - 1 - k) % n = n - 1 - k := Nat.mod_eq_of_lt hkn
      have e2 : ((n - 1 - k : Nat) : Int) = (n : Int) - 1 - k := by omega
      unfold encP at hy
      rw [pl_is (by omega), e1, e2] at hy
      have hR' := hR.mono (R' := fun e W' => ∃ r, e = .returned (.bool r) ∧ ((r = true ∧ J (dwn n k ++ [pl (n - 1 - k)]) W' ∧ Kx X n₀ wr W') ∨ (r = false ∧ Jx (dwn n k ++ [pl (n - 1 - k)]) W'))) (by
        rintro e W' (⟨rfl, h⟩ | ⟨rfl, h⟩)
        · exact ⟨true, rfl, .inl ⟨rfl, h⟩⟩
        · exact ⟨false, rfl, .inr ⟨rfl, h⟩⟩)
      have hi : (0 : Int) ≤ (n : Int) - 1 - k := by omega
      have hi2 : ((n : Int) - 1 - k).toNat = n - 1 - k := by omega
      have hi3 : (n : Int) - 1 - k < (n : Int) := by omega
      clear hR hP e1 e2
      gi_wp2
      refine hR'.mono ?_
      rintro e W3 ⟨r, rfl, ⟨rfl, hJ3, hk3⟩ | ⟨rfl, hJx3⟩⟩
      · gi_wp2
        go_roundw
        case rel => exact ⟨k + 1, by omega, by go_num, by rw [dwn_succ]; exact hJ3, hnx.trans hk3⟩
        case measure => simp [intOf]; omega
      · gi_wp2
        refine bodyPost_ret (results_none rfl _ _ _) rfl ?_
        exact ⟨⟨_, rfl⟩, .inr ⟨_, ⟨k + 1, by omega, (dwn_succ _ _).symm⟩, hJx3⟩⟩
    · have hkl : n = k := by omega
      subst hkl
      have hi : (n : Int) - 1 - n < 0 := by omega
      gi_wp2
      go_end0
      exact ⟨⟨_, rfl⟩, .inl ⟨_, rfl, hJs⟩⟩
theorem backp_stops (dp : Nat) (hn : 1 ≤ dp) (X : Nat → Prop) (Bb pb n₀ n : Nat) (vn : Nat → Value) (rd wr_ : Nat → Nat) (hlen : n ≤ 1000) (w : World) (hn₀ : n₀ ≤ w.heap.size) (hB : Bb < n₀) (hBX : ¬ X Bb) (hc : w.cell? ⟨Bb, 0, none⟩ = some (.slice (some ⟨pb, 0, none⟩) n n)) (hpb : pb < n₀) (hX : ¬ X pb) (hr : PRow pb n vn rd wr_ w) :
    SeqStopsK Fence.wide dp Tryd.prog 65 #[.pointer (some ⟨Bb, 0, none⟩)] (encP n vn rd wr_) (Kx X n₀) (fun ys => ys = dwn n n) (fun pre => ∃ k, k ≤ n ∧ pre = dwn n k) n w := fun lp J Jx W hW hJ _ hY h0 =>
  backp1_in dp hn X lp Bb pb n₀ n vn rd wr_ hlen J Jx hY W hB hBX (((hW.mono hn₀).cell (p := ⟨Bb, 0, none⟩) hB).trans hc) hpb hX (hr.of (hW.block _ hr.lt)) h0
theorem backwardp_in (n : Nat) (sa : Option Addr) (len cap : Nat) (w : World) :
    CallsIn Fence.wide n Tryd.prog 56 #[.slice sa len cap] w fun e w' => e = .returned (.func (.func 65) #[] #[.pointer (some ⟨w.heap.size, 0, none⟩)]) ∧ w' = w.alloc (.cells #[.slice sa len cap] 79) := by
  refine callsIn_of_wp Tryd.func56 rfl trivial ?_ rfl
  simp only [Tryd.ntmps56, List.size_toArray, List.length_cons, List.length_nil, Nat.reduceAdd, Nat.reduceSub, Array.replicate_succ, Array.replicate_zero, List.push_toArray, List.append_toArray, List.nil_append, List.cons_append]
  gi_wp2
  go_ret
  exact ⟨rfl, rfl⟩
end Go.Proofs.YtjgaaofpfepfhaaDoor
