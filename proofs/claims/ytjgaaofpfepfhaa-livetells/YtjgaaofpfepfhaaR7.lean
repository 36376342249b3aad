/-
  Two rows that are alike; the program's Next of any place.
-/
import Derived.Test.YtjgaaofpfepfhaaR6
import Derived.Test.YtjgaaofpfepfhaaNum
import Derived.Test.YtjgaaofpfepfhaaNxa
namespace Go.Proofs.Ytjgaaofpfepfhaa
open Go.RowKit
set_option linter.unusedSimpArgs false
set_option linter.unusedVariables false
theorem numbers_none (a b : Option Addr) (c1 c2 : Nat) (w : World) : Calls Try.prog 10 #[.slice a 0 c1, .slice b 0 c2] w fun e w' => e = .returned (.bool true) ∧ Below w.heap.size w w' := by
  go_enter Try.func10, Try.ntmps10
  go_wp2_with fail
  go_loopw [5] (fun s5 wr => s5 = .int .i64 0 ∧ wr = w) (fun _ _ => 0)
  case atStart => exact ⟨rfl, rfl⟩
  case round =>
    obtain ⟨rfl, rfl⟩ := hrel
    go_wp2_with fail
    go_ret
    exact ⟨rfl, Below.refl _ _⟩
theorem numbers_nv {B1 B2 : Nat} {v1 v2 : Value} {ns : List Int} {w : World} (h1 : Nv B1 v1 ns w) (h2 : Nv B2 v2 ns w) (hl : ns.length ≤ 1000) :
    Calls Try.prog 10 #[v1, v2] w fun e w' => e = .returned (.bool true) ∧ Below w.heap.size w w' := by
  rcases h1 with ⟨rfl, a, c, rfl⟩ | ⟨g, c, rfl, g1, g2, g3⟩
  · obtain ⟨b, c', rfl⟩ := h2.form
    exact numbers_none a b c c' w
  · rcases h2 with ⟨rfl, a, c', rfl⟩ | ⟨h, c', rfl, k1, k2, k3⟩
    · exact numbers_none _ _ _ _ w
    · refine numbers_yes g h ns.length c c' (fun i => ns.getD i 0) w hl g2 k2 (fun i hi => ?_) (fun i hi => ?_)
      · rw [g3 i hi]; simp [List.getD, hi]
      · rw [k3 i hi]; simp [List.getD, hi]
theorem nrow_nv {r n c : Nat} {A : Nat → Nat} {W : World} (h : NRow r n A W) : Nv 0 (.slice (some ⟨r, 0, none⟩) n c) ((List.range n).map fun i => ((A i : Nat) : Int)) W :=
  Or.inr ⟨r, c, by simp, Nat.zero_le _, h.lt, fun j hj => by
    have hj' : j < n := by simpa using hj
    rw [h.c j hj']; simp⟩
set_option maxRecDepth 100000 in
set_option maxHeartbeats 6400000 in
theorem nx_any (d : Cd) (a : Option Addr) (cap : Nat) (l : List Ir) (at_ : Int) (w : World) (hl : l.length ≤ 1000) (hr : IR w.heap.size w a l) :
    Calls Try.prog 11 #[cv d a l.length cap, .int .i64 at_] w fun e w' => ∃ v, e = .returned v ∧ Nv w.heap.size v (nxa l at_) w' ∧ Below w.heap.size w w' := by
  by_cases h0 : 0 ≤ at_ ∧ at_ < (l.length : Int)
  · obtain ⟨i, hi⟩ : ∃ i : Nat, at_ = (i : Int) := ⟨at_.toNat, by omega⟩
    subst hi
    have e : nxa l (i : Int) = nxt l i := by unfold nxa; rw [if_pos h0, Int.toNat_natCast]
    rw [e]
    exact ask_next d a cap l i w hl (by omega) hr
  · have e : nxa l at_ = [] := by unfold nxa; rw [if_neg h0]
    rw [e]
    have B0 : FB d a l.length cap w.heap.size l w (w.alloc (.cells #[.int .i64 d.cells, .int .i64 d.params, .slice a l.length cap, .int .i64 d.labels] 24)) := ⟨bel_one _ _, by simp, heap_alloc_new _ _⟩
    clear hl hr e
    obtain ⟨cs, ps, ls⟩ := d
    unfold cv
    simp only at B0 ⊢
    go_enter Try.func11, Try.ntmps11
    go_upto_region 1 with fail
    refine gw (motive := fun x => Code.wp _ _ _ _ x) (fun W => Hid (FB ⟨cs, ps, ls⟩ a l.length cap w.heap.size l w W)) B0 ?_
    rintro W HW
    clear B0
    obtain ⟨c0, c1, c2, c3⟩ := HW.out.cells (Below.refl _ W) HW.out.lt
    simp only at c0 c1 c2 c3
    by_cases hn : at_ < 0
    · go_wp2_with fail
      go_ret
      exact ⟨_, rfl, Or.inl ⟨rfl, _, _, rfl⟩, HW.out.b⟩
    · have hn2 : ¬ at_ < (l.length : Int) := by omega
      go_wp2_with fail
      go_ret
      exact ⟨_, rfl, Or.inl ⟨rfl, _, _, rfl⟩, HW.out.b⟩
end Go.Proofs.Ytjgaaofpfepfhaa
