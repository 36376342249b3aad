/-
  Two rows that are alike, of any form.
-/
import Derived.Test.YtjgaaofpfepfhaaDoorPla
import Derived.Test.YtjgaaofpfepfhaaDoorNum
namespace Go.Proofs.YtjgaaofpfepfhaaDoor
open Go.RowKit
set_option linter.unusedSimpArgs false
set_option linter.unusedVariables false
theorem numbers_none (a b : Option Addr) (c1 c2 : Nat) (w : World) : Calls Tryd.prog 9 #[.slice a 0 c1, .slice b 0 c2] w fun e w' => e = .returned (.bool true) ∧ Below w.heap.size w w' := by
  go_enter Tryd.func9, Tryd.ntmps9
  go_wp2_with fail
  go_loopw [5] (fun s5 wr => s5 = .int .i64 0 ∧ wr = w) (fun _ _ => 0)
  case atStart => exact ⟨rfl, rfl⟩
  case round =>
    obtain ⟨rfl, rfl⟩ := hrel
    go_wp2_with fail
    go_ret
    exact ⟨rfl, Below.refl _ _⟩
theorem numbers_nv {B1 B2 : Nat} {v1 v2 : Value} {ns : List Int} {w : World} (h1 : Nv B1 v1 ns w) (h2 : Nv B2 v2 ns w) (hl : ns.length ≤ 1000) :
    Calls Tryd.prog 9 #[v1, v2] w fun e w' => e = .returned (.bool true) ∧ Below w.heap.size w w' := by
  rcases h1 with ⟨rfl, a, c, rfl⟩ | ⟨g, c, rfl, g1, g2, g3⟩
  · obtain ⟨b, c', rfl⟩ := h2.form
    exact numbers_none a b c c' w
  · rcases h2 with ⟨rfl, a, c', rfl⟩ | ⟨h, c', rfl, k1, k2, k3⟩
    · exact numbers_none _ _ _ _ w
    · refine numbers_yes g h ns.length c c' (fun i => ns.getD i 0) w hl g2 k2 (fun i hi => ?_) (fun i hi => ?_)
      · rw [g3 i hi]; simp [List.getD, hi]
      · rw [k3 i hi]; simp [List.getD, hi]
theorem vrow_nv {r n c : Nat} {ns : List Int} {W : World} (hn : ns.length = n) (h : VRow r n (fun i => .int .i64 (nth ns i)) W) : Nv 0 (.slice (some ⟨r, 0, none⟩) n c) ns W := by
  subst hn
  exact Or.inr ⟨r, c, rfl, Nat.zero_le _, h.lt, fun j hj => by rw [h.c j hj]; simp [nth, List.getD, hj]⟩
end Go.Proofs.YtjgaaofpfepfhaaDoor
