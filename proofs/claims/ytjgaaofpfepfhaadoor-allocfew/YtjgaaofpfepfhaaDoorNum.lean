/-
  The law's numbers, of two rows that are alike.
-/
import Derived.Test.YtjgaaofpfepfhaaDoorCls
namespace Go.Proofs.YtjgaaofpfepfhaaDoor
open Go.RowKit
set_option linter.unusedSimpArgs false
set_option linter.unusedVariables false
set_option maxRecDepth 100000 in
set_option maxHeartbeats 6400000 in
theorem numbers_yes (g h : Nat) (n c1 c2 : Nat) (f : Nat → Int) (w : World) (hn : n ≤ 1000) (hg : g < w.heap.size) (hh : h < w.heap.size) (hx : ∀ k, k < n → w.cell? ⟨g, k, none⟩ = some (.int .i64 (f k))) (hy : ∀ k, k < n → w.cell? ⟨h, k, none⟩ = some (.int .i64 (f k))) :
    Calls Tryd.prog 9 #[.slice (some ⟨g, 0, none⟩) n c1, .slice (some ⟨h, 0, none⟩) n c2] w fun e w' => e = .returned (.bool true) ∧ Below w.heap.size w w' := by
  have HX := hide hx
  have HY := hide hy
  clear hx hy
  go_enter Tryd.func9, Tryd.ntmps9
  go_wp2_with fail
  go_loopw [5] (fun s5 wr => ∃ k : Nat, k ≤ n ∧ s5 = .int .i64 (k : Int) ∧ Hid (Below w.heap.size w wr)) (fun s5 _ => n - (intOf s5).toNat)
  case atStart => exact ⟨0, Nat.zero_le _, rfl, Below.refl _ _⟩
  case round =>
    obtain ⟨k, hk, rfl, HB⟩ := hrel
    by_cases hlt : k < n
    · have x := (HB.out.cell (p := ⟨g, k, none⟩) hg).trans (HX.out k hlt)
      have y := (HB.out.cell (p := ⟨h, k, none⟩) hh).trans (HY.out k hlt)
      have h1 : (k : Int) < (n : Int) := by omega
      have h0 : (0 : Int) ≤ (k : Int) := by omega
      have HBD := hide HB.out.drew
      generalize f k = fk at *
      go_wp2_with fail
      go_region
      go_wp2_with fail
      go_roundw
      case rel => exact ⟨k + 1, hlt, by go_num, HBD⟩
      case measure => simp [intOf]; omega
    · have h1 : ¬ (k : Int) < (n : Int) := by omega
      go_wp2_with fail
      go_ret
      exact ⟨rfl, HB.out⟩
end Go.Proofs.YtjgaaofpfepfhaaDoor
