/-
  What the row's list gives; a world that meets it.
-/
import Derived.Test.YtjgaaofpfepfhaaDoorX4
import Derived.Test.YtjgaaofpfepfhaaDoorCards
import Derived.Test.YtjgaaofpfepfhaaDoorTie
import Derived.ShutString
import Derived.LaidLaws
import Derived.LaidHandle
import Derived.Lib.LaidTab
import Derived.MakeChecks
import Derived.Stop.Joined
import Derived.Deep.DeepHandedRow
namespace Go.Proofs.YtjgaaofpfepfhaaDoor
open Go.ChangeShapes Go.WideShapes Go.ChangeAt Go.RowKit
theorem own : ownKnob Tryd.prog.godebug = none := by kernel_rfl
theorem laidOut : laidOutB Tryd.prog = true := by kernel_rfl
theorem gT : Tryd.prog.globalNamed "math/bits.deBruijn64tab" = some 0 := by kernel_rfl
theorem gTType : (Tryd.prog.globals[0]?).map (·.type) = some 91 := by kernel_rfl
theorem cells5 : Tryd.prog.cellsOf 5 = 1 := by kernel_rfl
theorem cells91 : Tryd.prog.cellsOf 91 = 64 := by kernel_rfl
def tblI : List Int := tbl.map fun (n : Nat) => (n : Int)
def laidL : List (String × DataW Unit) := [("math/bits.deBruijn64tab", Rows.laid_math_bits_deBruijn64tab)]
theorem laid_tab : (Rows.laid_math_bits_deBruijn64tab : DataW Unit) = Lib.tabData .u8 tblI := by rfl
theorem tblI_at : ∀ k, k < 64 → tblI.getD k 0 = ((tbl.getD k 0 : Nat) : Int) := by decide
/-- What the row's list gives. -/
theorem laid_of {W : World} (h : laidMetH Tryd.prog laidL W) : Laid W ∧ 0 < W.heap.size := by
  rw [MakeChecks.laidMetH_plain _ _ _ (by kernel_rfl)] at h
  unfold laidL at h
  rw [laid_tab] at h
  have ht := Lib.tabIs_of_head gT gTType Tryd.underlying91 Tryd.underlying5 cells5 cells91 h
  have hL : Laid W := fun k hk => by
    rw [← tblI_at k hk]
    exact ht.cell gT k (by simpa [tblI, tbl] using hk)
  exact ⟨hL, cell_lt (hL 0 (by decide))⟩
/-- A world that meets the list. -/
noncomputable def laidWorld (os : Os) : World :=
  { World.holding Tryd.prog os ⟨#[], #[], []⟩ with heap := (World.holding Tryd.prog os ⟨#[], #[], []⟩).heap.modify 0 fun
      | .cells _ t frozen => .cells (tblI.map fun z => Value.int .u8 z).toArray t frozen
      | o => o }
theorem laid_met (os : Os) (args : Array Value) : laidMetH Tryd.prog laidL ((laidWorld os).forCall (fun _ _ => 0) ⟨#[], args, []⟩).memory := by
  rw [MakeChecks.laidMetH_plain _ _ _ (by kernel_rfl)]
  exact laidMet_of_run' 8 (by kernel_rfl) (by kernel_rfl)
end Go.Proofs.YtjgaaofpfepfhaaDoor
