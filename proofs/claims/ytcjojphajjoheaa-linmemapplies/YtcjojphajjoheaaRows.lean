/-
  No cell of these rows narrows 'for every input' (looked for: loops, veiled, ifaces, maps, wideKeys, modest, calm, conditions, laid).
  DERIVED. THE GIVEN ROWS OF THIS SEAT. 6 by the template 'for every input the law returns true; each argument reads behind the call as it read before'; 0 by the template 'total and deterministic' (their statements: YtcjojphajjoheaaTotals.lean).
  GIVEN WITH THE SEED: the statements are not yours to turn. If you find one false, say at which input.
  Laid BY PROGRAM, IN A SANDBOX (cutbox-rows.mjs): the forced cells as the released guide's own fill.sh prints them over the translation f25374edad2175b8… (all of the seat's roots in one cut). By AI agents, Wed Nov 11 2026. No macro, syntax, notation, axiom, sorry.
-/
import Derived.Test.YtcjojphajjoheaaChecked
import GoSem.Claim
import GoSem.ClaimJoined
import GoSem.ClaimMapViews
import Derived.JoinedTies
import Derived.KernelRfl
namespace Go.Proofs.Ytcjojphajjoheaa
/- THE CELL 'sum', in the pinned program and in every row, IS THE sha256 OF THE DUMP (.gsa) THAT YtcjojphajjoheaaProg.lean LOADS. Nothing in Lean hashes anything: it is a label: what it is worth is what the hold of that sum in a sandbox is worth. -/
noncomputable def Try.pinned : Pinned := { name := "ytcjojphajjoheaa", sum := "f25374edad2175b89dcdf5c8410b21412837ff785e2bfcd7e22de1bf2fe6d412", checked := Try.checked }
namespace Rows
def none {H : Type} : Left H := { results := [], args := [] }

/-- 'oubliettelaw08.LinmemWorks': WHATEVER THE INPUT: true; the input reads as it did. -/
def linmemWorksSpec : ChangeSpec := { name := "linmemWorks", fn := fun _ => fun
  | [d1, d2, d3, d4, d5, d6, d7] => { results := [.lit (.bool true)], args := [d1, d2, d3, d4, d5, d6, d7] }
  | _ => none }
def linmemWorksRow : OpenClaim := { program := "ytcjojphajjoheaa", sum := "f25374edad2175b89dcdf5c8410b21412837ff785e2bfcd7e22de1bf2fe6d412", func := "oubliette/oubliettelaw08.LinmemWorks", spec := "linmemWorks", apart := false }
def LinmemWorksSaid : Prop := linmemWorksRow.holds Try.pinned (OpenSpec.ofChange linmemWorksSpec)

/-- ITS FALSE NEIGHBOUR: 'it returns false'. Refute it at one input. -/
def linmemWorksWrong : ChangeSpec := { name := "linmemWorks", fn := fun _ => fun
  | [d1, d2, d3, d4, d5, d6, d7] => { results := [.lit (.bool false)], args := [d1, d2, d3, d4, d5, d6, d7] }
  | _ => none }
def LinmemWorksWrongFalsely : Prop := linmemWorksRow.holds Try.pinned (OpenSpec.ofChange linmemWorksWrong)

/-- 'oubliettelaw08.LinmemApplies': WHATEVER THE INPUT: true; the input reads as it did. -/
def linmemAppliesSpec : ChangeSpec := { name := "linmemApplies", fn := fun _ => fun
  | [d1, d2, d3] => { results := [.lit (.bool true)], args := [d1, d2, d3] }
  | _ => none }
def linmemAppliesRow : OpenClaim := { program := "ytcjojphajjoheaa", sum := "f25374edad2175b89dcdf5c8410b21412837ff785e2bfcd7e22de1bf2fe6d412", func := "oubliette/oubliettelaw08.LinmemApplies", spec := "linmemApplies", apart := false }
def LinmemAppliesSaid : Prop := linmemAppliesRow.holds Try.pinned (OpenSpec.ofChange linmemAppliesSpec)

/-- ITS FALSE NEIGHBOUR: 'it returns false'. Refute it at one input. -/
def linmemAppliesWrong : ChangeSpec := { name := "linmemApplies", fn := fun _ => fun
  | [d1, d2, d3] => { results := [.lit (.bool false)], args := [d1, d2, d3] }
  | _ => none }
def LinmemAppliesWrongFalsely : Prop := linmemAppliesRow.holds Try.pinned (OpenSpec.ofChange linmemAppliesWrong)

/-- 'oubliettelaw08.LinmemBack': WHATEVER THE INPUT: true; the input reads as it did. -/
def linmemBackSpec : ChangeSpec := { name := "linmemBack", fn := fun _ => fun
  | [d1, d2, d3, d4, d5] => { results := [.lit (.bool true)], args := [d1, d2, d3, d4, d5] }
  | _ => none }
def linmemBackRow : OpenClaim := { program := "ytcjojphajjoheaa", sum := "f25374edad2175b89dcdf5c8410b21412837ff785e2bfcd7e22de1bf2fe6d412", func := "oubliette/oubliettelaw08.LinmemBack", spec := "linmemBack", apart := false }
def LinmemBackSaid : Prop := linmemBackRow.holds Try.pinned (OpenSpec.ofChange linmemBackSpec)

/-- ITS FALSE NEIGHBOUR: 'it returns false'. Refute it at one input. -/
def linmemBackWrong : ChangeSpec := { name := "linmemBack", fn := fun _ => fun
  | [d1, d2, d3, d4, d5] => { results := [.lit (.bool false)], args := [d1, d2, d3, d4, d5] }
  | _ => none }
def LinmemBackWrongFalsely : Prop := linmemBackRow.holds Try.pinned (OpenSpec.ofChange linmemBackWrong)

/-- 'oubliettelaw08.LinmemHalves': WHATEVER THE INPUT: true; the input reads as it did. -/
def linmemHalvesSpec : ChangeSpec := { name := "linmemHalves", fn := fun _ => fun
  | [d1, d2] => { results := [.lit (.bool true)], args := [d1, d2] }
  | _ => none }
def linmemHalvesRow : OpenClaim := { program := "ytcjojphajjoheaa", sum := "f25374edad2175b89dcdf5c8410b21412837ff785e2bfcd7e22de1bf2fe6d412", func := "oubliette/oubliettelaw08.LinmemHalves", spec := "linmemHalves", apart := false }
def LinmemHalvesSaid : Prop := linmemHalvesRow.holds Try.pinned (OpenSpec.ofChange linmemHalvesSpec)

/-- ITS FALSE NEIGHBOUR: 'it returns false'. Refute it at one input. -/
def linmemHalvesWrong : ChangeSpec := { name := "linmemHalves", fn := fun _ => fun
  | [d1, d2] => { results := [.lit (.bool false)], args := [d1, d2] }
  | _ => none }
def LinmemHalvesWrongFalsely : Prop := linmemHalvesRow.holds Try.pinned (OpenSpec.ofChange linmemHalvesWrong)

/-- 'oubliettelaw08.LinmemWrites': WHATEVER THE INPUT: true; the input reads as it did. -/
def linmemWritesSpec : ChangeSpec := { name := "linmemWrites", fn := fun _ => fun
  | [d1, d2] => { results := [.lit (.bool true)], args := [d1, d2] }
  | _ => none }
def linmemWritesRow : OpenClaim := { program := "ytcjojphajjoheaa", sum := "f25374edad2175b89dcdf5c8410b21412837ff785e2bfcd7e22de1bf2fe6d412", func := "oubliette/oubliettelaw08.LinmemWrites", spec := "linmemWrites", apart := false }
def LinmemWritesSaid : Prop := linmemWritesRow.holds Try.pinned (OpenSpec.ofChange linmemWritesSpec)

/-- ITS FALSE NEIGHBOUR: 'it returns false'. Refute it at one input. -/
def linmemWritesWrong : ChangeSpec := { name := "linmemWrites", fn := fun _ => fun
  | [d1, d2] => { results := [.lit (.bool false)], args := [d1, d2] }
  | _ => none }
def LinmemWritesWrongFalsely : Prop := linmemWritesRow.holds Try.pinned (OpenSpec.ofChange linmemWritesWrong)

/-- 'oubliettelaw08.LinmemData': WHATEVER THE INPUT: true; the input reads as it did. -/
def linmemDataSpec : ChangeSpec := { name := "linmemData", fn := fun _ => fun
  | [d1, d2, d3] => { results := [.lit (.bool true)], args := [d1, d2, d3] }
  | _ => none }
def linmemDataRow : OpenClaim := { program := "ytcjojphajjoheaa", sum := "f25374edad2175b89dcdf5c8410b21412837ff785e2bfcd7e22de1bf2fe6d412", func := "oubliette/oubliettelaw08.LinmemData", spec := "linmemData", apart := false }
def LinmemDataSaid : Prop := linmemDataRow.holds Try.pinned (OpenSpec.ofChange linmemDataSpec)

/-- ITS FALSE NEIGHBOUR: 'it returns false'. Refute it at one input. -/
def linmemDataWrong : ChangeSpec := { name := "linmemData", fn := fun _ => fun
  | [d1, d2, d3] => { results := [.lit (.bool false)], args := [d1, d2, d3] }
  | _ => none }
def LinmemDataWrongFalsely : Prop := linmemDataRow.holds Try.pinned (OpenSpec.ofChange linmemDataWrong)

/- THE SECOND FORM. 'bulk': how many values and letters a reading holds, each counted each time it is reached (what is shared counts as often as it is met; a slice's spare places count too). A statement '..UptoSaid' is the law's where the arguments, and the package variables that the reading takes, are together of bulk at most 1048576: NARROWER than '..Said'. Prove '..Said' where nothing that the law and all that it calls make is longer than what came in: it says more and counts as full. Else prove '..UptoSaid'. A law counts once. -/
mutual
def uptoBulk {H : Type} : DataW H → Nat
  | .lit (.string bytes) => bytes.length + 1
  | .lit _ => 1
  | .nil => 1
  | .ptr d => uptoBulk d + 1
  | .slice elems spare => uptoBulkAll elems + uptoBulkAll spare + 1
  | .agg parts => uptoBulkAll parts + 1
  | .iface _ d => uptoBulk d + 1
  | .map entries => uptoBulkEntries entries + 1
  | .held _ => 1
def uptoBulkAll {H : Type} : List (DataW H) → Nat
  | [] => 0
  | d :: r => uptoBulk d + uptoBulkAll r
def uptoBulkEntries {H : Type} : List (Lit × DataW H) → Nat
  | [] => 0
  | x :: r => uptoBulkEntry x + uptoBulkEntries r
def uptoBulkEntry {H : Type} : Lit × DataW H → Nat
  | (.string bytes, d) => bytes.length + uptoBulk d + 1
  | (_, d) => uptoBulk d + 1
 end
def uptoSmall : (H : Type) → List (DataW H) → Bool := fun _ ds => decide (uptoBulkAll ds ≤ 1048576)
def OpenSpec.upto (s : _root_.Go.ChangeSpec) : _root_.Go.OpenSpec := { _root_.Go.OpenSpec.ofChange s with cond := some uptoSmall }

/-- 'oubliettelaw08.LinmemWorks', WHERE WHAT IT READS IS OF BULK AT MOST 1048576: true; the input reads as it did. -/
def linmemWorksUptoRow : OpenClaim := { program := "ytcjojphajjoheaa", sum := "f25374edad2175b89dcdf5c8410b21412837ff785e2bfcd7e22de1bf2fe6d412", func := "oubliette/oubliettelaw08.LinmemWorks", spec := "linmemWorks", apart := false, narrowed := true }
def LinmemWorksUptoSaid : Prop := linmemWorksUptoRow.holds Try.pinned (OpenSpec.upto linmemWorksSpec)

/-- 'oubliettelaw08.LinmemApplies', WHERE WHAT IT READS IS OF BULK AT MOST 1048576: true; the input reads as it did. -/
def linmemAppliesUptoRow : OpenClaim := { program := "ytcjojphajjoheaa", sum := "f25374edad2175b89dcdf5c8410b21412837ff785e2bfcd7e22de1bf2fe6d412", func := "oubliette/oubliettelaw08.LinmemApplies", spec := "linmemApplies", apart := false, narrowed := true }
def LinmemAppliesUptoSaid : Prop := linmemAppliesUptoRow.holds Try.pinned (OpenSpec.upto linmemAppliesSpec)

/-- 'oubliettelaw08.LinmemBack', WHERE WHAT IT READS IS OF BULK AT MOST 1048576: true; the input reads as it did. -/
def linmemBackUptoRow : OpenClaim := { program := "ytcjojphajjoheaa", sum := "f25374edad2175b89dcdf5c8410b21412837ff785e2bfcd7e22de1bf2fe6d412", func := "oubliette/oubliettelaw08.LinmemBack", spec := "linmemBack", apart := false, narrowed := true }
def LinmemBackUptoSaid : Prop := linmemBackUptoRow.holds Try.pinned (OpenSpec.upto linmemBackSpec)

/-- 'oubliettelaw08.LinmemHalves', WHERE WHAT IT READS IS OF BULK AT MOST 1048576: true; the input reads as it did. -/
def linmemHalvesUptoRow : OpenClaim := { program := "ytcjojphajjoheaa", sum := "f25374edad2175b89dcdf5c8410b21412837ff785e2bfcd7e22de1bf2fe6d412", func := "oubliette/oubliettelaw08.LinmemHalves", spec := "linmemHalves", apart := false, narrowed := true }
def LinmemHalvesUptoSaid : Prop := linmemHalvesUptoRow.holds Try.pinned (OpenSpec.upto linmemHalvesSpec)

/-- 'oubliettelaw08.LinmemWrites', WHERE WHAT IT READS IS OF BULK AT MOST 1048576: true; the input reads as it did. -/
def linmemWritesUptoRow : OpenClaim := { program := "ytcjojphajjoheaa", sum := "f25374edad2175b89dcdf5c8410b21412837ff785e2bfcd7e22de1bf2fe6d412", func := "oubliette/oubliettelaw08.LinmemWrites", spec := "linmemWrites", apart := false, narrowed := true }
def LinmemWritesUptoSaid : Prop := linmemWritesUptoRow.holds Try.pinned (OpenSpec.upto linmemWritesSpec)

/-- 'oubliettelaw08.LinmemData', WHERE WHAT IT READS IS OF BULK AT MOST 1048576: true; the input reads as it did. -/
def linmemDataUptoRow : OpenClaim := { program := "ytcjojphajjoheaa", sum := "f25374edad2175b89dcdf5c8410b21412837ff785e2bfcd7e22de1bf2fe6d412", func := "oubliette/oubliettelaw08.LinmemData", spec := "linmemData", apart := false, narrowed := true }
def LinmemDataUptoSaid : Prop := linmemDataUptoRow.holds Try.pinned (OpenSpec.upto linmemDataSpec)

end Rows
end Go.Proofs.Ytcjojphajjoheaa
