/-
  No cell of these rows narrows 'for every input' (looked for: loops, veiled, ifaces, maps, wideKeys, modest, calm, conditions, laid).
  DERIVED. THE GIVEN ROWS OF THIS SEAT. 6 by the template 'for every input the law returns true; each argument reads behind the call as it read before'; 0 by the template 'total and deterministic' (their statements: YtddepkiefkngdaaTotals.lean).
  GIVEN WITH THE SEED: the statements are not yours to turn. If you find one false, say at which input.
  Laid BY PROGRAM, IN A SANDBOX (cutbox-rows.mjs): the forced cells as the released guide's own fill.sh prints them over the translation 6fa41bbe0a4aff1e… (all of the seat's roots in one cut). By AI agents, Wed Nov 11 2026. No macro, syntax, notation, axiom, sorry.
-/
import Derived.Test.YtddepkiefkngdaaChecked
import GoSem.Claim
import GoSem.ClaimJoined
import GoSem.ClaimMapViews
import Derived.JoinedTies
import Derived.KernelRfl
namespace Go.Proofs.Ytddepkiefkngdaa
/- THE CELL 'sum', in the pinned program and in every row, IS THE sha256 OF THE DUMP (.gsa) THAT YtddepkiefkngdaaProg.lean LOADS. Nothing in Lean hashes anything: it is a label: what it is worth is what the hold of that sum in a sandbox is worth. -/
noncomputable def Try.pinned : Pinned := { name := "ytddepkiefkngdaa", sum := "6fa41bbe0a4aff1e7f335ad7305cabdcf24625086a0f53e8693715a3e1f25991", checked := Try.checked }
namespace Rows
def none {H : Type} : Left H := { results := [], args := [] }

/-- 'oubliettelaw11.XcodeWrites': WHATEVER THE INPUT: true; the input reads as it did. -/
def xcodeWritesSpec : ChangeSpec := { name := "xcodeWrites", fn := fun _ => fun
  | [d] => { results := [.lit (.bool true)], args := [d] }
  | _ => none }
def xcodeWritesRow : OpenClaim := { program := "ytddepkiefkngdaa", sum := "6fa41bbe0a4aff1e7f335ad7305cabdcf24625086a0f53e8693715a3e1f25991", func := "oubliette/oubliettelaw11.XcodeWrites", spec := "xcodeWrites", apart := false }
def XcodeWritesSaid : Prop := xcodeWritesRow.holds Try.pinned (OpenSpec.ofChange xcodeWritesSpec)

/-- ITS FALSE NEIGHBOUR: 'it returns false'. Refute it at one input. -/
def xcodeWritesWrong : ChangeSpec := { name := "xcodeWrites", fn := fun _ => fun
  | [d] => { results := [.lit (.bool false)], args := [d] }
  | _ => none }
def XcodeWritesWrongFalsely : Prop := xcodeWritesRow.holds Try.pinned (OpenSpec.ofChange xcodeWritesWrong)

/-- 'oubliettelaw11.XcodeReads': WHATEVER THE INPUT: true; the input reads as it did. -/
def xcodeReadsSpec : ChangeSpec := { name := "xcodeReads", fn := fun _ => fun
  | [d] => { results := [.lit (.bool true)], args := [d] }
  | _ => none }
def xcodeReadsRow : OpenClaim := { program := "ytddepkiefkngdaa", sum := "6fa41bbe0a4aff1e7f335ad7305cabdcf24625086a0f53e8693715a3e1f25991", func := "oubliette/oubliettelaw11.XcodeReads", spec := "xcodeReads", apart := false }
def XcodeReadsSaid : Prop := xcodeReadsRow.holds Try.pinned (OpenSpec.ofChange xcodeReadsSpec)

/-- ITS FALSE NEIGHBOUR: 'it returns false'. Refute it at one input. -/
def xcodeReadsWrong : ChangeSpec := { name := "xcodeReads", fn := fun _ => fun
  | [d] => { results := [.lit (.bool false)], args := [d] }
  | _ => none }
def XcodeReadsWrongFalsely : Prop := xcodeReadsRow.holds Try.pinned (OpenSpec.ofChange xcodeReadsWrong)

/-- 'oubliettelaw11.XcodeAll': WHATEVER THE INPUT: true; the input reads as it did. -/
def xcodeAllSpec : ChangeSpec := { name := "xcodeAll", fn := fun _ => fun
  | [d] => { results := [.lit (.bool true)], args := [d] }
  | _ => none }
def xcodeAllRow : OpenClaim := { program := "ytddepkiefkngdaa", sum := "6fa41bbe0a4aff1e7f335ad7305cabdcf24625086a0f53e8693715a3e1f25991", func := "oubliette/oubliettelaw11.XcodeAll", spec := "xcodeAll", apart := false }
def XcodeAllSaid : Prop := xcodeAllRow.holds Try.pinned (OpenSpec.ofChange xcodeAllSpec)

/-- ITS FALSE NEIGHBOUR: 'it returns false'. Refute it at one input. -/
def xcodeAllWrong : ChangeSpec := { name := "xcodeAll", fn := fun _ => fun
  | [d] => { results := [.lit (.bool false)], args := [d] }
  | _ => none }
def XcodeAllWrongFalsely : Prop := xcodeAllRow.holds Try.pinned (OpenSpec.ofChange xcodeAllWrong)

/-- 'oubliettelaw11.XcodeBack': WHATEVER THE INPUT: true; the input reads as it did. -/
def xcodeBackSpec : ChangeSpec := { name := "xcodeBack", fn := fun _ => fun
  | [d1, d2, d3] => { results := [.lit (.bool true)], args := [d1, d2, d3] }
  | _ => none }
def xcodeBackRow : OpenClaim := { program := "ytddepkiefkngdaa", sum := "6fa41bbe0a4aff1e7f335ad7305cabdcf24625086a0f53e8693715a3e1f25991", func := "oubliette/oubliettelaw11.XcodeBack", spec := "xcodeBack", apart := false }
def XcodeBackSaid : Prop := xcodeBackRow.holds Try.pinned (OpenSpec.ofChange xcodeBackSpec)

/-- ITS FALSE NEIGHBOUR: 'it returns false'. Refute it at one input. -/
def xcodeBackWrong : ChangeSpec := { name := "xcodeBack", fn := fun _ => fun
  | [d1, d2, d3] => { results := [.lit (.bool false)], args := [d1, d2, d3] }
  | _ => none }
def XcodeBackWrongFalsely : Prop := xcodeBackRow.holds Try.pinned (OpenSpec.ofChange xcodeBackWrong)

/-- 'oubliettelaw11.XcodeApart': WHATEVER THE INPUT: true; the input reads as it did. -/
def xcodeApartSpec : ChangeSpec := { name := "xcodeApart", fn := fun _ => fun
  | [d1, d2, d3] => { results := [.lit (.bool true)], args := [d1, d2, d3] }
  | _ => none }
def xcodeApartRow : OpenClaim := { program := "ytddepkiefkngdaa", sum := "6fa41bbe0a4aff1e7f335ad7305cabdcf24625086a0f53e8693715a3e1f25991", func := "oubliette/oubliettelaw11.XcodeApart", spec := "xcodeApart", apart := false }
def XcodeApartSaid : Prop := xcodeApartRow.holds Try.pinned (OpenSpec.ofChange xcodeApartSpec)

/-- ITS FALSE NEIGHBOUR: 'it returns false'. Refute it at one input. -/
def xcodeApartWrong : ChangeSpec := { name := "xcodeApart", fn := fun _ => fun
  | [d1, d2, d3] => { results := [.lit (.bool false)], args := [d1, d2, d3] }
  | _ => none }
def XcodeApartWrongFalsely : Prop := xcodeApartRow.holds Try.pinned (OpenSpec.ofChange xcodeApartWrong)

/-- 'oubliettelaw11.XcodeFields': WHATEVER THE INPUT: true; the input reads as it did. -/
def xcodeFieldsSpec : ChangeSpec := { name := "xcodeFields", fn := fun _ => fun
  | [d1, d2] => { results := [.lit (.bool true)], args := [d1, d2] }
  | _ => none }
def xcodeFieldsRow : OpenClaim := { program := "ytddepkiefkngdaa", sum := "6fa41bbe0a4aff1e7f335ad7305cabdcf24625086a0f53e8693715a3e1f25991", func := "oubliette/oubliettelaw11.XcodeFields", spec := "xcodeFields", apart := false }
def XcodeFieldsSaid : Prop := xcodeFieldsRow.holds Try.pinned (OpenSpec.ofChange xcodeFieldsSpec)

/-- ITS FALSE NEIGHBOUR: 'it returns false'. Refute it at one input. -/
def xcodeFieldsWrong : ChangeSpec := { name := "xcodeFields", fn := fun _ => fun
  | [d1, d2] => { results := [.lit (.bool false)], args := [d1, d2] }
  | _ => none }
def XcodeFieldsWrongFalsely : Prop := xcodeFieldsRow.holds Try.pinned (OpenSpec.ofChange xcodeFieldsWrong)

/- THE SECOND FORM. 'bulk': how many values and letters a reading holds, each counted each time it is reached (what is shared counts as often as it is met; a slice's spare places count too). A statement '..UptoSaid' is the law's where the arguments, and the package variables that the reading takes, are together of bulk at most 1048576: NARROWER than '..Said'. Prove '..Said' where nothing that the law and all that it calls make is longer than what came in: it says more and counts as full. Else prove '..UptoSaid'. A law counts once. -/
mutual
def uptoBulk {H : Type} : DataW H → Nat
  | .lit (.string bytes) => bytes.length + 1
  | .lit _ => 1
  | .nil => 1
  | .ptr d => uptoBulk d + 1
  | .slice elems spare => uptoBulkAll elems + uptoBulkAll spare + 1
  | .agg parts => uptoBulkAll parts + 1
  | .iface _ d => uptoBulk d + 1
  | .map entries => uptoBulkEntries entries + 1
  | .held _ => 1
def uptoBulkAll {H : Type} : List (DataW H) → Nat
  | [] => 0
  | d :: r => uptoBulk d + uptoBulkAll r
def uptoBulkEntries {H : Type} : List (Lit × DataW H) → Nat
  | [] => 0
  | x :: r => uptoBulkEntry x + uptoBulkEntries r
def uptoBulkEntry {H : Type} : Lit × DataW H → Nat
  | (.string bytes, d) => bytes.length + uptoBulk d + 1
  | (_, d) => uptoBulk d + 1
 end
def uptoSmall : (H : Type) → List (DataW H) → Bool := fun _ ds => decide (uptoBulkAll ds ≤ 1048576)
def OpenSpec.upto (s : _root_.Go.ChangeSpec) : _root_.Go.OpenSpec := { _root_.Go.OpenSpec.ofChange s with cond := some uptoSmall }

/-- 'oubliettelaw11.XcodeWrites', WHERE WHAT IT READS IS OF BULK AT MOST 1048576: true; the input reads as it did. -/
def xcodeWritesUptoRow : OpenClaim := { program := "ytddepkiefkngdaa", sum := "6fa41bbe0a4aff1e7f335ad7305cabdcf24625086a0f53e8693715a3e1f25991", func := "oubliette/oubliettelaw11.XcodeWrites", spec := "xcodeWrites", apart := false, narrowed := true }
def XcodeWritesUptoSaid : Prop := xcodeWritesUptoRow.holds Try.pinned (OpenSpec.upto xcodeWritesSpec)

/-- 'oubliettelaw11.XcodeReads', WHERE WHAT IT READS IS OF BULK AT MOST 1048576: true; the input reads as it did. -/
def xcodeReadsUptoRow : OpenClaim := { program := "ytddepkiefkngdaa", sum := "6fa41bbe0a4aff1e7f335ad7305cabdcf24625086a0f53e8693715a3e1f25991", func := "oubliette/oubliettelaw11.XcodeReads", spec := "xcodeReads", apart := false, narrowed := true }
def XcodeReadsUptoSaid : Prop := xcodeReadsUptoRow.holds Try.pinned (OpenSpec.upto xcodeReadsSpec)

/-- 'oubliettelaw11.XcodeAll', WHERE WHAT IT READS IS OF BULK AT MOST 1048576: true; the input reads as it did. -/
def xcodeAllUptoRow : OpenClaim := { program := "ytddepkiefkngdaa", sum := "6fa41bbe0a4aff1e7f335ad7305cabdcf24625086a0f53e8693715a3e1f25991", func := "oubliette/oubliettelaw11.XcodeAll", spec := "xcodeAll", apart := false, narrowed := true }
def XcodeAllUptoSaid : Prop := xcodeAllUptoRow.holds Try.pinned (OpenSpec.upto xcodeAllSpec)

/-- 'oubliettelaw11.XcodeBack', WHERE WHAT IT READS IS OF BULK AT MOST 1048576: true; the input reads as it did. -/
def xcodeBackUptoRow : OpenClaim := { program := "ytddepkiefkngdaa", sum := "6fa41bbe0a4aff1e7f335ad7305cabdcf24625086a0f53e8693715a3e1f25991", func := "oubliette/oubliettelaw11.XcodeBack", spec := "xcodeBack", apart := false, narrowed := true }
def XcodeBackUptoSaid : Prop := xcodeBackUptoRow.holds Try.pinned (OpenSpec.upto xcodeBackSpec)

/-- 'oubliettelaw11.XcodeApart', WHERE WHAT IT READS IS OF BULK AT MOST 1048576: true; the input reads as it did. -/
def xcodeApartUptoRow : OpenClaim := { program := "ytddepkiefkngdaa", sum := "6fa41bbe0a4aff1e7f335ad7305cabdcf24625086a0f53e8693715a3e1f25991", func := "oubliette/oubliettelaw11.XcodeApart", spec := "xcodeApart", apart := false, narrowed := true }
def XcodeApartUptoSaid : Prop := xcodeApartUptoRow.holds Try.pinned (OpenSpec.upto xcodeApartSpec)

/-- 'oubliettelaw11.XcodeFields', WHERE WHAT IT READS IS OF BULK AT MOST 1048576: true; the input reads as it did. -/
def xcodeFieldsUptoRow : OpenClaim := { program := "ytddepkiefkngdaa", sum := "6fa41bbe0a4aff1e7f335ad7305cabdcf24625086a0f53e8693715a3e1f25991", func := "oubliette/oubliettelaw11.XcodeFields", spec := "xcodeFields", apart := false, narrowed := true }
def XcodeFieldsUptoSaid : Prop := xcodeFieldsUptoRow.holds Try.pinned (OpenSpec.upto xcodeFieldsSpec)

end Rows
end Go.Proofs.Ytddepkiefkngdaa
