/-
  No cell of these rows narrows 'for every input' (looked for: loops, veiled, ifaces, maps, wideKeys, modest, calm, conditions, laid).
  DERIVED. THE GIVEN ROWS OF THIS SEAT. 3 by the template 'for every input the law returns true; each argument reads behind the call as it read before'; 0 by the template 'total and deterministic' (their statements: YtjgaaofpfepfhaaTotals.lean).
  GIVEN WITH THE SEED: the statements are not yours to turn. If you find one false, say at which input.
  Laid BY PROGRAM, IN A SANDBOX (cutbox-rows.mjs): the forced cells as the released guide's own fill.sh prints them over the translation 6a047c8f888bf30d… (all of the seat's roots in one cut). By AI agents, Wed Nov 11 2026. No macro, syntax, notation, axiom, sorry.
-/
import Derived.Test.YtjgaaofpfepfhaaChecked
import GoSem.Claim
import GoSem.ClaimJoined
import GoSem.ClaimMapViews
import Derived.JoinedTies
import Derived.KernelRfl
namespace Go.Proofs.Ytjgaaofpfepfhaa
/- THE CELL 'sum', in the pinned program and in every row, IS THE sha256 OF THE DUMP (.gsa) THAT YtjgaaofpfepfhaaProg.lean LOADS. Nothing in Lean hashes anything: it is a label: what it is worth is what the hold of that sum in a sandbox is worth. -/
noncomputable def Try.pinned : Pinned := { name := "ytjgaaofpfepfhaa", sum := "6a047c8f888bf30d7e95a86112227530b90fe590ab0fec890cf4d067a455e52b", checked := Try.checked }
namespace Rows
def none {H : Type} : Left H := { results := [], args := [] }

/-- 'oubliettelaw16.LiveTells': WHATEVER THE INPUT: true; the input reads as it did. -/
def liveTellsSpec : ChangeSpec := { name := "liveTells", fn := fun _ => fun
  | [d1, d2] => { results := [.lit (.bool true)], args := [d1, d2] }
  | _ => none }
def liveTellsRow : OpenClaim := { program := "ytjgaaofpfepfhaa", sum := "6a047c8f888bf30d7e95a86112227530b90fe590ab0fec890cf4d067a455e52b", func := "oubliette/oubliettelaw16.LiveTells", spec := "liveTells", unfollowed := true, recurses := true, apart := false }
def LiveTellsSaid : Prop := liveTellsRow.holds Try.pinned (OpenSpec.ofChange liveTellsSpec)

/-- ITS FALSE NEIGHBOUR: 'it returns false'. Refute it at one input. -/
def liveTellsWrong : ChangeSpec := { name := "liveTells", fn := fun _ => fun
  | [d1, d2] => { results := [.lit (.bool false)], args := [d1, d2] }
  | _ => none }
def LiveTellsWrongFalsely : Prop := liveTellsRow.holds Try.pinned (OpenSpec.ofChange liveTellsWrong)

/-- 'oubliettelaw16.LiveClashes': WHATEVER THE INPUT: true; the input reads as it did. -/
def liveClashesSpec : ChangeSpec := { name := "liveClashes", fn := fun _ => fun
  | [d1, d2, d3] => { results := [.lit (.bool true)], args := [d1, d2, d3] }
  | _ => none }
def liveClashesRow : OpenClaim := { program := "ytjgaaofpfepfhaa", sum := "6a047c8f888bf30d7e95a86112227530b90fe590ab0fec890cf4d067a455e52b", func := "oubliette/oubliettelaw16.LiveClashes", spec := "liveClashes", unfollowed := true, recurses := true, apart := false }
def LiveClashesSaid : Prop := liveClashesRow.holds Try.pinned (OpenSpec.ofChange liveClashesSpec)

/-- ITS FALSE NEIGHBOUR: 'it returns false'. Refute it at one input. -/
def liveClashesWrong : ChangeSpec := { name := "liveClashes", fn := fun _ => fun
  | [d1, d2, d3] => { results := [.lit (.bool false)], args := [d1, d2, d3] }
  | _ => none }
def LiveClashesWrongFalsely : Prop := liveClashesRow.holds Try.pinned (OpenSpec.ofChange liveClashesWrong)

/-- 'oubliettelaw16.LiveFlows': WHATEVER THE INPUT: true; the input reads as it did. -/
def liveFlowsSpec : ChangeSpec := { name := "liveFlows", fn := fun _ => fun
  | [d1, d2, d3] => { results := [.lit (.bool true)], args := [d1, d2, d3] }
  | _ => none }
def liveFlowsRow : OpenClaim := { program := "ytjgaaofpfepfhaa", sum := "6a047c8f888bf30d7e95a86112227530b90fe590ab0fec890cf4d067a455e52b", func := "oubliette/oubliettelaw16.LiveFlows", spec := "liveFlows", unfollowed := true, recurses := true, apart := false }
def LiveFlowsSaid : Prop := liveFlowsRow.holds Try.pinned (OpenSpec.ofChange liveFlowsSpec)

/-- ITS FALSE NEIGHBOUR: 'it returns false'. Refute it at one input. -/
def liveFlowsWrong : ChangeSpec := { name := "liveFlows", fn := fun _ => fun
  | [d1, d2, d3] => { results := [.lit (.bool false)], args := [d1, d2, d3] }
  | _ => none }
def LiveFlowsWrongFalsely : Prop := liveFlowsRow.holds Try.pinned (OpenSpec.ofChange liveFlowsWrong)

/- THE SECOND FORM. 'bulk': how many values and letters a reading holds, each counted each time it is reached (what is shared counts as often as it is met; a slice's spare places count too). A statement '..UptoSaid' is the law's where the arguments, and the package variables that the reading takes, are together of bulk at most 1048576: NARROWER than '..Said'. Prove '..Said' where nothing that the law and all that it calls make is longer than what came in: it says more and counts as full. Else prove '..UptoSaid'. A law counts once. -/
mutual
def uptoBulk {H : Type} : DataW H → Nat
  | .lit (.string bytes) => bytes.length + 1
  | .lit _ => 1
  | .nil => 1
  | .ptr d => uptoBulk d + 1
  | .slice elems spare => uptoBulkAll elems + uptoBulkAll spare + 1
  | .agg parts => uptoBulkAll parts + 1
  | .iface _ d => uptoBulk d + 1
  | .map entries => uptoBulkEntries entries + 1
  | .held _ => 1
def uptoBulkAll {H : Type} : List (DataW H) → Nat
  | [] => 0
  | d :: r => uptoBulk d + uptoBulkAll r
def uptoBulkEntries {H : Type} : List (Lit × DataW H) → Nat
  | [] => 0
  | x :: r => uptoBulkEntry x + uptoBulkEntries r
def uptoBulkEntry {H : Type} : Lit × DataW H → Nat
  | (.string bytes, d) => bytes.length + uptoBulk d + 1
  | (_, d) => uptoBulk d + 1
 end
def uptoSmall : (H : Type) → List (DataW H) → Bool := fun _ ds => decide (uptoBulkAll ds ≤ 1048576)
def OpenSpec.upto (s : _root_.Go.ChangeSpec) : _root_.Go.OpenSpec := { _root_.Go.OpenSpec.ofChange s with cond := some uptoSmall }

/-- 'oubliettelaw16.LiveTells', WHERE WHAT IT READS IS OF BULK AT MOST 1048576: true; the input reads as it did. -/
def liveTellsUptoRow : OpenClaim := { program := "ytjgaaofpfepfhaa", sum := "6a047c8f888bf30d7e95a86112227530b90fe590ab0fec890cf4d067a455e52b", func := "oubliette/oubliettelaw16.LiveTells", spec := "liveTells", unfollowed := true, recurses := true, apart := false, narrowed := true }
def LiveTellsUptoSaid : Prop := liveTellsUptoRow.holds Try.pinned (OpenSpec.upto liveTellsSpec)

/-- 'oubliettelaw16.LiveClashes', WHERE WHAT IT READS IS OF BULK AT MOST 1048576: true; the input reads as it did. -/
def liveClashesUptoRow : OpenClaim := { program := "ytjgaaofpfepfhaa", sum := "6a047c8f888bf30d7e95a86112227530b90fe590ab0fec890cf4d067a455e52b", func := "oubliette/oubliettelaw16.LiveClashes", spec := "liveClashes", unfollowed := true, recurses := true, apart := false, narrowed := true }
def LiveClashesUptoSaid : Prop := liveClashesUptoRow.holds Try.pinned (OpenSpec.upto liveClashesSpec)

/-- 'oubliettelaw16.LiveFlows', WHERE WHAT IT READS IS OF BULK AT MOST 1048576: true; the input reads as it did. -/
def liveFlowsUptoRow : OpenClaim := { program := "ytjgaaofpfepfhaa", sum := "6a047c8f888bf30d7e95a86112227530b90fe590ab0fec890cf4d067a455e52b", func := "oubliette/oubliettelaw16.LiveFlows", spec := "liveFlows", unfollowed := true, recurses := true, apart := false, narrowed := true }
def LiveFlowsUptoSaid : Prop := liveFlowsUptoRow.holds Try.pinned (OpenSpec.upto liveFlowsSpec)

end Rows
end Go.Proofs.Ytjgaaofpfepfhaa
