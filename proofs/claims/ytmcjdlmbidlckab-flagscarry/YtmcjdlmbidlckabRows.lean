/-
  No cell of these rows narrows 'for every input' (looked for: loops, veiled, ifaces, maps, wideKeys, modest, calm, conditions, laid).
  DERIVED. THE GIVEN ROWS OF THIS SEAT. 3 by the template 'for every input the law returns true; each argument reads behind the call as it read before'; 0 by the template 'total and deterministic' (their statements: YtmcjdlmbidlckabTotals.lean).
  GIVEN WITH THE SEED: the statements are not yours to turn. If you find one false, say at which input.
  Laid BY PROGRAM, IN A SANDBOX (cutbox-rows.mjs): the forced cells as the released guide's own fill.sh prints them over the translation 53a4612b8da6f741… (all of the seat's roots in one cut). By AI agents, Wed Nov 11 2026. No macro, syntax, notation, axiom, sorry.
-/
import Derived.Test.YtmcjdlmbidlckabChecked
import GoSem.Claim
import GoSem.ClaimJoined
import GoSem.ClaimMapViews
import Derived.JoinedTies
import Derived.KernelRfl
namespace Go.Proofs.Ytmcjdlmbidlckab
/- THE CELL 'sum', in the pinned program and in every row, IS THE sha256 OF THE DUMP (.gsa) THAT YtmcjdlmbidlckabProg.lean LOADS. Nothing in Lean hashes anything: it is a label: what it is worth is what the hold of that sum in a sandbox is worth. -/
noncomputable def Try.pinned : Pinned := { name := "ytmcjdlmbidlckab", sum := "53a4612b8da6f74189b90ed7fcc40e944a171a1b1bb67adb5da18f911410de13", checked := Try.checked }
namespace Rows
def none {H : Type} : Left H := { results := [], args := [] }

/-- 'oubliettelaw10.FlagsDivides': WHATEVER THE INPUT: true; the input reads as it did. -/
def flagsDividesSpec : ChangeSpec := { name := "flagsDivides", fn := fun _ => fun
  | [d1, d2, d3] => { results := [.lit (.bool true)], args := [d1, d2, d3] }
  | _ => none }
def flagsDividesRow : OpenClaim := { program := "ytmcjdlmbidlckab", sum := "53a4612b8da6f74189b90ed7fcc40e944a171a1b1bb67adb5da18f911410de13", func := "oubliette/oubliettelaw10.FlagsDivides", spec := "flagsDivides", named := ["math/bits.overflowError", "math/bits.divideError"], apart := false }
def FlagsDividesSaid : Prop := flagsDividesRow.holds Try.pinned (OpenSpec.ofChange flagsDividesSpec)

/-- ITS FALSE NEIGHBOUR: 'it returns false'. Refute it at one input. -/
def flagsDividesWrong : ChangeSpec := { name := "flagsDivides", fn := fun _ => fun
  | [d1, d2, d3] => { results := [.lit (.bool false)], args := [d1, d2, d3] }
  | _ => none }
def FlagsDividesWrongFalsely : Prop := flagsDividesRow.holds Try.pinned (OpenSpec.ofChange flagsDividesWrong)

/-- 'oubliettelaw10.FlagsTurns': WHATEVER THE INPUT: true; the input reads as it did. -/
def flagsTurnsSpec : ChangeSpec := { name := "flagsTurns", fn := fun _ => fun
  | [d1, d2, d3] => { results := [.lit (.bool true)], args := [d1, d2, d3] }
  | _ => none }
def flagsTurnsRow : OpenClaim := { program := "ytmcjdlmbidlckab", sum := "53a4612b8da6f74189b90ed7fcc40e944a171a1b1bb67adb5da18f911410de13", func := "oubliette/oubliettelaw10.FlagsTurns", spec := "flagsTurns", named := ["math/bits.overflowError", "math/bits.divideError"], apart := false }
def FlagsTurnsSaid : Prop := flagsTurnsRow.holds Try.pinned (OpenSpec.ofChange flagsTurnsSpec)

/-- ITS FALSE NEIGHBOUR: 'it returns false'. Refute it at one input. -/
def flagsTurnsWrong : ChangeSpec := { name := "flagsTurns", fn := fun _ => fun
  | [d1, d2, d3] => { results := [.lit (.bool false)], args := [d1, d2, d3] }
  | _ => none }
def FlagsTurnsWrongFalsely : Prop := flagsTurnsRow.holds Try.pinned (OpenSpec.ofChange flagsTurnsWrong)

/-- 'oubliettelaw10.FlagsCarry': WHATEVER THE INPUT: true; the input reads as it did. -/
def flagsCarrySpec : ChangeSpec := { name := "flagsCarry", fn := fun _ => fun
  | [d1, d2, d3] => { results := [.lit (.bool true)], args := [d1, d2, d3] }
  | _ => none }
def flagsCarryRow : OpenClaim := { program := "ytmcjdlmbidlckab", sum := "53a4612b8da6f74189b90ed7fcc40e944a171a1b1bb67adb5da18f911410de13", func := "oubliette/oubliettelaw10.FlagsCarry", spec := "flagsCarry", named := ["math/bits.overflowError", "math/bits.divideError"], apart := false }
def FlagsCarrySaid : Prop := flagsCarryRow.holds Try.pinned (OpenSpec.ofChange flagsCarrySpec)

/-- ITS FALSE NEIGHBOUR: 'it returns false'. Refute it at one input. -/
def flagsCarryWrong : ChangeSpec := { name := "flagsCarry", fn := fun _ => fun
  | [d1, d2, d3] => { results := [.lit (.bool false)], args := [d1, d2, d3] }
  | _ => none }
def FlagsCarryWrongFalsely : Prop := flagsCarryRow.holds Try.pinned (OpenSpec.ofChange flagsCarryWrong)

/- THE SECOND FORM. 'bulk': how many values and letters a reading holds, each counted each time it is reached (what is shared counts as often as it is met; a slice's spare places count too). A statement '..UptoSaid' is the law's where the arguments, and the package variables that the reading takes, are together of bulk at most 1048576: NARROWER than '..Said'. Prove '..Said' where nothing that the law and all that it calls make is longer than what came in: it says more and counts as full. Else prove '..UptoSaid'. A law counts once. -/
mutual
def uptoBulk {H : Type} : DataW H → Nat
  | .lit (.string bytes) => bytes.length + 1
  | .lit _ => 1
  | .nil => 1
  | .ptr d => uptoBulk d + 1
  | .slice elems spare => uptoBulkAll elems + uptoBulkAll spare + 1
  | .agg parts => uptoBulkAll parts + 1
  | .iface _ d => uptoBulk d + 1
  | .map entries => uptoBulkEntries entries + 1
  | .held _ => 1
def uptoBulkAll {H : Type} : List (DataW H) → Nat
  | [] => 0
  | d :: r => uptoBulk d + uptoBulkAll r
def uptoBulkEntries {H : Type} : List (Lit × DataW H) → Nat
  | [] => 0
  | x :: r => uptoBulkEntry x + uptoBulkEntries r
def uptoBulkEntry {H : Type} : Lit × DataW H → Nat
  | (.string bytes, d) => bytes.length + uptoBulk d + 1
  | (_, d) => uptoBulk d + 1
 end
def uptoSmall : (H : Type) → List (DataW H) → Bool := fun _ ds => decide (uptoBulkAll ds ≤ 1048576)
def OpenSpec.upto (s : _root_.Go.ChangeSpec) : _root_.Go.OpenSpec := { _root_.Go.OpenSpec.ofChange s with cond := some uptoSmall }

/-- 'oubliettelaw10.FlagsDivides', WHERE WHAT IT READS IS OF BULK AT MOST 1048576: true; the input reads as it did. -/
def flagsDividesUptoRow : OpenClaim := { program := "ytmcjdlmbidlckab", sum := "53a4612b8da6f74189b90ed7fcc40e944a171a1b1bb67adb5da18f911410de13", func := "oubliette/oubliettelaw10.FlagsDivides", spec := "flagsDivides", named := ["math/bits.overflowError", "math/bits.divideError"], apart := false, narrowed := true }
def FlagsDividesUptoSaid : Prop := flagsDividesUptoRow.holds Try.pinned (OpenSpec.upto flagsDividesSpec)

/-- 'oubliettelaw10.FlagsTurns', WHERE WHAT IT READS IS OF BULK AT MOST 1048576: true; the input reads as it did. -/
def flagsTurnsUptoRow : OpenClaim := { program := "ytmcjdlmbidlckab", sum := "53a4612b8da6f74189b90ed7fcc40e944a171a1b1bb67adb5da18f911410de13", func := "oubliette/oubliettelaw10.FlagsTurns", spec := "flagsTurns", named := ["math/bits.overflowError", "math/bits.divideError"], apart := false, narrowed := true }
def FlagsTurnsUptoSaid : Prop := flagsTurnsUptoRow.holds Try.pinned (OpenSpec.upto flagsTurnsSpec)

/-- 'oubliettelaw10.FlagsCarry', WHERE WHAT IT READS IS OF BULK AT MOST 1048576: true; the input reads as it did. -/
def flagsCarryUptoRow : OpenClaim := { program := "ytmcjdlmbidlckab", sum := "53a4612b8da6f74189b90ed7fcc40e944a171a1b1bb67adb5da18f911410de13", func := "oubliette/oubliettelaw10.FlagsCarry", spec := "flagsCarry", named := ["math/bits.overflowError", "math/bits.divideError"], apart := false, narrowed := true }
def FlagsCarryUptoSaid : Prop := flagsCarryUptoRow.holds Try.pinned (OpenSpec.upto flagsCarrySpec)

end Rows
end Go.Proofs.Ytmcjdlmbidlckab
