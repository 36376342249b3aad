/-
  No cell of these rows narrows 'for every input' (looked for: loops, veiled, ifaces, maps, wideKeys, modest, calm, conditions, laid).
  DERIVED. THE GIVEN ROWS OF THIS SEAT. 6 by the template 'for every input the law returns true; each argument reads behind the call as it read before'; 0 by the template 'total and deterministic' (their statements: YtielpebokbolbaaTotals.lean).
  GIVEN WITH THE SEED: the statements are not yours to turn. If you find one false, say at which input.
  Laid BY PROGRAM, IN A SANDBOX (cutbox-rows.mjs): the forced cells as the released guide's own fill.sh prints them over the translation 8334649ab36c477a… (all of the seat's roots in one cut). By AI agents, Wed Nov 11 2026. No macro, syntax, notation, axiom, sorry.
-/
import Derived.Test.YtielpebokbolbaaChecked
import GoSem.Claim
import GoSem.ClaimJoined
import GoSem.ClaimMapViews
import Derived.JoinedTies
import Derived.KernelRfl
namespace Go.Proofs.Ytielpebokbolbaa
/- THE CELL 'sum', in the pinned program and in every row, IS THE sha256 OF THE DUMP (.gsa) THAT YtielpebokbolbaaProg.lean LOADS. Nothing in Lean hashes anything: it is a label: what it is worth is what the hold of that sum in a sandbox is worth. -/
noncomputable def Try.pinned : Pinned := { name := "ytielpebokbolbaa", sum := "8334649ab36c477a70cf9f797ca3e60f878743836925e5937d7b003c4f3d296f", checked := Try.checked }
namespace Rows
def none {H : Type} : Left H := { results := [], args := [] }

/-- 'oubliettelaw12.XstepMemory': WHATEVER THE INPUT: true; the input reads as it did. -/
def xstepMemorySpec : ChangeSpec := { name := "xstepMemory", fn := fun _ => fun
  | [d1, d2, d3, d4] => { results := [.lit (.bool true)], args := [d1, d2, d3, d4] }
  | _ => none }
def xstepMemoryRow : OpenClaim := { program := "ytielpebokbolbaa", sum := "8334649ab36c477a70cf9f797ca3e60f878743836925e5937d7b003c4f3d296f", func := "oubliette/oubliettelaw12.XstepMemory", spec := "xstepMemory", named := ["math/bits.overflowError", "math/bits.divideError"], apart := false }
def XstepMemorySaid : Prop := xstepMemoryRow.holds Try.pinned (OpenSpec.ofChange xstepMemorySpec)

/-- ITS FALSE NEIGHBOUR: 'it returns false'. Refute it at one input. -/
def xstepMemoryWrong : ChangeSpec := { name := "xstepMemory", fn := fun _ => fun
  | [d1, d2, d3, d4] => { results := [.lit (.bool false)], args := [d1, d2, d3, d4] }
  | _ => none }
def XstepMemoryWrongFalsely : Prop := xstepMemoryRow.holds Try.pinned (OpenSpec.ofChange xstepMemoryWrong)

/-- 'oubliettelaw12.XstepKeeps': WHATEVER THE INPUT: true; the input reads as it did. -/
def xstepKeepsSpec : ChangeSpec := { name := "xstepKeeps", fn := fun _ => fun
  | [d1, d2] => { results := [.lit (.bool true)], args := [d1, d2] }
  | _ => none }
def xstepKeepsRow : OpenClaim := { program := "ytielpebokbolbaa", sum := "8334649ab36c477a70cf9f797ca3e60f878743836925e5937d7b003c4f3d296f", func := "oubliette/oubliettelaw12.XstepKeeps", spec := "xstepKeeps", named := ["math/bits.overflowError", "math/bits.divideError"], apart := false }
def XstepKeepsSaid : Prop := xstepKeepsRow.holds Try.pinned (OpenSpec.ofChange xstepKeepsSpec)

/-- ITS FALSE NEIGHBOUR: 'it returns false'. Refute it at one input. -/
def xstepKeepsWrong : ChangeSpec := { name := "xstepKeeps", fn := fun _ => fun
  | [d1, d2] => { results := [.lit (.bool false)], args := [d1, d2] }
  | _ => none }
def XstepKeepsWrongFalsely : Prop := xstepKeepsRow.holds Try.pinned (OpenSpec.ofChange xstepKeepsWrong)

/-- 'oubliettelaw12.XstepTwo': WHATEVER THE INPUT: true; the input reads as it did. -/
def xstepTwoSpec : ChangeSpec := { name := "xstepTwo", fn := fun _ => fun
  | [d1, d2, d3] => { results := [.lit (.bool true)], args := [d1, d2, d3] }
  | _ => none }
def xstepTwoRow : OpenClaim := { program := "ytielpebokbolbaa", sum := "8334649ab36c477a70cf9f797ca3e60f878743836925e5937d7b003c4f3d296f", func := "oubliette/oubliettelaw12.XstepTwo", spec := "xstepTwo", named := ["math/bits.overflowError", "math/bits.divideError"], apart := false }
def XstepTwoSaid : Prop := xstepTwoRow.holds Try.pinned (OpenSpec.ofChange xstepTwoSpec)

/-- ITS FALSE NEIGHBOUR: 'it returns false'. Refute it at one input. -/
def xstepTwoWrong : ChangeSpec := { name := "xstepTwo", fn := fun _ => fun
  | [d1, d2, d3] => { results := [.lit (.bool false)], args := [d1, d2, d3] }
  | _ => none }
def XstepTwoWrongFalsely : Prop := xstepTwoRow.holds Try.pinned (OpenSpec.ofChange xstepTwoWrong)

/-- 'oubliettelaw12.XstepPuts': WHATEVER THE INPUT: true; the input reads as it did. -/
def xstepPutsSpec : ChangeSpec := { name := "xstepPuts", fn := fun _ => fun
  | [d1, d2, d3, d4, d5] => { results := [.lit (.bool true)], args := [d1, d2, d3, d4, d5] }
  | _ => none }
def xstepPutsRow : OpenClaim := { program := "ytielpebokbolbaa", sum := "8334649ab36c477a70cf9f797ca3e60f878743836925e5937d7b003c4f3d296f", func := "oubliette/oubliettelaw12.XstepPuts", spec := "xstepPuts", named := ["math/bits.overflowError", "math/bits.divideError"], apart := false }
def XstepPutsSaid : Prop := xstepPutsRow.holds Try.pinned (OpenSpec.ofChange xstepPutsSpec)

/-- ITS FALSE NEIGHBOUR: 'it returns false'. Refute it at one input. -/
def xstepPutsWrong : ChangeSpec := { name := "xstepPuts", fn := fun _ => fun
  | [d1, d2, d3, d4, d5] => { results := [.lit (.bool false)], args := [d1, d2, d3, d4, d5] }
  | _ => none }
def XstepPutsWrongFalsely : Prop := xstepPutsRow.holds Try.pinned (OpenSpec.ofChange xstepPutsWrong)

/-- 'oubliettelaw12.XstepCalls': WHATEVER THE INPUT: true; the input reads as it did. -/
def xstepCallsSpec : ChangeSpec := { name := "xstepCalls", fn := fun _ => fun
  | [d1, d2] => { results := [.lit (.bool true)], args := [d1, d2] }
  | _ => none }
def xstepCallsRow : OpenClaim := { program := "ytielpebokbolbaa", sum := "8334649ab36c477a70cf9f797ca3e60f878743836925e5937d7b003c4f3d296f", func := "oubliette/oubliettelaw12.XstepCalls", spec := "xstepCalls", named := ["math/bits.overflowError", "math/bits.divideError"], apart := false }
def XstepCallsSaid : Prop := xstepCallsRow.holds Try.pinned (OpenSpec.ofChange xstepCallsSpec)

/-- ITS FALSE NEIGHBOUR: 'it returns false'. Refute it at one input. -/
def xstepCallsWrong : ChangeSpec := { name := "xstepCalls", fn := fun _ => fun
  | [d1, d2] => { results := [.lit (.bool false)], args := [d1, d2] }
  | _ => none }
def XstepCallsWrongFalsely : Prop := xstepCallsRow.holds Try.pinned (OpenSpec.ofChange xstepCallsWrong)

/-- 'oubliettelaw12.XstepMoves': WHATEVER THE INPUT: true; the input reads as it did. -/
def xstepMovesSpec : ChangeSpec := { name := "xstepMoves", fn := fun _ => fun
  | [d1, d2, d3, d4] => { results := [.lit (.bool true)], args := [d1, d2, d3, d4] }
  | _ => none }
def xstepMovesRow : OpenClaim := { program := "ytielpebokbolbaa", sum := "8334649ab36c477a70cf9f797ca3e60f878743836925e5937d7b003c4f3d296f", func := "oubliette/oubliettelaw12.XstepMoves", spec := "xstepMoves", named := ["math/bits.overflowError", "math/bits.divideError"], apart := false }
def XstepMovesSaid : Prop := xstepMovesRow.holds Try.pinned (OpenSpec.ofChange xstepMovesSpec)

/-- ITS FALSE NEIGHBOUR: 'it returns false'. Refute it at one input. -/
def xstepMovesWrong : ChangeSpec := { name := "xstepMoves", fn := fun _ => fun
  | [d1, d2, d3, d4] => { results := [.lit (.bool false)], args := [d1, d2, d3, d4] }
  | _ => none }
def XstepMovesWrongFalsely : Prop := xstepMovesRow.holds Try.pinned (OpenSpec.ofChange xstepMovesWrong)

/- THE SECOND FORM. 'bulk': how many values and letters a reading holds, each counted each time it is reached (what is shared counts as often as it is met; a slice's spare places count too). A statement '..UptoSaid' is the law's where the arguments, and the package variables that the reading takes, are together of bulk at most 1048576: NARROWER than '..Said'. Prove '..Said' where nothing that the law and all that it calls make is longer than what came in: it says more and counts as full. Else prove '..UptoSaid'. A law counts once. -/
mutual
def uptoBulk {H : Type} : DataW H → Nat
  | .lit (.string bytes) => bytes.length + 1
  | .lit _ => 1
  | .nil => 1
  | .ptr d => uptoBulk d + 1
  | .slice elems spare => uptoBulkAll elems + uptoBulkAll spare + 1
  | .agg parts => uptoBulkAll parts + 1
  | .iface _ d => uptoBulk d + 1
  | .map entries => uptoBulkEntries entries + 1
  | .held _ => 1
def uptoBulkAll {H : Type} : List (DataW H) → Nat
  | [] => 0
  | d :: r => uptoBulk d + uptoBulkAll r
def uptoBulkEntries {H : Type} : List (Lit × DataW H) → Nat
  | [] => 0
  | x :: r => uptoBulkEntry x + uptoBulkEntries r
def uptoBulkEntry {H : Type} : Lit × DataW H → Nat
  | (.string bytes, d) => bytes.length + uptoBulk d + 1
  | (_, d) => uptoBulk d + 1
 end
def uptoSmall : (H : Type) → List (DataW H) → Bool := fun _ ds => decide (uptoBulkAll ds ≤ 1048576)
def OpenSpec.upto (s : _root_.Go.ChangeSpec) : _root_.Go.OpenSpec := { _root_.Go.OpenSpec.ofChange s with cond := some uptoSmall }

/-- 'oubliettelaw12.XstepMemory', WHERE WHAT IT READS IS OF BULK AT MOST 1048576: true; the input reads as it did. -/
def xstepMemoryUptoRow : OpenClaim := { program := "ytielpebokbolbaa", sum := "8334649ab36c477a70cf9f797ca3e60f878743836925e5937d7b003c4f3d296f", func := "oubliette/oubliettelaw12.XstepMemory", spec := "xstepMemory", named := ["math/bits.overflowError", "math/bits.divideError"], apart := false, narrowed := true }
def XstepMemoryUptoSaid : Prop := xstepMemoryUptoRow.holds Try.pinned (OpenSpec.upto xstepMemorySpec)

/-- 'oubliettelaw12.XstepKeeps', WHERE WHAT IT READS IS OF BULK AT MOST 1048576: true; the input reads as it did. -/
def xstepKeepsUptoRow : OpenClaim := { program := "ytielpebokbolbaa", sum := "8334649ab36c477a70cf9f797ca3e60f878743836925e5937d7b003c4f3d296f", func := "oubliette/oubliettelaw12.XstepKeeps", spec := "xstepKeeps", named := ["math/bits.overflowError", "math/bits.divideError"], apart := false, narrowed := true }
def XstepKeepsUptoSaid : Prop := xstepKeepsUptoRow.holds Try.pinned (OpenSpec.upto xstepKeepsSpec)

/-- 'oubliettelaw12.XstepTwo', WHERE WHAT IT READS IS OF BULK AT MOST 1048576: true; the input reads as it did. -/
def xstepTwoUptoRow : OpenClaim := { program := "ytielpebokbolbaa", sum := "8334649ab36c477a70cf9f797ca3e60f878743836925e5937d7b003c4f3d296f", func := "oubliette/oubliettelaw12.XstepTwo", spec := "xstepTwo", named := ["math/bits.overflowError", "math/bits.divideError"], apart := false, narrowed := true }
def XstepTwoUptoSaid : Prop := xstepTwoUptoRow.holds Try.pinned (OpenSpec.upto xstepTwoSpec)

/-- 'oubliettelaw12.XstepPuts', WHERE WHAT IT READS IS OF BULK AT MOST 1048576: true; the input reads as it did. -/
def xstepPutsUptoRow : OpenClaim := { program := "ytielpebokbolbaa", sum := "8334649ab36c477a70cf9f797ca3e60f878743836925e5937d7b003c4f3d296f", func := "oubliette/oubliettelaw12.XstepPuts", spec := "xstepPuts", named := ["math/bits.overflowError", "math/bits.divideError"], apart := false, narrowed := true }
def XstepPutsUptoSaid : Prop := xstepPutsUptoRow.holds Try.pinned (OpenSpec.upto xstepPutsSpec)

/-- 'oubliettelaw12.XstepCalls', WHERE WHAT IT READS IS OF BULK AT MOST 1048576: true; the input reads as it did. -/
def xstepCallsUptoRow : OpenClaim := { program := "ytielpebokbolbaa", sum := "8334649ab36c477a70cf9f797ca3e60f878743836925e5937d7b003c4f3d296f", func := "oubliette/oubliettelaw12.XstepCalls", spec := "xstepCalls", named := ["math/bits.overflowError", "math/bits.divideError"], apart := false, narrowed := true }
def XstepCallsUptoSaid : Prop := xstepCallsUptoRow.holds Try.pinned (OpenSpec.upto xstepCallsSpec)

/-- 'oubliettelaw12.XstepMoves', WHERE WHAT IT READS IS OF BULK AT MOST 1048576: true; the input reads as it did. -/
def xstepMovesUptoRow : OpenClaim := { program := "ytielpebokbolbaa", sum := "8334649ab36c477a70cf9f797ca3e60f878743836925e5937d7b003c4f3d296f", func := "oubliette/oubliettelaw12.XstepMoves", spec := "xstepMoves", named := ["math/bits.overflowError", "math/bits.divideError"], apart := false, narrowed := true }
def XstepMovesUptoSaid : Prop := xstepMovesUptoRow.holds Try.pinned (OpenSpec.upto xstepMovesSpec)

end Rows
end Go.Proofs.Ytielpebokbolbaa
