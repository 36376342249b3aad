/-
  No cell of these rows narrows 'for every input' (looked for: loops, veiled, ifaces, maps, wideKeys, modest, calm, conditions, laid).
  DERIVED. THE GIVEN ROWS OF THIS SEAT. 5 by the template 'for every input the law returns true; each argument reads behind the call as it read before'; 0 by the template 'total and deterministic' (their statements: YtookbgnidinkoaaTotals.lean).
  GIVEN WITH THE SEED: the statements are not yours to turn. If you find one false, say at which input.
  Laid BY PROGRAM, IN A SANDBOX (cutbox-rows.mjs): the forced cells as the released guide's own fill.sh prints them over the translation 64b7ff279f4c6f44… (all of the seat's roots in one cut). By AI agents, Wed Nov 11 2026. No macro, syntax, notation, axiom, sorry.
-/
import Derived.Test.YtookbgnidinkoaaChecked
import GoSem.Claim
import GoSem.ClaimJoined
import GoSem.ClaimMapViews
import Derived.JoinedTies
import Derived.KernelRfl
namespace Go.Proofs.Ytookbgnidinkoaa
/- THE CELL 'sum', in the pinned program and in every row, IS THE sha256 OF THE DUMP (.gsa) THAT YtookbgnidinkoaaProg.lean LOADS. Nothing in Lean hashes anything: it is a label: what it is worth is what the hold of that sum in a sandbox is worth. -/
noncomputable def Try.pinned : Pinned := { name := "ytookbgnidinkoaa", sum := "64b7ff279f4c6f44c9464774343e1bdc82d5c6f1fe87322b3c1a317e91de1556", checked := Try.checked }
namespace Rows
def none {H : Type} : Left H := { results := [], args := [] }

/-- 'oubliettelaw13.AsmLays': WHATEVER THE INPUT: true; the input reads as it did. -/
def asmLaysSpec : ChangeSpec := { name := "asmLays", fn := fun _ => fun
  | [d] => { results := [.lit (.bool true)], args := [d] }
  | _ => none }
def asmLaysRow : OpenClaim := { program := "ytookbgnidinkoaa", sum := "64b7ff279f4c6f44c9464774343e1bdc82d5c6f1fe87322b3c1a317e91de1556", func := "oubliette/oubliettelaw13.AsmLays", spec := "asmLays", apart := false }
def AsmLaysSaid : Prop := asmLaysRow.holds Try.pinned (OpenSpec.ofChange asmLaysSpec)

/-- ITS FALSE NEIGHBOUR: 'it returns false'. Refute it at one input. -/
def asmLaysWrong : ChangeSpec := { name := "asmLays", fn := fun _ => fun
  | [d] => { results := [.lit (.bool false)], args := [d] }
  | _ => none }
def AsmLaysWrongFalsely : Prop := asmLaysRow.holds Try.pinned (OpenSpec.ofChange asmLaysWrong)

/-- 'oubliettelaw13.AsmStarts': WHATEVER THE INPUT: true; the input reads as it did. -/
def asmStartsSpec : ChangeSpec := { name := "asmStarts", fn := fun _ => fun
  | [d] => { results := [.lit (.bool true)], args := [d] }
  | _ => none }
def asmStartsRow : OpenClaim := { program := "ytookbgnidinkoaa", sum := "64b7ff279f4c6f44c9464774343e1bdc82d5c6f1fe87322b3c1a317e91de1556", func := "oubliette/oubliettelaw13.AsmStarts", spec := "asmStarts", apart := false }
def AsmStartsSaid : Prop := asmStartsRow.holds Try.pinned (OpenSpec.ofChange asmStartsSpec)

/-- ITS FALSE NEIGHBOUR: 'it returns false'. Refute it at one input. -/
def asmStartsWrong : ChangeSpec := { name := "asmStarts", fn := fun _ => fun
  | [d] => { results := [.lit (.bool false)], args := [d] }
  | _ => none }
def AsmStartsWrongFalsely : Prop := asmStartsRow.holds Try.pinned (OpenSpec.ofChange asmStartsWrong)

/-- 'oubliettelaw13.AsmJumps': WHATEVER THE INPUT: true; the input reads as it did. -/
def asmJumpsSpec : ChangeSpec := { name := "asmJumps", fn := fun _ => fun
  | [d] => { results := [.lit (.bool true)], args := [d] }
  | _ => none }
def asmJumpsRow : OpenClaim := { program := "ytookbgnidinkoaa", sum := "64b7ff279f4c6f44c9464774343e1bdc82d5c6f1fe87322b3c1a317e91de1556", func := "oubliette/oubliettelaw13.AsmJumps", spec := "asmJumps", apart := false }
def AsmJumpsSaid : Prop := asmJumpsRow.holds Try.pinned (OpenSpec.ofChange asmJumpsSpec)

/-- ITS FALSE NEIGHBOUR: 'it returns false'. Refute it at one input. -/
def asmJumpsWrong : ChangeSpec := { name := "asmJumps", fn := fun _ => fun
  | [d] => { results := [.lit (.bool false)], args := [d] }
  | _ => none }
def AsmJumpsWrongFalsely : Prop := asmJumpsRow.holds Try.pinned (OpenSpec.ofChange asmJumpsWrong)

/-- 'oubliettelaw13.AsmNames': WHATEVER THE INPUT: true; the input reads as it did. -/
def asmNamesSpec : ChangeSpec := { name := "asmNames", fn := fun _ => fun
  | [d1, d2] => { results := [.lit (.bool true)], args := [d1, d2] }
  | _ => none }
def asmNamesRow : OpenClaim := { program := "ytookbgnidinkoaa", sum := "64b7ff279f4c6f44c9464774343e1bdc82d5c6f1fe87322b3c1a317e91de1556", func := "oubliette/oubliettelaw13.AsmNames", spec := "asmNames", apart := false }
def AsmNamesSaid : Prop := asmNamesRow.holds Try.pinned (OpenSpec.ofChange asmNamesSpec)

/-- ITS FALSE NEIGHBOUR: 'it returns false'. Refute it at one input. -/
def asmNamesWrong : ChangeSpec := { name := "asmNames", fn := fun _ => fun
  | [d1, d2] => { results := [.lit (.bool false)], args := [d1, d2] }
  | _ => none }
def AsmNamesWrongFalsely : Prop := asmNamesRow.holds Try.pinned (OpenSpec.ofChange asmNamesWrong)

/-- 'oubliettelaw13.AsmTwo': WHATEVER THE INPUT: true; the input reads as it did. -/
def asmTwoSpec : ChangeSpec := { name := "asmTwo", fn := fun _ => fun
  | [d1, d2] => { results := [.lit (.bool true)], args := [d1, d2] }
  | _ => none }
def asmTwoRow : OpenClaim := { program := "ytookbgnidinkoaa", sum := "64b7ff279f4c6f44c9464774343e1bdc82d5c6f1fe87322b3c1a317e91de1556", func := "oubliette/oubliettelaw13.AsmTwo", spec := "asmTwo", apart := false }
def AsmTwoSaid : Prop := asmTwoRow.holds Try.pinned (OpenSpec.ofChange asmTwoSpec)

/-- ITS FALSE NEIGHBOUR: 'it returns false'. Refute it at one input. -/
def asmTwoWrong : ChangeSpec := { name := "asmTwo", fn := fun _ => fun
  | [d1, d2] => { results := [.lit (.bool false)], args := [d1, d2] }
  | _ => none }
def AsmTwoWrongFalsely : Prop := asmTwoRow.holds Try.pinned (OpenSpec.ofChange asmTwoWrong)

/- THE SECOND FORM. 'bulk': how many values and letters a reading holds, each counted each time it is reached (what is shared counts as often as it is met; a slice's spare places count too). A statement '..UptoSaid' is the law's where the arguments, and the package variables that the reading takes, are together of bulk at most 1048576: NARROWER than '..Said'. Prove '..Said' where nothing that the law and all that it calls make is longer than what came in: it says more and counts as full. Else prove '..UptoSaid'. A law counts once. -/
mutual
def uptoBulk {H : Type} : DataW H → Nat
  | .lit (.string bytes) => bytes.length + 1
  | .lit _ => 1
  | .nil => 1
  | .ptr d => uptoBulk d + 1
  | .slice elems spare => uptoBulkAll elems + uptoBulkAll spare + 1
  | .agg parts => uptoBulkAll parts + 1
  | .iface _ d => uptoBulk d + 1
  | .map entries => uptoBulkEntries entries + 1
  | .held _ => 1
def uptoBulkAll {H : Type} : List (DataW H) → Nat
  | [] => 0
  | d :: r => uptoBulk d + uptoBulkAll r
def uptoBulkEntries {H : Type} : List (Lit × DataW H) → Nat
  | [] => 0
  | x :: r => uptoBulkEntry x + uptoBulkEntries r
def uptoBulkEntry {H : Type} : Lit × DataW H → Nat
  | (.string bytes, d) => bytes.length + uptoBulk d + 1
  | (_, d) => uptoBulk d + 1
 end
def uptoSmall : (H : Type) → List (DataW H) → Bool := fun _ ds => decide (uptoBulkAll ds ≤ 1048576)
def OpenSpec.upto (s : _root_.Go.ChangeSpec) : _root_.Go.OpenSpec := { _root_.Go.OpenSpec.ofChange s with cond := some uptoSmall }

/-- 'oubliettelaw13.AsmLays', WHERE WHAT IT READS IS OF BULK AT MOST 1048576: true; the input reads as it did. -/
def asmLaysUptoRow : OpenClaim := { program := "ytookbgnidinkoaa", sum := "64b7ff279f4c6f44c9464774343e1bdc82d5c6f1fe87322b3c1a317e91de1556", func := "oubliette/oubliettelaw13.AsmLays", spec := "asmLays", apart := false, narrowed := true }
def AsmLaysUptoSaid : Prop := asmLaysUptoRow.holds Try.pinned (OpenSpec.upto asmLaysSpec)

/-- 'oubliettelaw13.AsmStarts', WHERE WHAT IT READS IS OF BULK AT MOST 1048576: true; the input reads as it did. -/
def asmStartsUptoRow : OpenClaim := { program := "ytookbgnidinkoaa", sum := "64b7ff279f4c6f44c9464774343e1bdc82d5c6f1fe87322b3c1a317e91de1556", func := "oubliette/oubliettelaw13.AsmStarts", spec := "asmStarts", apart := false, narrowed := true }
def AsmStartsUptoSaid : Prop := asmStartsUptoRow.holds Try.pinned (OpenSpec.upto asmStartsSpec)

/-- 'oubliettelaw13.AsmJumps', WHERE WHAT IT READS IS OF BULK AT MOST 1048576: true; the input reads as it did. -/
def asmJumpsUptoRow : OpenClaim := { program := "ytookbgnidinkoaa", sum := "64b7ff279f4c6f44c9464774343e1bdc82d5c6f1fe87322b3c1a317e91de1556", func := "oubliette/oubliettelaw13.AsmJumps", spec := "asmJumps", apart := false, narrowed := true }
def AsmJumpsUptoSaid : Prop := asmJumpsUptoRow.holds Try.pinned (OpenSpec.upto asmJumpsSpec)

/-- 'oubliettelaw13.AsmNames', WHERE WHAT IT READS IS OF BULK AT MOST 1048576: true; the input reads as it did. -/
def asmNamesUptoRow : OpenClaim := { program := "ytookbgnidinkoaa", sum := "64b7ff279f4c6f44c9464774343e1bdc82d5c6f1fe87322b3c1a317e91de1556", func := "oubliette/oubliettelaw13.AsmNames", spec := "asmNames", apart := false, narrowed := true }
def AsmNamesUptoSaid : Prop := asmNamesUptoRow.holds Try.pinned (OpenSpec.upto asmNamesSpec)

/-- 'oubliettelaw13.AsmTwo', WHERE WHAT IT READS IS OF BULK AT MOST 1048576: true; the input reads as it did. -/
def asmTwoUptoRow : OpenClaim := { program := "ytookbgnidinkoaa", sum := "64b7ff279f4c6f44c9464774343e1bdc82d5c6f1fe87322b3c1a317e91de1556", func := "oubliette/oubliettelaw13.AsmTwo", spec := "asmTwo", apart := false, narrowed := true }
def AsmTwoUptoSaid : Prop := asmTwoUptoRow.holds Try.pinned (OpenSpec.upto asmTwoSpec)

end Rows
end Go.Proofs.Ytookbgnidinkoaa
