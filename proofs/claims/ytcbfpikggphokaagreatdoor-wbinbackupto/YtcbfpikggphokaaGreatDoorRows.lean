/-
  NARROWER THAN 'FOR EVERY INPUT', by the rows' own cells (each row's printed sentence says how): WbinWrites: laid · WbinReads: laid · WbinBack: laid · WbinApart: laid · WbinMore: laid · WbinLimits: laid.
  DERIVED. THE GIVEN ROWS OF THIS SEAT. 6 by the template 'for every input the law returns true; each argument reads behind the call as it read before'; 0 by the template 'total and deterministic' (their statements: YtcbfpikggphokaaGreatDoorTotals.lean).
  GIVEN WITH THE SEED: the statements are not yours to turn. If you find one false, say at which input.
  Laid BY PROGRAM, IN A SANDBOX (cutbox-rows.mjs): the forced cells as the released guide's own fill.sh prints them over the translation 1faf83ee2b5779a2… (all of the seat's roots in one cut). By AI agents, Wed Nov 11 2026. No macro, syntax, notation, axiom, sorry.
-/
import Derived.Test.YtcbfpikggphokaaGreatDoorChecked
import GoSem.Claim
import GoSem.ClaimJoined
import GoSem.ClaimMapViews
import Derived.JoinedTies
import Derived.KernelRfl
namespace Go.Proofs.YtcbfpikggphokaaGreatDoor
/- THE CELL 'sum', in the pinned program and in every row, IS THE sha256 OF THE DUMP (.gsa) THAT YtcbfpikggphokaaGreatDoorProg.lean LOADS. Nothing in Lean hashes anything: it is a label: what it is worth is what the hold of that sum in a sandbox is worth. -/
noncomputable def Tryz.pinned : Pinned := { name := "ytcbfpikggphokaagreatdoor", sum := "1faf83ee2b5779a2fc2b12e4d39626a92d91108bd07d834ee6768dd4b340cebb", checked := Tryz.checked }
namespace Rows
def none {H : Type} : Left H := { results := [], args := [] }

/- WHAT THE LISTED PACKAGE-LEVEL VARIABLES READ AS WHEN THE CALL BEGINS. Each datum BY PROGRAM (the guide's laid-datum.mjs) off the statement by which the dump's own 'gosem.cut.vars' lays the variable. In a bare row this is a premise. The card (YtcbfpikggphokaaGreatDoorCards.lean) ties it to the program's text. -/
def laid_errors_errorType {H : Type} : DataW H := .iface "internal/reflectlite.rtype" (.agg [.ptr (.lit (.string [101, 114, 114, 111, 114]))])

/-- 'oubliettelaw05.WbinWrites': WHATEVER THE INPUT: true; the input reads as it did. -/
def wbinWritesSpec : ChangeSpec := { name := "wbinWrites", fn := fun _ => fun
  | [d] => { results := [.lit (.bool true)], args := [d] }
  | _ => none }
def wbinWritesRow : OpenClaim := { program := "ytcbfpikggphokaagreatdoor", sum := "1faf83ee2b5779a2fc2b12e4d39626a92d91108bd07d834ee6768dd4b340cebb", func := "oubliette/oubliettelaw05.WbinWrites", spec := "wbinWrites", inPlace := ["internal/abi.NoEscape", "internal/reflectlite.ValueOf", "(internal/reflectlite.Value).Type", "(internal/reflectlite.Value).IsNil", "internal/reflectlite.TypeOf", "(internal/reflectlite.Value).Elem", "(internal/reflectlite.Value).Set"], unfollowed := true, recurses := true, named := ["errors.errorType"], apart := false, laid := [("errors.errorType", laid_errors_errorType)] }
def WbinWritesSaid : Prop := wbinWritesRow.holds Tryz.pinned (OpenSpec.ofChange wbinWritesSpec)

/-- ITS FALSE NEIGHBOUR: 'it returns false'. Refute it at one input. -/
def wbinWritesWrong : ChangeSpec := { name := "wbinWrites", fn := fun _ => fun
  | [d] => { results := [.lit (.bool false)], args := [d] }
  | _ => none }
def WbinWritesWrongFalsely : Prop := wbinWritesRow.holds Tryz.pinned (OpenSpec.ofChange wbinWritesWrong)

/-- 'oubliettelaw05.WbinReads': WHATEVER THE INPUT: true; the input reads as it did. -/
def wbinReadsSpec : ChangeSpec := { name := "wbinReads", fn := fun _ => fun
  | [d] => { results := [.lit (.bool true)], args := [d] }
  | _ => none }
def wbinReadsRow : OpenClaim := { program := "ytcbfpikggphokaagreatdoor", sum := "1faf83ee2b5779a2fc2b12e4d39626a92d91108bd07d834ee6768dd4b340cebb", func := "oubliette/oubliettelaw05.WbinReads", spec := "wbinReads", inPlace := ["internal/abi.NoEscape", "internal/reflectlite.ValueOf", "(internal/reflectlite.Value).Type", "(internal/reflectlite.Value).IsNil", "internal/reflectlite.TypeOf", "(internal/reflectlite.Value).Elem", "(internal/reflectlite.Value).Set"], unfollowed := true, recurses := true, named := ["errors.errorType"], apart := false, laid := [("errors.errorType", laid_errors_errorType)] }
def WbinReadsSaid : Prop := wbinReadsRow.holds Tryz.pinned (OpenSpec.ofChange wbinReadsSpec)

/-- ITS FALSE NEIGHBOUR: 'it returns false'. Refute it at one input. -/
def wbinReadsWrong : ChangeSpec := { name := "wbinReads", fn := fun _ => fun
  | [d] => { results := [.lit (.bool false)], args := [d] }
  | _ => none }
def WbinReadsWrongFalsely : Prop := wbinReadsRow.holds Tryz.pinned (OpenSpec.ofChange wbinReadsWrong)

/-- 'oubliettelaw05.WbinBack': WHATEVER THE INPUT: true; the input reads as it did. -/
def wbinBackSpec : ChangeSpec := { name := "wbinBack", fn := fun _ => fun
  | [d1, d2] => { results := [.lit (.bool true)], args := [d1, d2] }
  | _ => none }
def wbinBackRow : OpenClaim := { program := "ytcbfpikggphokaagreatdoor", sum := "1faf83ee2b5779a2fc2b12e4d39626a92d91108bd07d834ee6768dd4b340cebb", func := "oubliette/oubliettelaw05.WbinBack", spec := "wbinBack", inPlace := ["internal/abi.NoEscape", "internal/reflectlite.ValueOf", "(internal/reflectlite.Value).Type", "(internal/reflectlite.Value).IsNil", "internal/reflectlite.TypeOf", "(internal/reflectlite.Value).Elem", "(internal/reflectlite.Value).Set"], unfollowed := true, recurses := true, named := ["errors.errorType"], apart := false, laid := [("errors.errorType", laid_errors_errorType)] }
def WbinBackSaid : Prop := wbinBackRow.holds Tryz.pinned (OpenSpec.ofChange wbinBackSpec)

/-- ITS FALSE NEIGHBOUR: 'it returns false'. Refute it at one input. -/
def wbinBackWrong : ChangeSpec := { name := "wbinBack", fn := fun _ => fun
  | [d1, d2] => { results := [.lit (.bool false)], args := [d1, d2] }
  | _ => none }
def WbinBackWrongFalsely : Prop := wbinBackRow.holds Tryz.pinned (OpenSpec.ofChange wbinBackWrong)

/-- 'oubliettelaw05.WbinApart': WHATEVER THE INPUT: true; the input reads as it did. -/
def wbinApartSpec : ChangeSpec := { name := "wbinApart", fn := fun _ => fun
  | [d1, d2] => { results := [.lit (.bool true)], args := [d1, d2] }
  | _ => none }
def wbinApartRow : OpenClaim := { program := "ytcbfpikggphokaagreatdoor", sum := "1faf83ee2b5779a2fc2b12e4d39626a92d91108bd07d834ee6768dd4b340cebb", func := "oubliette/oubliettelaw05.WbinApart", spec := "wbinApart", inPlace := ["internal/abi.NoEscape", "internal/reflectlite.ValueOf", "(internal/reflectlite.Value).Type", "(internal/reflectlite.Value).IsNil", "internal/reflectlite.TypeOf", "(internal/reflectlite.Value).Elem", "(internal/reflectlite.Value).Set"], unfollowed := true, recurses := true, named := ["errors.errorType"], apart := false, laid := [("errors.errorType", laid_errors_errorType)] }
def WbinApartSaid : Prop := wbinApartRow.holds Tryz.pinned (OpenSpec.ofChange wbinApartSpec)

/-- ITS FALSE NEIGHBOUR: 'it returns false'. Refute it at one input. -/
def wbinApartWrong : ChangeSpec := { name := "wbinApart", fn := fun _ => fun
  | [d1, d2] => { results := [.lit (.bool false)], args := [d1, d2] }
  | _ => none }
def WbinApartWrongFalsely : Prop := wbinApartRow.holds Tryz.pinned (OpenSpec.ofChange wbinApartWrong)

/-- 'oubliettelaw05.WbinMore': WHATEVER THE INPUT: true; the input reads as it did. -/
def wbinMoreSpec : ChangeSpec := { name := "wbinMore", fn := fun _ => fun
  | [d1, d2, d3] => { results := [.lit (.bool true)], args := [d1, d2, d3] }
  | _ => none }
def wbinMoreRow : OpenClaim := { program := "ytcbfpikggphokaagreatdoor", sum := "1faf83ee2b5779a2fc2b12e4d39626a92d91108bd07d834ee6768dd4b340cebb", func := "oubliette/oubliettelaw05.WbinMore", spec := "wbinMore", inPlace := ["internal/abi.NoEscape", "internal/reflectlite.ValueOf", "(internal/reflectlite.Value).Type", "(internal/reflectlite.Value).IsNil", "internal/reflectlite.TypeOf", "(internal/reflectlite.Value).Elem", "(internal/reflectlite.Value).Set"], unfollowed := true, recurses := true, named := ["errors.errorType"], apart := false, laid := [("errors.errorType", laid_errors_errorType)] }
def WbinMoreSaid : Prop := wbinMoreRow.holds Tryz.pinned (OpenSpec.ofChange wbinMoreSpec)

/-- ITS FALSE NEIGHBOUR: 'it returns false'. Refute it at one input. -/
def wbinMoreWrong : ChangeSpec := { name := "wbinMore", fn := fun _ => fun
  | [d1, d2, d3] => { results := [.lit (.bool false)], args := [d1, d2, d3] }
  | _ => none }
def WbinMoreWrongFalsely : Prop := wbinMoreRow.holds Tryz.pinned (OpenSpec.ofChange wbinMoreWrong)

/-- 'oubliettelaw05.WbinLimits': WHATEVER THE INPUT: true; the input reads as it did. -/
def wbinLimitsSpec : ChangeSpec := { name := "wbinLimits", fn := fun _ => fun
  | [d1, d2] => { results := [.lit (.bool true)], args := [d1, d2] }
  | _ => none }
def wbinLimitsRow : OpenClaim := { program := "ytcbfpikggphokaagreatdoor", sum := "1faf83ee2b5779a2fc2b12e4d39626a92d91108bd07d834ee6768dd4b340cebb", func := "oubliette/oubliettelaw05.WbinLimits", spec := "wbinLimits", inPlace := ["internal/abi.NoEscape", "internal/reflectlite.ValueOf", "(internal/reflectlite.Value).Type", "(internal/reflectlite.Value).IsNil", "internal/reflectlite.TypeOf", "(internal/reflectlite.Value).Elem", "(internal/reflectlite.Value).Set"], unfollowed := true, recurses := true, named := ["errors.errorType"], apart := false, laid := [("errors.errorType", laid_errors_errorType)] }
def WbinLimitsSaid : Prop := wbinLimitsRow.holds Tryz.pinned (OpenSpec.ofChange wbinLimitsSpec)

/-- ITS FALSE NEIGHBOUR: 'it returns false'. Refute it at one input. -/
def wbinLimitsWrong : ChangeSpec := { name := "wbinLimits", fn := fun _ => fun
  | [d1, d2] => { results := [.lit (.bool false)], args := [d1, d2] }
  | _ => none }
def WbinLimitsWrongFalsely : Prop := wbinLimitsRow.holds Tryz.pinned (OpenSpec.ofChange wbinLimitsWrong)

/- THE SECOND FORM. 'bulk': how many values and letters a reading holds, each counted each time it is reached (what is shared counts as often as it is met; a slice's spare places count too). A statement '..UptoSaid' is the law's where the arguments, and the package variables that the reading takes, are together of bulk at most 1048576: NARROWER than '..Said'. Prove '..Said' where nothing that the law and all that it calls make is longer than what came in: it says more and counts as full. Else prove '..UptoSaid'. A law counts once. -/
mutual
def uptoBulk {H : Type} : DataW H → Nat
  | .lit (.string bytes) => bytes.length + 1
  | .lit _ => 1
  | .nil => 1
  | .ptr d => uptoBulk d + 1
  | .slice elems spare => uptoBulkAll elems + uptoBulkAll spare + 1
  | .agg parts => uptoBulkAll parts + 1
  | .iface _ d => uptoBulk d + 1
  | .map entries => uptoBulkEntries entries + 1
  | .held _ => 1
def uptoBulkAll {H : Type} : List (DataW H) → Nat
  | [] => 0
  | d :: r => uptoBulk d + uptoBulkAll r
def uptoBulkEntries {H : Type} : List (Lit × DataW H) → Nat
  | [] => 0
  | x :: r => uptoBulkEntry x + uptoBulkEntries r
def uptoBulkEntry {H : Type} : Lit × DataW H → Nat
  | (.string bytes, d) => bytes.length + uptoBulk d + 1
  | (_, d) => uptoBulk d + 1
 end
def uptoSmall : (H : Type) → List (DataW H) → Bool := fun _ ds => decide (uptoBulkAll ds ≤ 1048576)
def OpenSpec.upto (s : _root_.Go.ChangeSpec) : _root_.Go.OpenSpec := { _root_.Go.OpenSpec.ofChange s with cond := some uptoSmall }

/-- 'oubliettelaw05.WbinWrites', WHERE WHAT IT READS IS OF BULK AT MOST 1048576: true; the input reads as it did. -/
def wbinWritesUptoRow : OpenClaim := { program := "ytcbfpikggphokaagreatdoor", sum := "1faf83ee2b5779a2fc2b12e4d39626a92d91108bd07d834ee6768dd4b340cebb", func := "oubliette/oubliettelaw05.WbinWrites", spec := "wbinWrites", inPlace := ["internal/abi.NoEscape", "internal/reflectlite.ValueOf", "(internal/reflectlite.Value).Type", "(internal/reflectlite.Value).IsNil", "internal/reflectlite.TypeOf", "(internal/reflectlite.Value).Elem", "(internal/reflectlite.Value).Set"], unfollowed := true, recurses := true, named := ["errors.errorType"], apart := false, laid := [("errors.errorType", laid_errors_errorType)], narrowed := true }
def WbinWritesUptoSaid : Prop := wbinWritesUptoRow.holds Tryz.pinned (OpenSpec.upto wbinWritesSpec)

/-- 'oubliettelaw05.WbinReads', WHERE WHAT IT READS IS OF BULK AT MOST 1048576: true; the input reads as it did. -/
def wbinReadsUptoRow : OpenClaim := { program := "ytcbfpikggphokaagreatdoor", sum := "1faf83ee2b5779a2fc2b12e4d39626a92d91108bd07d834ee6768dd4b340cebb", func := "oubliette/oubliettelaw05.WbinReads", spec := "wbinReads", inPlace := ["internal/abi.NoEscape", "internal/reflectlite.ValueOf", "(internal/reflectlite.Value).Type", "(internal/reflectlite.Value).IsNil", "internal/reflectlite.TypeOf", "(internal/reflectlite.Value).Elem", "(internal/reflectlite.Value).Set"], unfollowed := true, recurses := true, named := ["errors.errorType"], apart := false, laid := [("errors.errorType", laid_errors_errorType)], narrowed := true }
def WbinReadsUptoSaid : Prop := wbinReadsUptoRow.holds Tryz.pinned (OpenSpec.upto wbinReadsSpec)

/-- 'oubliettelaw05.WbinBack', WHERE WHAT IT READS IS OF BULK AT MOST 1048576: true; the input reads as it did. -/
def wbinBackUptoRow : OpenClaim := { program := "ytcbfpikggphokaagreatdoor", sum := "1faf83ee2b5779a2fc2b12e4d39626a92d91108bd07d834ee6768dd4b340cebb", func := "oubliette/oubliettelaw05.WbinBack", spec := "wbinBack", inPlace := ["internal/abi.NoEscape", "internal/reflectlite.ValueOf", "(internal/reflectlite.Value).Type", "(internal/reflectlite.Value).IsNil", "internal/reflectlite.TypeOf", "(internal/reflectlite.Value).Elem", "(internal/reflectlite.Value).Set"], unfollowed := true, recurses := true, named := ["errors.errorType"], apart := false, laid := [("errors.errorType", laid_errors_errorType)], narrowed := true }
def WbinBackUptoSaid : Prop := wbinBackUptoRow.holds Tryz.pinned (OpenSpec.upto wbinBackSpec)

/-- 'oubliettelaw05.WbinApart', WHERE WHAT IT READS IS OF BULK AT MOST 1048576: true; the input reads as it did. -/
def wbinApartUptoRow : OpenClaim := { program := "ytcbfpikggphokaagreatdoor", sum := "1faf83ee2b5779a2fc2b12e4d39626a92d91108bd07d834ee6768dd4b340cebb", func := "oubliette/oubliettelaw05.WbinApart", spec := "wbinApart", inPlace := ["internal/abi.NoEscape", "internal/reflectlite.ValueOf", "(internal/reflectlite.Value).Type", "(internal/reflectlite.Value).IsNil", "internal/reflectlite.TypeOf", "(internal/reflectlite.Value).Elem", "(internal/reflectlite.Value).Set"], unfollowed := true, recurses := true, named := ["errors.errorType"], apart := false, laid := [("errors.errorType", laid_errors_errorType)], narrowed := true }
def WbinApartUptoSaid : Prop := wbinApartUptoRow.holds Tryz.pinned (OpenSpec.upto wbinApartSpec)

/-- 'oubliettelaw05.WbinMore', WHERE WHAT IT READS IS OF BULK AT MOST 1048576: true; the input reads as it did. -/
def wbinMoreUptoRow : OpenClaim := { program := "ytcbfpikggphokaagreatdoor", sum := "1faf83ee2b5779a2fc2b12e4d39626a92d91108bd07d834ee6768dd4b340cebb", func := "oubliette/oubliettelaw05.WbinMore", spec := "wbinMore", inPlace := ["internal/abi.NoEscape", "internal/reflectlite.ValueOf", "(internal/reflectlite.Value).Type", "(internal/reflectlite.Value).IsNil", "internal/reflectlite.TypeOf", "(internal/reflectlite.Value).Elem", "(internal/reflectlite.Value).Set"], unfollowed := true, recurses := true, named := ["errors.errorType"], apart := false, laid := [("errors.errorType", laid_errors_errorType)], narrowed := true }
def WbinMoreUptoSaid : Prop := wbinMoreUptoRow.holds Tryz.pinned (OpenSpec.upto wbinMoreSpec)

/-- 'oubliettelaw05.WbinLimits', WHERE WHAT IT READS IS OF BULK AT MOST 1048576: true; the input reads as it did. -/
def wbinLimitsUptoRow : OpenClaim := { program := "ytcbfpikggphokaagreatdoor", sum := "1faf83ee2b5779a2fc2b12e4d39626a92d91108bd07d834ee6768dd4b340cebb", func := "oubliette/oubliettelaw05.WbinLimits", spec := "wbinLimits", inPlace := ["internal/abi.NoEscape", "internal/reflectlite.ValueOf", "(internal/reflectlite.Value).Type", "(internal/reflectlite.Value).IsNil", "internal/reflectlite.TypeOf", "(internal/reflectlite.Value).Elem", "(internal/reflectlite.Value).Set"], unfollowed := true, recurses := true, named := ["errors.errorType"], apart := false, laid := [("errors.errorType", laid_errors_errorType)], narrowed := true }
def WbinLimitsUptoSaid : Prop := wbinLimitsUptoRow.holds Tryz.pinned (OpenSpec.upto wbinLimitsSpec)

end Rows
end Go.Proofs.YtcbfpikggphokaaGreatDoor
