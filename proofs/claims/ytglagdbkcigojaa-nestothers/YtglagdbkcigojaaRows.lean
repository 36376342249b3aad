/-
  No cell of these rows narrows 'for every input' (looked for: loops, veiled, ifaces, maps, wideKeys, modest, calm, conditions, laid).
  DERIVED. THE GIVEN ROWS OF THIS SEAT. 6 by the template 'for every input the law returns true; each argument reads behind the call as it read before'; 0 by the template 'total and deterministic' (their statements: YtglagdbkcigojaaTotals.lean).
  GIVEN WITH THE SEED: the statements are not yours to turn. If you find one false, say at which input.
  Laid BY PROGRAM, IN A SANDBOX (cutbox-rows.mjs): the forced cells as the released guide's own fill.sh prints them over the translation f4812894ae631275… (all of the seat's roots in one cut). By AI agents, Wed Nov 11 2026. No macro, syntax, notation, axiom, sorry.
-/
import Derived.Test.YtglagdbkcigojaaChecked
import GoSem.Claim
import GoSem.ClaimJoined
import GoSem.ClaimMapViews
import Derived.JoinedTies
import Derived.KernelRfl
namespace Go.Proofs.Ytglagdbkcigojaa
/- THE CELL 'sum', in the pinned program and in every row, IS THE sha256 OF THE DUMP (.gsa) THAT YtglagdbkcigojaaProg.lean LOADS. Nothing in Lean hashes anything: it is a label: what it is worth is what the hold of that sum in a sandbox is worth. -/
noncomputable def Try.pinned : Pinned := { name := "ytglagdbkcigojaa", sum := "f4812894ae6312758a01efc5c328c292dd573cbf5057b90963d550f169c89716", checked := Try.checked }
namespace Rows
def none {H : Type} : Left H := { results := [], args := [] }

/-- 'oubliettelaw06.NestSpans': WHATEVER THE INPUT: true; the input reads as it did. -/
def nestSpansSpec : ChangeSpec := { name := "nestSpans", fn := fun _ => fun
  | [d] => { results := [.lit (.bool true)], args := [d] }
  | _ => none }
def nestSpansRow : OpenClaim := { program := "ytglagdbkcigojaa", sum := "f4812894ae6312758a01efc5c328c292dd573cbf5057b90963d550f169c89716", func := "oubliette/oubliettelaw06.NestSpans", spec := "nestSpans", unfollowed := true, recurses := true, apart := false }
def NestSpansSaid : Prop := nestSpansRow.holds Try.pinned (OpenSpec.ofChange nestSpansSpec)

/-- ITS FALSE NEIGHBOUR: 'it returns false'. Refute it at one input. -/
def nestSpansWrong : ChangeSpec := { name := "nestSpans", fn := fun _ => fun
  | [d] => { results := [.lit (.bool false)], args := [d] }
  | _ => none }
def NestSpansWrongFalsely : Prop := nestSpansRow.holds Try.pinned (OpenSpec.ofChange nestSpansWrong)

/-- 'oubliettelaw06.NestTargets': WHATEVER THE INPUT: true; the input reads as it did. -/
def nestTargetsSpec : ChangeSpec := { name := "nestTargets", fn := fun _ => fun
  | [d1, d2, d3] => { results := [.lit (.bool true)], args := [d1, d2, d3] }
  | _ => none }
def nestTargetsRow : OpenClaim := { program := "ytglagdbkcigojaa", sum := "f4812894ae6312758a01efc5c328c292dd573cbf5057b90963d550f169c89716", func := "oubliette/oubliettelaw06.NestTargets", spec := "nestTargets", unfollowed := true, recurses := true, apart := false }
def NestTargetsSaid : Prop := nestTargetsRow.holds Try.pinned (OpenSpec.ofChange nestTargetsSpec)

/-- ITS FALSE NEIGHBOUR: 'it returns false'. Refute it at one input. -/
def nestTargetsWrong : ChangeSpec := { name := "nestTargets", fn := fun _ => fun
  | [d1, d2, d3] => { results := [.lit (.bool false)], args := [d1, d2, d3] }
  | _ => none }
def NestTargetsWrongFalsely : Prop := nestTargetsRow.holds Try.pinned (OpenSpec.ofChange nestTargetsWrong)

/-- 'oubliettelaw06.NestWithin': WHATEVER THE INPUT: true; the input reads as it did. -/
def nestWithinSpec : ChangeSpec := { name := "nestWithin", fn := fun _ => fun
  | [d] => { results := [.lit (.bool true)], args := [d] }
  | _ => none }
def nestWithinRow : OpenClaim := { program := "ytglagdbkcigojaa", sum := "f4812894ae6312758a01efc5c328c292dd573cbf5057b90963d550f169c89716", func := "oubliette/oubliettelaw06.NestWithin", spec := "nestWithin", unfollowed := true, recurses := true, apart := false }
def NestWithinSaid : Prop := nestWithinRow.holds Try.pinned (OpenSpec.ofChange nestWithinSpec)

/-- ITS FALSE NEIGHBOUR: 'it returns false'. Refute it at one input. -/
def nestWithinWrong : ChangeSpec := { name := "nestWithin", fn := fun _ => fun
  | [d] => { results := [.lit (.bool false)], args := [d] }
  | _ => none }
def NestWithinWrongFalsely : Prop := nestWithinRow.holds Try.pinned (OpenSpec.ofChange nestWithinWrong)

/-- 'oubliettelaw06.NestOut': WHATEVER THE INPUT: true; the input reads as it did. -/
def nestOutSpec : ChangeSpec := { name := "nestOut", fn := fun _ => fun
  | [d] => { results := [.lit (.bool true)], args := [d] }
  | _ => none }
def nestOutRow : OpenClaim := { program := "ytglagdbkcigojaa", sum := "f4812894ae6312758a01efc5c328c292dd573cbf5057b90963d550f169c89716", func := "oubliette/oubliettelaw06.NestOut", spec := "nestOut", unfollowed := true, recurses := true, apart := false }
def NestOutSaid : Prop := nestOutRow.holds Try.pinned (OpenSpec.ofChange nestOutSpec)

/-- ITS FALSE NEIGHBOUR: 'it returns false'. Refute it at one input. -/
def nestOutWrong : ChangeSpec := { name := "nestOut", fn := fun _ => fun
  | [d] => { results := [.lit (.bool false)], args := [d] }
  | _ => none }
def NestOutWrongFalsely : Prop := nestOutRow.holds Try.pinned (OpenSpec.ofChange nestOutWrong)

/-- 'oubliettelaw06.NestMore': WHATEVER THE INPUT: true; the input reads as it did. -/
def nestMoreSpec : ChangeSpec := { name := "nestMore", fn := fun _ => fun
  | [d] => { results := [.lit (.bool true)], args := [d] }
  | _ => none }
def nestMoreRow : OpenClaim := { program := "ytglagdbkcigojaa", sum := "f4812894ae6312758a01efc5c328c292dd573cbf5057b90963d550f169c89716", func := "oubliette/oubliettelaw06.NestMore", spec := "nestMore", unfollowed := true, recurses := true, apart := false }
def NestMoreSaid : Prop := nestMoreRow.holds Try.pinned (OpenSpec.ofChange nestMoreSpec)

/-- ITS FALSE NEIGHBOUR: 'it returns false'. Refute it at one input. -/
def nestMoreWrong : ChangeSpec := { name := "nestMore", fn := fun _ => fun
  | [d] => { results := [.lit (.bool false)], args := [d] }
  | _ => none }
def NestMoreWrongFalsely : Prop := nestMoreRow.holds Try.pinned (OpenSpec.ofChange nestMoreWrong)

/-- 'oubliettelaw06.NestOthers': WHATEVER THE INPUT: true; the input reads as it did. -/
def nestOthersSpec : ChangeSpec := { name := "nestOthers", fn := fun _ => fun
  | [d1, d2] => { results := [.lit (.bool true)], args := [d1, d2] }
  | _ => none }
def nestOthersRow : OpenClaim := { program := "ytglagdbkcigojaa", sum := "f4812894ae6312758a01efc5c328c292dd573cbf5057b90963d550f169c89716", func := "oubliette/oubliettelaw06.NestOthers", spec := "nestOthers", unfollowed := true, recurses := true, apart := false }
def NestOthersSaid : Prop := nestOthersRow.holds Try.pinned (OpenSpec.ofChange nestOthersSpec)

/-- ITS FALSE NEIGHBOUR: 'it returns false'. Refute it at one input. -/
def nestOthersWrong : ChangeSpec := { name := "nestOthers", fn := fun _ => fun
  | [d1, d2] => { results := [.lit (.bool false)], args := [d1, d2] }
  | _ => none }
def NestOthersWrongFalsely : Prop := nestOthersRow.holds Try.pinned (OpenSpec.ofChange nestOthersWrong)

/- THE SECOND FORM. 'bulk': how many values and letters a reading holds, each counted each time it is reached (what is shared counts as often as it is met; a slice's spare places count too). A statement '..UptoSaid' is the law's where the arguments, and the package variables that the reading takes, are together of bulk at most 1048576: NARROWER than '..Said'. Prove '..Said' where nothing that the law and all that it calls make is longer than what came in: it says more and counts as full. Else prove '..UptoSaid'. A law counts once. -/
mutual
def uptoBulk {H : Type} : DataW H → Nat
  | .lit (.string bytes) => bytes.length + 1
  | .lit _ => 1
  | .nil => 1
  | .ptr d => uptoBulk d + 1
  | .slice elems spare => uptoBulkAll elems + uptoBulkAll spare + 1
  | .agg parts => uptoBulkAll parts + 1
  | .iface _ d => uptoBulk d + 1
  | .map entries => uptoBulkEntries entries + 1
  | .held _ => 1
def uptoBulkAll {H : Type} : List (DataW H) → Nat
  | [] => 0
  | d :: r => uptoBulk d + uptoBulkAll r
def uptoBulkEntries {H : Type} : List (Lit × DataW H) → Nat
  | [] => 0
  | x :: r => uptoBulkEntry x + uptoBulkEntries r
def uptoBulkEntry {H : Type} : Lit × DataW H → Nat
  | (.string bytes, d) => bytes.length + uptoBulk d + 1
  | (_, d) => uptoBulk d + 1
 end
def uptoSmall : (H : Type) → List (DataW H) → Bool := fun _ ds => decide (uptoBulkAll ds ≤ 1048576)
def OpenSpec.upto (s : _root_.Go.ChangeSpec) : _root_.Go.OpenSpec := { _root_.Go.OpenSpec.ofChange s with cond := some uptoSmall }

/-- 'oubliettelaw06.NestSpans', WHERE WHAT IT READS IS OF BULK AT MOST 1048576: true; the input reads as it did. -/
def nestSpansUptoRow : OpenClaim := { program := "ytglagdbkcigojaa", sum := "f4812894ae6312758a01efc5c328c292dd573cbf5057b90963d550f169c89716", func := "oubliette/oubliettelaw06.NestSpans", spec := "nestSpans", unfollowed := true, recurses := true, apart := false, narrowed := true }
def NestSpansUptoSaid : Prop := nestSpansUptoRow.holds Try.pinned (OpenSpec.upto nestSpansSpec)

/-- 'oubliettelaw06.NestTargets', WHERE WHAT IT READS IS OF BULK AT MOST 1048576: true; the input reads as it did. -/
def nestTargetsUptoRow : OpenClaim := { program := "ytglagdbkcigojaa", sum := "f4812894ae6312758a01efc5c328c292dd573cbf5057b90963d550f169c89716", func := "oubliette/oubliettelaw06.NestTargets", spec := "nestTargets", unfollowed := true, recurses := true, apart := false, narrowed := true }
def NestTargetsUptoSaid : Prop := nestTargetsUptoRow.holds Try.pinned (OpenSpec.upto nestTargetsSpec)

/-- 'oubliettelaw06.NestWithin', WHERE WHAT IT READS IS OF BULK AT MOST 1048576: true; the input reads as it did. -/
def nestWithinUptoRow : OpenClaim := { program := "ytglagdbkcigojaa", sum := "f4812894ae6312758a01efc5c328c292dd573cbf5057b90963d550f169c89716", func := "oubliette/oubliettelaw06.NestWithin", spec := "nestWithin", unfollowed := true, recurses := true, apart := false, narrowed := true }
def NestWithinUptoSaid : Prop := nestWithinUptoRow.holds Try.pinned (OpenSpec.upto nestWithinSpec)

/-- 'oubliettelaw06.NestOut', WHERE WHAT IT READS IS OF BULK AT MOST 1048576: true; the input reads as it did. -/
def nestOutUptoRow : OpenClaim := { program := "ytglagdbkcigojaa", sum := "f4812894ae6312758a01efc5c328c292dd573cbf5057b90963d550f169c89716", func := "oubliette/oubliettelaw06.NestOut", spec := "nestOut", unfollowed := true, recurses := true, apart := false, narrowed := true }
def NestOutUptoSaid : Prop := nestOutUptoRow.holds Try.pinned (OpenSpec.upto nestOutSpec)

/-- 'oubliettelaw06.NestMore', WHERE WHAT IT READS IS OF BULK AT MOST 1048576: true; the input reads as it did. -/
def nestMoreUptoRow : OpenClaim := { program := "ytglagdbkcigojaa", sum := "f4812894ae6312758a01efc5c328c292dd573cbf5057b90963d550f169c89716", func := "oubliette/oubliettelaw06.NestMore", spec := "nestMore", unfollowed := true, recurses := true, apart := false, narrowed := true }
def NestMoreUptoSaid : Prop := nestMoreUptoRow.holds Try.pinned (OpenSpec.upto nestMoreSpec)

/-- 'oubliettelaw06.NestOthers', WHERE WHAT IT READS IS OF BULK AT MOST 1048576: true; the input reads as it did. -/
def nestOthersUptoRow : OpenClaim := { program := "ytglagdbkcigojaa", sum := "f4812894ae6312758a01efc5c328c292dd573cbf5057b90963d550f169c89716", func := "oubliette/oubliettelaw06.NestOthers", spec := "nestOthers", unfollowed := true, recurses := true, apart := false, narrowed := true }
def NestOthersUptoSaid : Prop := nestOthersUptoRow.holds Try.pinned (OpenSpec.upto nestOthersSpec)

end Rows
end Go.Proofs.Ytglagdbkcigojaa
