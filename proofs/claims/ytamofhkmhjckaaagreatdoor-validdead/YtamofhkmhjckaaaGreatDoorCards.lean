/-
  DERIVED. GIVEN WITH THE SEED: THE CARDS: each row of YtamofhkmhjckaaaGreatDoorRows.lean that lists a variable, with what it lists TIED to the program's text (the seventh form; the later family's looks); each row that meets fmt, with fmt's text TOLD by the authors' own Lean function (tested against real Go, not proved from fmt's source: count such statements apart). THE CARD IS WHAT COUNTS. Prove the row's statement (the work); the ties are given (YtamofhkmhjckaaaGreatDoorTie.lean); close each card by the builder's one call (the guide's Derived/Test/ToyasCard.lean, 'card_holds'). Laid BY PROGRAM, IN A SANDBOX (cutbox-door.mjs). By AI agents, Wed Nov 11 2026. No macro, syntax, notation, axiom, sorry.
-/
import Derived.Test.YtamofhkmhjckaaaGreatDoorRows
import GoSem.ClaimSeven
namespace Go.Proofs.YtamofhkmhjckaaaGreatDoor
namespace Rows

/-- THE TIED CARD OF 'oubliettelaw07.ValidTells'. -/
def validTellsCard : Claim7 := { stood := { row := validTellsRow, standIns := [], harness := (true, "99295e100ad3f3eeabfeebad6fc00a93909dc4dcf809dd481a817c6f9a007b7c"), looks := true }, kinds := [], alts := [], laidByText := true, laidKinds := [.handle], laidTests := true, laidLooks := .later }
def ValidTellsCardSaid : Prop := Claim7.holds Tryz.pinned (.plain (OpenSpec.ofChange validTellsSpec)) validTellsCard

/-- THE TIED CARD OF 'oubliettelaw07.ValidHeights'. -/
def validHeightsCard : Claim7 := { stood := { row := validHeightsRow, standIns := [], harness := (true, "99295e100ad3f3eeabfeebad6fc00a93909dc4dcf809dd481a817c6f9a007b7c"), looks := true }, kinds := [], alts := [], laidByText := true, laidKinds := [.handle], laidTests := true, laidLooks := .later }
def ValidHeightsCardSaid : Prop := Claim7.holds Tryz.pinned (.plain (OpenSpec.ofChange validHeightsSpec)) validHeightsCard

/-- THE TIED CARD OF 'oubliettelaw07.ValidCallee'. -/
def validCalleeCard : Claim7 := { stood := { row := validCalleeRow, standIns := [], harness := (true, "99295e100ad3f3eeabfeebad6fc00a93909dc4dcf809dd481a817c6f9a007b7c"), looks := true }, kinds := [], alts := [], laidByText := true, laidKinds := [.handle], laidTests := true, laidLooks := .later }
def ValidCalleeCardSaid : Prop := Claim7.holds Tryz.pinned (.plain (OpenSpec.ofChange validCalleeSpec)) validCalleeCard

/-- THE TIED CARD OF 'oubliettelaw07.ValidNop'. -/
def validNopCard : Claim7 := { stood := { row := validNopRow, standIns := [], harness := (true, "99295e100ad3f3eeabfeebad6fc00a93909dc4dcf809dd481a817c6f9a007b7c"), looks := true }, kinds := [], alts := [], laidByText := true, laidKinds := [.handle], laidTests := true, laidLooks := .later }
def ValidNopCardSaid : Prop := Claim7.holds Tryz.pinned (.plain (OpenSpec.ofChange validNopSpec)) validNopCard

/-- THE TIED CARD OF 'oubliettelaw07.ValidDead'. -/
def validDeadCard : Claim7 := { stood := { row := validDeadRow, standIns := [], harness := (true, "99295e100ad3f3eeabfeebad6fc00a93909dc4dcf809dd481a817c6f9a007b7c"), looks := true }, kinds := [], alts := [], laidByText := true, laidKinds := [.handle], laidTests := true, laidLooks := .later }
def ValidDeadCardSaid : Prop := Claim7.holds Tryz.pinned (.plain (OpenSpec.ofChange validDeadSpec)) validDeadCard

/-- THE TIED CARD OF 'oubliettelaw07.ValidTrusted'. -/
def validTrustedCard : Claim7 := { stood := { row := validTrustedRow, standIns := [], harness := (true, "99295e100ad3f3eeabfeebad6fc00a93909dc4dcf809dd481a817c6f9a007b7c"), looks := true }, kinds := [], alts := [], laidByText := true, laidKinds := [.handle], laidTests := true, laidLooks := .later }
def ValidTrustedCardSaid : Prop := Claim7.holds Tryz.pinned (.plain (OpenSpec.ofChange validTrustedSpec)) validTrustedCard

/-- THE SECOND FORM's CARD OF 'oubliettelaw07.ValidTells'. -/
def validTellsUptoCard : Claim7 := { stood := { row := validTellsUptoRow, standIns := [], harness := (true, "99295e100ad3f3eeabfeebad6fc00a93909dc4dcf809dd481a817c6f9a007b7c"), looks := true }, kinds := [], alts := [], laidByText := true, laidKinds := [.handle], laidTests := true, laidLooks := .later }
def ValidTellsUptoCardSaid : Prop := Claim7.holds Tryz.pinned (.plain (OpenSpec.upto validTellsSpec)) validTellsUptoCard

/-- THE SECOND FORM's CARD OF 'oubliettelaw07.ValidHeights'. -/
def validHeightsUptoCard : Claim7 := { stood := { row := validHeightsUptoRow, standIns := [], harness := (true, "99295e100ad3f3eeabfeebad6fc00a93909dc4dcf809dd481a817c6f9a007b7c"), looks := true }, kinds := [], alts := [], laidByText := true, laidKinds := [.handle], laidTests := true, laidLooks := .later }
def ValidHeightsUptoCardSaid : Prop := Claim7.holds Tryz.pinned (.plain (OpenSpec.upto validHeightsSpec)) validHeightsUptoCard

/-- THE SECOND FORM's CARD OF 'oubliettelaw07.ValidCallee'. -/
def validCalleeUptoCard : Claim7 := { stood := { row := validCalleeUptoRow, standIns := [], harness := (true, "99295e100ad3f3eeabfeebad6fc00a93909dc4dcf809dd481a817c6f9a007b7c"), looks := true }, kinds := [], alts := [], laidByText := true, laidKinds := [.handle], laidTests := true, laidLooks := .later }
def ValidCalleeUptoCardSaid : Prop := Claim7.holds Tryz.pinned (.plain (OpenSpec.upto validCalleeSpec)) validCalleeUptoCard

/-- THE SECOND FORM's CARD OF 'oubliettelaw07.ValidNop'. -/
def validNopUptoCard : Claim7 := { stood := { row := validNopUptoRow, standIns := [], harness := (true, "99295e100ad3f3eeabfeebad6fc00a93909dc4dcf809dd481a817c6f9a007b7c"), looks := true }, kinds := [], alts := [], laidByText := true, laidKinds := [.handle], laidTests := true, laidLooks := .later }
def ValidNopUptoCardSaid : Prop := Claim7.holds Tryz.pinned (.plain (OpenSpec.upto validNopSpec)) validNopUptoCard

/-- THE SECOND FORM's CARD OF 'oubliettelaw07.ValidDead'. -/
def validDeadUptoCard : Claim7 := { stood := { row := validDeadUptoRow, standIns := [], harness := (true, "99295e100ad3f3eeabfeebad6fc00a93909dc4dcf809dd481a817c6f9a007b7c"), looks := true }, kinds := [], alts := [], laidByText := true, laidKinds := [.handle], laidTests := true, laidLooks := .later }
def ValidDeadUptoCardSaid : Prop := Claim7.holds Tryz.pinned (.plain (OpenSpec.upto validDeadSpec)) validDeadUptoCard

/-- THE SECOND FORM's CARD OF 'oubliettelaw07.ValidTrusted'. -/
def validTrustedUptoCard : Claim7 := { stood := { row := validTrustedUptoRow, standIns := [], harness := (true, "99295e100ad3f3eeabfeebad6fc00a93909dc4dcf809dd481a817c6f9a007b7c"), looks := true }, kinds := [], alts := [], laidByText := true, laidKinds := [.handle], laidTests := true, laidLooks := .later }
def ValidTrustedUptoCardSaid : Prop := Claim7.holds Tryz.pinned (.plain (OpenSpec.upto validTrustedSpec)) validTrustedUptoCard
end Rows
end Go.Proofs.YtamofhkmhjckaaaGreatDoor
