/-
  DERIVED. GIVEN WITH THE SEED: THE CARDS: each row of YtcbfpikggphokaaGreatDoorRows.lean that lists a variable, with what it lists TIED to the program's text (the seventh form; the later family's looks); each row that meets fmt, with fmt's text TOLD by the authors' own Lean function (tested against real Go, not proved from fmt's source: count such statements apart). THE CARD IS WHAT COUNTS. Prove the row's statement (the work); the ties are given (YtcbfpikggphokaaGreatDoorTie.lean); close each card by the builder's one call (the guide's Derived/Test/ToyasCard.lean, 'card_holds'). Laid BY PROGRAM, IN A SANDBOX (cutbox-door.mjs). By AI agents, Wed Nov 11 2026. No macro, syntax, notation, axiom, sorry.
-/
import Derived.Test.YtcbfpikggphokaaGreatDoorRows
import GoSem.ClaimSeven
namespace Go.Proofs.YtcbfpikggphokaaGreatDoor
namespace Rows

/-- THE TIED CARD OF 'oubliettelaw05.WbinWrites'. -/
def wbinWritesCard : Claim7 := { stood := { row := wbinWritesRow, standIns := [], harness := (true, "ed36b4c55bae60643c31fd7099fdc0aae67682187e1412675b80535e442aa571"), looks := true }, kinds := [], alts := [], laidByText := true, laidKinds := [.handle], laidTests := true, laidLooks := .later }
def WbinWritesCardSaid : Prop := Claim7.holds Tryz.pinned (.plain (OpenSpec.ofChange wbinWritesSpec)) wbinWritesCard

/-- THE TIED CARD OF 'oubliettelaw05.WbinReads'. -/
def wbinReadsCard : Claim7 := { stood := { row := wbinReadsRow, standIns := [], harness := (true, "ed36b4c55bae60643c31fd7099fdc0aae67682187e1412675b80535e442aa571"), looks := true }, kinds := [], alts := [], laidByText := true, laidKinds := [.handle], laidTests := true, laidLooks := .later }
def WbinReadsCardSaid : Prop := Claim7.holds Tryz.pinned (.plain (OpenSpec.ofChange wbinReadsSpec)) wbinReadsCard

/-- THE TIED CARD OF 'oubliettelaw05.WbinBack'. -/
def wbinBackCard : Claim7 := { stood := { row := wbinBackRow, standIns := [], harness := (true, "ed36b4c55bae60643c31fd7099fdc0aae67682187e1412675b80535e442aa571"), looks := true }, kinds := [], alts := [], laidByText := true, laidKinds := [.handle], laidTests := true, laidLooks := .later }
def WbinBackCardSaid : Prop := Claim7.holds Tryz.pinned (.plain (OpenSpec.ofChange wbinBackSpec)) wbinBackCard

/-- THE TIED CARD OF 'oubliettelaw05.WbinApart'. -/
def wbinApartCard : Claim7 := { stood := { row := wbinApartRow, standIns := [], harness := (true, "ed36b4c55bae60643c31fd7099fdc0aae67682187e1412675b80535e442aa571"), looks := true }, kinds := [], alts := [], laidByText := true, laidKinds := [.handle], laidTests := true, laidLooks := .later }
def WbinApartCardSaid : Prop := Claim7.holds Tryz.pinned (.plain (OpenSpec.ofChange wbinApartSpec)) wbinApartCard

/-- THE TIED CARD OF 'oubliettelaw05.WbinMore'. -/
def wbinMoreCard : Claim7 := { stood := { row := wbinMoreRow, standIns := [], harness := (true, "ed36b4c55bae60643c31fd7099fdc0aae67682187e1412675b80535e442aa571"), looks := true }, kinds := [], alts := [], laidByText := true, laidKinds := [.handle], laidTests := true, laidLooks := .later }
def WbinMoreCardSaid : Prop := Claim7.holds Tryz.pinned (.plain (OpenSpec.ofChange wbinMoreSpec)) wbinMoreCard

/-- THE TIED CARD OF 'oubliettelaw05.WbinLimits'. -/
def wbinLimitsCard : Claim7 := { stood := { row := wbinLimitsRow, standIns := [], harness := (true, "ed36b4c55bae60643c31fd7099fdc0aae67682187e1412675b80535e442aa571"), looks := true }, kinds := [], alts := [], laidByText := true, laidKinds := [.handle], laidTests := true, laidLooks := .later }
def WbinLimitsCardSaid : Prop := Claim7.holds Tryz.pinned (.plain (OpenSpec.ofChange wbinLimitsSpec)) wbinLimitsCard

/-- THE SECOND FORM's CARD OF 'oubliettelaw05.WbinWrites'. -/
def wbinWritesUptoCard : Claim7 := { stood := { row := wbinWritesUptoRow, standIns := [], harness := (true, "ed36b4c55bae60643c31fd7099fdc0aae67682187e1412675b80535e442aa571"), looks := true }, kinds := [], alts := [], laidByText := true, laidKinds := [.handle], laidTests := true, laidLooks := .later }
def WbinWritesUptoCardSaid : Prop := Claim7.holds Tryz.pinned (.plain (OpenSpec.upto wbinWritesSpec)) wbinWritesUptoCard

/-- THE SECOND FORM's CARD OF 'oubliettelaw05.WbinReads'. -/
def wbinReadsUptoCard : Claim7 := { stood := { row := wbinReadsUptoRow, standIns := [], harness := (true, "ed36b4c55bae60643c31fd7099fdc0aae67682187e1412675b80535e442aa571"), looks := true }, kinds := [], alts := [], laidByText := true, laidKinds := [.handle], laidTests := true, laidLooks := .later }
def WbinReadsUptoCardSaid : Prop := Claim7.holds Tryz.pinned (.plain (OpenSpec.upto wbinReadsSpec)) wbinReadsUptoCard

/-- THE SECOND FORM's CARD OF 'oubliettelaw05.WbinBack'. -/
def wbinBackUptoCard : Claim7 := { stood := { row := wbinBackUptoRow, standIns := [], harness := (true, "ed36b4c55bae60643c31fd7099fdc0aae67682187e1412675b80535e442aa571"), looks := true }, kinds := [], alts := [], laidByText := true, laidKinds := [.handle], laidTests := true, laidLooks := .later }
def WbinBackUptoCardSaid : Prop := Claim7.holds Tryz.pinned (.plain (OpenSpec.upto wbinBackSpec)) wbinBackUptoCard

/-- THE SECOND FORM's CARD OF 'oubliettelaw05.WbinApart'. -/
def wbinApartUptoCard : Claim7 := { stood := { row := wbinApartUptoRow, standIns := [], harness := (true, "ed36b4c55bae60643c31fd7099fdc0aae67682187e1412675b80535e442aa571"), looks := true }, kinds := [], alts := [], laidByText := true, laidKinds := [.handle], laidTests := true, laidLooks := .later }
def WbinApartUptoCardSaid : Prop := Claim7.holds Tryz.pinned (.plain (OpenSpec.upto wbinApartSpec)) wbinApartUptoCard

/-- THE SECOND FORM's CARD OF 'oubliettelaw05.WbinMore'. -/
def wbinMoreUptoCard : Claim7 := { stood := { row := wbinMoreUptoRow, standIns := [], harness := (true, "ed36b4c55bae60643c31fd7099fdc0aae67682187e1412675b80535e442aa571"), looks := true }, kinds := [], alts := [], laidByText := true, laidKinds := [.handle], laidTests := true, laidLooks := .later }
def WbinMoreUptoCardSaid : Prop := Claim7.holds Tryz.pinned (.plain (OpenSpec.upto wbinMoreSpec)) wbinMoreUptoCard

/-- THE SECOND FORM's CARD OF 'oubliettelaw05.WbinLimits'. -/
def wbinLimitsUptoCard : Claim7 := { stood := { row := wbinLimitsUptoRow, standIns := [], harness := (true, "ed36b4c55bae60643c31fd7099fdc0aae67682187e1412675b80535e442aa571"), looks := true }, kinds := [], alts := [], laidByText := true, laidKinds := [.handle], laidTests := true, laidLooks := .later }
def WbinLimitsUptoCardSaid : Prop := Claim7.holds Tryz.pinned (.plain (OpenSpec.upto wbinLimitsSpec)) wbinLimitsUptoCard
end Rows
end Go.Proofs.YtcbfpikggphokaaGreatDoor
