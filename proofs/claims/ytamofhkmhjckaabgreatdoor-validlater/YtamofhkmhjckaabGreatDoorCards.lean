/-
  DERIVED. GIVEN WITH THE SEED: THE CARDS: each row of YtamofhkmhjckaabGreatDoorRows.lean that lists a variable, with what it lists TIED to the program's text (the seventh form; the later family's looks); each row that meets fmt, with fmt's text TOLD by the authors' own Lean function (tested against real Go, not proved from fmt's source: count such statements apart). THE CARD IS WHAT COUNTS. Prove the row's statement (the work); the ties are given (YtamofhkmhjckaabGreatDoorTie.lean); close each card by the builder's one call (the guide's Derived/Test/ToyasCard.lean, 'card_holds'). Laid BY PROGRAM, IN A SANDBOX (cutbox-door.mjs). By AI agents, Wed Nov 11 2026. No macro, syntax, notation, axiom, sorry.
-/
import Derived.Test.YtamofhkmhjckaabGreatDoorRows
import GoSem.ClaimSeven
namespace Go.Proofs.YtamofhkmhjckaabGreatDoor
namespace Rows

/-- THE TIED CARD OF 'oubliettelaw07.ValidShape'. -/
def validShapeCard : Claim7 := { stood := { row := validShapeRow, standIns := [], harness := (true, "36de7b59810fcc7e2161edc8fbd93bc39a1c290bab58ead28070dbf90c339b0e"), looks := true }, kinds := [], alts := [], laidByText := true, laidKinds := [.handle], laidTests := true, laidLooks := .later }
def ValidShapeCardSaid : Prop := Claim7.holds Tryz.pinned (.plain (OpenSpec.ofChange validShapeSpec)) validShapeCard

/-- THE TIED CARD OF 'oubliettelaw07.ValidSecret'. -/
def validSecretCard : Claim7 := { stood := { row := validSecretRow, standIns := [], harness := (true, "36de7b59810fcc7e2161edc8fbd93bc39a1c290bab58ead28070dbf90c339b0e"), looks := true }, kinds := [], alts := [], laidByText := true, laidKinds := [.handle], laidTests := true, laidLooks := .later }
def ValidSecretCardSaid : Prop := Claim7.holds Tryz.pinned (.plain (OpenSpec.ofChange validSecretSpec)) validSecretCard

/-- THE TIED CARD OF 'oubliettelaw07.ValidLater'. -/
def validLaterCard : Claim7 := { stood := { row := validLaterRow, standIns := [], harness := (true, "36de7b59810fcc7e2161edc8fbd93bc39a1c290bab58ead28070dbf90c339b0e"), looks := true }, kinds := [], alts := [], laidByText := true, laidKinds := [.handle], laidTests := true, laidLooks := .later }
def ValidLaterCardSaid : Prop := Claim7.holds Tryz.pinned (.plain (OpenSpec.ofChange validLaterSpec)) validLaterCard

/-- THE SECOND FORM's CARD OF 'oubliettelaw07.ValidShape'. -/
def validShapeUptoCard : Claim7 := { stood := { row := validShapeUptoRow, standIns := [], harness := (true, "36de7b59810fcc7e2161edc8fbd93bc39a1c290bab58ead28070dbf90c339b0e"), looks := true }, kinds := [], alts := [], laidByText := true, laidKinds := [.handle], laidTests := true, laidLooks := .later }
def ValidShapeUptoCardSaid : Prop := Claim7.holds Tryz.pinned (.plain (OpenSpec.upto validShapeSpec)) validShapeUptoCard

/-- THE SECOND FORM's CARD OF 'oubliettelaw07.ValidSecret'. -/
def validSecretUptoCard : Claim7 := { stood := { row := validSecretUptoRow, standIns := [], harness := (true, "36de7b59810fcc7e2161edc8fbd93bc39a1c290bab58ead28070dbf90c339b0e"), looks := true }, kinds := [], alts := [], laidByText := true, laidKinds := [.handle], laidTests := true, laidLooks := .later }
def ValidSecretUptoCardSaid : Prop := Claim7.holds Tryz.pinned (.plain (OpenSpec.upto validSecretSpec)) validSecretUptoCard

/-- THE SECOND FORM's CARD OF 'oubliettelaw07.ValidLater'. -/
def validLaterUptoCard : Claim7 := { stood := { row := validLaterUptoRow, standIns := [], harness := (true, "36de7b59810fcc7e2161edc8fbd93bc39a1c290bab58ead28070dbf90c339b0e"), looks := true }, kinds := [], alts := [], laidByText := true, laidKinds := [.handle], laidTests := true, laidLooks := .later }
def ValidLaterUptoCardSaid : Prop := Claim7.holds Tryz.pinned (.plain (OpenSpec.upto validLaterSpec)) validLaterUptoCard
end Rows
end Go.Proofs.YtamofhkmhjckaabGreatDoor
