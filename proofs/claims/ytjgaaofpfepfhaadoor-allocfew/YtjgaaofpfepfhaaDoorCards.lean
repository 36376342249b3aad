/-
  DERIVED. GIVEN WITH THE SEED: THE CARDS: each row of YtjgaaofpfepfhaaDoorRows.lean that lists a variable, with what it lists TIED to the program's text (the seventh form; the later family's looks); each row that meets fmt, with fmt's text TOLD by the authors' own Lean function (tested against real Go, not proved from fmt's source: count such statements apart). THE CARD IS WHAT COUNTS. Prove the row's statement (the work); the ties are given (YtjgaaofpfepfhaaDoorTie.lean); close each card by the builder's one call (the guide's Derived/Test/ToyasCard.lean, 'card_holds'). Laid BY PROGRAM, IN A SANDBOX (cutbox-door.mjs). By AI agents, Wed Nov 11 2026. No macro, syntax, notation, axiom, sorry.
-/
import Derived.Test.YtjgaaofpfepfhaaDoorRows
import GoSem.ClaimSeven
namespace Go.Proofs.YtjgaaofpfepfhaaDoor
namespace Rows

/-- THE TIED CARD OF 'oubliettelaw17.AllocPlaces'. -/
def allocPlacesCard : Claim7 := { stood := { row := allocPlacesRow, standIns := [], harness := (true, "f5d7507ae626ef73756be67c06d91b6efe48f9cda145ce547d3ecab7d9026352"), looks := false }, kinds := [], alts := [], laidByText := true, laidKinds := [.data], laidTests := true, laidLooks := .later }
def AllocPlacesCardSaid : Prop := Claim7.holds Tryd.pinned (.plain (OpenSpec.ofChange allocPlacesSpec)) allocPlacesCard

/-- THE TIED CARD OF 'oubliettelaw17.AllocApart'. -/
def allocApartCard : Claim7 := { stood := { row := allocApartRow, standIns := [], harness := (true, "f5d7507ae626ef73756be67c06d91b6efe48f9cda145ce547d3ecab7d9026352"), looks := false }, kinds := [], alts := [], laidByText := true, laidKinds := [.data], laidTests := true, laidLooks := .later }
def AllocApartCardSaid : Prop := Claim7.holds Tryd.pinned (.plain (OpenSpec.ofChange allocApartSpec)) allocApartCard

/-- THE TIED CARD OF 'oubliettelaw17.AllocFew'. -/
def allocFewCard : Claim7 := { stood := { row := allocFewRow, standIns := [], harness := (true, "f5d7507ae626ef73756be67c06d91b6efe48f9cda145ce547d3ecab7d9026352"), looks := false }, kinds := [], alts := [], laidByText := true, laidKinds := [.data], laidTests := true, laidLooks := .later }
def AllocFewCardSaid : Prop := Claim7.holds Tryd.pinned (.plain (OpenSpec.ofChange allocFewSpec)) allocFewCard

/-- THE SECOND FORM's CARD OF 'oubliettelaw17.AllocPlaces'. -/
def allocPlacesUptoCard : Claim7 := { stood := { row := allocPlacesUptoRow, standIns := [], harness := (true, "f5d7507ae626ef73756be67c06d91b6efe48f9cda145ce547d3ecab7d9026352"), looks := false }, kinds := [], alts := [], laidByText := true, laidKinds := [.data], laidTests := true, laidLooks := .later }
def AllocPlacesUptoCardSaid : Prop := Claim7.holds Tryd.pinned (.plain (OpenSpec.upto allocPlacesSpec)) allocPlacesUptoCard

/-- THE SECOND FORM's CARD OF 'oubliettelaw17.AllocApart'. -/
def allocApartUptoCard : Claim7 := { stood := { row := allocApartUptoRow, standIns := [], harness := (true, "f5d7507ae626ef73756be67c06d91b6efe48f9cda145ce547d3ecab7d9026352"), looks := false }, kinds := [], alts := [], laidByText := true, laidKinds := [.data], laidTests := true, laidLooks := .later }
def AllocApartUptoCardSaid : Prop := Claim7.holds Tryd.pinned (.plain (OpenSpec.upto allocApartSpec)) allocApartUptoCard

/-- THE SECOND FORM's CARD OF 'oubliettelaw17.AllocFew'. -/
def allocFewUptoCard : Claim7 := { stood := { row := allocFewUptoRow, standIns := [], harness := (true, "f5d7507ae626ef73756be67c06d91b6efe48f9cda145ce547d3ecab7d9026352"), looks := false }, kinds := [], alts := [], laidByText := true, laidKinds := [.data], laidTests := true, laidLooks := .later }
def AllocFewUptoCardSaid : Prop := Claim7.holds Tryd.pinned (.plain (OpenSpec.upto allocFewSpec)) allocFewUptoCard
end Rows
end Go.Proofs.YtjgaaofpfepfhaaDoor
