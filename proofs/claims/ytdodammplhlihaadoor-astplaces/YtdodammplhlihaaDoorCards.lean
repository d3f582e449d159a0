/-
  DERIVED. GIVEN WITH THE SEED: THE CARDS: each row of YtdodammplhlihaaDoorRows.lean that lists a variable, with what it lists TIED to the program's text (the seventh form; the later family's looks); each row that meets fmt, with fmt's text TOLD by the authors' own Lean function (tested against real Go, not proved from fmt's source: count such statements apart). THE CARD IS WHAT COUNTS. Prove the row's statement (the work); the ties are given (YtdodammplhlihaaDoorTie.lean); close each card by the builder's one call (the guide's Derived/Test/ToyasCard.lean, 'card_holds'). Laid BY PROGRAM, IN A SANDBOX (cutbox-door.mjs). By AI agents, Wed Nov 11 2026. No macro, syntax, notation, axiom, sorry.
-/
import Derived.Test.YtdodammplhlihaaDoorRows
import GoSem.ClaimSeven
namespace Go.Proofs.YtdodammplhlihaaDoor
namespace Rows

/-- THE TIED CARD OF 'cupellaw10.AstReads'. -/
def astReadsCard : Claim7 := { stood := { row := astReadsRow, standIns := [], harness := (true, "b236d454bfcb447350a2134a71d29715b5752711ea39d2870b75f5f9b97868d8"), looks := false }, kinds := [], alts := [], laidByText := true, laidKinds := [.data, .data, .data], laidTests := true, laidLooks := .later }
def AstReadsCardSaid : Prop := Claim7.holds Tryd.pinned (.plain (OpenSpec.ofChange astReadsSpec)) astReadsCard

/-- THE TIED CARD OF 'cupellaw10.AstPlaces'. -/
def astPlacesCard : Claim7 := { stood := { row := astPlacesRow, standIns := [], harness := (true, "b236d454bfcb447350a2134a71d29715b5752711ea39d2870b75f5f9b97868d8"), looks := false }, kinds := [], alts := [], laidByText := true, laidKinds := [.data, .data, .data], laidTests := true, laidLooks := .later }
def AstPlacesCardSaid : Prop := Claim7.holds Tryd.pinned (.plain (OpenSpec.ofChange astPlacesSpec)) astPlacesCard

/-- THE TIED CARD OF 'cupellaw10.AstCopies'. -/
def astCopiesCard : Claim7 := { stood := { row := astCopiesRow, standIns := [], harness := (true, "b236d454bfcb447350a2134a71d29715b5752711ea39d2870b75f5f9b97868d8"), looks := false }, kinds := [], alts := [], laidByText := true, laidKinds := [.data, .data, .data], laidTests := true, laidLooks := .later }
def AstCopiesCardSaid : Prop := Claim7.holds Tryd.pinned (.plain (OpenSpec.ofChange astCopiesSpec)) astCopiesCard

/-- THE SECOND FORM's CARD OF 'cupellaw10.AstReads'. -/
def astReadsUptoCard : Claim7 := { stood := { row := astReadsUptoRow, standIns := [], harness := (true, "b236d454bfcb447350a2134a71d29715b5752711ea39d2870b75f5f9b97868d8"), looks := false }, kinds := [], alts := [], laidByText := true, laidKinds := [.data, .data, .data], laidTests := true, laidLooks := .later }
def AstReadsUptoCardSaid : Prop := Claim7.holds Tryd.pinned (.plain (OpenSpec.upto astReadsSpec)) astReadsUptoCard

/-- THE SECOND FORM's CARD OF 'cupellaw10.AstPlaces'. -/
def astPlacesUptoCard : Claim7 := { stood := { row := astPlacesUptoRow, standIns := [], harness := (true, "b236d454bfcb447350a2134a71d29715b5752711ea39d2870b75f5f9b97868d8"), looks := false }, kinds := [], alts := [], laidByText := true, laidKinds := [.data, .data, .data], laidTests := true, laidLooks := .later }
def AstPlacesUptoCardSaid : Prop := Claim7.holds Tryd.pinned (.plain (OpenSpec.upto astPlacesSpec)) astPlacesUptoCard

/-- THE SECOND FORM's CARD OF 'cupellaw10.AstCopies'. -/
def astCopiesUptoCard : Claim7 := { stood := { row := astCopiesUptoRow, standIns := [], harness := (true, "b236d454bfcb447350a2134a71d29715b5752711ea39d2870b75f5f9b97868d8"), looks := false }, kinds := [], alts := [], laidByText := true, laidKinds := [.data, .data, .data], laidTests := true, laidLooks := .later }
def AstCopiesUptoCardSaid : Prop := Claim7.holds Tryd.pinned (.plain (OpenSpec.upto astCopiesSpec)) astCopiesUptoCard
end Rows
end Go.Proofs.YtdodammplhlihaaDoor
