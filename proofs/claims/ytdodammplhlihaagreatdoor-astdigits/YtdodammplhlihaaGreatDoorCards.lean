/-
  DERIVED. GIVEN WITH THE SEED: THE CARDS: each row of YtdodammplhlihaaGreatDoorRows.lean that lists a variable, with what it lists TIED to the program's text (the seventh form; the later family's looks); each row that meets fmt, with fmt's text TOLD by the authors' own Lean function (tested against real Go, not proved from fmt's source: count such statements apart). THE CARD IS WHAT COUNTS. Prove the row's statement (the work); the ties are given (YtdodammplhlihaaGreatDoorTie.lean); close each card by the builder's one call (the guide's Derived/Test/ToyasCard.lean, 'card_holds'). Laid BY PROGRAM, IN A SANDBOX (cutbox-door.mjs). By AI agents, Wed Nov 11 2026. No macro, syntax, notation, axiom, sorry.
-/
import Derived.Test.YtdodammplhlihaaGreatDoorRows
import GoSem.ClaimSeven
namespace Go.Proofs.YtdodammplhlihaaGreatDoor
namespace Rows

/-- THE TIED CARD OF 'cupellaw10.AstDigits'. -/
def astDigitsCard : Claim7 := { stood := { row := astDigitsRow, standIns := [], harness := (true, "fc2dd8736f13ef8916628f4a9d085391f937de7652d08bfd900c82651febba91"), looks := true }, kinds := [], alts := [], laidByText := true, laidKinds := [.data, .data, .widerDeep, .widerDeep, .data, .data, .data, .data, .data, .data, .sentinel, .sentinel, .pinned, .pinned, .pinned], laidTests := true, laidLooks := .later }
def AstDigitsCardSaid : Prop := Claim7.holds Tryz.pinned (.plain (OpenSpec.ofChange astDigitsSpec)) astDigitsCard

/-- THE SECOND FORM's CARD OF 'cupellaw10.AstDigits'. -/
def astDigitsUptoCard : Claim7 := { stood := { row := astDigitsUptoRow, standIns := [], harness := (true, "fc2dd8736f13ef8916628f4a9d085391f937de7652d08bfd900c82651febba91"), looks := true }, kinds := [], alts := [], laidByText := true, laidKinds := [.data, .data, .widerDeep, .widerDeep, .data, .data, .data, .data, .data, .data, .sentinel, .sentinel, .pinned, .pinned, .pinned], laidTests := true, laidLooks := .later }
def AstDigitsUptoCardSaid : Prop := Claim7.holds Tryz.pinned (.plain (OpenSpec.upto astDigitsSpec)) astDigitsUptoCard
end Rows
end Go.Proofs.YtdodammplhlihaaGreatDoor
