/-
  DERIVED. GIVEN WITH THE SEED: THE CARDS: each row of YtncplpgelfjfjaaDoorRows.lean that lists a variable, with what it lists TIED to the program's text (the seventh form; the later family's looks); each row that meets fmt, with fmt's text TOLD by the authors' own Lean function (tested against real Go, not proved from fmt's source: count such statements apart). THE CARD IS WHAT COUNTS. Prove the row's statement (the work); the ties are given (YtncplpgelfjfjaaDoorTie.lean); close each card by the builder's one call (the guide's Derived/Test/ToyasCard.lean, 'card_holds'). Laid BY PROGRAM, IN A SANDBOX (cutbox-door.mjs). By AI agents, Wed Nov 11 2026. No macro, syntax, notation, axiom, sorry.
-/
import Derived.Test.YtncplpgelfjfjaaDoorRows
import GoSem.ClaimSeven
namespace Go.Proofs.YtncplpgelfjfjaaDoor
namespace Rows

/-- THE TIED CARD OF 'cupellaw01.ShaTurns'. -/
def shaTurnsCard : Claim7 := { stood := { row := shaTurnsRow, standIns := [], harness := (true, "7282d1e142ad6987238eeb497fb87d738d62c68119604d179caeb9d509c4d743"), looks := false }, kinds := [], alts := [], laidByText := true, laidKinds := [.data, .data, .data], laidTests := true, laidLooks := .later }
def ShaTurnsCardSaid : Prop := Claim7.holds Tryd.pinned (.plain (OpenSpec.ofChange shaTurnsSpec)) shaTurnsCard

/-- THE TIED CARD OF 'cupellaw01.ShaDigests'. -/
def shaDigestsCard : Claim7 := { stood := { row := shaDigestsRow, standIns := [], harness := (true, "7282d1e142ad6987238eeb497fb87d738d62c68119604d179caeb9d509c4d743"), looks := false }, kinds := [], alts := [], laidByText := true, laidKinds := [.data, .data, .data], laidTests := true, laidLooks := .later }
def ShaDigestsCardSaid : Prop := Claim7.holds Tryd.pinned (.plain (OpenSpec.ofChange shaDigestsSpec)) shaDigestsCard

/-- THE TIED CARD OF 'cupellaw01.ShaSoaks'. -/
def shaSoaksCard : Claim7 := { stood := { row := shaSoaksRow, standIns := [], harness := (true, "7282d1e142ad6987238eeb497fb87d738d62c68119604d179caeb9d509c4d743"), looks := false }, kinds := [], alts := [], laidByText := true, laidKinds := [.data, .data, .data], laidTests := true, laidLooks := .later }
def ShaSoaksCardSaid : Prop := Claim7.holds Tryd.pinned (.plain (OpenSpec.ofChange shaSoaksSpec)) shaSoaksCard

/-- THE TIED CARD OF 'cupellaw01.ShaParts'. -/
def shaPartsCard : Claim7 := { stood := { row := shaPartsRow, standIns := [], harness := (true, "7282d1e142ad6987238eeb497fb87d738d62c68119604d179caeb9d509c4d743"), looks := false }, kinds := [], alts := [], laidByText := true, laidKinds := [.data, .data, .data], laidTests := true, laidLooks := .later }
def ShaPartsCardSaid : Prop := Claim7.holds Tryd.pinned (.plain (OpenSpec.ofChange shaPartsSpec)) shaPartsCard

/-- THE TIED CARD OF 'cupellaw01.ShaClashes'. -/
def shaClashesCard : Claim7 := { stood := { row := shaClashesRow, standIns := [], harness := (true, "7282d1e142ad6987238eeb497fb87d738d62c68119604d179caeb9d509c4d743"), looks := false }, kinds := [], alts := [], laidByText := true, laidKinds := [.data, .data, .data], laidTests := true, laidLooks := .later }
def ShaClashesCardSaid : Prop := Claim7.holds Tryd.pinned (.plain (OpenSpec.ofChange shaClashesSpec)) shaClashesCard

/-- THE SECOND FORM's CARD OF 'cupellaw01.ShaTurns'. -/
def shaTurnsUptoCard : Claim7 := { stood := { row := shaTurnsUptoRow, standIns := [], harness := (true, "7282d1e142ad6987238eeb497fb87d738d62c68119604d179caeb9d509c4d743"), looks := false }, kinds := [], alts := [], laidByText := true, laidKinds := [.data, .data, .data], laidTests := true, laidLooks := .later }
def ShaTurnsUptoCardSaid : Prop := Claim7.holds Tryd.pinned (.plain (OpenSpec.upto shaTurnsSpec)) shaTurnsUptoCard

/-- THE SECOND FORM's CARD OF 'cupellaw01.ShaDigests'. -/
def shaDigestsUptoCard : Claim7 := { stood := { row := shaDigestsUptoRow, standIns := [], harness := (true, "7282d1e142ad6987238eeb497fb87d738d62c68119604d179caeb9d509c4d743"), looks := false }, kinds := [], alts := [], laidByText := true, laidKinds := [.data, .data, .data], laidTests := true, laidLooks := .later }
def ShaDigestsUptoCardSaid : Prop := Claim7.holds Tryd.pinned (.plain (OpenSpec.upto shaDigestsSpec)) shaDigestsUptoCard

/-- THE SECOND FORM's CARD OF 'cupellaw01.ShaSoaks'. -/
def shaSoaksUptoCard : Claim7 := { stood := { row := shaSoaksUptoRow, standIns := [], harness := (true, "7282d1e142ad6987238eeb497fb87d738d62c68119604d179caeb9d509c4d743"), looks := false }, kinds := [], alts := [], laidByText := true, laidKinds := [.data, .data, .data], laidTests := true, laidLooks := .later }
def ShaSoaksUptoCardSaid : Prop := Claim7.holds Tryd.pinned (.plain (OpenSpec.upto shaSoaksSpec)) shaSoaksUptoCard

/-- THE SECOND FORM's CARD OF 'cupellaw01.ShaParts'. -/
def shaPartsUptoCard : Claim7 := { stood := { row := shaPartsUptoRow, standIns := [], harness := (true, "7282d1e142ad6987238eeb497fb87d738d62c68119604d179caeb9d509c4d743"), looks := false }, kinds := [], alts := [], laidByText := true, laidKinds := [.data, .data, .data], laidTests := true, laidLooks := .later }
def ShaPartsUptoCardSaid : Prop := Claim7.holds Tryd.pinned (.plain (OpenSpec.upto shaPartsSpec)) shaPartsUptoCard

/-- THE SECOND FORM's CARD OF 'cupellaw01.ShaClashes'. -/
def shaClashesUptoCard : Claim7 := { stood := { row := shaClashesUptoRow, standIns := [], harness := (true, "7282d1e142ad6987238eeb497fb87d738d62c68119604d179caeb9d509c4d743"), looks := false }, kinds := [], alts := [], laidByText := true, laidKinds := [.data, .data, .data], laidTests := true, laidLooks := .later }
def ShaClashesUptoCardSaid : Prop := Claim7.holds Tryd.pinned (.plain (OpenSpec.upto shaClashesSpec)) shaClashesUptoCard
end Rows
end Go.Proofs.YtncplpgelfjfjaaDoor
