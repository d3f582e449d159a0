/-
  DERIVED. GIVEN WITH THE SEED: THE CARDS: each row of YtajoncmmdeahnaaGreatDoorRows.lean that lists a variable, with what it lists TIED to the program's text (the seventh form; the later family's looks); each row that meets fmt, with fmt's text TOLD by the authors' own Lean function (tested against real Go, not proved from fmt's source: count such statements apart). THE CARD IS WHAT COUNTS. Prove the row's statement (the work); the ties are given (YtajoncmmdeahnaaGreatDoorTie.lean); close each card by the builder's one call (the guide's Derived/Test/ToyasCard.lean, 'card_holds'). Laid BY PROGRAM, IN A SANDBOX (cutbox-door.mjs). By AI agents, Wed Nov 11 2026. No macro, syntax, notation, axiom, sorry.
-/
import Derived.Test.YtajoncmmdeahnaaGreatDoorRows
import GoSem.ClaimSeven
namespace Go.Proofs.YtajoncmmdeahnaaGreatDoor
namespace Rows

/-- THE TIED CARD OF 'cupellaw11.ParseRanks'. -/
def parseRanksCard : Claim7 := { stood := { row := parseRanksRow, standIns := [], harness := (true, "1f2a90a60597b934bb27e37cd04fc387d581047c90a4d78b5c680830cd1fdc43"), looks := true }, kinds := [], alts := [], laidByText := true, laidKinds := [.data, .data, .widerDeep, .widerDeep, .data, .data, .data, .data, .data, .data, .sentinel, .sentinel, .pinned, .pinned, .pinned], laidTests := true, laidLooks := .later }
def ParseRanksCardSaid : Prop := Claim7.holds Tryz.pinned (.plain (OpenSpec.ofChange parseRanksSpec)) parseRanksCard

/-- THE TIED CARD OF 'cupellaw12.CheckScopes'. -/
def checkScopesCard : Claim7 := { stood := { row := checkScopesRow, standIns := [], harness := (true, "1f2a90a60597b934bb27e37cd04fc387d581047c90a4d78b5c680830cd1fdc43"), looks := true }, kinds := [], alts := [], laidByText := true, laidKinds := [.data, .data, .widerDeep, .widerDeep, .data, .data, .data, .data, .data, .data, .sentinel, .sentinel, .pinned, .pinned, .pinned], laidTests := true, laidLooks := .later }
def CheckScopesCardSaid : Prop := Claim7.holds Tryz.pinned (.plain (OpenSpec.ofChange checkScopesSpec)) checkScopesCard

/-- THE TIED CARD OF 'cupellaw12.CheckSigns'. -/
def checkSignsCard : Claim7 := { stood := { row := checkSignsRow, standIns := [], harness := (true, "1f2a90a60597b934bb27e37cd04fc387d581047c90a4d78b5c680830cd1fdc43"), looks := true }, kinds := [], alts := [], laidByText := true, laidKinds := [.data, .data, .widerDeep, .widerDeep, .data, .data, .data, .data, .data, .data, .sentinel, .sentinel, .pinned, .pinned, .pinned], laidTests := true, laidLooks := .later }
def CheckSignsCardSaid : Prop := Claim7.holds Tryz.pinned (.plain (OpenSpec.ofChange checkSignsSpec)) checkSignsCard

/-- THE TIED CARD OF 'cupellaw14.InterpDeep'. -/
def interpDeepCard : Claim7 := { stood := { row := interpDeepRow, standIns := [], harness := (true, "1f2a90a60597b934bb27e37cd04fc387d581047c90a4d78b5c680830cd1fdc43"), looks := true }, kinds := [], alts := [], laidByText := true, laidKinds := [.data, .data, .widerDeep, .widerDeep, .data, .data, .data, .data, .data, .data, .sentinel, .sentinel, .pinned, .pinned, .pinned], laidTests := true, laidLooks := .later }
def InterpDeepCardSaid : Prop := Claim7.holds Tryz.pinned (.plain (OpenSpec.ofChange interpDeepSpec)) interpDeepCard

/-- THE TIED CARD OF 'cupellaw14.InterpLoops'. -/
def interpLoopsCard : Claim7 := { stood := { row := interpLoopsRow, standIns := [], harness := (true, "1f2a90a60597b934bb27e37cd04fc387d581047c90a4d78b5c680830cd1fdc43"), looks := true }, kinds := [], alts := [], laidByText := true, laidKinds := [.data, .data, .widerDeep, .widerDeep, .data, .data, .data, .data, .data, .data, .sentinel, .sentinel, .pinned, .pinned, .pinned], laidTests := true, laidLooks := .later }
def InterpLoopsCardSaid : Prop := Claim7.holds Tryz.pinned (.plain (OpenSpec.ofChange interpLoopsSpec)) interpLoopsCard

/-- THE TIED CARD OF 'cupellaw14.InterpTraps'. -/
def interpTrapsCard : Claim7 := { stood := { row := interpTrapsRow, standIns := [], harness := (true, "1f2a90a60597b934bb27e37cd04fc387d581047c90a4d78b5c680830cd1fdc43"), looks := true }, kinds := [], alts := [], laidByText := true, laidKinds := [.data, .data, .widerDeep, .widerDeep, .data, .data, .data, .data, .data, .data, .sentinel, .sentinel, .pinned, .pinned, .pinned], laidTests := true, laidLooks := .later }
def InterpTrapsCardSaid : Prop := Claim7.holds Tryz.pinned (.plain (OpenSpec.ofChange interpTrapsSpec)) interpTrapsCard

/-- THE SECOND FORM's CARD OF 'cupellaw11.ParseRanks'. -/
def parseRanksUptoCard : Claim7 := { stood := { row := parseRanksUptoRow, standIns := [], harness := (true, "1f2a90a60597b934bb27e37cd04fc387d581047c90a4d78b5c680830cd1fdc43"), looks := true }, kinds := [], alts := [], laidByText := true, laidKinds := [.data, .data, .widerDeep, .widerDeep, .data, .data, .data, .data, .data, .data, .sentinel, .sentinel, .pinned, .pinned, .pinned], laidTests := true, laidLooks := .later }
def ParseRanksUptoCardSaid : Prop := Claim7.holds Tryz.pinned (.plain (OpenSpec.upto parseRanksSpec)) parseRanksUptoCard

/-- THE SECOND FORM's CARD OF 'cupellaw12.CheckScopes'. -/
def checkScopesUptoCard : Claim7 := { stood := { row := checkScopesUptoRow, standIns := [], harness := (true, "1f2a90a60597b934bb27e37cd04fc387d581047c90a4d78b5c680830cd1fdc43"), looks := true }, kinds := [], alts := [], laidByText := true, laidKinds := [.data, .data, .widerDeep, .widerDeep, .data, .data, .data, .data, .data, .data, .sentinel, .sentinel, .pinned, .pinned, .pinned], laidTests := true, laidLooks := .later }
def CheckScopesUptoCardSaid : Prop := Claim7.holds Tryz.pinned (.plain (OpenSpec.upto checkScopesSpec)) checkScopesUptoCard

/-- THE SECOND FORM's CARD OF 'cupellaw12.CheckSigns'. -/
def checkSignsUptoCard : Claim7 := { stood := { row := checkSignsUptoRow, standIns := [], harness := (true, "1f2a90a60597b934bb27e37cd04fc387d581047c90a4d78b5c680830cd1fdc43"), looks := true }, kinds := [], alts := [], laidByText := true, laidKinds := [.data, .data, .widerDeep, .widerDeep, .data, .data, .data, .data, .data, .data, .sentinel, .sentinel, .pinned, .pinned, .pinned], laidTests := true, laidLooks := .later }
def CheckSignsUptoCardSaid : Prop := Claim7.holds Tryz.pinned (.plain (OpenSpec.upto checkSignsSpec)) checkSignsUptoCard

/-- THE SECOND FORM's CARD OF 'cupellaw14.InterpDeep'. -/
def interpDeepUptoCard : Claim7 := { stood := { row := interpDeepUptoRow, standIns := [], harness := (true, "1f2a90a60597b934bb27e37cd04fc387d581047c90a4d78b5c680830cd1fdc43"), looks := true }, kinds := [], alts := [], laidByText := true, laidKinds := [.data, .data, .widerDeep, .widerDeep, .data, .data, .data, .data, .data, .data, .sentinel, .sentinel, .pinned, .pinned, .pinned], laidTests := true, laidLooks := .later }
def InterpDeepUptoCardSaid : Prop := Claim7.holds Tryz.pinned (.plain (OpenSpec.upto interpDeepSpec)) interpDeepUptoCard

/-- THE SECOND FORM's CARD OF 'cupellaw14.InterpLoops'. -/
def interpLoopsUptoCard : Claim7 := { stood := { row := interpLoopsUptoRow, standIns := [], harness := (true, "1f2a90a60597b934bb27e37cd04fc387d581047c90a4d78b5c680830cd1fdc43"), looks := true }, kinds := [], alts := [], laidByText := true, laidKinds := [.data, .data, .widerDeep, .widerDeep, .data, .data, .data, .data, .data, .data, .sentinel, .sentinel, .pinned, .pinned, .pinned], laidTests := true, laidLooks := .later }
def InterpLoopsUptoCardSaid : Prop := Claim7.holds Tryz.pinned (.plain (OpenSpec.upto interpLoopsSpec)) interpLoopsUptoCard

/-- THE SECOND FORM's CARD OF 'cupellaw14.InterpTraps'. -/
def interpTrapsUptoCard : Claim7 := { stood := { row := interpTrapsUptoRow, standIns := [], harness := (true, "1f2a90a60597b934bb27e37cd04fc387d581047c90a4d78b5c680830cd1fdc43"), looks := true }, kinds := [], alts := [], laidByText := true, laidKinds := [.data, .data, .widerDeep, .widerDeep, .data, .data, .data, .data, .data, .data, .sentinel, .sentinel, .pinned, .pinned, .pinned], laidTests := true, laidLooks := .later }
def InterpTrapsUptoCardSaid : Prop := Claim7.holds Tryz.pinned (.plain (OpenSpec.upto interpTrapsSpec)) interpTrapsUptoCard
end Rows
end Go.Proofs.YtajoncmmdeahnaaGreatDoor
