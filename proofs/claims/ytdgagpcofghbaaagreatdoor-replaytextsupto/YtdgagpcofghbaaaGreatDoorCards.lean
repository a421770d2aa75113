/-
  DERIVED. GIVEN WITH THE SEED: THE CARDS: each row of YtdgagpcofghbaaaGreatDoorRows.lean that lists a variable, with what it lists TIED to the program's text (the seventh form; the later family's looks); each row that meets fmt, with fmt's text TOLD by the authors' own Lean function (tested against real Go, not proved from fmt's source: count such statements apart). THE CARD IS WHAT COUNTS. Prove the row's statement (the work); the ties are given (YtdgagpcofghbaaaGreatDoorTie.lean); close each card by the builder's one call (the guide's Derived/Test/ToyasCard.lean, 'card_holds'). Laid BY PROGRAM, IN A SANDBOX (cutbox-door.mjs). By AI agents, Wed Nov 11 2026. No macro, syntax, notation, axiom, sorry.
-/
import Derived.Test.YtdgagpcofghbaaaGreatDoorRows
import GoSem.ClaimSeven
namespace Go.Proofs.YtdgagpcofghbaaaGreatDoor
namespace Rows

/-- THE TIED CARD OF 'shutterlaw21.ReplayTexts'. -/
def replayTextsCard : Claim7 := { stood := { row := replayTextsRow, standIns := [], harness := (true, "d3896548133aadeefbb5f0b6ba5847f2ec1233a7821e8894c1a3393b9612ef67"), looks := true }, kinds := [], alts := [], laidByText := true, laidKinds := [.data, .data, .data, .data, .sentinel, .sentinel, .pinned], laidTests := true, laidLooks := .later }
def ReplayTextsCardSaid : Prop := Claim7.holds Tryz.pinned (.plain (OpenSpec.ofChange replayTextsSpec)) replayTextsCard

/-- THE TIED CARD OF 'shutterlaw21.ReplayBack'. -/
def replayBackCard : Claim7 := { stood := { row := replayBackRow, standIns := [], harness := (true, "d3896548133aadeefbb5f0b6ba5847f2ec1233a7821e8894c1a3393b9612ef67"), looks := true }, kinds := [], alts := [], laidByText := true, laidKinds := [.data, .data, .data, .data, .sentinel, .sentinel, .pinned], laidTests := true, laidLooks := .later }
def ReplayBackCardSaid : Prop := Claim7.holds Tryz.pinned (.plain (OpenSpec.ofChange replayBackSpec)) replayBackCard

/-- THE SECOND FORM's CARD OF 'shutterlaw21.ReplayTexts'. -/
def replayTextsUptoCard : Claim7 := { stood := { row := replayTextsUptoRow, standIns := [], harness := (true, "d3896548133aadeefbb5f0b6ba5847f2ec1233a7821e8894c1a3393b9612ef67"), looks := true }, kinds := [], alts := [], laidByText := true, laidKinds := [.data, .data, .data, .data, .sentinel, .sentinel, .pinned], laidTests := true, laidLooks := .later }
def ReplayTextsUptoCardSaid : Prop := Claim7.holds Tryz.pinned (.plain (OpenSpec.upto replayTextsSpec)) replayTextsUptoCard

/-- THE SECOND FORM's CARD OF 'shutterlaw21.ReplayBack'. -/
def replayBackUptoCard : Claim7 := { stood := { row := replayBackUptoRow, standIns := [], harness := (true, "d3896548133aadeefbb5f0b6ba5847f2ec1233a7821e8894c1a3393b9612ef67"), looks := true }, kinds := [], alts := [], laidByText := true, laidKinds := [.data, .data, .data, .data, .sentinel, .sentinel, .pinned], laidTests := true, laidLooks := .later }
def ReplayBackUptoCardSaid : Prop := Claim7.holds Tryz.pinned (.plain (OpenSpec.upto replayBackSpec)) replayBackUptoCard
end Rows
end Go.Proofs.YtdgagpcofghbaaaGreatDoor
