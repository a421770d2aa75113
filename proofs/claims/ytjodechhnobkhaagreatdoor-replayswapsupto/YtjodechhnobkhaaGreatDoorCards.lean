/-
  DERIVED. GIVEN WITH THE SEED: THE CARDS: each row of YtjodechhnobkhaaGreatDoorRows.lean that lists a variable, with what it lists TIED to the program's text (the seventh form; the later family's looks); each row that meets fmt, with fmt's text TOLD by the authors' own Lean function (tested against real Go, not proved from fmt's source: count such statements apart). THE CARD IS WHAT COUNTS. Prove the row's statement (the work); the ties are given (YtjodechhnobkhaaGreatDoorTie.lean); close each card by the builder's one call (the guide's Derived/Test/ToyasCard.lean, 'card_holds'). Laid BY PROGRAM, IN A SANDBOX (cutbox-door.mjs). By AI agents, Wed Nov 11 2026. No macro, syntax, notation, axiom, sorry.
-/
import Derived.Test.YtjodechhnobkhaaGreatDoorRows
import GoSem.ClaimSeven
namespace Go.Proofs.YtjodechhnobkhaaGreatDoor
namespace Rows

/-- THE TIED CARD OF 'shutterlaw21.ReplayChecks'. -/
def replayChecksCard : Claim7 := { stood := { row := replayChecksRow, standIns := [], harness := (true, "8ead5aa5fdc507ec59f1cb4f4fc472ad43eab745127581989b0a1137fde74de1"), looks := false }, kinds := [], alts := [], laidByText := true, laidKinds := [.data, .data, .data], laidTests := true, laidLooks := .later }
def ReplayChecksCardSaid : Prop := Claim7.holds Tryz.pinned (.plain (OpenSpec.ofChange replayChecksSpec)) replayChecksCard

/-- THE TIED CARD OF 'shutterlaw21.ReplaySwaps'. -/
def replaySwapsCard : Claim7 := { stood := { row := replaySwapsRow, standIns := [], harness := (true, "8ead5aa5fdc507ec59f1cb4f4fc472ad43eab745127581989b0a1137fde74de1"), looks := false }, kinds := [], alts := [], laidByText := true, laidKinds := [.data, .data, .data], laidTests := true, laidLooks := .later }
def ReplaySwapsCardSaid : Prop := Claim7.holds Tryz.pinned (.plain (OpenSpec.ofChange replaySwapsSpec)) replaySwapsCard

/-- THE SECOND FORM's CARD OF 'shutterlaw21.ReplayChecks'. -/
def replayChecksUptoCard : Claim7 := { stood := { row := replayChecksUptoRow, standIns := [], harness := (true, "8ead5aa5fdc507ec59f1cb4f4fc472ad43eab745127581989b0a1137fde74de1"), looks := false }, kinds := [], alts := [], laidByText := true, laidKinds := [.data, .data, .data], laidTests := true, laidLooks := .later }
def ReplayChecksUptoCardSaid : Prop := Claim7.holds Tryz.pinned (.plain (OpenSpec.upto replayChecksSpec)) replayChecksUptoCard

/-- THE SECOND FORM's CARD OF 'shutterlaw21.ReplaySwaps'. -/
def replaySwapsUptoCard : Claim7 := { stood := { row := replaySwapsUptoRow, standIns := [], harness := (true, "8ead5aa5fdc507ec59f1cb4f4fc472ad43eab745127581989b0a1137fde74de1"), looks := false }, kinds := [], alts := [], laidByText := true, laidKinds := [.data, .data, .data], laidTests := true, laidLooks := .later }
def ReplaySwapsUptoCardSaid : Prop := Claim7.holds Tryz.pinned (.plain (OpenSpec.upto replaySwapsSpec)) replaySwapsUptoCard
end Rows
end Go.Proofs.YtjodechhnobkhaaGreatDoor
