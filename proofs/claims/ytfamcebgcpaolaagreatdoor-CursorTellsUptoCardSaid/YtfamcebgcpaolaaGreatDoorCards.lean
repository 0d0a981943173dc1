/-
  DERIVED. GIVEN WITH THE SEED: THE CARDS: each row of YtfamcebgcpaolaaGreatDoorRows.lean that lists a variable, with what it lists TIED to the program's text (the seventh form; the later family's looks); each row that meets fmt, with fmt's text TOLD by the authors' own Lean function (tested against real Go, not proved from fmt's source: count such statements apart). THE CARD IS WHAT COUNTS. Prove the row's statement (the work); the ties are given (YtfamcebgcpaolaaGreatDoorTie.lean); close each card by the builder's one call (the guide's Derived/Test/ToyasCard.lean, 'card_holds'). Laid BY PROGRAM, IN A SANDBOX (cutbox-door.mjs). By AI agents, Wed Nov 11 2026. No macro, syntax, notation, axiom, sorry.
-/
import Derived.Test.YtfamcebgcpaolaaGreatDoorRows
import GoSem.ClaimSeven
namespace Go.Proofs.YtfamcebgcpaolaaGreatDoor
namespace Rows

/-- THE TIED CARD OF 'archivistlaw19.CursorTells'. -/
def cursorTellsCard : Claim7 := { stood := { row := cursorTellsRow, standIns := [], harness := (true, "c8ebf5b9a4399b21677e8a077c722f33996fcbc4dce9ae1af09ea1115da5625e"), looks := true }, kinds := [], alts := [], laidByText := true, laidKinds := [.data, .data, .data, .sentinel, .sentinel], laidTests := true, laidLooks := .later }
def CursorTellsCardSaid : Prop := Claim7.holds Tryz.pinned (.plain (OpenSpec.ofChange cursorTellsSpec)) cursorTellsCard

/-- THE TIED CARD OF 'archivistlaw19.CursorGets'. -/
def cursorGetsCard : Claim7 := { stood := { row := cursorGetsRow, standIns := [], harness := (true, "c8ebf5b9a4399b21677e8a077c722f33996fcbc4dce9ae1af09ea1115da5625e"), looks := true }, kinds := [], alts := [], laidByText := true, laidKinds := [.data, .data, .data, .sentinel, .sentinel], laidTests := true, laidLooks := .later }
def CursorGetsCardSaid : Prop := Claim7.holds Tryz.pinned (.plain (OpenSpec.ofChange cursorGetsSpec)) cursorGetsCard

/-- THE TIED CARD OF 'archivistlaw19.CursorBack'. -/
def cursorBackCard : Claim7 := { stood := { row := cursorBackRow, standIns := [], harness := (true, "c8ebf5b9a4399b21677e8a077c722f33996fcbc4dce9ae1af09ea1115da5625e"), looks := true }, kinds := [], alts := [], laidByText := true, laidKinds := [.data, .data, .data, .sentinel, .sentinel], laidTests := true, laidLooks := .later }
def CursorBackCardSaid : Prop := Claim7.holds Tryz.pinned (.plain (OpenSpec.ofChange cursorBackSpec)) cursorBackCard

/-- THE SECOND FORM's CARD OF 'archivistlaw19.CursorTells'. -/
def cursorTellsUptoCard : Claim7 := { stood := { row := cursorTellsUptoRow, standIns := [], harness := (true, "c8ebf5b9a4399b21677e8a077c722f33996fcbc4dce9ae1af09ea1115da5625e"), looks := true }, kinds := [], alts := [], laidByText := true, laidKinds := [.data, .data, .data, .sentinel, .sentinel], laidTests := true, laidLooks := .later }
def CursorTellsUptoCardSaid : Prop := Claim7.holds Tryz.pinned (.plain (OpenSpec.upto cursorTellsSpec)) cursorTellsUptoCard

/-- THE SECOND FORM's CARD OF 'archivistlaw19.CursorGets'. -/
def cursorGetsUptoCard : Claim7 := { stood := { row := cursorGetsUptoRow, standIns := [], harness := (true, "c8ebf5b9a4399b21677e8a077c722f33996fcbc4dce9ae1af09ea1115da5625e"), looks := true }, kinds := [], alts := [], laidByText := true, laidKinds := [.data, .data, .data, .sentinel, .sentinel], laidTests := true, laidLooks := .later }
def CursorGetsUptoCardSaid : Prop := Claim7.holds Tryz.pinned (.plain (OpenSpec.upto cursorGetsSpec)) cursorGetsUptoCard

/-- THE SECOND FORM's CARD OF 'archivistlaw19.CursorBack'. -/
def cursorBackUptoCard : Claim7 := { stood := { row := cursorBackUptoRow, standIns := [], harness := (true, "c8ebf5b9a4399b21677e8a077c722f33996fcbc4dce9ae1af09ea1115da5625e"), looks := true }, kinds := [], alts := [], laidByText := true, laidKinds := [.data, .data, .data, .sentinel, .sentinel], laidTests := true, laidLooks := .later }
def CursorBackUptoCardSaid : Prop := Claim7.holds Tryz.pinned (.plain (OpenSpec.upto cursorBackSpec)) cursorBackUptoCard
end Rows
end Go.Proofs.YtfamcebgcpaolaaGreatDoor
