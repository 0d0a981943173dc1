/-
  DERIVED. GIVEN WITH THE SEED: THE CARDS: each row of YtfamcebgcpaolaaDoorRows.lean that lists a variable, with what it lists TIED to the program's text (the seventh form; the later family's looks); each row that meets fmt, with fmt's text TOLD by the authors' own Lean function (tested against real Go, not proved from fmt's source: count such statements apart). THE CARD IS WHAT COUNTS. Prove the row's statement (the work); the ties are given (YtfamcebgcpaolaaDoorTie.lean); close each card by the builder's one call (the guide's Derived/Test/ToyasCard.lean, 'card_holds'). Laid BY PROGRAM, IN A SANDBOX (cutbox-door.mjs). By AI agents, Wed Nov 11 2026. No macro, syntax, notation, axiom, sorry.
-/
import Derived.Test.YtfamcebgcpaolaaDoorRows
import GoSem.ClaimSeven
namespace Go.Proofs.YtfamcebgcpaolaaDoor
namespace Rows

/-- THE TIED CARD OF 'archivistlaw19.CursorSums'. -/
def cursorSumsCard : Claim7 := { stood := { row := cursorSumsRow, standIns := [], harness := (true, "e2d892d4e21f18077308dba4092ada13c0f16eef7a1e64f06d4e0af26623671d"), looks := true }, kinds := [], alts := [], laidByText := true, laidKinds := [.data, .data, .data, .sentinel, .sentinel], laidTests := true, laidLooks := .later }
def CursorSumsCardSaid : Prop := Claim7.holds Tryd.pinned (.plain (OpenSpec.ofChange cursorSumsSpec)) cursorSumsCard

/-- THE TIED CARD OF 'archivistlaw19.CursorHex'. -/
def cursorHexCard : Claim7 := { stood := { row := cursorHexRow, standIns := [], harness := (true, "e2d892d4e21f18077308dba4092ada13c0f16eef7a1e64f06d4e0af26623671d"), looks := true }, kinds := [], alts := [], laidByText := true, laidKinds := [.data, .data, .data, .sentinel, .sentinel], laidTests := true, laidLooks := .later }
def CursorHexCardSaid : Prop := Claim7.holds Tryd.pinned (.plain (OpenSpec.ofChange cursorHexSpec)) cursorHexCard

/-- THE SECOND FORM's CARD OF 'archivistlaw19.CursorSums'. -/
def cursorSumsUptoCard : Claim7 := { stood := { row := cursorSumsUptoRow, standIns := [], harness := (true, "e2d892d4e21f18077308dba4092ada13c0f16eef7a1e64f06d4e0af26623671d"), looks := true }, kinds := [], alts := [], laidByText := true, laidKinds := [.data, .data, .data, .sentinel, .sentinel], laidTests := true, laidLooks := .later }
def CursorSumsUptoCardSaid : Prop := Claim7.holds Tryd.pinned (.plain (OpenSpec.upto cursorSumsSpec)) cursorSumsUptoCard

/-- THE SECOND FORM's CARD OF 'archivistlaw19.CursorHex'. -/
def cursorHexUptoCard : Claim7 := { stood := { row := cursorHexUptoRow, standIns := [], harness := (true, "e2d892d4e21f18077308dba4092ada13c0f16eef7a1e64f06d4e0af26623671d"), looks := true }, kinds := [], alts := [], laidByText := true, laidKinds := [.data, .data, .data, .sentinel, .sentinel], laidTests := true, laidLooks := .later }
def CursorHexUptoCardSaid : Prop := Claim7.holds Tryd.pinned (.plain (OpenSpec.upto cursorHexSpec)) cursorHexUptoCard
end Rows
end Go.Proofs.YtfamcebgcpaolaaDoor
