/-
  DERIVED. GIVEN WITH THE SEED: THE CARDS: each row of YtkkpmhdhoppojaaGreatDoorRows.lean that lists a variable, with what it lists TIED to the program's text (the seventh form; the later family's looks); each row that meets fmt, with fmt's text TOLD by the authors' own Lean function (tested against real Go, not proved from fmt's source: count such statements apart). THE CARD IS WHAT COUNTS. Prove the row's statement (the work); the ties are given (YtkkpmhdhoppojaaGreatDoorTie.lean); close each card by the builder's one call (the guide's Derived/Test/ToyasCard.lean, 'card_holds'). Laid BY PROGRAM, IN A SANDBOX (cutbox-door.mjs). By AI agents, Wed Nov 11 2026. No macro, syntax, notation, axiom, sorry.
-/
import Derived.Test.YtkkpmhdhoppojaaGreatDoorRows
import GoSem.ClaimSeven
namespace Go.Proofs.YtkkpmhdhoppojaaGreatDoor
namespace Rows

/-- THE TIED CARD OF 'archivistlaw14.StoreTells'. -/
def storeTellsCard : Claim7 := { stood := { row := storeTellsRow, standIns := [], harness := (true, "70292fd66119746e183bf13b7bbf3c1636e84e502bbfd9f90e556a4b0fcf3caa"), looks := true }, kinds := [], alts := [], laidByText := true, laidKinds := [.data, .data, .data, .sentinel, .sentinel], laidTests := true, laidLooks := .later }
def StoreTellsCardSaid : Prop := Claim7.holds Tryz.pinned (.plain (OpenSpec.ofChange storeTellsSpec)) storeTellsCard

/-- THE TIED CARD OF 'archivistlaw14.StoreWhole'. -/
def storeWholeCard : Claim7 := { stood := { row := storeWholeRow, standIns := [], harness := (true, "70292fd66119746e183bf13b7bbf3c1636e84e502bbfd9f90e556a4b0fcf3caa"), looks := true }, kinds := [], alts := [], laidByText := true, laidKinds := [.data, .data, .data, .sentinel, .sentinel], laidTests := true, laidLooks := .later }
def StoreWholeCardSaid : Prop := Claim7.holds Tryz.pinned (.plain (OpenSpec.ofChange storeWholeSpec)) storeWholeCard

/-- THE TIED CARD OF 'archivistlaw14.StoreFails'. -/
def storeFailsCard : Claim7 := { stood := { row := storeFailsRow, standIns := [], harness := (true, "70292fd66119746e183bf13b7bbf3c1636e84e502bbfd9f90e556a4b0fcf3caa"), looks := true }, kinds := [], alts := [], laidByText := true, laidKinds := [.data, .data, .data, .sentinel, .sentinel], laidTests := true, laidLooks := .later }
def StoreFailsCardSaid : Prop := Claim7.holds Tryz.pinned (.plain (OpenSpec.ofChange storeFailsSpec)) storeFailsCard

/-- THE TIED CARD OF 'archivistlaw14.StoreSplit'. -/
def storeSplitCard : Claim7 := { stood := { row := storeSplitRow, standIns := [], harness := (true, "70292fd66119746e183bf13b7bbf3c1636e84e502bbfd9f90e556a4b0fcf3caa"), looks := true }, kinds := [], alts := [], laidByText := true, laidKinds := [.data, .data, .data, .sentinel, .sentinel], laidTests := true, laidLooks := .later }
def StoreSplitCardSaid : Prop := Claim7.holds Tryz.pinned (.plain (OpenSpec.ofChange storeSplitSpec)) storeSplitCard

/-- THE SECOND FORM's CARD OF 'archivistlaw14.StoreTells'. -/
def storeTellsUptoCard : Claim7 := { stood := { row := storeTellsUptoRow, standIns := [], harness := (true, "70292fd66119746e183bf13b7bbf3c1636e84e502bbfd9f90e556a4b0fcf3caa"), looks := true }, kinds := [], alts := [], laidByText := true, laidKinds := [.data, .data, .data, .sentinel, .sentinel], laidTests := true, laidLooks := .later }
def StoreTellsUptoCardSaid : Prop := Claim7.holds Tryz.pinned (.plain (OpenSpec.upto storeTellsSpec)) storeTellsUptoCard

/-- THE SECOND FORM's CARD OF 'archivistlaw14.StoreWhole'. -/
def storeWholeUptoCard : Claim7 := { stood := { row := storeWholeUptoRow, standIns := [], harness := (true, "70292fd66119746e183bf13b7bbf3c1636e84e502bbfd9f90e556a4b0fcf3caa"), looks := true }, kinds := [], alts := [], laidByText := true, laidKinds := [.data, .data, .data, .sentinel, .sentinel], laidTests := true, laidLooks := .later }
def StoreWholeUptoCardSaid : Prop := Claim7.holds Tryz.pinned (.plain (OpenSpec.upto storeWholeSpec)) storeWholeUptoCard

/-- THE SECOND FORM's CARD OF 'archivistlaw14.StoreFails'. -/
def storeFailsUptoCard : Claim7 := { stood := { row := storeFailsUptoRow, standIns := [], harness := (true, "70292fd66119746e183bf13b7bbf3c1636e84e502bbfd9f90e556a4b0fcf3caa"), looks := true }, kinds := [], alts := [], laidByText := true, laidKinds := [.data, .data, .data, .sentinel, .sentinel], laidTests := true, laidLooks := .later }
def StoreFailsUptoCardSaid : Prop := Claim7.holds Tryz.pinned (.plain (OpenSpec.upto storeFailsSpec)) storeFailsUptoCard

/-- THE SECOND FORM's CARD OF 'archivistlaw14.StoreSplit'. -/
def storeSplitUptoCard : Claim7 := { stood := { row := storeSplitUptoRow, standIns := [], harness := (true, "70292fd66119746e183bf13b7bbf3c1636e84e502bbfd9f90e556a4b0fcf3caa"), looks := true }, kinds := [], alts := [], laidByText := true, laidKinds := [.data, .data, .data, .sentinel, .sentinel], laidTests := true, laidLooks := .later }
def StoreSplitUptoCardSaid : Prop := Claim7.holds Tryz.pinned (.plain (OpenSpec.upto storeSplitSpec)) storeSplitUptoCard
end Rows
end Go.Proofs.YtkkpmhdhoppojaaGreatDoor
