/-
  DERIVED. GIVEN WITH THE SEED: THE CARDS: each row of YtdaainifkldcpaaGreatDoorRows.lean that lists a variable, with what it lists TIED to the program's text (the seventh form; the later family's looks); each row that meets fmt, with fmt's text TOLD by the authors' own Lean function (tested against real Go, not proved from fmt's source: count such statements apart). THE CARD IS WHAT COUNTS. Prove the row's statement (the work); the ties are given (YtdaainifkldcpaaGreatDoorTie.lean); close each card by the builder's one call (the guide's Derived/Test/ToyasCard.lean, 'card_holds'). Laid BY PROGRAM, IN A SANDBOX (cutbox-door.mjs). By AI agents, Wed Nov 11 2026. No macro, syntax, notation, axiom, sorry.
-/
import Derived.Test.YtdaainifkldcpaaGreatDoorRows
import GoSem.ClaimSeven
namespace Go.Proofs.YtdaainifkldcpaaGreatDoor
namespace Rows

/-- THE TIED CARD OF 'archivistlaw20.FanTells'. -/
def fanTellsCard : Claim7 := { stood := { row := fanTellsRow, standIns := [], harness := (true, "30680dbcd62249cbebe5cc3dc461c2597ff1b448a81b2da3356d1d02561f861e"), looks := true }, kinds := [], alts := [], laidByText := true, laidKinds := [.data, .data, .data, .sentinel, .sentinel], laidTests := true, laidLooks := .later }
def FanTellsCardSaid : Prop := Claim7.holds Tryz.pinned (.plain (OpenSpec.ofChange fanTellsSpec)) fanTellsCard

/-- THE TIED CARD OF 'archivistlaw20.FanWhole'. -/
def fanWholeCard : Claim7 := { stood := { row := fanWholeRow, standIns := [], harness := (true, "30680dbcd62249cbebe5cc3dc461c2597ff1b448a81b2da3356d1d02561f861e"), looks := true }, kinds := [], alts := [], laidByText := true, laidKinds := [.data, .data, .data, .sentinel, .sentinel], laidTests := true, laidLooks := .later }
def FanWholeCardSaid : Prop := Claim7.holds Tryz.pinned (.plain (OpenSpec.ofChange fanWholeSpec)) fanWholeCard

/-- THE TIED CARD OF 'archivistlaw20.FanOrder'. -/
def fanOrderCard : Claim7 := { stood := { row := fanOrderRow, standIns := [], harness := (true, "30680dbcd62249cbebe5cc3dc461c2597ff1b448a81b2da3356d1d02561f861e"), looks := true }, kinds := [], alts := [], laidByText := true, laidKinds := [.data, .data, .data, .sentinel, .sentinel], laidTests := true, laidLooks := .later }
def FanOrderCardSaid : Prop := Claim7.holds Tryz.pinned (.plain (OpenSpec.ofChange fanOrderSpec)) fanOrderCard

/-- THE TIED CARD OF 'archivistlaw20.FanDown'. -/
def fanDownCard : Claim7 := { stood := { row := fanDownRow, standIns := [], harness := (true, "30680dbcd62249cbebe5cc3dc461c2597ff1b448a81b2da3356d1d02561f861e"), looks := true }, kinds := [], alts := [], laidByText := true, laidKinds := [.data, .data, .data, .sentinel, .sentinel], laidTests := true, laidLooks := .later }
def FanDownCardSaid : Prop := Claim7.holds Tryz.pinned (.plain (OpenSpec.ofChange fanDownSpec)) fanDownCard

/-- THE TIED CARD OF 'archivistlaw20.FanSame'. -/
def fanSameCard : Claim7 := { stood := { row := fanSameRow, standIns := [], harness := (true, "30680dbcd62249cbebe5cc3dc461c2597ff1b448a81b2da3356d1d02561f861e"), looks := true }, kinds := [], alts := [], laidByText := true, laidKinds := [.data, .data, .data, .sentinel, .sentinel], laidTests := true, laidLooks := .later }
def FanSameCardSaid : Prop := Claim7.holds Tryz.pinned (.plain (OpenSpec.ofChange fanSameSpec)) fanSameCard

/-- THE TIED CARD OF 'archivistlaw20.FanEnds'. -/
def fanEndsCard : Claim7 := { stood := { row := fanEndsRow, standIns := [], harness := (true, "30680dbcd62249cbebe5cc3dc461c2597ff1b448a81b2da3356d1d02561f861e"), looks := true }, kinds := [], alts := [], laidByText := true, laidKinds := [.data, .data, .data, .sentinel, .sentinel], laidTests := true, laidLooks := .later }
def FanEndsCardSaid : Prop := Claim7.holds Tryz.pinned (.plain (OpenSpec.ofChange fanEndsSpec)) fanEndsCard

/-- THE SECOND FORM's CARD OF 'archivistlaw20.FanTells'. -/
def fanTellsUptoCard : Claim7 := { stood := { row := fanTellsUptoRow, standIns := [], harness := (true, "30680dbcd62249cbebe5cc3dc461c2597ff1b448a81b2da3356d1d02561f861e"), looks := true }, kinds := [], alts := [], laidByText := true, laidKinds := [.data, .data, .data, .sentinel, .sentinel], laidTests := true, laidLooks := .later }
def FanTellsUptoCardSaid : Prop := Claim7.holds Tryz.pinned (.plain (OpenSpec.upto fanTellsSpec)) fanTellsUptoCard

/-- THE SECOND FORM's CARD OF 'archivistlaw20.FanWhole'. -/
def fanWholeUptoCard : Claim7 := { stood := { row := fanWholeUptoRow, standIns := [], harness := (true, "30680dbcd62249cbebe5cc3dc461c2597ff1b448a81b2da3356d1d02561f861e"), looks := true }, kinds := [], alts := [], laidByText := true, laidKinds := [.data, .data, .data, .sentinel, .sentinel], laidTests := true, laidLooks := .later }
def FanWholeUptoCardSaid : Prop := Claim7.holds Tryz.pinned (.plain (OpenSpec.upto fanWholeSpec)) fanWholeUptoCard

/-- THE SECOND FORM's CARD OF 'archivistlaw20.FanOrder'. -/
def fanOrderUptoCard : Claim7 := { stood := { row := fanOrderUptoRow, standIns := [], harness := (true, "30680dbcd62249cbebe5cc3dc461c2597ff1b448a81b2da3356d1d02561f861e"), looks := true }, kinds := [], alts := [], laidByText := true, laidKinds := [.data, .data, .data, .sentinel, .sentinel], laidTests := true, laidLooks := .later }
def FanOrderUptoCardSaid : Prop := Claim7.holds Tryz.pinned (.plain (OpenSpec.upto fanOrderSpec)) fanOrderUptoCard

/-- THE SECOND FORM's CARD OF 'archivistlaw20.FanDown'. -/
def fanDownUptoCard : Claim7 := { stood := { row := fanDownUptoRow, standIns := [], harness := (true, "30680dbcd62249cbebe5cc3dc461c2597ff1b448a81b2da3356d1d02561f861e"), looks := true }, kinds := [], alts := [], laidByText := true, laidKinds := [.data, .data, .data, .sentinel, .sentinel], laidTests := true, laidLooks := .later }
def FanDownUptoCardSaid : Prop := Claim7.holds Tryz.pinned (.plain (OpenSpec.upto fanDownSpec)) fanDownUptoCard

/-- THE SECOND FORM's CARD OF 'archivistlaw20.FanSame'. -/
def fanSameUptoCard : Claim7 := { stood := { row := fanSameUptoRow, standIns := [], harness := (true, "30680dbcd62249cbebe5cc3dc461c2597ff1b448a81b2da3356d1d02561f861e"), looks := true }, kinds := [], alts := [], laidByText := true, laidKinds := [.data, .data, .data, .sentinel, .sentinel], laidTests := true, laidLooks := .later }
def FanSameUptoCardSaid : Prop := Claim7.holds Tryz.pinned (.plain (OpenSpec.upto fanSameSpec)) fanSameUptoCard

/-- THE SECOND FORM's CARD OF 'archivistlaw20.FanEnds'. -/
def fanEndsUptoCard : Claim7 := { stood := { row := fanEndsUptoRow, standIns := [], harness := (true, "30680dbcd62249cbebe5cc3dc461c2597ff1b448a81b2da3356d1d02561f861e"), looks := true }, kinds := [], alts := [], laidByText := true, laidKinds := [.data, .data, .data, .sentinel, .sentinel], laidTests := true, laidLooks := .later }
def FanEndsUptoCardSaid : Prop := Claim7.holds Tryz.pinned (.plain (OpenSpec.upto fanEndsSpec)) fanEndsUptoCard
end Rows
end Go.Proofs.YtdaainifkldcpaaGreatDoor
