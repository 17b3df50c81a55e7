/-
  DERIVED. GIVEN WITH THE SEED: THE CARDS: each row of YtcoiklolgilhaaaGreatDoorRows.lean that lists a variable, with what it lists TIED to the program's text (the seventh form; the later family's looks); each row that meets fmt, with fmt's text TOLD by the authors' own Lean function (tested against real Go, not proved from fmt's source: count such statements apart). THE CARD IS WHAT COUNTS. Prove the row's statement (the work); the ties are given (YtcoiklolgilhaaaGreatDoorTie.lean); close each card by the builder's one call (the guide's Derived/Test/ToyasCard.lean, 'card_holds'). Laid BY PROGRAM, IN A SANDBOX (cutbox-door.mjs). By AI agents, Wed Nov 11 2026. No macro, syntax, notation, axiom, sorry.
-/
import Derived.Test.YtcoiklolgilhaaaGreatDoorRows
import GoSem.ClaimSeven
namespace Go.Proofs.YtcoiklolgilhaaaGreatDoor
namespace Rows

/-- THE TIED CARD OF 'polynyalaw03.HullSpeeds'. -/
def hullSpeedsCard : Claim7 := { stood := { row := hullSpeedsRow, standIns := [], harness := (true, "690fed6372c6e6455b8f1538dcdb4d84321ae14e64e9de38700d03bce343cfc8"), looks := false }, kinds := [], alts := [], laidByText := true, laidKinds := [.data, .data], laidTests := true, laidLooks := .later }
def HullSpeedsCardSaid : Prop := Claim7.holds Tryz.pinned (.plain (OpenSpec.ofChange hullSpeedsSpec)) hullSpeedsCard

/-- THE TIED CARD OF 'polynyalaw03.HullLegs'. -/
def hullLegsCard : Claim7 := { stood := { row := hullLegsRow, standIns := [], harness := (true, "690fed6372c6e6455b8f1538dcdb4d84321ae14e64e9de38700d03bce343cfc8"), looks := false }, kinds := [], alts := [], laidByText := true, laidKinds := [.data, .data], laidTests := true, laidLooks := .later }
def HullLegsCardSaid : Prop := Claim7.holds Tryz.pinned (.plain (OpenSpec.ofChange hullLegsSpec)) hullLegsCard

/-- THE TIED CARD OF 'polynyalaw03.HullBounds'. -/
def hullBoundsCard : Claim7 := { stood := { row := hullBoundsRow, standIns := [], harness := (true, "690fed6372c6e6455b8f1538dcdb4d84321ae14e64e9de38700d03bce343cfc8"), looks := false }, kinds := [], alts := [], laidByText := true, laidKinds := [.data, .data], laidTests := true, laidLooks := .later }
def HullBoundsCardSaid : Prop := Claim7.holds Tryz.pinned (.plain (OpenSpec.ofChange hullBoundsSpec)) hullBoundsCard

/-- THE TIED CARD OF 'polynyalaw03.HullSmall'. -/
def hullSmallCard : Claim7 := { stood := { row := hullSmallRow, standIns := [], harness := (true, "690fed6372c6e6455b8f1538dcdb4d84321ae14e64e9de38700d03bce343cfc8"), looks := false }, kinds := [], alts := [], laidByText := true, laidKinds := [.data, .data], laidTests := true, laidLooks := .later }
def HullSmallCardSaid : Prop := Claim7.holds Tryz.pinned (.plain (OpenSpec.ofChange hullSmallSpec)) hullSmallCard

/-- THE TIED CARD OF 'polynyalaw03.HullAged'. -/
def hullAgedCard : Claim7 := { stood := { row := hullAgedRow, standIns := [], harness := (true, "690fed6372c6e6455b8f1538dcdb4d84321ae14e64e9de38700d03bce343cfc8"), looks := false }, kinds := [], alts := [], laidByText := true, laidKinds := [.data, .data], laidTests := true, laidLooks := .later }
def HullAgedCardSaid : Prop := Claim7.holds Tryz.pinned (.plain (OpenSpec.ofChange hullAgedSpec)) hullAgedCard

/-- THE TIED CARD OF 'polynyalaw03.HullReported'. -/
def hullReportedCard : Claim7 := { stood := { row := hullReportedRow, standIns := [], harness := (true, "690fed6372c6e6455b8f1538dcdb4d84321ae14e64e9de38700d03bce343cfc8"), looks := false }, kinds := [], alts := [], laidByText := true, laidKinds := [.data, .data], laidTests := true, laidLooks := .later }
def HullReportedCardSaid : Prop := Claim7.holds Tryz.pinned (.plain (OpenSpec.ofChange hullReportedSpec)) hullReportedCard

/-- THE SECOND FORM's CARD OF 'polynyalaw03.HullSpeeds'. -/
def hullSpeedsUptoCard : Claim7 := { stood := { row := hullSpeedsUptoRow, standIns := [], harness := (true, "690fed6372c6e6455b8f1538dcdb4d84321ae14e64e9de38700d03bce343cfc8"), looks := false }, kinds := [], alts := [], laidByText := true, laidKinds := [.data, .data], laidTests := true, laidLooks := .later }
def HullSpeedsUptoCardSaid : Prop := Claim7.holds Tryz.pinned (.plain (OpenSpec.upto hullSpeedsSpec)) hullSpeedsUptoCard

/-- THE SECOND FORM's CARD OF 'polynyalaw03.HullLegs'. -/
def hullLegsUptoCard : Claim7 := { stood := { row := hullLegsUptoRow, standIns := [], harness := (true, "690fed6372c6e6455b8f1538dcdb4d84321ae14e64e9de38700d03bce343cfc8"), looks := false }, kinds := [], alts := [], laidByText := true, laidKinds := [.data, .data], laidTests := true, laidLooks := .later }
def HullLegsUptoCardSaid : Prop := Claim7.holds Tryz.pinned (.plain (OpenSpec.upto hullLegsSpec)) hullLegsUptoCard

/-- THE SECOND FORM's CARD OF 'polynyalaw03.HullBounds'. -/
def hullBoundsUptoCard : Claim7 := { stood := { row := hullBoundsUptoRow, standIns := [], harness := (true, "690fed6372c6e6455b8f1538dcdb4d84321ae14e64e9de38700d03bce343cfc8"), looks := false }, kinds := [], alts := [], laidByText := true, laidKinds := [.data, .data], laidTests := true, laidLooks := .later }
def HullBoundsUptoCardSaid : Prop := Claim7.holds Tryz.pinned (.plain (OpenSpec.upto hullBoundsSpec)) hullBoundsUptoCard

/-- THE SECOND FORM's CARD OF 'polynyalaw03.HullSmall'. -/
def hullSmallUptoCard : Claim7 := { stood := { row := hullSmallUptoRow, standIns := [], harness := (true, "690fed6372c6e6455b8f1538dcdb4d84321ae14e64e9de38700d03bce343cfc8"), looks := false }, kinds := [], alts := [], laidByText := true, laidKinds := [.data, .data], laidTests := true, laidLooks := .later }
def HullSmallUptoCardSaid : Prop := Claim7.holds Tryz.pinned (.plain (OpenSpec.upto hullSmallSpec)) hullSmallUptoCard

/-- THE SECOND FORM's CARD OF 'polynyalaw03.HullAged'. -/
def hullAgedUptoCard : Claim7 := { stood := { row := hullAgedUptoRow, standIns := [], harness := (true, "690fed6372c6e6455b8f1538dcdb4d84321ae14e64e9de38700d03bce343cfc8"), looks := false }, kinds := [], alts := [], laidByText := true, laidKinds := [.data, .data], laidTests := true, laidLooks := .later }
def HullAgedUptoCardSaid : Prop := Claim7.holds Tryz.pinned (.plain (OpenSpec.upto hullAgedSpec)) hullAgedUptoCard

/-- THE SECOND FORM's CARD OF 'polynyalaw03.HullReported'. -/
def hullReportedUptoCard : Claim7 := { stood := { row := hullReportedUptoRow, standIns := [], harness := (true, "690fed6372c6e6455b8f1538dcdb4d84321ae14e64e9de38700d03bce343cfc8"), looks := false }, kinds := [], alts := [], laidByText := true, laidKinds := [.data, .data], laidTests := true, laidLooks := .later }
def HullReportedUptoCardSaid : Prop := Claim7.holds Tryz.pinned (.plain (OpenSpec.upto hullReportedSpec)) hullReportedUptoCard
end Rows
end Go.Proofs.YtcoiklolgilhaaaGreatDoor
