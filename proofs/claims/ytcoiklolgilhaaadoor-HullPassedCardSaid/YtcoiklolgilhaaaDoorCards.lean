/-
  DERIVED. GIVEN WITH THE SEED: THE CARDS: each row of YtcoiklolgilhaaaDoorRows.lean that lists a variable, with what it lists TIED to the program's text (the seventh form; the later family's looks); each row that meets fmt, with fmt's text TOLD by the authors' own Lean function (tested against real Go, not proved from fmt's source: count such statements apart). THE CARD IS WHAT COUNTS. Prove the row's statement (the work); the ties are given (YtcoiklolgilhaaaDoorTie.lean); close each card by the builder's one call (the guide's Derived/Test/ToyasCard.lean, 'card_holds'). Laid BY PROGRAM, IN A SANDBOX (cutbox-door.mjs). By AI agents, Wed Nov 11 2026. No macro, syntax, notation, axiom, sorry.
-/
import Derived.Test.YtcoiklolgilhaaaDoorRows
import GoSem.ClaimSeven
namespace Go.Proofs.YtcoiklolgilhaaaDoor
namespace Rows

/-- THE TIED CARD OF 'polynyalaw03.HullChecks'. -/
def hullChecksCard : Claim7 := { stood := { row := hullChecksRow, standIns := [], harness := (true, "0700bae9878f7c80d345b7d2b4c762ade4d38ba5ce2926db10afc86ce6021ba2"), looks := false }, kinds := [], alts := [], laidByText := true, laidKinds := [.data, .data], laidTests := true, laidLooks := .later }
def HullChecksCardSaid : Prop := Claim7.holds Tryd.pinned (.plain (OpenSpec.ofChange hullChecksSpec)) hullChecksCard

/-- THE TIED CARD OF 'polynyalaw03.HullMonotone'. -/
def hullMonotoneCard : Claim7 := { stood := { row := hullMonotoneRow, standIns := [], harness := (true, "0700bae9878f7c80d345b7d2b4c762ade4d38ba5ce2926db10afc86ce6021ba2"), looks := false }, kinds := [], alts := [], laidByText := true, laidKinds := [.data, .data], laidTests := true, laidLooks := .later }
def HullMonotoneCardSaid : Prop := Claim7.holds Tryd.pinned (.plain (OpenSpec.ofChange hullMonotoneSpec)) hullMonotoneCard

/-- THE TIED CARD OF 'polynyalaw03.HullCells'. -/
def hullCellsCard : Claim7 := { stood := { row := hullCellsRow, standIns := [], harness := (true, "0700bae9878f7c80d345b7d2b4c762ade4d38ba5ce2926db10afc86ce6021ba2"), looks := false }, kinds := [], alts := [], laidByText := true, laidKinds := [.data, .data], laidTests := true, laidLooks := .later }
def HullCellsCardSaid : Prop := Claim7.holds Tryd.pinned (.plain (OpenSpec.ofChange hullCellsSpec)) hullCellsCard

/-- THE TIED CARD OF 'polynyalaw03.HullLimited'. -/
def hullLimitedCard : Claim7 := { stood := { row := hullLimitedRow, standIns := [], harness := (true, "0700bae9878f7c80d345b7d2b4c762ade4d38ba5ce2926db10afc86ce6021ba2"), looks := false }, kinds := [], alts := [], laidByText := true, laidKinds := [.data, .data], laidTests := true, laidLooks := .later }
def HullLimitedCardSaid : Prop := Claim7.holds Tryd.pinned (.plain (OpenSpec.ofChange hullLimitedSpec)) hullLimitedCard

/-- THE TIED CARD OF 'polynyalaw03.HullBetter'. -/
def hullBetterCard : Claim7 := { stood := { row := hullBetterRow, standIns := [], harness := (true, "0700bae9878f7c80d345b7d2b4c762ade4d38ba5ce2926db10afc86ce6021ba2"), looks := false }, kinds := [], alts := [], laidByText := true, laidKinds := [.data, .data], laidTests := true, laidLooks := .later }
def HullBetterCardSaid : Prop := Claim7.holds Tryd.pinned (.plain (OpenSpec.ofChange hullBetterSpec)) hullBetterCard

/-- THE TIED CARD OF 'polynyalaw03.HullPassed'. -/
def hullPassedCard : Claim7 := { stood := { row := hullPassedRow, standIns := [], harness := (true, "0700bae9878f7c80d345b7d2b4c762ade4d38ba5ce2926db10afc86ce6021ba2"), looks := false }, kinds := [], alts := [], laidByText := true, laidKinds := [.data, .data], laidTests := true, laidLooks := .later }
def HullPassedCardSaid : Prop := Claim7.holds Tryd.pinned (.plain (OpenSpec.ofChange hullPassedSpec)) hullPassedCard

/-- THE TIED CARD OF 'polynyalaw03.HullWaits'. -/
def hullWaitsCard : Claim7 := { stood := { row := hullWaitsRow, standIns := [], harness := (true, "0700bae9878f7c80d345b7d2b4c762ade4d38ba5ce2926db10afc86ce6021ba2"), looks := false }, kinds := [], alts := [], laidByText := true, laidKinds := [.data, .data], laidTests := true, laidLooks := .later }
def HullWaitsCardSaid : Prop := Claim7.holds Tryd.pinned (.plain (OpenSpec.ofChange hullWaitsSpec)) hullWaitsCard

/-- THE SECOND FORM's CARD OF 'polynyalaw03.HullChecks'. -/
def hullChecksUptoCard : Claim7 := { stood := { row := hullChecksUptoRow, standIns := [], harness := (true, "0700bae9878f7c80d345b7d2b4c762ade4d38ba5ce2926db10afc86ce6021ba2"), looks := false }, kinds := [], alts := [], laidByText := true, laidKinds := [.data, .data], laidTests := true, laidLooks := .later }
def HullChecksUptoCardSaid : Prop := Claim7.holds Tryd.pinned (.plain (OpenSpec.upto hullChecksSpec)) hullChecksUptoCard

/-- THE SECOND FORM's CARD OF 'polynyalaw03.HullMonotone'. -/
def hullMonotoneUptoCard : Claim7 := { stood := { row := hullMonotoneUptoRow, standIns := [], harness := (true, "0700bae9878f7c80d345b7d2b4c762ade4d38ba5ce2926db10afc86ce6021ba2"), looks := false }, kinds := [], alts := [], laidByText := true, laidKinds := [.data, .data], laidTests := true, laidLooks := .later }
def HullMonotoneUptoCardSaid : Prop := Claim7.holds Tryd.pinned (.plain (OpenSpec.upto hullMonotoneSpec)) hullMonotoneUptoCard

/-- THE SECOND FORM's CARD OF 'polynyalaw03.HullCells'. -/
def hullCellsUptoCard : Claim7 := { stood := { row := hullCellsUptoRow, standIns := [], harness := (true, "0700bae9878f7c80d345b7d2b4c762ade4d38ba5ce2926db10afc86ce6021ba2"), looks := false }, kinds := [], alts := [], laidByText := true, laidKinds := [.data, .data], laidTests := true, laidLooks := .later }
def HullCellsUptoCardSaid : Prop := Claim7.holds Tryd.pinned (.plain (OpenSpec.upto hullCellsSpec)) hullCellsUptoCard

/-- THE SECOND FORM's CARD OF 'polynyalaw03.HullLimited'. -/
def hullLimitedUptoCard : Claim7 := { stood := { row := hullLimitedUptoRow, standIns := [], harness := (true, "0700bae9878f7c80d345b7d2b4c762ade4d38ba5ce2926db10afc86ce6021ba2"), looks := false }, kinds := [], alts := [], laidByText := true, laidKinds := [.data, .data], laidTests := true, laidLooks := .later }
def HullLimitedUptoCardSaid : Prop := Claim7.holds Tryd.pinned (.plain (OpenSpec.upto hullLimitedSpec)) hullLimitedUptoCard

/-- THE SECOND FORM's CARD OF 'polynyalaw03.HullBetter'. -/
def hullBetterUptoCard : Claim7 := { stood := { row := hullBetterUptoRow, standIns := [], harness := (true, "0700bae9878f7c80d345b7d2b4c762ade4d38ba5ce2926db10afc86ce6021ba2"), looks := false }, kinds := [], alts := [], laidByText := true, laidKinds := [.data, .data], laidTests := true, laidLooks := .later }
def HullBetterUptoCardSaid : Prop := Claim7.holds Tryd.pinned (.plain (OpenSpec.upto hullBetterSpec)) hullBetterUptoCard

/-- THE SECOND FORM's CARD OF 'polynyalaw03.HullPassed'. -/
def hullPassedUptoCard : Claim7 := { stood := { row := hullPassedUptoRow, standIns := [], harness := (true, "0700bae9878f7c80d345b7d2b4c762ade4d38ba5ce2926db10afc86ce6021ba2"), looks := false }, kinds := [], alts := [], laidByText := true, laidKinds := [.data, .data], laidTests := true, laidLooks := .later }
def HullPassedUptoCardSaid : Prop := Claim7.holds Tryd.pinned (.plain (OpenSpec.upto hullPassedSpec)) hullPassedUptoCard

/-- THE SECOND FORM's CARD OF 'polynyalaw03.HullWaits'. -/
def hullWaitsUptoCard : Claim7 := { stood := { row := hullWaitsUptoRow, standIns := [], harness := (true, "0700bae9878f7c80d345b7d2b4c762ade4d38ba5ce2926db10afc86ce6021ba2"), looks := false }, kinds := [], alts := [], laidByText := true, laidKinds := [.data, .data], laidTests := true, laidLooks := .later }
def HullWaitsUptoCardSaid : Prop := Claim7.holds Tryd.pinned (.plain (OpenSpec.upto hullWaitsSpec)) hullWaitsUptoCard
end Rows
end Go.Proofs.YtcoiklolgilhaaaDoor
