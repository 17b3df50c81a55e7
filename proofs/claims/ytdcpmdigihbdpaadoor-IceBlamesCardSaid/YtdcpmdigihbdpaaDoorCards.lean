/-
  DERIVED. GIVEN WITH THE SEED: THE CARDS: each row of YtdcpmdigihbdpaaDoorRows.lean that lists a variable, with what it lists TIED to the program's text (the seventh form; the later family's looks); each row that meets fmt, with fmt's text TOLD by the authors' own Lean function (tested against real Go, not proved from fmt's source: count such statements apart). THE CARD IS WHAT COUNTS. Prove the row's statement (the work); the ties are given (YtdcpmdigihbdpaaDoorTie.lean); close each card by the builder's one call (the guide's Derived/Test/ToyasCard.lean, 'card_holds'). Laid BY PROGRAM, IN A SANDBOX (cutbox-door.mjs). By AI agents, Wed Nov 11 2026. No macro, syntax, notation, axiom, sorry.
-/
import Derived.Test.YtdcpmdigihbdpaaDoorRows
import GoSem.ClaimSeven
namespace Go.Proofs.YtdcpmdigihbdpaaDoor
namespace Rows

/-- THE TIED CARD OF 'polynyalaw01.IceCells'. -/
def iceCellsCard : Claim7 := { stood := { row := iceCellsRow, standIns := [], harness := (true, "d9090ddba4165b50584f9a0e3a9ed307594f6ef2c7ba0c39f6d2ed180eefb913"), looks := false }, kinds := [], alts := [], laidByText := true, laidKinds := [.data], laidTests := true, laidLooks := .later }
def IceCellsCardSaid : Prop := Claim7.holds Tryd.pinned (.plain (OpenSpec.ofChange iceCellsSpec)) iceCellsCard

/-- THE TIED CARD OF 'polynyalaw01.IceReports'. -/
def iceReportsCard : Claim7 := { stood := { row := iceReportsRow, standIns := [], harness := (true, "d9090ddba4165b50584f9a0e3a9ed307594f6ef2c7ba0c39f6d2ed180eefb913"), looks := false }, kinds := [], alts := [], laidByText := true, laidKinds := [.data], laidTests := true, laidLooks := .later }
def IceReportsCardSaid : Prop := Claim7.holds Tryd.pinned (.plain (OpenSpec.ofChange iceReportsSpec)) iceReportsCard

/-- THE TIED CARD OF 'polynyalaw01.IceHolds'. -/
def iceHoldsCard : Claim7 := { stood := { row := iceHoldsRow, standIns := [], harness := (true, "d9090ddba4165b50584f9a0e3a9ed307594f6ef2c7ba0c39f6d2ed180eefb913"), looks := false }, kinds := [], alts := [], laidByText := true, laidKinds := [.data], laidTests := true, laidLooks := .later }
def IceHoldsCardSaid : Prop := Claim7.holds Tryd.pinned (.plain (OpenSpec.ofChange iceHoldsSpec)) iceHoldsCard

/-- THE TIED CARD OF 'polynyalaw01.IceBlames'. -/
def iceBlamesCard : Claim7 := { stood := { row := iceBlamesRow, standIns := [], harness := (true, "d9090ddba4165b50584f9a0e3a9ed307594f6ef2c7ba0c39f6d2ed180eefb913"), looks := false }, kinds := [], alts := [], laidByText := true, laidKinds := [.data], laidTests := true, laidLooks := .later }
def IceBlamesCardSaid : Prop := Claim7.holds Tryd.pinned (.plain (OpenSpec.ofChange iceBlamesSpec)) iceBlamesCard

/-- THE TIED CARD OF 'polynyalaw01.IceGuilt'. -/
def iceGuiltCard : Claim7 := { stood := { row := iceGuiltRow, standIns := [], harness := (true, "d9090ddba4165b50584f9a0e3a9ed307594f6ef2c7ba0c39f6d2ed180eefb913"), looks := false }, kinds := [], alts := [], laidByText := true, laidKinds := [.data], laidTests := true, laidLooks := .later }
def IceGuiltCardSaid : Prop := Claim7.holds Tryd.pinned (.plain (OpenSpec.ofChange iceGuiltSpec)) iceGuiltCard

/-- THE TIED CARD OF 'polynyalaw01.IceLattice'. -/
def iceLatticeCard : Claim7 := { stood := { row := iceLatticeRow, standIns := [], harness := (true, "d9090ddba4165b50584f9a0e3a9ed307594f6ef2c7ba0c39f6d2ed180eefb913"), looks := false }, kinds := [], alts := [], laidByText := true, laidKinds := [.data], laidTests := true, laidLooks := .later }
def IceLatticeCardSaid : Prop := Claim7.holds Tryd.pinned (.plain (OpenSpec.ofChange iceLatticeSpec)) iceLatticeCard

/-- THE TIED CARD OF 'polynyalaw01.IceAges'. -/
def iceAgesCard : Claim7 := { stood := { row := iceAgesRow, standIns := [], harness := (true, "d9090ddba4165b50584f9a0e3a9ed307594f6ef2c7ba0c39f6d2ed180eefb913"), looks := false }, kinds := [], alts := [], laidByText := true, laidKinds := [.data], laidTests := true, laidLooks := .later }
def IceAgesCardSaid : Prop := Claim7.holds Tryd.pinned (.plain (OpenSpec.ofChange iceAgesSpec)) iceAgesCard

/-- THE SECOND FORM's CARD OF 'polynyalaw01.IceCells'. -/
def iceCellsUptoCard : Claim7 := { stood := { row := iceCellsUptoRow, standIns := [], harness := (true, "d9090ddba4165b50584f9a0e3a9ed307594f6ef2c7ba0c39f6d2ed180eefb913"), looks := false }, kinds := [], alts := [], laidByText := true, laidKinds := [.data], laidTests := true, laidLooks := .later }
def IceCellsUptoCardSaid : Prop := Claim7.holds Tryd.pinned (.plain (OpenSpec.upto iceCellsSpec)) iceCellsUptoCard

/-- THE SECOND FORM's CARD OF 'polynyalaw01.IceReports'. -/
def iceReportsUptoCard : Claim7 := { stood := { row := iceReportsUptoRow, standIns := [], harness := (true, "d9090ddba4165b50584f9a0e3a9ed307594f6ef2c7ba0c39f6d2ed180eefb913"), looks := false }, kinds := [], alts := [], laidByText := true, laidKinds := [.data], laidTests := true, laidLooks := .later }
def IceReportsUptoCardSaid : Prop := Claim7.holds Tryd.pinned (.plain (OpenSpec.upto iceReportsSpec)) iceReportsUptoCard

/-- THE SECOND FORM's CARD OF 'polynyalaw01.IceHolds'. -/
def iceHoldsUptoCard : Claim7 := { stood := { row := iceHoldsUptoRow, standIns := [], harness := (true, "d9090ddba4165b50584f9a0e3a9ed307594f6ef2c7ba0c39f6d2ed180eefb913"), looks := false }, kinds := [], alts := [], laidByText := true, laidKinds := [.data], laidTests := true, laidLooks := .later }
def IceHoldsUptoCardSaid : Prop := Claim7.holds Tryd.pinned (.plain (OpenSpec.upto iceHoldsSpec)) iceHoldsUptoCard

/-- THE SECOND FORM's CARD OF 'polynyalaw01.IceBlames'. -/
def iceBlamesUptoCard : Claim7 := { stood := { row := iceBlamesUptoRow, standIns := [], harness := (true, "d9090ddba4165b50584f9a0e3a9ed307594f6ef2c7ba0c39f6d2ed180eefb913"), looks := false }, kinds := [], alts := [], laidByText := true, laidKinds := [.data], laidTests := true, laidLooks := .later }
def IceBlamesUptoCardSaid : Prop := Claim7.holds Tryd.pinned (.plain (OpenSpec.upto iceBlamesSpec)) iceBlamesUptoCard

/-- THE SECOND FORM's CARD OF 'polynyalaw01.IceGuilt'. -/
def iceGuiltUptoCard : Claim7 := { stood := { row := iceGuiltUptoRow, standIns := [], harness := (true, "d9090ddba4165b50584f9a0e3a9ed307594f6ef2c7ba0c39f6d2ed180eefb913"), looks := false }, kinds := [], alts := [], laidByText := true, laidKinds := [.data], laidTests := true, laidLooks := .later }
def IceGuiltUptoCardSaid : Prop := Claim7.holds Tryd.pinned (.plain (OpenSpec.upto iceGuiltSpec)) iceGuiltUptoCard

/-- THE SECOND FORM's CARD OF 'polynyalaw01.IceLattice'. -/
def iceLatticeUptoCard : Claim7 := { stood := { row := iceLatticeUptoRow, standIns := [], harness := (true, "d9090ddba4165b50584f9a0e3a9ed307594f6ef2c7ba0c39f6d2ed180eefb913"), looks := false }, kinds := [], alts := [], laidByText := true, laidKinds := [.data], laidTests := true, laidLooks := .later }
def IceLatticeUptoCardSaid : Prop := Claim7.holds Tryd.pinned (.plain (OpenSpec.upto iceLatticeSpec)) iceLatticeUptoCard

/-- THE SECOND FORM's CARD OF 'polynyalaw01.IceAges'. -/
def iceAgesUptoCard : Claim7 := { stood := { row := iceAgesUptoRow, standIns := [], harness := (true, "d9090ddba4165b50584f9a0e3a9ed307594f6ef2c7ba0c39f6d2ed180eefb913"), looks := false }, kinds := [], alts := [], laidByText := true, laidKinds := [.data], laidTests := true, laidLooks := .later }
def IceAgesUptoCardSaid : Prop := Claim7.holds Tryd.pinned (.plain (OpenSpec.upto iceAgesSpec)) iceAgesUptoCard
end Rows
end Go.Proofs.YtdcpmdigihbdpaaDoor
