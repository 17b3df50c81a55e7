/-
  NARROWER THAN 'FOR EVERY INPUT', by the rows' own cells (each row's printed sentence says how): IceCells: laid · IceReports: laid · IceHolds: laid · IceBlames: laid · IceGuilt: laid · IceLattice: laid · IceAges: laid.
  DERIVED. THE GIVEN ROWS OF THIS SEAT. 7 by the template 'for every input the law returns true; each argument reads behind the call as it read before'; 0 by the template 'total and deterministic' (their statements: YtdcpmdigihbdpaaDoorTotals.lean).
  GIVEN WITH THE SEED: the statements are not yours to turn. If you find one false, say at which input.
  Laid BY PROGRAM, IN A SANDBOX (cutbox-rows.mjs): the forced cells as the released guide's own fill.sh prints them over the translation 4c4ae03464e1f11c… (all of the seat's roots in one cut). By AI agents, Wed Nov 11 2026. No macro, syntax, notation, axiom, sorry.
-/
import Derived.Test.YtdcpmdigihbdpaaDoorChecked
import GoSem.Claim
import GoSem.ClaimJoined
import GoSem.ClaimMapViews
import Derived.JoinedTies
import Derived.KernelRfl
namespace Go.Proofs.YtdcpmdigihbdpaaDoor
/- THE CELL 'sum', in the pinned program and in every row, IS THE sha256 OF THE DUMP (.gsa) THAT YtdcpmdigihbdpaaDoorProg.lean LOADS. Nothing in Lean hashes anything: it is a label: what it is worth is what the hold of that sum in a sandbox is worth. -/
noncomputable def Tryd.pinned : Pinned := { name := "ytdcpmdigihbdpaadoor", sum := "4c4ae03464e1f11c2cef5dcbbc31366bcb5a6e05dd4b122629c5c59c77a9c990", checked := Tryd.checked }
namespace Rows
def none {H : Type} : Left H := { results := [], args := [] }

/- WHAT THE LISTED PACKAGE-LEVEL VARIABLES READ AS WHEN THE CALL BEGINS. Each datum BY PROGRAM (the guide's laid-datum.mjs) off the statement by which the dump's own 'gosem.cut.vars' lays the variable. In a bare row this is a premise. The card (YtdcpmdigihbdpaaDoorCards.lean) ties it to the program's text. -/
def laid_polynya_ice_limits {H : Type} : DataW H := .agg [.lit (.int .i64 100), .lit (.int .i64 400), .lit (.int .i64 100), .lit (.int .i64 3)]

/-- 'polynyalaw01.IceCells': WHATEVER THE INPUT: true; the input reads as it did. -/
def iceCellsSpec : ChangeSpec := { name := "iceCells", fn := fun _ => fun
  | [d1, d2, d3, d4, d5, d6] => { results := [.lit (.bool true)], args := [d1, d2, d3, d4, d5, d6] }
  | _ => none }
def iceCellsRow : OpenClaim := { program := "ytdcpmdigihbdpaadoor", sum := "4c4ae03464e1f11c2cef5dcbbc31366bcb5a6e05dd4b122629c5c59c77a9c990", func := "polynya/polynyalaw01.IceCells", spec := "iceCells", unfollowed := true, recurses := true, named := ["polynya/ice.limits"], plainKeys := false, apart := false, laid := [("polynya/ice.limits", laid_polynya_ice_limits)] }
def IceCellsSaid : Prop := iceCellsRow.holds Tryd.pinned (OpenSpec.ofChange iceCellsSpec)

/-- ITS FALSE NEIGHBOUR: 'it returns false'. Refute it at one input. -/
def iceCellsWrong : ChangeSpec := { name := "iceCells", fn := fun _ => fun
  | [d1, d2, d3, d4, d5, d6] => { results := [.lit (.bool false)], args := [d1, d2, d3, d4, d5, d6] }
  | _ => none }
def IceCellsWrongFalsely : Prop := iceCellsRow.holds Tryd.pinned (OpenSpec.ofChange iceCellsWrong)

/-- 'polynyalaw01.IceReports': WHATEVER THE INPUT: true; the input reads as it did. -/
def iceReportsSpec : ChangeSpec := { name := "iceReports", fn := fun _ => fun
  | [d1, d2, d3] => { results := [.lit (.bool true)], args := [d1, d2, d3] }
  | _ => none }
def iceReportsRow : OpenClaim := { program := "ytdcpmdigihbdpaadoor", sum := "4c4ae03464e1f11c2cef5dcbbc31366bcb5a6e05dd4b122629c5c59c77a9c990", func := "polynya/polynyalaw01.IceReports", spec := "iceReports", unfollowed := true, recurses := true, named := ["polynya/ice.limits"], plainKeys := false, apart := false, laid := [("polynya/ice.limits", laid_polynya_ice_limits)] }
def IceReportsSaid : Prop := iceReportsRow.holds Tryd.pinned (OpenSpec.ofChange iceReportsSpec)

/-- ITS FALSE NEIGHBOUR: 'it returns false'. Refute it at one input. -/
def iceReportsWrong : ChangeSpec := { name := "iceReports", fn := fun _ => fun
  | [d1, d2, d3] => { results := [.lit (.bool false)], args := [d1, d2, d3] }
  | _ => none }
def IceReportsWrongFalsely : Prop := iceReportsRow.holds Tryd.pinned (OpenSpec.ofChange iceReportsWrong)

/-- 'polynyalaw01.IceHolds': WHATEVER THE INPUT: true; the input reads as it did. -/
def iceHoldsSpec : ChangeSpec := { name := "iceHolds", fn := fun _ => fun
  | [d1, d2, d3, d4, d5, d6, d7] => { results := [.lit (.bool true)], args := [d1, d2, d3, d4, d5, d6, d7] }
  | _ => none }
def iceHoldsRow : OpenClaim := { program := "ytdcpmdigihbdpaadoor", sum := "4c4ae03464e1f11c2cef5dcbbc31366bcb5a6e05dd4b122629c5c59c77a9c990", func := "polynya/polynyalaw01.IceHolds", spec := "iceHolds", unfollowed := true, recurses := true, named := ["polynya/ice.limits"], plainKeys := false, apart := false, laid := [("polynya/ice.limits", laid_polynya_ice_limits)] }
def IceHoldsSaid : Prop := iceHoldsRow.holds Tryd.pinned (OpenSpec.ofChange iceHoldsSpec)

/-- ITS FALSE NEIGHBOUR: 'it returns false'. Refute it at one input. -/
def iceHoldsWrong : ChangeSpec := { name := "iceHolds", fn := fun _ => fun
  | [d1, d2, d3, d4, d5, d6, d7] => { results := [.lit (.bool false)], args := [d1, d2, d3, d4, d5, d6, d7] }
  | _ => none }
def IceHoldsWrongFalsely : Prop := iceHoldsRow.holds Tryd.pinned (OpenSpec.ofChange iceHoldsWrong)

/-- 'polynyalaw01.IceBlames': WHATEVER THE INPUT: true; the input reads as it did. -/
def iceBlamesSpec : ChangeSpec := { name := "iceBlames", fn := fun _ => fun
  | [d1, d2, d3] => { results := [.lit (.bool true)], args := [d1, d2, d3] }
  | _ => none }
def iceBlamesRow : OpenClaim := { program := "ytdcpmdigihbdpaadoor", sum := "4c4ae03464e1f11c2cef5dcbbc31366bcb5a6e05dd4b122629c5c59c77a9c990", func := "polynya/polynyalaw01.IceBlames", spec := "iceBlames", unfollowed := true, recurses := true, named := ["polynya/ice.limits"], plainKeys := false, apart := false, laid := [("polynya/ice.limits", laid_polynya_ice_limits)] }
def IceBlamesSaid : Prop := iceBlamesRow.holds Tryd.pinned (OpenSpec.ofChange iceBlamesSpec)

/-- ITS FALSE NEIGHBOUR: 'it returns false'. Refute it at one input. -/
def iceBlamesWrong : ChangeSpec := { name := "iceBlames", fn := fun _ => fun
  | [d1, d2, d3] => { results := [.lit (.bool false)], args := [d1, d2, d3] }
  | _ => none }
def IceBlamesWrongFalsely : Prop := iceBlamesRow.holds Tryd.pinned (OpenSpec.ofChange iceBlamesWrong)

/-- 'polynyalaw01.IceGuilt': WHATEVER THE INPUT: true; the input reads as it did. -/
def iceGuiltSpec : ChangeSpec := { name := "iceGuilt", fn := fun _ => fun
  | [d1, d2] => { results := [.lit (.bool true)], args := [d1, d2] }
  | _ => none }
def iceGuiltRow : OpenClaim := { program := "ytdcpmdigihbdpaadoor", sum := "4c4ae03464e1f11c2cef5dcbbc31366bcb5a6e05dd4b122629c5c59c77a9c990", func := "polynya/polynyalaw01.IceGuilt", spec := "iceGuilt", unfollowed := true, recurses := true, named := ["polynya/ice.limits"], plainKeys := false, apart := false, laid := [("polynya/ice.limits", laid_polynya_ice_limits)] }
def IceGuiltSaid : Prop := iceGuiltRow.holds Tryd.pinned (OpenSpec.ofChange iceGuiltSpec)

/-- ITS FALSE NEIGHBOUR: 'it returns false'. Refute it at one input. -/
def iceGuiltWrong : ChangeSpec := { name := "iceGuilt", fn := fun _ => fun
  | [d1, d2] => { results := [.lit (.bool false)], args := [d1, d2] }
  | _ => none }
def IceGuiltWrongFalsely : Prop := iceGuiltRow.holds Tryd.pinned (OpenSpec.ofChange iceGuiltWrong)

/-- 'polynyalaw01.IceLattice': WHATEVER THE INPUT: true; the input reads as it did. -/
def iceLatticeSpec : ChangeSpec := { name := "iceLattice", fn := fun _ => fun
  | [d1, d2, d3, d4, d5] => { results := [.lit (.bool true)], args := [d1, d2, d3, d4, d5] }
  | _ => none }
def iceLatticeRow : OpenClaim := { program := "ytdcpmdigihbdpaadoor", sum := "4c4ae03464e1f11c2cef5dcbbc31366bcb5a6e05dd4b122629c5c59c77a9c990", func := "polynya/polynyalaw01.IceLattice", spec := "iceLattice", unfollowed := true, recurses := true, named := ["polynya/ice.limits"], plainKeys := false, apart := false, laid := [("polynya/ice.limits", laid_polynya_ice_limits)] }
def IceLatticeSaid : Prop := iceLatticeRow.holds Tryd.pinned (OpenSpec.ofChange iceLatticeSpec)

/-- ITS FALSE NEIGHBOUR: 'it returns false'. Refute it at one input. -/
def iceLatticeWrong : ChangeSpec := { name := "iceLattice", fn := fun _ => fun
  | [d1, d2, d3, d4, d5] => { results := [.lit (.bool false)], args := [d1, d2, d3, d4, d5] }
  | _ => none }
def IceLatticeWrongFalsely : Prop := iceLatticeRow.holds Tryd.pinned (OpenSpec.ofChange iceLatticeWrong)

/-- 'polynyalaw01.IceAges': WHATEVER THE INPUT: true; the input reads as it did. -/
def iceAgesSpec : ChangeSpec := { name := "iceAges", fn := fun _ => fun
  | [d1, d2, d3, d4] => { results := [.lit (.bool true)], args := [d1, d2, d3, d4] }
  | _ => none }
def iceAgesRow : OpenClaim := { program := "ytdcpmdigihbdpaadoor", sum := "4c4ae03464e1f11c2cef5dcbbc31366bcb5a6e05dd4b122629c5c59c77a9c990", func := "polynya/polynyalaw01.IceAges", spec := "iceAges", unfollowed := true, recurses := true, named := ["polynya/ice.limits"], plainKeys := false, apart := false, laid := [("polynya/ice.limits", laid_polynya_ice_limits)] }
def IceAgesSaid : Prop := iceAgesRow.holds Tryd.pinned (OpenSpec.ofChange iceAgesSpec)

/-- ITS FALSE NEIGHBOUR: 'it returns false'. Refute it at one input. -/
def iceAgesWrong : ChangeSpec := { name := "iceAges", fn := fun _ => fun
  | [d1, d2, d3, d4] => { results := [.lit (.bool false)], args := [d1, d2, d3, d4] }
  | _ => none }
def IceAgesWrongFalsely : Prop := iceAgesRow.holds Tryd.pinned (OpenSpec.ofChange iceAgesWrong)

/- THE SECOND FORM. 'bulk': how many values and letters a reading holds, each counted each time it is reached (what is shared counts as often as it is met; a slice's spare places count too). A statement '..UptoSaid' is the law's where the arguments, and the package variables that the reading takes, are together of bulk at most 1048576: NARROWER than '..Said'. Prove '..Said' where nothing that the law and all that it calls make is longer than what came in: it says more and counts as full. Else prove '..UptoSaid'. A law counts once. -/
mutual
def uptoBulk {H : Type} : DataW H → Nat
  | .lit (.string bytes) => bytes.length + 1
  | .lit _ => 1
  | .nil => 1
  | .ptr d => uptoBulk d + 1
  | .slice elems spare => uptoBulkAll elems + uptoBulkAll spare + 1
  | .agg parts => uptoBulkAll parts + 1
  | .iface _ d => uptoBulk d + 1
  | .map entries => uptoBulkEntries entries + 1
  | .held _ => 1
def uptoBulkAll {H : Type} : List (DataW H) → Nat
  | [] => 0
  | d :: r => uptoBulk d + uptoBulkAll r
def uptoBulkEntries {H : Type} : List (Lit × DataW H) → Nat
  | [] => 0
  | x :: r => uptoBulkEntry x + uptoBulkEntries r
def uptoBulkEntry {H : Type} : Lit × DataW H → Nat
  | (.string bytes, d) => bytes.length + uptoBulk d + 1
  | (_, d) => uptoBulk d + 1
 end
def uptoSmall : (H : Type) → List (DataW H) → Bool := fun _ ds => decide (uptoBulkAll ds ≤ 1048576)
def OpenSpec.upto (s : _root_.Go.ChangeSpec) : _root_.Go.OpenSpec := { _root_.Go.OpenSpec.ofChange s with cond := some uptoSmall }

/-- 'polynyalaw01.IceCells', WHERE WHAT IT READS IS OF BULK AT MOST 1048576: true; the input reads as it did. -/
def iceCellsUptoRow : OpenClaim := { program := "ytdcpmdigihbdpaadoor", sum := "4c4ae03464e1f11c2cef5dcbbc31366bcb5a6e05dd4b122629c5c59c77a9c990", func := "polynya/polynyalaw01.IceCells", spec := "iceCells", unfollowed := true, recurses := true, named := ["polynya/ice.limits"], plainKeys := false, apart := false, laid := [("polynya/ice.limits", laid_polynya_ice_limits)], narrowed := true }
def IceCellsUptoSaid : Prop := iceCellsUptoRow.holds Tryd.pinned (OpenSpec.upto iceCellsSpec)

/-- 'polynyalaw01.IceReports', WHERE WHAT IT READS IS OF BULK AT MOST 1048576: true; the input reads as it did. -/
def iceReportsUptoRow : OpenClaim := { program := "ytdcpmdigihbdpaadoor", sum := "4c4ae03464e1f11c2cef5dcbbc31366bcb5a6e05dd4b122629c5c59c77a9c990", func := "polynya/polynyalaw01.IceReports", spec := "iceReports", unfollowed := true, recurses := true, named := ["polynya/ice.limits"], plainKeys := false, apart := false, laid := [("polynya/ice.limits", laid_polynya_ice_limits)], narrowed := true }
def IceReportsUptoSaid : Prop := iceReportsUptoRow.holds Tryd.pinned (OpenSpec.upto iceReportsSpec)

/-- 'polynyalaw01.IceHolds', WHERE WHAT IT READS IS OF BULK AT MOST 1048576: true; the input reads as it did. -/
def iceHoldsUptoRow : OpenClaim := { program := "ytdcpmdigihbdpaadoor", sum := "4c4ae03464e1f11c2cef5dcbbc31366bcb5a6e05dd4b122629c5c59c77a9c990", func := "polynya/polynyalaw01.IceHolds", spec := "iceHolds", unfollowed := true, recurses := true, named := ["polynya/ice.limits"], plainKeys := false, apart := false, laid := [("polynya/ice.limits", laid_polynya_ice_limits)], narrowed := true }
def IceHoldsUptoSaid : Prop := iceHoldsUptoRow.holds Tryd.pinned (OpenSpec.upto iceHoldsSpec)

/-- 'polynyalaw01.IceBlames', WHERE WHAT IT READS IS OF BULK AT MOST 1048576: true; the input reads as it did. -/
def iceBlamesUptoRow : OpenClaim := { program := "ytdcpmdigihbdpaadoor", sum := "4c4ae03464e1f11c2cef5dcbbc31366bcb5a6e05dd4b122629c5c59c77a9c990", func := "polynya/polynyalaw01.IceBlames", spec := "iceBlames", unfollowed := true, recurses := true, named := ["polynya/ice.limits"], plainKeys := false, apart := false, laid := [("polynya/ice.limits", laid_polynya_ice_limits)], narrowed := true }
def IceBlamesUptoSaid : Prop := iceBlamesUptoRow.holds Tryd.pinned (OpenSpec.upto iceBlamesSpec)

/-- 'polynyalaw01.IceGuilt', WHERE WHAT IT READS IS OF BULK AT MOST 1048576: true; the input reads as it did. -/
def iceGuiltUptoRow : OpenClaim := { program := "ytdcpmdigihbdpaadoor", sum := "4c4ae03464e1f11c2cef5dcbbc31366bcb5a6e05dd4b122629c5c59c77a9c990", func := "polynya/polynyalaw01.IceGuilt", spec := "iceGuilt", unfollowed := true, recurses := true, named := ["polynya/ice.limits"], plainKeys := false, apart := false, laid := [("polynya/ice.limits", laid_polynya_ice_limits)], narrowed := true }
def IceGuiltUptoSaid : Prop := iceGuiltUptoRow.holds Tryd.pinned (OpenSpec.upto iceGuiltSpec)

/-- 'polynyalaw01.IceLattice', WHERE WHAT IT READS IS OF BULK AT MOST 1048576: true; the input reads as it did. -/
def iceLatticeUptoRow : OpenClaim := { program := "ytdcpmdigihbdpaadoor", sum := "4c4ae03464e1f11c2cef5dcbbc31366bcb5a6e05dd4b122629c5c59c77a9c990", func := "polynya/polynyalaw01.IceLattice", spec := "iceLattice", unfollowed := true, recurses := true, named := ["polynya/ice.limits"], plainKeys := false, apart := false, laid := [("polynya/ice.limits", laid_polynya_ice_limits)], narrowed := true }
def IceLatticeUptoSaid : Prop := iceLatticeUptoRow.holds Tryd.pinned (OpenSpec.upto iceLatticeSpec)

/-- 'polynyalaw01.IceAges', WHERE WHAT IT READS IS OF BULK AT MOST 1048576: true; the input reads as it did. -/
def iceAgesUptoRow : OpenClaim := { program := "ytdcpmdigihbdpaadoor", sum := "4c4ae03464e1f11c2cef5dcbbc31366bcb5a6e05dd4b122629c5c59c77a9c990", func := "polynya/polynyalaw01.IceAges", spec := "iceAges", unfollowed := true, recurses := true, named := ["polynya/ice.limits"], plainKeys := false, apart := false, laid := [("polynya/ice.limits", laid_polynya_ice_limits)], narrowed := true }
def IceAgesUptoSaid : Prop := iceAgesUptoRow.holds Tryd.pinned (OpenSpec.upto iceAgesSpec)

end Rows
end Go.Proofs.YtdcpmdigihbdpaaDoor
