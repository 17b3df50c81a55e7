/-
  NARROWER THAN 'FOR EVERY INPUT', by the rows' own cells (each row's printed sentence says how): HullChecks: laid · HullMonotone: laid · HullCells: laid · HullLimited: laid · HullBetter: laid · HullPassed: laid · HullWaits: laid.
  DERIVED. THE GIVEN ROWS OF THIS SEAT. 7 by the template 'for every input the law returns true; each argument reads behind the call as it read before'; 0 by the template 'total and deterministic' (their statements: YtcoiklolgilhaaaDoorTotals.lean).
  GIVEN WITH THE SEED: the statements are not yours to turn. If you find one false, say at which input.
  Laid BY PROGRAM, IN A SANDBOX (cutbox-rows.mjs): the forced cells as the released guide's own fill.sh prints them over the translation 296a48ff4036261b… (all of the seat's roots in one cut). By AI agents, Wed Nov 11 2026. No macro, syntax, notation, axiom, sorry.
-/
import Derived.Test.YtcoiklolgilhaaaDoorChecked
import GoSem.Claim
import GoSem.ClaimJoined
import GoSem.ClaimMapViews
import Derived.JoinedTies
import Derived.KernelRfl
namespace Go.Proofs.YtcoiklolgilhaaaDoor
/- THE CELL 'sum', in the pinned program and in every row, IS THE sha256 OF THE DUMP (.gsa) THAT YtcoiklolgilhaaaDoorProg.lean LOADS. Nothing in Lean hashes anything: it is a label: what it is worth is what the hold of that sum in a sandbox is worth. -/
noncomputable def Tryd.pinned : Pinned := { name := "ytcoiklolgilhaaadoor", sum := "296a48ff4036261ba4a52c855b0c3b20a48b583336113711ac9c9e3b0d99513d", checked := Tryd.checked }
namespace Rows
def none {H : Type} : Left H := { results := [], args := [] }

/- WHAT THE LISTED PACKAGE-LEVEL VARIABLES READ AS WHEN THE CALL BEGINS. Each datum BY PROGRAM (the guide's laid-datum.mjs) off the statement by which the dump's own 'gosem.cut.vars' lays the variable. In a bare row this is a premise. The card (YtcoiklolgilhaaaDoorCards.lean) ties it to the program's text. -/
def laid_polynya_ice_limits {H : Type} : DataW H := .agg [.lit (.int .i64 100), .lit (.int .i64 400), .lit (.int .i64 100), .lit (.int .i64 3)]
def laid_polynya_hull_strengths {H : Type} : DataW H := .agg [.lit (.int .i64 4000), .lit (.int .i64 8000), .lit (.int .i64 14000), .lit (.int .i64 24000), .lit (.int .i64 40000), .lit (.int .i64 90000)]

/-- 'polynyalaw03.HullChecks': WHATEVER THE INPUT: true; the input reads as it did. -/
def hullChecksSpec : ChangeSpec := { name := "hullChecks", fn := fun _ => fun
  | [d1, d2, d3, d4] => { results := [.lit (.bool true)], args := [d1, d2, d3, d4] }
  | _ => none }
def hullChecksRow : OpenClaim := { program := "ytcoiklolgilhaaadoor", sum := "296a48ff4036261ba4a52c855b0c3b20a48b583336113711ac9c9e3b0d99513d", func := "polynya/polynyalaw03.HullChecks", spec := "hullChecks", unfollowed := true, recurses := true, named := ["polynya/ice.limits", "polynya/hull.strengths"], apart := false, laid := [("polynya/ice.limits", laid_polynya_ice_limits), ("polynya/hull.strengths", laid_polynya_hull_strengths)] }
def HullChecksSaid : Prop := hullChecksRow.holds Tryd.pinned (OpenSpec.ofChange hullChecksSpec)

/-- ITS FALSE NEIGHBOUR: 'it returns false'. Refute it at one input. -/
def hullChecksWrong : ChangeSpec := { name := "hullChecks", fn := fun _ => fun
  | [d1, d2, d3, d4] => { results := [.lit (.bool false)], args := [d1, d2, d3, d4] }
  | _ => none }
def HullChecksWrongFalsely : Prop := hullChecksRow.holds Tryd.pinned (OpenSpec.ofChange hullChecksWrong)

/-- 'polynyalaw03.HullMonotone': WHATEVER THE INPUT: true; the input reads as it did. -/
def hullMonotoneSpec : ChangeSpec := { name := "hullMonotone", fn := fun _ => fun
  | [d1, d2, d3, d4, d5] => { results := [.lit (.bool true)], args := [d1, d2, d3, d4, d5] }
  | _ => none }
def hullMonotoneRow : OpenClaim := { program := "ytcoiklolgilhaaadoor", sum := "296a48ff4036261ba4a52c855b0c3b20a48b583336113711ac9c9e3b0d99513d", func := "polynya/polynyalaw03.HullMonotone", spec := "hullMonotone", unfollowed := true, recurses := true, named := ["polynya/ice.limits", "polynya/hull.strengths"], apart := false, laid := [("polynya/ice.limits", laid_polynya_ice_limits), ("polynya/hull.strengths", laid_polynya_hull_strengths)] }
def HullMonotoneSaid : Prop := hullMonotoneRow.holds Tryd.pinned (OpenSpec.ofChange hullMonotoneSpec)

/-- ITS FALSE NEIGHBOUR: 'it returns false'. Refute it at one input. -/
def hullMonotoneWrong : ChangeSpec := { name := "hullMonotone", fn := fun _ => fun
  | [d1, d2, d3, d4, d5] => { results := [.lit (.bool false)], args := [d1, d2, d3, d4, d5] }
  | _ => none }
def HullMonotoneWrongFalsely : Prop := hullMonotoneRow.holds Tryd.pinned (OpenSpec.ofChange hullMonotoneWrong)

/-- 'polynyalaw03.HullCells': WHATEVER THE INPUT: true; the input reads as it did. -/
def hullCellsSpec : ChangeSpec := { name := "hullCells", fn := fun _ => fun
  | [d1, d2, d3, d4, d5] => { results := [.lit (.bool true)], args := [d1, d2, d3, d4, d5] }
  | _ => none }
def hullCellsRow : OpenClaim := { program := "ytcoiklolgilhaaadoor", sum := "296a48ff4036261ba4a52c855b0c3b20a48b583336113711ac9c9e3b0d99513d", func := "polynya/polynyalaw03.HullCells", spec := "hullCells", unfollowed := true, recurses := true, named := ["polynya/ice.limits", "polynya/hull.strengths"], apart := false, laid := [("polynya/ice.limits", laid_polynya_ice_limits), ("polynya/hull.strengths", laid_polynya_hull_strengths)] }
def HullCellsSaid : Prop := hullCellsRow.holds Tryd.pinned (OpenSpec.ofChange hullCellsSpec)

/-- ITS FALSE NEIGHBOUR: 'it returns false'. Refute it at one input. -/
def hullCellsWrong : ChangeSpec := { name := "hullCells", fn := fun _ => fun
  | [d1, d2, d3, d4, d5] => { results := [.lit (.bool false)], args := [d1, d2, d3, d4, d5] }
  | _ => none }
def HullCellsWrongFalsely : Prop := hullCellsRow.holds Tryd.pinned (OpenSpec.ofChange hullCellsWrong)

/-- 'polynyalaw03.HullLimited': WHATEVER THE INPUT: true; the input reads as it did. -/
def hullLimitedSpec : ChangeSpec := { name := "hullLimited", fn := fun _ => fun
  | [d1, d2, d3, d4, d5] => { results := [.lit (.bool true)], args := [d1, d2, d3, d4, d5] }
  | _ => none }
def hullLimitedRow : OpenClaim := { program := "ytcoiklolgilhaaadoor", sum := "296a48ff4036261ba4a52c855b0c3b20a48b583336113711ac9c9e3b0d99513d", func := "polynya/polynyalaw03.HullLimited", spec := "hullLimited", unfollowed := true, recurses := true, named := ["polynya/ice.limits", "polynya/hull.strengths"], apart := false, laid := [("polynya/ice.limits", laid_polynya_ice_limits), ("polynya/hull.strengths", laid_polynya_hull_strengths)] }
def HullLimitedSaid : Prop := hullLimitedRow.holds Tryd.pinned (OpenSpec.ofChange hullLimitedSpec)

/-- ITS FALSE NEIGHBOUR: 'it returns false'. Refute it at one input. -/
def hullLimitedWrong : ChangeSpec := { name := "hullLimited", fn := fun _ => fun
  | [d1, d2, d3, d4, d5] => { results := [.lit (.bool false)], args := [d1, d2, d3, d4, d5] }
  | _ => none }
def HullLimitedWrongFalsely : Prop := hullLimitedRow.holds Tryd.pinned (OpenSpec.ofChange hullLimitedWrong)

/-- 'polynyalaw03.HullBetter': WHATEVER THE INPUT: true; the input reads as it did. -/
def hullBetterSpec : ChangeSpec := { name := "hullBetter", fn := fun _ => fun
  | [d1, d2, d3, d4, d5, d6] => { results := [.lit (.bool true)], args := [d1, d2, d3, d4, d5, d6] }
  | _ => none }
def hullBetterRow : OpenClaim := { program := "ytcoiklolgilhaaadoor", sum := "296a48ff4036261ba4a52c855b0c3b20a48b583336113711ac9c9e3b0d99513d", func := "polynya/polynyalaw03.HullBetter", spec := "hullBetter", unfollowed := true, recurses := true, named := ["polynya/ice.limits", "polynya/hull.strengths"], apart := false, laid := [("polynya/ice.limits", laid_polynya_ice_limits), ("polynya/hull.strengths", laid_polynya_hull_strengths)] }
def HullBetterSaid : Prop := hullBetterRow.holds Tryd.pinned (OpenSpec.ofChange hullBetterSpec)

/-- ITS FALSE NEIGHBOUR: 'it returns false'. Refute it at one input. -/
def hullBetterWrong : ChangeSpec := { name := "hullBetter", fn := fun _ => fun
  | [d1, d2, d3, d4, d5, d6] => { results := [.lit (.bool false)], args := [d1, d2, d3, d4, d5, d6] }
  | _ => none }
def HullBetterWrongFalsely : Prop := hullBetterRow.holds Tryd.pinned (OpenSpec.ofChange hullBetterWrong)

/-- 'polynyalaw03.HullPassed': WHATEVER THE INPUT: true; the input reads as it did. -/
def hullPassedSpec : ChangeSpec := { name := "hullPassed", fn := fun _ => fun
  | [d1, d2, d3, d4] => { results := [.lit (.bool true)], args := [d1, d2, d3, d4] }
  | _ => none }
def hullPassedRow : OpenClaim := { program := "ytcoiklolgilhaaadoor", sum := "296a48ff4036261ba4a52c855b0c3b20a48b583336113711ac9c9e3b0d99513d", func := "polynya/polynyalaw03.HullPassed", spec := "hullPassed", unfollowed := true, recurses := true, named := ["polynya/ice.limits", "polynya/hull.strengths"], apart := false, laid := [("polynya/ice.limits", laid_polynya_ice_limits), ("polynya/hull.strengths", laid_polynya_hull_strengths)] }
def HullPassedSaid : Prop := hullPassedRow.holds Tryd.pinned (OpenSpec.ofChange hullPassedSpec)

/-- ITS FALSE NEIGHBOUR: 'it returns false'. Refute it at one input. -/
def hullPassedWrong : ChangeSpec := { name := "hullPassed", fn := fun _ => fun
  | [d1, d2, d3, d4] => { results := [.lit (.bool false)], args := [d1, d2, d3, d4] }
  | _ => none }
def HullPassedWrongFalsely : Prop := hullPassedRow.holds Tryd.pinned (OpenSpec.ofChange hullPassedWrong)

/-- 'polynyalaw03.HullWaits': WHATEVER THE INPUT: true; the input reads as it did. -/
def hullWaitsSpec : ChangeSpec := { name := "hullWaits", fn := fun _ => fun
  | [d1, d2, d3, d4] => { results := [.lit (.bool true)], args := [d1, d2, d3, d4] }
  | _ => none }
def hullWaitsRow : OpenClaim := { program := "ytcoiklolgilhaaadoor", sum := "296a48ff4036261ba4a52c855b0c3b20a48b583336113711ac9c9e3b0d99513d", func := "polynya/polynyalaw03.HullWaits", spec := "hullWaits", unfollowed := true, recurses := true, named := ["polynya/ice.limits", "polynya/hull.strengths"], apart := false, laid := [("polynya/ice.limits", laid_polynya_ice_limits), ("polynya/hull.strengths", laid_polynya_hull_strengths)] }
def HullWaitsSaid : Prop := hullWaitsRow.holds Tryd.pinned (OpenSpec.ofChange hullWaitsSpec)

/-- ITS FALSE NEIGHBOUR: 'it returns false'. Refute it at one input. -/
def hullWaitsWrong : ChangeSpec := { name := "hullWaits", fn := fun _ => fun
  | [d1, d2, d3, d4] => { results := [.lit (.bool false)], args := [d1, d2, d3, d4] }
  | _ => none }
def HullWaitsWrongFalsely : Prop := hullWaitsRow.holds Tryd.pinned (OpenSpec.ofChange hullWaitsWrong)

/- THE SECOND FORM. 'bulk': how many values and letters a reading holds, each counted each time it is reached (what is shared counts as often as it is met; a slice's spare places count too). A statement '..UptoSaid' is the law's where the arguments, and the package variables that the reading takes, are together of bulk at most 1048576: NARROWER than '..Said'. Prove '..Said' where nothing that the law and all that it calls make is longer than what came in: it says more and counts as full. Else prove '..UptoSaid'. A law counts once. -/
mutual
def uptoBulk {H : Type} : DataW H → Nat
  | .lit (.string bytes) => bytes.length + 1
  | .lit _ => 1
  | .nil => 1
  | .ptr d => uptoBulk d + 1
  | .slice elems spare => uptoBulkAll elems + uptoBulkAll spare + 1
  | .agg parts => uptoBulkAll parts + 1
  | .iface _ d => uptoBulk d + 1
  | .map entries => uptoBulkEntries entries + 1
  | .held _ => 1
def uptoBulkAll {H : Type} : List (DataW H) → Nat
  | [] => 0
  | d :: r => uptoBulk d + uptoBulkAll r
def uptoBulkEntries {H : Type} : List (Lit × DataW H) → Nat
  | [] => 0
  | x :: r => uptoBulkEntry x + uptoBulkEntries r
def uptoBulkEntry {H : Type} : Lit × DataW H → Nat
  | (.string bytes, d) => bytes.length + uptoBulk d + 1
  | (_, d) => uptoBulk d + 1
 end
def uptoSmall : (H : Type) → List (DataW H) → Bool := fun _ ds => decide (uptoBulkAll ds ≤ 1048576)
def OpenSpec.upto (s : _root_.Go.ChangeSpec) : _root_.Go.OpenSpec := { _root_.Go.OpenSpec.ofChange s with cond := some uptoSmall }

/-- 'polynyalaw03.HullChecks', WHERE WHAT IT READS IS OF BULK AT MOST 1048576: true; the input reads as it did. -/
def hullChecksUptoRow : OpenClaim := { program := "ytcoiklolgilhaaadoor", sum := "296a48ff4036261ba4a52c855b0c3b20a48b583336113711ac9c9e3b0d99513d", func := "polynya/polynyalaw03.HullChecks", spec := "hullChecks", unfollowed := true, recurses := true, named := ["polynya/ice.limits", "polynya/hull.strengths"], apart := false, laid := [("polynya/ice.limits", laid_polynya_ice_limits), ("polynya/hull.strengths", laid_polynya_hull_strengths)], narrowed := true }
def HullChecksUptoSaid : Prop := hullChecksUptoRow.holds Tryd.pinned (OpenSpec.upto hullChecksSpec)

/-- 'polynyalaw03.HullMonotone', WHERE WHAT IT READS IS OF BULK AT MOST 1048576: true; the input reads as it did. -/
def hullMonotoneUptoRow : OpenClaim := { program := "ytcoiklolgilhaaadoor", sum := "296a48ff4036261ba4a52c855b0c3b20a48b583336113711ac9c9e3b0d99513d", func := "polynya/polynyalaw03.HullMonotone", spec := "hullMonotone", unfollowed := true, recurses := true, named := ["polynya/ice.limits", "polynya/hull.strengths"], apart := false, laid := [("polynya/ice.limits", laid_polynya_ice_limits), ("polynya/hull.strengths", laid_polynya_hull_strengths)], narrowed := true }
def HullMonotoneUptoSaid : Prop := hullMonotoneUptoRow.holds Tryd.pinned (OpenSpec.upto hullMonotoneSpec)

/-- 'polynyalaw03.HullCells', WHERE WHAT IT READS IS OF BULK AT MOST 1048576: true; the input reads as it did. -/
def hullCellsUptoRow : OpenClaim := { program := "ytcoiklolgilhaaadoor", sum := "296a48ff4036261ba4a52c855b0c3b20a48b583336113711ac9c9e3b0d99513d", func := "polynya/polynyalaw03.HullCells", spec := "hullCells", unfollowed := true, recurses := true, named := ["polynya/ice.limits", "polynya/hull.strengths"], apart := false, laid := [("polynya/ice.limits", laid_polynya_ice_limits), ("polynya/hull.strengths", laid_polynya_hull_strengths)], narrowed := true }
def HullCellsUptoSaid : Prop := hullCellsUptoRow.holds Tryd.pinned (OpenSpec.upto hullCellsSpec)

/-- 'polynyalaw03.HullLimited', WHERE WHAT IT READS IS OF BULK AT MOST 1048576: true; the input reads as it did. -/
def hullLimitedUptoRow : OpenClaim := { program := "ytcoiklolgilhaaadoor", sum := "296a48ff4036261ba4a52c855b0c3b20a48b583336113711ac9c9e3b0d99513d", func := "polynya/polynyalaw03.HullLimited", spec := "hullLimited", unfollowed := true, recurses := true, named := ["polynya/ice.limits", "polynya/hull.strengths"], apart := false, laid := [("polynya/ice.limits", laid_polynya_ice_limits), ("polynya/hull.strengths", laid_polynya_hull_strengths)], narrowed := true }
def HullLimitedUptoSaid : Prop := hullLimitedUptoRow.holds Tryd.pinned (OpenSpec.upto hullLimitedSpec)

/-- 'polynyalaw03.HullBetter', WHERE WHAT IT READS IS OF BULK AT MOST 1048576: true; the input reads as it did. -/
def hullBetterUptoRow : OpenClaim := { program := "ytcoiklolgilhaaadoor", sum := "296a48ff4036261ba4a52c855b0c3b20a48b583336113711ac9c9e3b0d99513d", func := "polynya/polynyalaw03.HullBetter", spec := "hullBetter", unfollowed := true, recurses := true, named := ["polynya/ice.limits", "polynya/hull.strengths"], apart := false, laid := [("polynya/ice.limits", laid_polynya_ice_limits), ("polynya/hull.strengths", laid_polynya_hull_strengths)], narrowed := true }
def HullBetterUptoSaid : Prop := hullBetterUptoRow.holds Tryd.pinned (OpenSpec.upto hullBetterSpec)

/-- 'polynyalaw03.HullPassed', WHERE WHAT IT READS IS OF BULK AT MOST 1048576: true; the input reads as it did. -/
def hullPassedUptoRow : OpenClaim := { program := "ytcoiklolgilhaaadoor", sum := "296a48ff4036261ba4a52c855b0c3b20a48b583336113711ac9c9e3b0d99513d", func := "polynya/polynyalaw03.HullPassed", spec := "hullPassed", unfollowed := true, recurses := true, named := ["polynya/ice.limits", "polynya/hull.strengths"], apart := false, laid := [("polynya/ice.limits", laid_polynya_ice_limits), ("polynya/hull.strengths", laid_polynya_hull_strengths)], narrowed := true }
def HullPassedUptoSaid : Prop := hullPassedUptoRow.holds Tryd.pinned (OpenSpec.upto hullPassedSpec)

/-- 'polynyalaw03.HullWaits', WHERE WHAT IT READS IS OF BULK AT MOST 1048576: true; the input reads as it did. -/
def hullWaitsUptoRow : OpenClaim := { program := "ytcoiklolgilhaaadoor", sum := "296a48ff4036261ba4a52c855b0c3b20a48b583336113711ac9c9e3b0d99513d", func := "polynya/polynyalaw03.HullWaits", spec := "hullWaits", unfollowed := true, recurses := true, named := ["polynya/ice.limits", "polynya/hull.strengths"], apart := false, laid := [("polynya/ice.limits", laid_polynya_ice_limits), ("polynya/hull.strengths", laid_polynya_hull_strengths)], narrowed := true }
def HullWaitsUptoSaid : Prop := hullWaitsUptoRow.holds Tryd.pinned (OpenSpec.upto hullWaitsSpec)

end Rows
end Go.Proofs.YtcoiklolgilhaaaDoor
