/-
  NARROWER THAN 'FOR EVERY INPUT', by the rows' own cells (each row's printed sentence says how): HullSpeeds: laid · HullLegs: laid · HullBounds: laid · HullSmall: laid · HullAged: laid · HullReported: laid.
  DERIVED. THE GIVEN ROWS OF THIS SEAT. 6 by the template 'for every input the law returns true; each argument reads behind the call as it read before'; 0 by the template 'total and deterministic' (their statements: YtcoiklolgilhaaaGreatDoorTotals.lean).
  GIVEN WITH THE SEED: the statements are not yours to turn. If you find one false, say at which input.
  Laid BY PROGRAM, IN A SANDBOX (cutbox-rows.mjs): the forced cells as the released guide's own fill.sh prints them over the translation d1f1e0ab6edaddf6… (all of the seat's roots in one cut). By AI agents, Wed Nov 11 2026. No macro, syntax, notation, axiom, sorry.
-/
import Derived.Test.YtcoiklolgilhaaaGreatDoorChecked
import GoSem.Claim
import GoSem.ClaimJoined
import GoSem.ClaimMapViews
import Derived.JoinedTies
import Derived.KernelRfl
namespace Go.Proofs.YtcoiklolgilhaaaGreatDoor
/- THE CELL 'sum', in the pinned program and in every row, IS THE sha256 OF THE DUMP (.gsa) THAT YtcoiklolgilhaaaGreatDoorProg.lean LOADS. Nothing in Lean hashes anything: it is a label: what it is worth is what the hold of that sum in a sandbox is worth. -/
noncomputable def Tryz.pinned : Pinned := { name := "ytcoiklolgilhaaagreatdoor", sum := "d1f1e0ab6edaddf61fd4ba0518e4edf0725b027c17643f46ab0628d4e4578dca", checked := Tryz.checked }
namespace Rows
def none {H : Type} : Left H := { results := [], args := [] }

/- WHAT THE LISTED PACKAGE-LEVEL VARIABLES READ AS WHEN THE CALL BEGINS. Each datum BY PROGRAM (the guide's laid-datum.mjs) off the statement by which the dump's own 'gosem.cut.vars' lays the variable. In a bare row this is a premise. The card (YtcoiklolgilhaaaGreatDoorCards.lean) ties it to the program's text. -/
def laid_polynya_ice_limits {H : Type} : DataW H := .agg [.lit (.int .i64 100), .lit (.int .i64 400), .lit (.int .i64 100), .lit (.int .i64 3)]
def laid_polynya_hull_strengths {H : Type} : DataW H := .agg [.lit (.int .i64 4000), .lit (.int .i64 8000), .lit (.int .i64 14000), .lit (.int .i64 24000), .lit (.int .i64 40000), .lit (.int .i64 90000)]

/-- 'polynyalaw03.HullSpeeds': WHATEVER THE INPUT: true; the input reads as it did. -/
def hullSpeedsSpec : ChangeSpec := { name := "hullSpeeds", fn := fun _ => fun
  | [d1, d2, d3, d4, d5] => { results := [.lit (.bool true)], args := [d1, d2, d3, d4, d5] }
  | _ => none }
def hullSpeedsRow : OpenClaim := { program := "ytcoiklolgilhaaagreatdoor", sum := "d1f1e0ab6edaddf61fd4ba0518e4edf0725b027c17643f46ab0628d4e4578dca", func := "polynya/polynyalaw03.HullSpeeds", spec := "hullSpeeds", unfollowed := true, recurses := true, named := ["polynya/ice.limits", "polynya/hull.strengths"], plainKeys := false, apart := false, laid := [("polynya/ice.limits", laid_polynya_ice_limits), ("polynya/hull.strengths", laid_polynya_hull_strengths)] }
def HullSpeedsSaid : Prop := hullSpeedsRow.holds Tryz.pinned (OpenSpec.ofChange hullSpeedsSpec)

/-- ITS FALSE NEIGHBOUR: 'it returns false'. Refute it at one input. -/
def hullSpeedsWrong : ChangeSpec := { name := "hullSpeeds", fn := fun _ => fun
  | [d1, d2, d3, d4, d5] => { results := [.lit (.bool false)], args := [d1, d2, d3, d4, d5] }
  | _ => none }
def HullSpeedsWrongFalsely : Prop := hullSpeedsRow.holds Tryz.pinned (OpenSpec.ofChange hullSpeedsWrong)

/-- 'polynyalaw03.HullLegs': WHATEVER THE INPUT: true; the input reads as it did. -/
def hullLegsSpec : ChangeSpec := { name := "hullLegs", fn := fun _ => fun
  | [d1, d2, d3, d4] => { results := [.lit (.bool true)], args := [d1, d2, d3, d4] }
  | _ => none }
def hullLegsRow : OpenClaim := { program := "ytcoiklolgilhaaagreatdoor", sum := "d1f1e0ab6edaddf61fd4ba0518e4edf0725b027c17643f46ab0628d4e4578dca", func := "polynya/polynyalaw03.HullLegs", spec := "hullLegs", unfollowed := true, recurses := true, named := ["polynya/ice.limits", "polynya/hull.strengths"], plainKeys := false, apart := false, laid := [("polynya/ice.limits", laid_polynya_ice_limits), ("polynya/hull.strengths", laid_polynya_hull_strengths)] }
def HullLegsSaid : Prop := hullLegsRow.holds Tryz.pinned (OpenSpec.ofChange hullLegsSpec)

/-- ITS FALSE NEIGHBOUR: 'it returns false'. Refute it at one input. -/
def hullLegsWrong : ChangeSpec := { name := "hullLegs", fn := fun _ => fun
  | [d1, d2, d3, d4] => { results := [.lit (.bool false)], args := [d1, d2, d3, d4] }
  | _ => none }
def HullLegsWrongFalsely : Prop := hullLegsRow.holds Tryz.pinned (OpenSpec.ofChange hullLegsWrong)

/-- 'polynyalaw03.HullBounds': WHATEVER THE INPUT: true; the input reads as it did. -/
def hullBoundsSpec : ChangeSpec := { name := "hullBounds", fn := fun _ => fun
  | [d1, d2, d3, d4] => { results := [.lit (.bool true)], args := [d1, d2, d3, d4] }
  | _ => none }
def hullBoundsRow : OpenClaim := { program := "ytcoiklolgilhaaagreatdoor", sum := "d1f1e0ab6edaddf61fd4ba0518e4edf0725b027c17643f46ab0628d4e4578dca", func := "polynya/polynyalaw03.HullBounds", spec := "hullBounds", unfollowed := true, recurses := true, named := ["polynya/ice.limits", "polynya/hull.strengths"], plainKeys := false, apart := false, laid := [("polynya/ice.limits", laid_polynya_ice_limits), ("polynya/hull.strengths", laid_polynya_hull_strengths)] }
def HullBoundsSaid : Prop := hullBoundsRow.holds Tryz.pinned (OpenSpec.ofChange hullBoundsSpec)

/-- ITS FALSE NEIGHBOUR: 'it returns false'. Refute it at one input. -/
def hullBoundsWrong : ChangeSpec := { name := "hullBounds", fn := fun _ => fun
  | [d1, d2, d3, d4] => { results := [.lit (.bool false)], args := [d1, d2, d3, d4] }
  | _ => none }
def HullBoundsWrongFalsely : Prop := hullBoundsRow.holds Tryz.pinned (OpenSpec.ofChange hullBoundsWrong)

/-- 'polynyalaw03.HullSmall': WHATEVER THE INPUT: true; the input reads as it did. -/
def hullSmallSpec : ChangeSpec := { name := "hullSmall", fn := fun _ => fun
  | [] => { results := [.lit (.bool true)], args := [] }
  | _ => none }
def hullSmallRow : OpenClaim := { program := "ytcoiklolgilhaaagreatdoor", sum := "d1f1e0ab6edaddf61fd4ba0518e4edf0725b027c17643f46ab0628d4e4578dca", func := "polynya/polynyalaw03.HullSmall", spec := "hullSmall", unfollowed := true, recurses := true, named := ["polynya/ice.limits", "polynya/hull.strengths"], plainKeys := false, apart := false, laid := [("polynya/ice.limits", laid_polynya_ice_limits), ("polynya/hull.strengths", laid_polynya_hull_strengths)] }
def HullSmallSaid : Prop := hullSmallRow.holds Tryz.pinned (OpenSpec.ofChange hullSmallSpec)

/-- ITS FALSE NEIGHBOUR: 'it returns false'. Refute it at one input. -/
def hullSmallWrong : ChangeSpec := { name := "hullSmall", fn := fun _ => fun
  | [] => { results := [.lit (.bool false)], args := [] }
  | _ => none }
def HullSmallWrongFalsely : Prop := hullSmallRow.holds Tryz.pinned (OpenSpec.ofChange hullSmallWrong)

/-- 'polynyalaw03.HullAged': WHATEVER THE INPUT: true; the input reads as it did. -/
def hullAgedSpec : ChangeSpec := { name := "hullAged", fn := fun _ => fun
  | [d1, d2, d3, d4, d5, d6] => { results := [.lit (.bool true)], args := [d1, d2, d3, d4, d5, d6] }
  | _ => none }
def hullAgedRow : OpenClaim := { program := "ytcoiklolgilhaaagreatdoor", sum := "d1f1e0ab6edaddf61fd4ba0518e4edf0725b027c17643f46ab0628d4e4578dca", func := "polynya/polynyalaw03.HullAged", spec := "hullAged", unfollowed := true, recurses := true, named := ["polynya/ice.limits", "polynya/hull.strengths"], plainKeys := false, apart := false, laid := [("polynya/ice.limits", laid_polynya_ice_limits), ("polynya/hull.strengths", laid_polynya_hull_strengths)] }
def HullAgedSaid : Prop := hullAgedRow.holds Tryz.pinned (OpenSpec.ofChange hullAgedSpec)

/-- ITS FALSE NEIGHBOUR: 'it returns false'. Refute it at one input. -/
def hullAgedWrong : ChangeSpec := { name := "hullAged", fn := fun _ => fun
  | [d1, d2, d3, d4, d5, d6] => { results := [.lit (.bool false)], args := [d1, d2, d3, d4, d5, d6] }
  | _ => none }
def HullAgedWrongFalsely : Prop := hullAgedRow.holds Tryz.pinned (OpenSpec.ofChange hullAgedWrong)

/-- 'polynyalaw03.HullReported': WHATEVER THE INPUT: true; the input reads as it did. -/
def hullReportedSpec : ChangeSpec := { name := "hullReported", fn := fun _ => fun
  | [d1, d2, d3, d4, d5] => { results := [.lit (.bool true)], args := [d1, d2, d3, d4, d5] }
  | _ => none }
def hullReportedRow : OpenClaim := { program := "ytcoiklolgilhaaagreatdoor", sum := "d1f1e0ab6edaddf61fd4ba0518e4edf0725b027c17643f46ab0628d4e4578dca", func := "polynya/polynyalaw03.HullReported", spec := "hullReported", unfollowed := true, recurses := true, named := ["polynya/ice.limits", "polynya/hull.strengths"], plainKeys := false, apart := false, laid := [("polynya/ice.limits", laid_polynya_ice_limits), ("polynya/hull.strengths", laid_polynya_hull_strengths)] }
def HullReportedSaid : Prop := hullReportedRow.holds Tryz.pinned (OpenSpec.ofChange hullReportedSpec)

/-- ITS FALSE NEIGHBOUR: 'it returns false'. Refute it at one input. -/
def hullReportedWrong : ChangeSpec := { name := "hullReported", fn := fun _ => fun
  | [d1, d2, d3, d4, d5] => { results := [.lit (.bool false)], args := [d1, d2, d3, d4, d5] }
  | _ => none }
def HullReportedWrongFalsely : Prop := hullReportedRow.holds Tryz.pinned (OpenSpec.ofChange hullReportedWrong)

/- THE SECOND FORM. 'bulk': how many values and letters a reading holds, each counted each time it is reached (what is shared counts as often as it is met; a slice's spare places count too). A statement '..UptoSaid' is the law's where the arguments, and the package variables that the reading takes, are together of bulk at most 1048576: NARROWER than '..Said'. Prove '..Said' where nothing that the law and all that it calls make is longer than what came in: it says more and counts as full. Else prove '..UptoSaid'. A law counts once. -/
mutual
def uptoBulk {H : Type} : DataW H → Nat
  | .lit (.string bytes) => bytes.length + 1
  | .lit _ => 1
  | .nil => 1
  | .ptr d => uptoBulk d + 1
  | .slice elems spare => uptoBulkAll elems + uptoBulkAll spare + 1
  | .agg parts => uptoBulkAll parts + 1
  | .iface _ d => uptoBulk d + 1
  | .map entries => uptoBulkEntries entries + 1
  | .held _ => 1
def uptoBulkAll {H : Type} : List (DataW H) → Nat
  | [] => 0
  | d :: r => uptoBulk d + uptoBulkAll r
def uptoBulkEntries {H : Type} : List (Lit × DataW H) → Nat
  | [] => 0
  | x :: r => uptoBulkEntry x + uptoBulkEntries r
def uptoBulkEntry {H : Type} : Lit × DataW H → Nat
  | (.string bytes, d) => bytes.length + uptoBulk d + 1
  | (_, d) => uptoBulk d + 1
 end
def uptoSmall : (H : Type) → List (DataW H) → Bool := fun _ ds => decide (uptoBulkAll ds ≤ 1048576)
def OpenSpec.upto (s : _root_.Go.ChangeSpec) : _root_.Go.OpenSpec := { _root_.Go.OpenSpec.ofChange s with cond := some uptoSmall }

/-- 'polynyalaw03.HullSpeeds', WHERE WHAT IT READS IS OF BULK AT MOST 1048576: true; the input reads as it did. -/
def hullSpeedsUptoRow : OpenClaim := { program := "ytcoiklolgilhaaagreatdoor", sum := "d1f1e0ab6edaddf61fd4ba0518e4edf0725b027c17643f46ab0628d4e4578dca", func := "polynya/polynyalaw03.HullSpeeds", spec := "hullSpeeds", unfollowed := true, recurses := true, named := ["polynya/ice.limits", "polynya/hull.strengths"], plainKeys := false, apart := false, laid := [("polynya/ice.limits", laid_polynya_ice_limits), ("polynya/hull.strengths", laid_polynya_hull_strengths)], narrowed := true }
def HullSpeedsUptoSaid : Prop := hullSpeedsUptoRow.holds Tryz.pinned (OpenSpec.upto hullSpeedsSpec)

/-- 'polynyalaw03.HullLegs', WHERE WHAT IT READS IS OF BULK AT MOST 1048576: true; the input reads as it did. -/
def hullLegsUptoRow : OpenClaim := { program := "ytcoiklolgilhaaagreatdoor", sum := "d1f1e0ab6edaddf61fd4ba0518e4edf0725b027c17643f46ab0628d4e4578dca", func := "polynya/polynyalaw03.HullLegs", spec := "hullLegs", unfollowed := true, recurses := true, named := ["polynya/ice.limits", "polynya/hull.strengths"], plainKeys := false, apart := false, laid := [("polynya/ice.limits", laid_polynya_ice_limits), ("polynya/hull.strengths", laid_polynya_hull_strengths)], narrowed := true }
def HullLegsUptoSaid : Prop := hullLegsUptoRow.holds Tryz.pinned (OpenSpec.upto hullLegsSpec)

/-- 'polynyalaw03.HullBounds', WHERE WHAT IT READS IS OF BULK AT MOST 1048576: true; the input reads as it did. -/
def hullBoundsUptoRow : OpenClaim := { program := "ytcoiklolgilhaaagreatdoor", sum := "d1f1e0ab6edaddf61fd4ba0518e4edf0725b027c17643f46ab0628d4e4578dca", func := "polynya/polynyalaw03.HullBounds", spec := "hullBounds", unfollowed := true, recurses := true, named := ["polynya/ice.limits", "polynya/hull.strengths"], plainKeys := false, apart := false, laid := [("polynya/ice.limits", laid_polynya_ice_limits), ("polynya/hull.strengths", laid_polynya_hull_strengths)], narrowed := true }
def HullBoundsUptoSaid : Prop := hullBoundsUptoRow.holds Tryz.pinned (OpenSpec.upto hullBoundsSpec)

/-- 'polynyalaw03.HullSmall', WHERE WHAT IT READS IS OF BULK AT MOST 1048576: true; the input reads as it did. -/
def hullSmallUptoRow : OpenClaim := { program := "ytcoiklolgilhaaagreatdoor", sum := "d1f1e0ab6edaddf61fd4ba0518e4edf0725b027c17643f46ab0628d4e4578dca", func := "polynya/polynyalaw03.HullSmall", spec := "hullSmall", unfollowed := true, recurses := true, named := ["polynya/ice.limits", "polynya/hull.strengths"], plainKeys := false, apart := false, laid := [("polynya/ice.limits", laid_polynya_ice_limits), ("polynya/hull.strengths", laid_polynya_hull_strengths)], narrowed := true }
def HullSmallUptoSaid : Prop := hullSmallUptoRow.holds Tryz.pinned (OpenSpec.upto hullSmallSpec)

/-- 'polynyalaw03.HullAged', WHERE WHAT IT READS IS OF BULK AT MOST 1048576: true; the input reads as it did. -/
def hullAgedUptoRow : OpenClaim := { program := "ytcoiklolgilhaaagreatdoor", sum := "d1f1e0ab6edaddf61fd4ba0518e4edf0725b027c17643f46ab0628d4e4578dca", func := "polynya/polynyalaw03.HullAged", spec := "hullAged", unfollowed := true, recurses := true, named := ["polynya/ice.limits", "polynya/hull.strengths"], plainKeys := false, apart := false, laid := [("polynya/ice.limits", laid_polynya_ice_limits), ("polynya/hull.strengths", laid_polynya_hull_strengths)], narrowed := true }
def HullAgedUptoSaid : Prop := hullAgedUptoRow.holds Tryz.pinned (OpenSpec.upto hullAgedSpec)

/-- 'polynyalaw03.HullReported', WHERE WHAT IT READS IS OF BULK AT MOST 1048576: true; the input reads as it did. -/
def hullReportedUptoRow : OpenClaim := { program := "ytcoiklolgilhaaagreatdoor", sum := "d1f1e0ab6edaddf61fd4ba0518e4edf0725b027c17643f46ab0628d4e4578dca", func := "polynya/polynyalaw03.HullReported", spec := "hullReported", unfollowed := true, recurses := true, named := ["polynya/ice.limits", "polynya/hull.strengths"], plainKeys := false, apart := false, laid := [("polynya/ice.limits", laid_polynya_ice_limits), ("polynya/hull.strengths", laid_polynya_hull_strengths)], narrowed := true }
def HullReportedUptoSaid : Prop := hullReportedUptoRow.holds Tryz.pinned (OpenSpec.upto hullReportedSpec)

end Rows
end Go.Proofs.YtcoiklolgilhaaaGreatDoor
