/- Contracts of hull's calls for right ships, ices and speeds, with their numbers named; the code that begins with a region. -/
import Derived.Test.YtcoiklolgilhaaaDoorQd
import Derived.Test.YtcoiklolgilhaaaDoorRb
namespace Go.Proofs.YtcoiklolgilhaaaDoor
open Go.RowKit
set_option maxRecDepth 100000
/-- The code that begins with a region. -/
def findReg (id : Nat) : Code → Option Code
  | .seq (.region i ops d) b => if i = id then some (.seq (.region i ops d) b) else findReg id b
  | .seq a b => match findReg id a with
    | some c => some c
    | none => findReg id b
  | .block _ c => findReg id c
  | .loop c => findReg id c
  | .scope c => findReg id c
  | .cond _ a b => match findReg id a with
    | some c => some c
    | none => findReg id b
  | _ => none
theorem errS_of {v : Int} (h0 : 0 ≤ v) (h1 : v ≤ 250) : errS v = 0 := by unfold errS; rw [if_pos ⟨h0, h1⟩]
theorem Speed_ok (s : Sh) (ms : Mem3) (x : Ic) (ch : Bool) (w : World) (hs : ShipIn w s ms) (hl : Lim w) (hc : chkP s = 0) (gi : GoodI x) :
    Calls Tryd.prog 27 #[.agg (shipA s ms), .agg (iceV x), .bool ch] w fun e w' => ∃ A : Int, e = .returned (.tuple #[.int .i64 A, .int .i64 0]) ∧ A = (speedP s x ch : Int) ∧ Below w.heap.size w w' := by
  refine (Speed_any s ms x ch w hs hl).mono ?_
  rintro e w' ⟨rfl, hb⟩
  refine ⟨_, ?_, rfl, hb⟩
  unfold SpeedRes
  rw [if_pos (by rw [hc, iceE_of gi]; rfl)]
theorem Resistance_ok (s : Sh) (ms : Mem3) (x : Ic) (v : Int) (ch : Bool) (w : World) (hs : ShipIn w s ms) (hl : Lim w) (hc : chkP s = 0) (gi : GoodI x) (h0 : 0 ≤ v) (h1 : v ≤ 250) :
    Calls Tryd.prog 28 #[.agg (shipA s ms), .agg (iceV x), .int .i64 v, .bool ch] w fun e w' => ∃ A : Int, e = .returned (.tuple #[.int .i64 A, .int .i64 0]) ∧ A = resP s x v ch ∧ Below w.heap.size w w' := by
  refine (Resistance_any s ms x v ch w hs hl).mono ?_
  rintro e w' ⟨rfl, hb⟩
  refine ⟨_, ?_, rfl, hb⟩
  unfold ResistanceRes
  rw [if_pos (by rw [hc, iceE_of gi, errS_of h0 h1]; rfl)]
theorem Load_ok (x : Ic) (v : Int) (ch : Bool) (w : World) (hl : Lim w) (gi : GoodI x) (h0 : 0 ≤ v) (h1 : v ≤ 250) :
    Calls Tryd.prog 29 #[.agg (iceV x), .int .i64 v, .bool ch] w fun e w' => ∃ A : Int, e = .returned (.tuple #[.int .i64 A, .int .i64 0]) ∧ A = loadP x v ch ∧ Below w.heap.size w w' := by
  refine (Load_any x v ch w hl).mono ?_
  rintro e w' ⟨rfl, hb⟩
  refine ⟨_, ?_, rfl, hb⟩
  unfold LoadRes
  rw [if_pos (by rw [iceE_of gi, errS_of h0 h1]; rfl)]
end Go.Proofs.YtcoiklolgilhaaaDoor
