/- What the laws' arguments are: bytes in a slice. What the program's text lays in the two tables. How an argument reads behind the call. -/
import Derived.Test.YtcoiklolgilhaaaGreatDoorPw
import Derived.Test.YtcoiklolgilhaaaGreatDoorQe
import Derived.Test.YtcoiklolgilhaaaGreatDoorRows
import Derived.ProofKit
import Derived.LaidMore
import Derived.OpenShut
import Derived.Deep.Slices
import Derived.Lib.SmallJoins
namespace Go.Proofs.YtcoiklolgilhaaaGreatDoor
open Go.ChangeShapes Go.WideShapes Go.ChangeAt Go.WideMaps Go.WideElems Go.RowKit Go.Deep
set_option maxRecDepth 100000
theorem own : ownKnob Tryz.prog.godebug = none := by kernel_rfl
theorem gLim : Tryz.prog.globalNamed "polynya/ice.limits" = some 0 := by kernel_rfl
theorem tLim : (Tryz.prog.globals[0]?).map (·.type) = some 189 := by kernel_rfl
theorem gStr : Tryz.prog.globalNamed "polynya/hull.strengths" = some 1 := by kernel_rfl
theorem tStr : (Tryz.prog.globals[1]?).map (·.type) = some 218 := by kernel_rfl
theorem cells3 : Tryz.prog.cellsOf 3 = 1 := by kernel_rfl
theorem cells5 : Tryz.prog.cellsOf 5 = 1 := by kernel_rfl
theorem cells138 : Tryz.prog.cellsOf 189 = 4 := by kernel_rfl
theorem cells152 : Tryz.prog.cellsOf 218 = 6 := by kernel_rfl
abbrev laidL {H : Type} : List (String × DataW H) := [("polynya/ice.limits", Rows.laid_polynya_ice_limits), ("polynya/hull.strengths", Rows.laid_polynya_hull_strengths)]
/-- The door's own heap meets the condition. -/
theorem door_met (os : Os) (args : Array Value) : laidMetH Tryz.prog laidL ((World.doorLaid Tryz.prog 400 os).forCall (fun _ _ => 0) ⟨#[], args, []⟩).memory :=
  laidMetH_of_parts3 (fuel := 8) (laidMet_of_run' 8 (by kernel_rfl) (by kernel_rfl)) (by kernel_rfl) (by kernel_rfl)
theorem arr138 {W : World} {fuel : Nat} {cs : Array Value} {d : DataW Unit} {p : List MemPlace} {enc : TypeId × Value → Unit} {spare : Nat → Bool} (h : DataW.trod enc Tryz.prog W 0 spare false fuel 189 cs.toList = some (d, p)) :
    ∃ n0 n1 n2 n3 : Int, cs = #[.int .i64 n0, .int .i64 n1, .int .i64 n2, .int .i64 n3] ∧ d = .agg [.lit (.int .i64 n0), .lit (.int .i64 n1), .lit (.int .i64 n2), .lit (.int .i64 n3)] := by
  obtain ⟨xs, m1, rfl, hx1, hlen, hn3, hel⟩ := DataW.trod_array Tryz.underlying189 h
  rw [cells138] at hlen
  rw [cells3] at hel
  obtain ⟨l⟩ := cs
  match l, hlen with
  | [a0, a1, a2, a3], _ =>
    match xs, hn3 with
    | [x0, x1, x2, x3], _ =>
      have e0 : DataW.trod _ Tryz.prog W 0 _ _ _ 3 [a0] = some x0 := hel 0 (by decide)
      have e1 : DataW.trod _ Tryz.prog W 0 _ _ _ 3 [a1] = some x1 := hel 1 (by decide)
      have e2 : DataW.trod _ Tryz.prog W 0 _ _ _ 3 [a2] = some x2 := hel 2 (by decide)
      have e3 : DataW.trod _ Tryz.prog W 0 _ _ _ 3 [a3] = some x3 := hel 3 (by decide)
      obtain ⟨n0, k0, d0, _⟩ := DataW.trod_int Tryz.underlying3 e0
      obtain ⟨n1, k1, d1, _⟩ := DataW.trod_int Tryz.underlying3 e1
      obtain ⟨n2, k2, d2, _⟩ := DataW.trod_int Tryz.underlying3 e2
      obtain ⟨n3, k3, d3, _⟩ := DataW.trod_int Tryz.underlying3 e3
      subst d0 d1 d2 d3
      simp only [List.cons.injEq, and_true] at k0 k1 k2 k3
      subst k0 k1 k2 k3
      exact ⟨n0, n1, n2, n3, rfl, by simp at hx1; exact hx1.1⟩
theorem arr152 {W : World} {fuel : Nat} {cs : Array Value} {d : DataW Unit} {p : List MemPlace} {enc : TypeId × Value → Unit} {spare : Nat → Bool} (h : DataW.trod enc Tryz.prog W 0 spare false fuel 218 cs.toList = some (d, p)) :
    ∃ n0 n1 n2 n3 n4 n5 : Int, cs = #[.int .i64 n0, .int .i64 n1, .int .i64 n2, .int .i64 n3, .int .i64 n4, .int .i64 n5] ∧ d = .agg [.lit (.int .i64 n0), .lit (.int .i64 n1), .lit (.int .i64 n2), .lit (.int .i64 n3), .lit (.int .i64 n4), .lit (.int .i64 n5)] := by
  obtain ⟨xs, m1, rfl, hx1, hlen, hn3, hel⟩ := DataW.trod_array Tryz.underlying218 h
  rw [cells152] at hlen
  rw [cells3] at hel
  obtain ⟨l⟩ := cs
  match l, hlen with
  | [a0, a1, a2, a3, a4, a5], _ =>
    match xs, hn3 with
    | [x0, x1, x2, x3, x4, x5], _ =>
      have e0 : DataW.trod _ Tryz.prog W 0 _ _ _ 3 [a0] = some x0 := hel 0 (by decide)
      have e1 : DataW.trod _ Tryz.prog W 0 _ _ _ 3 [a1] = some x1 := hel 1 (by decide)
      have e2 : DataW.trod _ Tryz.prog W 0 _ _ _ 3 [a2] = some x2 := hel 2 (by decide)
      have e3 : DataW.trod _ Tryz.prog W 0 _ _ _ 3 [a3] = some x3 := hel 3 (by decide)
      have e4 : DataW.trod _ Tryz.prog W 0 _ _ _ 3 [a4] = some x4 := hel 4 (by decide)
      have e5 : DataW.trod _ Tryz.prog W 0 _ _ _ 3 [a5] = some x5 := hel 5 (by decide)
      obtain ⟨n0, k0, d0, _⟩ := DataW.trod_int Tryz.underlying3 e0
      obtain ⟨n1, k1, d1, _⟩ := DataW.trod_int Tryz.underlying3 e1
      obtain ⟨n2, k2, d2, _⟩ := DataW.trod_int Tryz.underlying3 e2
      obtain ⟨n3, k3, d3, _⟩ := DataW.trod_int Tryz.underlying3 e3
      obtain ⟨n4, k4, d4, _⟩ := DataW.trod_int Tryz.underlying3 e4
      obtain ⟨n5, k5, d5, _⟩ := DataW.trod_int Tryz.underlying3 e5
      subst d0 d1 d2 d3 d4 d5
      simp only [List.cons.injEq, and_true] at k0 k1 k2 k3 k4 k5
      subst k0 k1 k2 k3 k4 k5
      exact ⟨n0, n1, n2, n3, n4, n5, rfl, by simp at hx1; exact hx1.1⟩
theorem of_laid {W : World} (h : laidMetH Tryz.prog laidL W) : Lim W ∧ Str W := by
  rw [MakeChecks.laidMetH_plain _ _ _ (by kernel_rfl)] at h
  obtain ⟨ps, ⟨g0, t0, cs0, f0, p0, q0, hg0, ht0, hv0, hd0, ⟨g1, t1, cs1, f1, p1, q1, hg1, ht1, hv1, hd1, _⟩, _⟩, _⟩ := h
  obtain rfl := Option.some.inj (gLim.symm.trans hg0)
  obtain rfl := Option.some.inj (tLim.symm.trans ht0)
  obtain rfl := Option.some.inj (gStr.symm.trans hg1)
  obtain rfl := Option.some.inj (tStr.symm.trans ht1)
  have c := World.var?_cell hg0 hv0
  have c' := World.var?_cell hg1 hv1
  obtain ⟨n0, n1, n2, n3, rfl, e⟩ := arr138 hd0
  obtain ⟨m0, m1, m2, m3, m4, m5, rfl, e'⟩ := arr152 hd1
  simp [Rows.laid_polynya_ice_limits] at e
  simp [Rows.laid_polynya_hull_strengths] at e'
  obtain ⟨rfl, rfl, rfl, rfl⟩ := e
  obtain ⟨rfl, rfl, rfl, rfl, rfl, rfl⟩ := e'
  exact ⟨⟨(c 0).trans rfl, (c 1).trans rfl, (c 2).trans rfl, (c 3).trans rfl⟩, ⟨(c' 0).trans rfl, (c' 1).trans rfl, (c' 2).trans rfl, (c' 3).trans rfl, (c' 4).trans rfl, (c' 5).trans rfl⟩⟩
theorem spot_none {W : World} {a : Addr} {v : Value} (h : W.cell? a = some v) : a.spot = none := by
  unfold World.cell? at h
  split at h
  · split at h
    · cases h
    · rename_i h1; simpa using h1
  · cases h
theorem lt_of_cell {W : World} {a : Addr} {v : Value} (h : W.cell? a = some v) : a.block < W.heap.size := by
  unfold World.cell? at h
  split at h
  · rename_i hb; exact lt_of_block hb
  · cases h
theorem add_plain (a : Addr) (hs : a.spot = none) (n : Nat) : a.add n = ⟨a.block, a.off + n, none⟩ := by
  obtain ⟨b, o, s⟩ := a
  simp only at hs
  subst hs
  unfold Addr.add
  split <;> simp_all
theorem open_bytes {H : Type} {enc : TypeId × Value → H} {W : World} {r : Reach} {b0 : Nat} {v : Value} {d : DataW H} {ps : List MemPlace} (hval : Value.okWide Tryz.prog W r b0 98 v) (h : DataW.Trod enc Tryz.prog W 0 (fun _ => true) true 98 v d ps) :
    ∃ p n cap, v = .slice p n cap ∧ n ≤ 9223372036854775807 ∧ BytesIn W p n := by
  obtain ⟨p, len, cap, rfl⟩ := okWide_slice Tryz.underlying98 hval
  obtain ⟨fuel, hf⟩ := h
  have e : (Value.slice p len cap).cells.toList = [.slice p len cap] := rfl
  rw [e] at hf
  rcases open_slice Tryz.underlying98 hf with ⟨h1, _⟩ | ⟨a, len', cap', m, n, D, Pl, h1, hb, hl, hm, hmm, _, hx⟩
  · simp only [List.cons.injEq, Value.slice.injEq, and_true] at h1
    obtain ⟨rfl, rfl, rfl⟩ := h1
    exact ⟨none, 0, 0, rfl, by omega, fun i hi => by omega⟩
  · simp only [List.cons.injEq, Value.slice.injEq, and_true] at h1
    obtain ⟨rfl, rfl, rfl⟩ := h1
    have hlm : len ≤ m := by rw [hmm]; split <;> omega
    rw [cells5] at hx
    have each : ∀ i, i < len → ∃ z : Int, W.cell? ((a.add (i * 1)).add 0) = some (.int .u8 z) ∧ 0 ≤ z ∧ z ≤ 255 := by
      intro i hi
      obtain ⟨cs', h1, h2⟩ := hx i (by omega)
      obtain ⟨z, e1, _, hw⟩ := DataW.trod_int Tryz.underlying5 h2
      obtain ⟨_, _, hcell⟩ := World.cells?_some h1
      refine ⟨z, ?_, ?_⟩
      · rw [hcell 0 (by decide), e1]
        rfl
      · simp only [Lit.wf, Bool.and_eq_true, decide_eq_true_eq] at hw
        exact hw
    have hle : len ≤ maxLen := Nat.le_trans hl hm
    refine ⟨some a, len, cap, rfl, hle, fun i hi => ?_⟩
    obtain ⟨z0, k0, _⟩ := each 0 (by omega)
    obtain ⟨z, k, hz0, hz1⟩ := each i hi
    have hs : a.spot = none := spot_none k0
    rw [add_plain a hs, add_plain _ rfl] at k
    have e9 : (⟨a.block, a.off + i * 1 + 0, none⟩ : Addr) = ⟨a.block, a.off + i, none⟩ := by simp
    rw [e9] at k
    exact ⟨a.block, a.off, z, by rw [← hs], lt_of_cell (a := ⟨a.block, a.off + i, none⟩) k, hz0, hz1, k⟩
theorem wf_u8 {n : Int} (h : (Lit.int .u8 n).wf = true) : 0 ≤ n ∧ n < 256 := by
  simp only [Lit.wf, Bool.and_eq_true, decide_eq_true_eq] at h
  have h1 : 0 ≤ n := h.1
  have h2 : n ≤ 255 := h.2
  omega
theorem wf_u16 {n : Int} (h : (Lit.int .u16 n).wf = true) : 0 ≤ n ∧ n < 65536 := by
  simp only [Lit.wf, Bool.and_eq_true, decide_eq_true_eq] at h
  have h1 : 0 ≤ n := h.1
  have h2 : n ≤ 65535 := h.2
  omega
theorem laidOut : laidOutB Tryz.prog = true := by kernel_rfl
/-- Arguments read behind the call as before, where nothing that was there has turned. -/
def rowed (P : Program) (ts : List TypeId) : Bool := ts.all fun t => P.readableRec t && decide (t < P.types.size)
theorem again_args {P : Program} (hl : laidOutB P = true) {H : Type} {enc : TypeId × Value → H} {W W' : World} {sp : Nat → Bool} (hb : Below W.heap.size W W') (ts : List TypeId) : ∀ {vs : List Value} {ds : List (DataW H)} {ps : List MemPlace}, rowed P ts = true →
    DataW.TrodAll enc P W 0 (fun _ => true) true ts vs ds ps → (∀ x ∈ ps, x.block < W.heap.size) → (∀ x ∈ ps, sp x.block = true) → DataW.TrodAll enc P W' 0 sp true ts vs ds ps := by
  induction ts with
  | nil =>
    intro vs ds ps _ h _ _
    obtain ⟨rfl, rfl, rfl⟩ := trodAll_nil h
    exact trodAll_mk0
  | cons t ts ih =>
    intro vs ds ps hr h hlt hsp
    obtain ⟨v, vs', d, ds', p, q, rfl, rfl, rfl, h1, h2⟩ := trodAll_cons h
    simp only [rowed, List.all_cons, Bool.and_eq_true, decide_eq_true_eq] at hr
    exact trodAll_cons_mk (WideElems.Trod_stays hl hr.1.1 hr.1.2 h1 (fun x hx => hb.same (hlt x (by simp [hx]))) (fun x hx => hsp x (by simp [hx]))) (ih hr.2 h2 (fun x hx => hlt x (by simp [hx])) (fun x hx => hsp x (by simp [hx])))
end Go.Proofs.YtcoiklolgilhaaaGreatDoor
