/- What the laws' arguments are: reports of raw numbers in a slice. How an argument reads behind the call. -/
import Derived.Test.YtdcpmdigihbdpaaDoorSm
import Derived.Test.YtdcpmdigihbdpaaDoorRows
import Derived.ProofKit
import Derived.LaidMore
import Derived.OpenShut
import Derived.Deep.Slices
import Derived.Lib.SmallJoins
namespace Go.Proofs.YtdcpmdigihbdpaaDoor
open Go.ChangeShapes Go.WideShapes Go.ChangeAt Go.WideMaps Go.WideElems Go.RowKit Go.Deep
set_option maxRecDepth 100000
theorem own : ownKnob Tryd.prog.godebug = none := by kernel_rfl
theorem gLim : Tryd.prog.globalNamed "polynya/ice.limits" = some 0 := by kernel_rfl
theorem tLim : (Tryd.prog.globals[0]?).map (·.type) = some 114 := by kernel_rfl
theorem cells70 : Tryd.prog.cellsOf 70 = 14 := by kernel_rfl
theorem cells25 : Tryd.prog.cellsOf 25 = 8 := by kernel_rfl
theorem cells23 : Tryd.prog.cellsOf 23 = 2 := by kernel_rfl
theorem cells3 : Tryd.prog.cellsOf 3 = 1 := by kernel_rfl
theorem cells114 : Tryd.prog.cellsOf 114 = 4 := by kernel_rfl
abbrev laidL {H : Type} : List (String × DataW H) := [("polynya/ice.limits", Rows.laid_polynya_ice_limits)]
/-- The door's own heap meets the condition. -/
theorem door_met (os : Os) (args : Array Value) : laidMetH Tryd.prog laidL ((World.doorLaid Tryd.prog 400 os).forCall (fun _ _ => 0) ⟨#[], args, []⟩).memory :=
  laidMetH_of_parts3 (fuel := 8) (laidMet_of_run' 8 (by kernel_rfl) (by kernel_rfl)) (by kernel_rfl) (by kernel_rfl)
theorem of_laid {W : World} (h : laidMetH Tryd.prog laidL W) : Lim W := by
  rw [MakeChecks.laidMetH_plain _ _ _ (by kernel_rfl)] at h
  obtain ⟨ps, ⟨g0, t0, cs0, f0, p0, q0, hg0, ht0, hv0, hd0, _⟩, _⟩ := h
  obtain rfl := Option.some.inj (gLim.symm.trans hg0)
  obtain rfl := Option.some.inj (tLim.symm.trans ht0)
  obtain ⟨xs, m1, rfl, hx1, hlen, hn3, hel⟩ := DataW.trod_array Tryd.underlying114 hd0
  rw [cells114] at hlen
  rw [cells3] at hel
  have c := World.var?_cell hg0 hv0
  obtain ⟨l⟩ := cs0
  match l, hlen with
  | [a0, a1, a2, a3], _ =>
    match xs, hn3 with
    | [x0, x1, x2, x3], _ =>
      have e0 : DataW.trod _ Tryd.prog W 0 _ _ _ 3 [a0] = some x0 := hel 0 (by decide)
      have e1 : DataW.trod _ Tryd.prog W 0 _ _ _ 3 [a1] = some x1 := hel 1 (by decide)
      have e2 : DataW.trod _ Tryd.prog W 0 _ _ _ 3 [a2] = some x2 := hel 2 (by decide)
      have e3 : DataW.trod _ Tryd.prog W 0 _ _ _ 3 [a3] = some x3 := hel 3 (by decide)
      obtain ⟨n0, k0, d0, _⟩ := DataW.trod_int Tryd.underlying3 e0
      obtain ⟨n1, k1, d1, _⟩ := DataW.trod_int Tryd.underlying3 e1
      obtain ⟨n2, k2, d2, _⟩ := DataW.trod_int Tryd.underlying3 e2
      obtain ⟨n3, k3, d3, _⟩ := DataW.trod_int Tryd.underlying3 e3
      subst d0 d1 d2 d3
      simp only [List.cons.injEq, and_true] at k0 k1 k2 k3
      subst k0 k1 k2 k3
      simp [Rows.laid_polynya_ice_limits] at hx1
      obtain ⟨⟨rfl, rfl, rfl, rfl⟩, _⟩ := hx1
      exact ⟨(c 0).trans rfl, (c 1).trans rfl, (c 2).trans rfl, (c 3).trans rfl⟩
section
variable {H : Type} {enc : TypeId × Value → H} {W : World} {base : Nat} {spare : Nat → Bool} {held : Bool} {fuel : Nat} {cs : List Value} {x : DataW H × List MemPlace}
theorem ints23 (h : DataW.trod enc Tryd.prog W base spare held fuel 23 cs = some x) : ∃ a b : Int, cs = [.int .i64 a, .int .i64 b] := by
  have hl : cs.length = 2 := by obtain ⟨_, _, _, _, h2, _⟩ := DataW.trod_struct Tryd.underlying23 h; exact h2.trans cells23
  obtain ⟨y0, y1, k, _, _, u0, u1⟩ := trod_struct2 Tryd.underlying23 h
  match cs, hl with
  | [v0, v1], _ =>
    simp only [cells3, List.drop_zero, List.drop_succ_cons, List.take_succ_cons, List.take_zero] at u0 u1
    obtain ⟨n0, k0, _, _⟩ := DataW.trod_int Tryd.underlying3 u0
    obtain ⟨n1, k1, _, _⟩ := DataW.trod_int Tryd.underlying3 u1
    simp only [List.cons.injEq, and_true] at k0 k1
    exact ⟨n0, n1, by rw [k0, k1]⟩
theorem ints25 (h : DataW.trod enc Tryd.prog W base spare held fuel 25 cs = some x) : ∃ f : Nat → Int, cs = [.int .i64 (f 0), .int .i64 (f 1), .int .i64 (f 2), .int .i64 (f 3), .int .i64 (f 4), .int .i64 (f 5), .int .i64 (f 6), .int .i64 (f 7)] := by
  have hl : cs.length = 8 := by obtain ⟨_, _, _, _, h2, _⟩ := DataW.trod_struct Tryd.underlying25 h; exact h2.trans cells25
  obtain ⟨y0, y1, y2, y3, k, _, _, u0, u1, u2, u3⟩ := Go.Joins.trod_struct4 Tryd.underlying25 h
  match cs, hl with
  | [v0, v1, v2, v3, v4, v5, v6, v7], _ =>
    simp only [cells23, List.drop_zero, List.drop_succ_cons, List.take_succ_cons, List.take_zero] at u0 u1 u2 u3
    obtain ⟨a0, b0, k0⟩ := ints23 u0
    obtain ⟨a1, b1, k1⟩ := ints23 u1
    obtain ⟨a2, b2, k2⟩ := ints23 u2
    obtain ⟨a3, b3, k3⟩ := ints23 u3
    simp only [List.cons.injEq, and_true] at k0 k1 k2 k3
    refine ⟨fun c => match c with | 0 => a0 | 1 => b0 | 2 => a1 | 3 => b1 | 4 => a2 | 5 => b2 | 6 => a3 | _ => b3, ?_⟩
    rw [k0.1, k0.2, k1.1, k1.2, k2.1, k2.2, k3.1, k3.2]
    rfl
def repOf (f : Nat → Int) : Rep := { id := f 0, src := f 1, hour := f 2, x := f 3, y := f 4, has := f 5, lo := fun q => f (6 + 2 * q), hi := fun q => f (7 + 2 * q) }
theorem trod_struct7 {P : Program} {t : TypeId} {f0 f1 f2 f3 f4 f5 f6 : Field} (ht : P.underlying t = some (.struct #[f0, f1, f2, f3, f4, f5, f6])) (h : DataW.trod enc P W base spare held fuel t cs = some x) :
    ∃ y0 y1 y2 y3 y4 y5 y6 n, cs.length = P.cellsOf t ∧ DataW.trod enc P W base spare held n f0.type ((cs.drop f0.offset).take (P.cellsOf f0.type)) = some y0 ∧
      DataW.trod enc P W base spare held n f1.type ((cs.drop f1.offset).take (P.cellsOf f1.type)) = some y1 ∧ DataW.trod enc P W base spare held n f2.type ((cs.drop f2.offset).take (P.cellsOf f2.type)) = some y2 ∧
      DataW.trod enc P W base spare held n f3.type ((cs.drop f3.offset).take (P.cellsOf f3.type)) = some y3 ∧ DataW.trod enc P W base spare held n f4.type ((cs.drop f4.offset).take (P.cellsOf f4.type)) = some y4 ∧
      DataW.trod enc P W base spare held n f5.type ((cs.drop f5.offset).take (P.cellsOf f5.type)) = some y5 ∧ DataW.trod enc P W base spare held n f6.type ((cs.drop f6.offset).take (P.cellsOf f6.type)) = some y6 := by
  obtain ⟨xs, n, _, rfl, hl, hlen, hf⟩ := DataW.trod_struct ht h
  match xs, hlen with
  | [y0, y1, y2, y3, y4, y5, y6], _ => exact ⟨y0, y1, y2, y3, y4, y5, y6, n, hl, by simpa using hf 0 f0 rfl, by simpa using hf 1 f1 rfl, by simpa using hf 2 f2 rfl, by simpa using hf 3 f3 rfl, by simpa using hf 4 f4 rfl, by simpa using hf 5 f5 rfl, by simpa using hf 6 f6 rfl⟩
theorem ints70 (h : DataW.trod enc Tryd.prog W base spare held fuel 70 cs = some x) : ∃ f : Nat → Int, cs = (repA (repOf f)).toList := by
  obtain ⟨_, _, _, _, _, _, _, _, hl, u0, u1, u2, u3, u4, u5, u6⟩ := trod_struct7 Tryd.underlying70 h
  rw [cells70] at hl
  match cs, hl with
  | [v0, v1, v2, v3, v4, v5, v6, v7, v8, v9, v10, v11, v12, v13], _ =>
      simp only [cells3, cells25, List.drop_zero, List.drop_succ_cons, List.take_succ_cons, List.take_zero] at u0 u1 u2 u3 u4 u5 u6
      obtain ⟨n0, k0, _, _⟩ := DataW.trod_int Tryd.underlying3 u0
      obtain ⟨n1, k1, _, _⟩ := DataW.trod_int Tryd.underlying3 u1
      obtain ⟨n2, k2, _, _⟩ := DataW.trod_int Tryd.underlying3 u2
      obtain ⟨n3, k3, _, _⟩ := DataW.trod_int Tryd.underlying3 u3
      obtain ⟨n4, k4, _, _⟩ := DataW.trod_int Tryd.underlying3 u4
      obtain ⟨n5, k5, _, _⟩ := DataW.trod_int Tryd.underlying3 u5
      obtain ⟨f, kf⟩ := ints25 u6
      simp only [List.cons.injEq, and_true] at k0 k1 k2 k3 k4 k5 kf
      obtain ⟨f0, f1, f2, f3, f4, f5, f6, f7⟩ := kf
      refine ⟨fun c => if c = 0 then n0 else if c = 1 then n1 else if c = 2 then n2 else if c = 3 then n3 else if c = 4 then n4 else if c = 5 then n5 else f (c - 6), ?_⟩
      rw [k0, k1, k2, k3, k4, k5, f0, f1, f2, f3, f4, f5, f6, f7]
      rfl
end
theorem spot_none {W : World} {a : Addr} {v : Value} (h : W.cell? a = some v) : a.spot = none := by
  unfold World.cell? at h
  split at h
  · split at h
    · cases h
    · rename_i h1; simpa using h1
  · cases h
theorem lt_of_cell {W : World} {a : Addr} {v : Value} (h : W.cell? a = some v) : a.block < W.heap.size := by
  unfold World.cell? at h
  split at h
  · rename_i hb; exact lt_of_block hb
  · cases h
theorem add_plain (a : Addr) (hs : a.spot = none) (n : Nat) : a.add n = ⟨a.block, a.off + n, none⟩ := by
  obtain ⟨b, o, s⟩ := a
  simp only at hs
  subst hs
  unfold Addr.add
  split <;> simp_all
theorem open_reps {H : Type} {enc : TypeId × Value → H} {W : World} {r : Reach} {b0 : Nat} {v : Value} {d : DataW H} {ps : List MemPlace} (hval : Value.okWide Tryd.prog W r b0 62 v) (h : DataW.Trod enc Tryd.prog W 0 (fun _ => true) true 62 v d ps) :
    ∃ p n cap R, v = .slice p n cap ∧ n ≤ cap ∧ RepsO W p n R := by
  obtain ⟨p, len, cap, rfl⟩ := okWide_slice Tryd.underlying62 hval
  obtain ⟨fuel, hf⟩ := h
  have e : (Value.slice p len cap).cells.toList = [.slice p len cap] := rfl
  rw [e] at hf
  rcases open_slice Tryd.underlying62 hf with ⟨h1, _⟩ | ⟨a, len', cap', m, n, D, Pl, h1, hb, hl, hm, hmm, _, hx⟩
  · simp only [List.cons.injEq, Value.slice.injEq, and_true] at h1
    obtain ⟨rfl, rfl, rfl⟩ := h1
    exact ⟨none, 0, 0, fun _ => repOf fun _ => 0, rfl, Nat.le_refl _, fun i hi => by omega⟩
  · simp only [List.cons.injEq, Value.slice.injEq, and_true] at h1
    obtain ⟨rfl, rfl, rfl⟩ := h1
    have hlm : len ≤ m := by rw [hmm]; split <;> omega
    rw [cells70] at hx
    have each : ∀ i, i < len → ∃ f : Nat → Int, ∀ c v, (repA (repOf f))[c]? = some v → W.cell? ((a.add (i * 14)).add c) = some v := by
      intro i hi
      obtain ⟨cs', h1, h2⟩ := hx i (by omega)
      obtain ⟨f, rfl⟩ := ints70 h2
      obtain ⟨_, _, hcell⟩ := World.cells?_some h1
      refine ⟨f, fun c v hv => ?_⟩
      have hc : c < 14 := by have := (Array.getElem?_eq_some_iff.1 hv).1; simpa using this
      rw [hcell c hc]
      simpa using hv
    obtain ⟨F, hF⟩ := choose_lt each
    refine ⟨some a, len, cap, fun i => repOf (F i), rfl, hl, fun i hi => ?_⟩
    have hs : a.spot = none := by
      have := hF 0 (by omega) 0 _ rfl
      exact spot_none this
    have hcl : ∀ c v, (repA (repOf (F i)))[c]? = some v → W.cell? ⟨a.block, a.off + i * 14 + c, none⟩ = some v := by
      intro c v hv
      have := hF i hi c v hv
      rw [add_plain a hs, add_plain _ rfl] at this
      exact this
    refine ⟨a.block, a.off, by rw [← hs], ?_, hcl⟩
    have := hcl 0 _ rfl
    exact lt_of_cell (a := ⟨a.block, a.off + i * 14 + 0, none⟩) this
/-- Arguments read behind the call as before, where nothing that was there has turned. -/
def rowed (P : Program) (ts : List TypeId) : Bool := ts.all fun t => P.readableRec t && decide (t < P.types.size)
theorem again_args {P : Program} (hl : laidOutB P = true) {H : Type} {enc : TypeId × Value → H} {W W' : World} {sp : Nat → Bool} (hb : Below W.heap.size W W') (ts : List TypeId) : ∀ {vs : List Value} {ds : List (DataW H)} {ps : List MemPlace}, rowed P ts = true →
    DataW.TrodAll enc P W 0 (fun _ => true) true ts vs ds ps → (∀ x ∈ ps, x.block < W.heap.size) → (∀ x ∈ ps, sp x.block = true) → DataW.TrodAll enc P W' 0 sp true ts vs ds ps := by
  induction ts with
  | nil =>
    intro vs ds ps _ h _ _
    obtain ⟨rfl, rfl, rfl⟩ := trodAll_nil h
    exact trodAll_mk0
  | cons t ts ih =>
    intro vs ds ps hr h hlt hsp
    obtain ⟨v, vs', d, ds', p, q, rfl, rfl, rfl, h1, h2⟩ := trodAll_cons h
    simp only [rowed, List.all_cons, Bool.and_eq_true, decide_eq_true_eq] at hr
    exact trodAll_cons_mk (WideElems.Trod_stays hl hr.1.1 hr.1.2 h1 (fun x hx => hb.same (hlt x (by simp [hx]))) (fun x hx => hsp x (by simp [hx]))) (ih hr.2 h2 (fun x hx => hlt x (by simp [hx])) (fun x hx => hsp x (by simp [hx])))
end Go.Proofs.YtdcpmdigihbdpaaDoor
