/- IceHolds: an outright law. Whatever rates, ice and numbers are passed in, it returns true, and changes nothing that is passed in.
  Conditions: none on the arguments. The table of limits holds what the program's text lays (the card ties it). -/
import Derived.Test.YtdcpmdigihbdpaaDoorVe
import Derived.Test.YtdcpmdigihbdpaaDoorTa
import Derived.Test.YtdcpmdigihbdpaaDoorTie
import Derived.Test.YtdcpmdigihbdpaaDoorCards
namespace Go.Proofs.YtdcpmdigihbdpaaDoor
open Go.ChangeShapes Go.WideShapes Go.ChangeAt Go.WideMaps Go.WideElems Go.RowKit Go.Deep
set_option maxRecDepth 100000
theorem cells27 : Tryd.prog.cellsOf 27 = 4 := by kernel_rfl
theorem cells29 : Tryd.prog.cellsOf 29 = 8 := by kernel_rfl
section
variable {H : Type} {enc : TypeId × Value → H} {W : World} {base : Nat} {spare : Nat → Bool} {held : Bool} {fuel : Nat} {cs : List Value} {x : DataW H × List MemPlace}
theorem ints27 (h : DataW.trod enc Tryd.prog W base spare held fuel 27 cs = some x) : ∃ f : Nat → Int, cs = [.int .i64 (f 0), .int .i64 (f 1), .int .i64 (f 2), .int .i64 (f 3)] := by
  have hl : cs.length = 4 := by obtain ⟨_, _, _, _, h2, _⟩ := DataW.trod_struct Tryd.underlying27 h; exact h2.trans cells27
  obtain ⟨y0, y1, y2, y3, k, _, _, u0, u1, u2, u3⟩ := Go.Joins.trod_struct4 Tryd.underlying27 h
  match cs, hl with
  | [v0, v1, v2, v3], _ =>
    simp only [cells3, List.drop_zero, List.drop_succ_cons, List.take_succ_cons, List.take_zero] at u0 u1 u2 u3
    obtain ⟨n0, k0, _, _⟩ := DataW.trod_int Tryd.underlying3 u0
    obtain ⟨n1, k1, _, _⟩ := DataW.trod_int Tryd.underlying3 u1
    obtain ⟨n2, k2, _, _⟩ := DataW.trod_int Tryd.underlying3 u2
    obtain ⟨n3, k3, _, _⟩ := DataW.trod_int Tryd.underlying3 u3
    simp only [List.cons.injEq, and_true] at k0 k1 k2 k3
    refine ⟨fun c => match c with | 0 => n0 | 1 => n1 | 2 => n2 | _ => n3, ?_⟩
    rw [k0, k1, k2, k3]
    rfl
theorem ints29 (h : DataW.trod enc Tryd.prog W base spare held fuel 29 cs = some x) : ∃ u d : Nat → Int, cs = (ratesA u d).toList := by
  have hl : cs.length = 8 := by obtain ⟨_, _, _, _, h2, _⟩ := DataW.trod_struct Tryd.underlying29 h; exact h2.trans cells29
  obtain ⟨y0, y1, k, _, _, u0, u1⟩ := trod_struct2 Tryd.underlying29 h
  match cs, hl with
  | [v0, v1, v2, v3, v4, v5, v6, v7], _ =>
    simp only [cells27, List.drop_zero, List.drop_succ_cons, List.take_succ_cons, List.take_zero] at u0 u1
    obtain ⟨u, k0⟩ := ints27 u0
    obtain ⟨d, k1⟩ := ints27 u1
    simp only [List.cons.injEq, and_true] at k0 k1
    obtain ⟨a0, a1, a2, a3⟩ := k0
    obtain ⟨b0, b1, b2, b3⟩ := k1
    exact ⟨u, d, by rw [a0, a1, a2, a3, b0, b1, b2, b3]⟩
end
theorem open_rates {H : Type} {enc : TypeId × Value → H} {W : World} {r : Reach} {b0 : Nat} {v : Value} {d : DataW H} {ps : List MemPlace} (hval : Value.okWide Tryd.prog W r b0 29 v) (h : DataW.Trod enc Tryd.prog W 0 (fun _ => true) true 29 v d ps) :
    ∃ u d, v = .agg (ratesA u d) := by
  obtain ⟨cs, rfl, _⟩ := okWide_struct Tryd.underlying29 hval
  obtain ⟨fuel, hf⟩ := h
  obtain ⟨u, d, e⟩ := ints29 (cs := cs.toList) hf
  exact ⟨u, d, by rw [← Array.toList_inj.1 e]⟩
theorem open_nums {H : Type} {enc : TypeId × Value → H} {W : World} {r : Reach} {b0 : Nat} {v : Value} {d : DataW H} {ps : List MemPlace} (hval : Value.okWide Tryd.prog W r b0 89 v) (h : DataW.Trod enc Tryd.prog W 0 (fun _ => true) true 89 v d ps) :
    ∃ p n cap N, v = .slice p n cap ∧ IntsO W p n N := by
  obtain ⟨p, len, cap, rfl⟩ := okWide_slice Tryd.underlying89 hval
  obtain ⟨fuel, hf⟩ := h
  have e : (Value.slice p len cap).cells.toList = [.slice p len cap] := rfl
  rw [e] at hf
  rcases open_slice Tryd.underlying89 hf with ⟨h1, _⟩ | ⟨a, len', cap', m, n, D, Pl, h1, hb, hl, hm, hmm, _, hx⟩
  · simp only [List.cons.injEq, Value.slice.injEq, and_true] at h1
    obtain ⟨rfl, rfl, rfl⟩ := h1
    exact ⟨none, 0, 0, fun _ => 0, rfl, fun i hi => by omega⟩
  · simp only [List.cons.injEq, Value.slice.injEq, and_true] at h1
    obtain ⟨rfl, rfl, rfl⟩ := h1
    have hlm : len ≤ m := by rw [hmm]; split <;> omega
    rw [cells3] at hx
    have each : ∀ i, i < len → ∃ z : Int, W.cell? ((a.add (i * 1)).add 0) = some (.int .i64 z) := by
      intro i hi
      obtain ⟨cs', h1, h2⟩ := hx i (by omega)
      obtain ⟨z, e1, _, _⟩ := DataW.trod_int Tryd.underlying3 h2
      obtain ⟨_, _, hcell⟩ := World.cells?_some h1
      refine ⟨z, ?_⟩
      rw [hcell 0 (by decide), e1]
      rfl
    obtain ⟨F, hF⟩ := choose_lt each
    refine ⟨some a, len, cap, F, rfl, fun i hi => ?_⟩
    have hs : a.spot = none := by
      have := hF 0 (by omega)
      exact spot_none this
    have k := hF i hi
    rw [add_plain a hs, add_plain _ rfl] at k
    have e9 : (⟨a.block, a.off + i * 1 + 0, none⟩ : Addr) = ⟨a.block, a.off + i, none⟩ := by simp
    rw [e9] at k
    exact ⟨a.block, a.off, by rw [← hs], lt_of_cell (a := ⟨a.block, a.off + i, none⟩) k, k⟩
theorem iceHolds_lifted (os : Os) (started : os.Started) (H : Type) (enc : TypeId × Value → H) :
    ReturnsInHanded {} Tryd.checked os 5 .any (fun w args => (Rows.iceHoldsSpec.pre enc Tryd.prog Tryd.f5 [] false w args ∧ laidMetH Tryd.prog laidL w) ∧ sizedMet enc Tryd.prog Tryd.f5 (OpenSpec.ofChange Rows.iceHoldsSpec) false w args)
      (Rows.iceHoldsSpec.post enc Tryd.prog Tryd.f5 false true false false) := by
  refine returnsInHanded_of_change_and (C := Tryd.checked) (X := fun w _ => laidMetH Tryd.prog laidL w) (fun _ _ _ hh h => h.of_heap hh) own started (by kernel_rfl) Tryd.func5
    (ChangeSpec.witness_shaped (enc := enc) (C := Tryd.checked) (os := os) (X := fun w _ => laidMetH Tryd.prog laidL w) false (World.doorLaid Tryd.prog 400 os) #[.agg #[.int .i64 0, .int .i64 0, .int .i64 0, .int .i64 0, .int .i64 0, .int .i64 0, .int .i64 0, .int .i64 0], .int .i64 0, .int .i64 0, .int .i64 0, .int .i64 0, .slice none 0 0, .slice none 0 0] 8 rfl (World.shaped_of_RefB (by kernel_rfl) (by kernel_rfl)) (by kernel_rfl) (by kernel_rfl) (by kernel_rfl) (door_met os _)) ?_
  intro W base args ds gs before hval0 hW _ _ hL _
  have hval : ∀ (j : Nat) t v, Tryd.f5.params[j]? = some t → args[j]? = some v → Value.okWide Tryd.prog W .any base t v := hval0
  have hW' := hW
  obtain ⟨p, q, hA0, hV, rfl, hfz, hnd⟩ := hW
  have hA : DataW.TrodAll enc Tryd.prog W 0 (fun _ => true) true Tryd.f5.params.toList args.toList ds p := hA0
  rw [Tryd.params5] at hA hval
  obtain ⟨rfl, rfl⟩ := trodVars_none hV
  have hlt : ∀ x ∈ p, x.block < W.heap.size := fun x hx => hW'.lt x (by simp [hx])
  have hA1 := hA
  obtain ⟨v0, vs1, d0, ds1, p0, q0, e1, rfl, rfl, h0, hA⟩ := trodAll_cons hA
  obtain ⟨v1, vs2, d1, ds2, p1, q1, rfl, rfl, rfl, h1, hA⟩ := trodAll_cons hA
  obtain ⟨v2, vs3, d2, ds3, p2, q2, rfl, rfl, rfl, h2, hA⟩ := trodAll_cons hA
  obtain ⟨v3, vs4, d3, ds4, p3, q3, rfl, rfl, rfl, h3, hA⟩ := trodAll_cons hA
  obtain ⟨v4, vs5, d4, ds5, p4, q4, rfl, rfl, rfl, h4, hA⟩ := trodAll_cons hA
  obtain ⟨v5, vs6, d5, ds6, p5, q5, rfl, rfl, rfl, h5, hA⟩ := trodAll_cons hA
  obtain ⟨v6, vs7, d6, ds7, p6, q6, rfl, rfl, rfl, h6, hA⟩ := trodAll_cons hA
  obtain ⟨rfl, rfl, rfl⟩ := trodAll_nil hA
  obtain ⟨args⟩ := args
  simp only at e1
  subst e1
  obtain ⟨u, d, rfl⟩ := open_rates (hval 0 29 v0 rfl rfl) h0
  obtain ⟨s1, rfl, _⟩ := open_int Tryd.underlying3 (hval 1 3 v1 rfl rfl) h1
  obtain ⟨s2, rfl, _⟩ := open_int Tryd.underlying3 (hval 2 3 v2 rfl rfl) h2
  obtain ⟨s3, rfl, _⟩ := open_int Tryd.underlying3 (hval 3 3 v3 rfl rfl) h3
  obtain ⟨s4, rfl, _⟩ := open_int Tryd.underlying3 (hval 4 3 v4 rfl rfl) h4
  obtain ⟨p5, n5, c5, N5, rfl, hN5⟩ := open_nums (hval 5 89 v5 rfl rfl) h5
  obtain ⟨p6, n6, c6, N6, rfl, hN6⟩ := open_nums (hval 6 89 v6 rfl rfl) h6
  refine (Holds_any u d s1 s2 s3 s4 p5 p6 n5 c5 n6 c6 N5 N6 W (of_laid hL) hN5 hN6).mono ?_
  rintro e W' ⟨rfl, hb⟩
  refine ⟨_, rfl, _, _, _, [], _, [], hW', ?_, again_args laidOut hb _ (by kernel_rfl) hA1 hlt (fun x hx => by simpa using hlt x hx), rfl, hb.frame _, fun h => by cases h⟩
  exact trodAll_mk1 (shut_bool Tryd.underlying4 _)
theorem iceHolds_said : Rows.IceHoldsSaid :=
  OpenClaim.holds_of_wide 5 Tryd.f5 rfl rfl rfl rfl rfl rfl rfl ⟨rfl, rfl, rfl, rfl, rfl⟩ rfl rfl rfl rfl rfl (by kernel_rfl) Tryd.func5 (by kernel_rfl)
    (of_decide_eq_true (by kernel_rfl)) (by unfold Func.isWrapper; first | (rw [if_pos (by decide +kernel)]; kernel_rfl) | (rw [if_neg (by decide +kernel)]; exact ⟨rfl, rfl⟩))
    (fun os started H enc _ => iceHolds_lifted os started H enc)
theorem iceHolds_card : Rows.IceHoldsCardSaid :=
  Claim7.holds_tied_plain_at .later [] [.data] true (true, "d9090ddba4165b50584f9a0e3a9ed307594f6ef2c7ba0c39f6d2ed180eefb913") false
    iceHolds_said (fun _ h => by cases h) (by kernel_rfl) (fun _ h => by cases h) iceHolds_row_tie rfl ⟨rfl, rfl⟩ (by kernel_rfl) rfl
    (fun f fn hf hfn => by
      obtain rfl : f = 5 := Option.some.inj ((show Tryd.prog.funcNamed "polynya/polynyalaw01.IceHolds" = some 5 by kernel_rfl).symm.trans hf) |>.symm
      obtain rfl : fn = Tryd.f5 := (Option.some.inj (Tryd.func5.symm.trans hfn)).symm
      exact ⟨by kernel_rfl, fun j t ht => by
        rw [Tryd.params5] at ht
        have hm : t ∈ [29, 3, 3, 3, 3, 89, 89] := by simpa using Array.mem_of_getElem? ht
        have hall : ([29, 3, 3, 3, 3, 89, 89].all fun u => !Tryd.prog.wantsStandIn u) = true := by kernel_rfl
        exact (show Tryd.prog.wantsStandIn t = false by simpa using List.all_eq_true.1 hall t hm)⟩)
    (by kernel_rfl)
#print axioms iceHolds_card
end Go.Proofs.YtdcpmdigihbdpaaDoor
