/- IceBlames: blamed sets have all the same size; each has a report of each pair in conflict; without it the others agree; no set of fewer reports does that; the trusted reports are all but a blamed set; and if all but some reports agree, no blamed set has more than these. Whatever reports, rates and number are passed in, the law returns true, and changes nothing that is passed in.
  Conditions: none on the arguments. The table of limits holds what the program's text lays (the card ties it). -/
import Derived.Test.YtdcpmdigihbdpaaDoorWf
import Derived.Test.YtdcpmdigihbdpaaDoorTa
import Derived.Test.YtdcpmdigihbdpaaDoorTie
import Derived.Test.YtdcpmdigihbdpaaDoorCards
namespace Go.Proofs.YtdcpmdigihbdpaaDoor
open Go.ChangeShapes Go.WideShapes Go.ChangeAt Go.WideMaps Go.WideElems Go.RowKit Go.Deep
set_option maxRecDepth 100000
theorem cells27 : Tryd.prog.cellsOf 27 = 4 := by kernel_rfl
theorem cells29 : Tryd.prog.cellsOf 29 = 8 := by kernel_rfl
section
variable {H : Type} {enc : TypeId × Value → H} {W : World} {base : Nat} {spare : Nat → Bool} {held : Bool} {fuel : Nat} {cs : List Value} {x : DataW H × List MemPlace}
theorem ints27 (h : DataW.trod enc Tryd.prog W base spare held fuel 27 cs = some x) : ∃ f : Nat → Int, cs = [.int .i64 (f 0), .int .i64 (f 1), .int .i64 (f 2), .int .i64 (f 3)] := by
  have hl : cs.length = 4 := by obtain ⟨_, _, _, _, h2, _⟩ := DataW.trod_struct Tryd.underlying27 h; exact h2.trans cells27
  obtain ⟨y0, y1, y2, y3, k, _, _, u0, u1, u2, u3⟩ := Go.Joins.trod_struct4 Tryd.underlying27 h
  match cs, hl with
  | [v0, v1, v2, v3], _ =>
    simp only [cells3, List.drop_zero, List.drop_succ_cons, List.take_succ_cons, List.take_zero] at u0 u1 u2 u3
    obtain ⟨n0, k0, _, _⟩ := DataW.trod_int Tryd.underlying3 u0
    obtain ⟨n1, k1, _, _⟩ := DataW.trod_int Tryd.underlying3 u1
    obtain ⟨n2, k2, _, _⟩ := DataW.trod_int Tryd.underlying3 u2
    obtain ⟨n3, k3, _, _⟩ := DataW.trod_int Tryd.underlying3 u3
    simp only [List.cons.injEq, and_true] at k0 k1 k2 k3
    refine ⟨fun c => match c with | 0 => n0 | 1 => n1 | 2 => n2 | _ => n3, ?_⟩
    rw [k0, k1, k2, k3]
    rfl
theorem ints29 (h : DataW.trod enc Tryd.prog W base spare held fuel 29 cs = some x) : ∃ u d : Nat → Int, cs = (ratesA u d).toList := by
  have hl : cs.length = 8 := by obtain ⟨_, _, _, _, h2, _⟩ := DataW.trod_struct Tryd.underlying29 h; exact h2.trans cells29
  obtain ⟨y0, y1, k, _, _, u0, u1⟩ := trod_struct2 Tryd.underlying29 h
  match cs, hl with
  | [v0, v1, v2, v3, v4, v5, v6, v7], _ =>
    simp only [cells27, List.drop_zero, List.drop_succ_cons, List.take_succ_cons, List.take_zero] at u0 u1
    obtain ⟨u, k0⟩ := ints27 u0
    obtain ⟨d, k1⟩ := ints27 u1
    simp only [List.cons.injEq, and_true] at k0 k1
    obtain ⟨a0, a1, a2, a3⟩ := k0
    obtain ⟨b0, b1, b2, b3⟩ := k1
    exact ⟨u, d, by rw [a0, a1, a2, a3, b0, b1, b2, b3]⟩
end
theorem open_rates {H : Type} {enc : TypeId × Value → H} {W : World} {r : Reach} {b0 : Nat} {v : Value} {d : DataW H} {ps : List MemPlace} (hval : Value.okWide Tryd.prog W r b0 29 v) (h : DataW.Trod enc Tryd.prog W 0 (fun _ => true) true 29 v d ps) :
    ∃ u d, v = .agg (ratesA u d) := by
  obtain ⟨cs, rfl, _⟩ := okWide_struct Tryd.underlying29 hval
  obtain ⟨fuel, hf⟩ := h
  obtain ⟨u, d, e⟩ := ints29 (cs := cs.toList) hf
  exact ⟨u, d, by rw [← Array.toList_inj.1 e]⟩
theorem iceBlames_lifted (os : Os) (started : os.Started) (H : Type) (enc : TypeId × Value → H) :
    ReturnsInHanded {} Tryd.checked os 6 .any (fun w args => (Rows.iceBlamesSpec.pre enc Tryd.prog Tryd.f6 [] false w args ∧ laidMetH Tryd.prog laidL w) ∧ sizedMet enc Tryd.prog Tryd.f6 (OpenSpec.ofChange Rows.iceBlamesSpec) false w args)
      (Rows.iceBlamesSpec.post enc Tryd.prog Tryd.f6 false true false false) := by
  refine returnsInHanded_of_change_and (C := Tryd.checked) (X := fun w _ => laidMetH Tryd.prog laidL w) (fun _ _ _ hh h => h.of_heap hh) own started (by kernel_rfl) Tryd.func6
    (ChangeSpec.witness_shaped (enc := enc) (C := Tryd.checked) (os := os) (X := fun w _ => laidMetH Tryd.prog laidL w) false (World.doorLaid Tryd.prog 400 os) #[.slice none 0 0, .agg #[.int .i64 0, .int .i64 0, .int .i64 0, .int .i64 0, .int .i64 0, .int .i64 0, .int .i64 0, .int .i64 0], .int .i64 0] 8 rfl (World.shaped_of_RefB (by kernel_rfl) (by kernel_rfl)) (by kernel_rfl) (by kernel_rfl) (by kernel_rfl) (door_met os _)) ?_
  intro W base args ds gs before hval0 hW _ _ hL _
  have hval : ∀ (j : Nat) t v, Tryd.f6.params[j]? = some t → args[j]? = some v → Value.okWide Tryd.prog W .any base t v := hval0
  have hW' := hW
  obtain ⟨p, q, hA0, hV, rfl, hfz, hnd⟩ := hW
  have hA : DataW.TrodAll enc Tryd.prog W 0 (fun _ => true) true Tryd.f6.params.toList args.toList ds p := hA0
  rw [Tryd.params6] at hA hval
  obtain ⟨rfl, rfl⟩ := trodVars_none hV
  have hlt : ∀ x ∈ p, x.block < W.heap.size := fun x hx => hW'.lt x (by simp [hx])
  have hA1 := hA
  obtain ⟨v0, vs1, d0, ds1, p0, q0, e1, rfl, rfl, h0, hA⟩ := trodAll_cons hA
  obtain ⟨v1, vs2, d1, ds2, p1, q1, rfl, rfl, rfl, h1, hA⟩ := trodAll_cons hA
  obtain ⟨v2, vs3, d2, ds3, p2, q2, rfl, rfl, rfl, h2, hA⟩ := trodAll_cons hA
  obtain ⟨rfl, rfl, rfl⟩ := trodAll_nil hA
  obtain ⟨args⟩ := args
  simp only at e1
  subst e1
  obtain ⟨pa, n, cap, R, rfl, _, hR⟩ := open_reps (hval 0 62 v0 rfl rfl) h0
  obtain ⟨u, d, rfl⟩ := open_rates (hval 1 29 v1 rfl rfl) h1
  obtain ⟨st, rfl, _⟩ := open_int Tryd.underlying3 (hval 2 3 v2 rfl rfl) h2
  refine (Blames_law u d pa n cap R st W (of_laid hL) hR).mono ?_
  rintro e W' ⟨rfl, hb⟩
  refine ⟨_, rfl, _, _, _, [], _, [], hW', ?_, again_args laidOut hb _ (by kernel_rfl) hA1 hlt (fun x hx => by simpa using hlt x hx), rfl, hb.frame _, fun h => by cases h⟩
  exact trodAll_mk1 (shut_bool Tryd.underlying4 _)
theorem iceBlames_said : Rows.IceBlamesSaid :=
  OpenClaim.holds_of_wide 6 Tryd.f6 rfl rfl rfl rfl rfl rfl rfl ⟨rfl, rfl, rfl, rfl, rfl⟩ rfl rfl rfl rfl rfl (by kernel_rfl) Tryd.func6 (by kernel_rfl)
    (of_decide_eq_true (by kernel_rfl)) (by unfold Func.isWrapper; first | (rw [if_pos (by decide +kernel)]; kernel_rfl) | (rw [if_neg (by decide +kernel)]; exact ⟨rfl, rfl⟩))
    (fun os started H enc _ => iceBlames_lifted os started H enc)
theorem iceBlames_card : Rows.IceBlamesCardSaid :=
  Claim7.holds_tied_plain_at .later [] [.data] true (true, "d9090ddba4165b50584f9a0e3a9ed307594f6ef2c7ba0c39f6d2ed180eefb913") false
    iceBlames_said (fun _ h => by cases h) (by kernel_rfl) (fun _ h => by cases h) iceBlames_row_tie rfl ⟨rfl, rfl⟩ (by kernel_rfl) rfl
    (fun f fn hf hfn => by
      obtain rfl : f = 6 := Option.some.inj ((show Tryd.prog.funcNamed "polynya/polynyalaw01.IceBlames" = some 6 by kernel_rfl).symm.trans hf) |>.symm
      obtain rfl : fn = Tryd.f6 := (Option.some.inj (Tryd.func6.symm.trans hfn)).symm
      exact ⟨by kernel_rfl, fun j t ht => by
        rw [Tryd.params6] at ht
        have hm : t ∈ [62, 29, 3] := by simpa using Array.mem_of_getElem? ht
        have hall : ([62, 29, 3].all fun u => !Tryd.prog.wantsStandIn u) = true := by kernel_rfl
        exact (show Tryd.prog.wantsStandIn t = false by simpa using List.all_eq_true.1 hall t hm)⟩)
    (by kernel_rfl)
#print axioms iceBlames_card
end Go.Proofs.YtdcpmdigihbdpaaDoor
