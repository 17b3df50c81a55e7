/- HullPassed: an outright law. A leg takes as long as its pieces, one after the other; whatever ice of its cell each part has, its safe speed is not less than that of the cell, and passed so the leg takes no longer than Hi and no shorter than Lo; if a part has none, that is the first one, and its pieces say so, too: whatever is passed in, it returns true, and changes nothing.
  Conditions: none on the arguments. The tables of limits and of strengths hold what the program's text lays (the card ties it). -/
import Derived.Test.YtcoiklolgilhaaaDoorWp
import Derived.Test.YtcoiklolgilhaaaDoorQl
import Derived.Test.YtcoiklolgilhaaaDoorTie
import Derived.Test.YtcoiklolgilhaaaDoorCards
namespace Go.Proofs.YtcoiklolgilhaaaDoor
open Go.ChangeShapes Go.WideShapes Go.ChangeAt Go.WideMaps Go.WideElems Go.RowKit Go.Deep
set_option maxRecDepth 100000
theorem hullPassed_lifted (os : Os) (started : os.Started) (H : Type) (enc : TypeId × Value → H) :
    ReturnsInHanded {} Tryd.checked os 8 .any (fun w args => (Rows.hullPassedSpec.pre enc Tryd.prog Tryd.f8 [] false w args ∧ laidMetH Tryd.prog laidL w) ∧ sizedMet enc Tryd.prog Tryd.f8 (OpenSpec.ofChange Rows.hullPassedSpec) false w args)
      (Rows.hullPassedSpec.post enc Tryd.prog Tryd.f8 false true false false) := by
  refine returnsInHanded_of_change_and (C := Tryd.checked) (X := fun w _ => laidMetH Tryd.prog laidL w) (fun _ _ _ hh h => h.of_heap hh) own started (by kernel_rfl) Tryd.func8
    (ChangeSpec.witness_shaped (enc := enc) (C := Tryd.checked) (os := os) (X := fun w _ => laidMetH Tryd.prog laidL w) false (World.doorLaid Tryd.prog 400 os) #[.slice none 0 0, .slice none 0 0, .slice none 0 0, .int .u8 0] 8 rfl (World.shaped_of_RefB (by kernel_rfl) (by kernel_rfl)) (by kernel_rfl) (by kernel_rfl) (by kernel_rfl) (door_met os _)) ?_
  intro W base args ds gs before hval0 hW _ _ hL _
  have hval : ∀ (j : Nat) t v, Tryd.f8.params[j]? = some t → args[j]? = some v → Value.okWide Tryd.prog W .any base t v := hval0
  have hW' := hW
  obtain ⟨p, q, hA0, hV, rfl, hfz, hnd⟩ := hW
  have hA : DataW.TrodAll enc Tryd.prog W 0 (fun _ => true) true Tryd.f8.params.toList args.toList ds p := hA0
  rw [Tryd.params8] at hA hval
  obtain ⟨rfl, rfl⟩ := trodVars_none hV
  have hlt : ∀ x ∈ p, x.block < W.heap.size := fun x hx => hW'.lt x (by simp [hx])
  have hA1 := hA
  obtain ⟨v0, vs1, d0, ds1, p0, q0, e1, rfl, rfl, h0, hA⟩ := trodAll_cons hA
  obtain ⟨v1, vs2, d1, ds2, p1, q1, rfl, rfl, rfl, h1, hA⟩ := trodAll_cons hA
  obtain ⟨v2, vs3, d2, ds3, p2, q2, rfl, rfl, rfl, h2, hA⟩ := trodAll_cons hA
  obtain ⟨v3, vs4, d3, ds4, p3, q3, rfl, rfl, rfl, h3, hA⟩ := trodAll_cons hA
  obtain ⟨rfl, rfl, rfl⟩ := trodAll_nil hA
  obtain ⟨args⟩ := args
  simp only at e1
  subst e1
  obtain ⟨p0a, n0a, cap0a, rfl, hk0a, hB0a, hc0a⟩ := open_bytes2 (hval 0 50 v0 rfl rfl) h0
  obtain ⟨p1a, n1a, cap1a, rfl, hk1a, hB1a, hc1a⟩ := open_bytes2 (hval 1 50 v1 rfl rfl) h1
  obtain ⟨p2a, n2a, cap2a, rfl, hk2a, hB2a, hc2a⟩ := open_bytes2 (hval 2 50 v2 rfl rfl) h2
  obtain ⟨i3a, rfl, _, _, w3a⟩ := open_int Tryd.underlying5 (hval 3 5 v3 rfl rfl) h3
  refine (Passed_law p0a n0a cap0a hk0a p1a n1a cap1a hk1a p2a n2a cap2a hk2a hc2a i3a W (of_laid hL).1 (of_laid hL).2 hB0a hB1a hB2a (wf_u8 w3a)).mono ?_
  rintro e W' ⟨rfl, hb⟩
  refine ⟨_, rfl, _, _, _, [], _, [], hW', ?_, again_args laidOut hb _ (by kernel_rfl) hA1 hlt (fun x hx => by simpa using hlt x hx), rfl, hb.frame _, fun h => by cases h⟩
  exact trodAll_mk1 (shut_bool Tryd.underlying4 _)
theorem hullPassed_said : Rows.HullPassedSaid :=
  OpenClaim.holds_of_wide 8 Tryd.f8 rfl rfl rfl rfl rfl rfl rfl ⟨rfl, rfl, rfl, rfl, rfl⟩ rfl rfl rfl rfl rfl (by kernel_rfl) Tryd.func8 (by kernel_rfl)
    (of_decide_eq_true (by kernel_rfl)) (by unfold Func.isWrapper; first | (rw [if_pos (by decide +kernel)]; kernel_rfl) | (rw [if_neg (by decide +kernel)]; exact ⟨rfl, rfl⟩))
    (fun os started H enc _ => hullPassed_lifted os started H enc)
theorem hullPassed_card : Rows.HullPassedCardSaid :=
  Claim7.holds_tied_plain_at .later [] [.data, .data] true (true, "0700bae9878f7c80d345b7d2b4c762ade4d38ba5ce2926db10afc86ce6021ba2") false
    hullPassed_said (fun _ h => by cases h) (by kernel_rfl) (fun _ h => by cases h) hullPassed_row_tie rfl ⟨rfl, rfl⟩ (by kernel_rfl) rfl
    (fun f fn hf hfn => by
      obtain rfl : f = 8 := Option.some.inj ((show Tryd.prog.funcNamed "polynya/polynyalaw03.HullPassed" = some 8 by kernel_rfl).symm.trans hf) |>.symm
      obtain rfl : fn = Tryd.f8 := (Option.some.inj (Tryd.func8.symm.trans hfn)).symm
      exact ⟨by kernel_rfl, fun j t ht => by
        rw [Tryd.params8] at ht
        have hm : t ∈ [50, 50, 50, 5] := by simpa using Array.mem_of_getElem? ht
        have hall : ([50, 50, 50, 5].all fun u => !Tryd.prog.wantsStandIn u) = true := by kernel_rfl
        exact (show Tryd.prog.wantsStandIn t = false by simpa using List.all_eq_true.1 hall t hm)⟩)
    (by kernel_rfl)
#print axioms hullPassed_card
end Go.Proofs.YtcoiklolgilhaaaDoor
