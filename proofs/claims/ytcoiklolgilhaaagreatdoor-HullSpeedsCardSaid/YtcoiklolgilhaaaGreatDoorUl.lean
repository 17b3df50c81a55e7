/- The contract of the reference's Check. The contract of the reference's Check: the monotone curves, the ends. The contract of the reference's thrust. The contract of the reference's Thrust: for any ship. The contract of the law's sameShip: of a ship and its like. The contract of slices.Clone over points, for any slice. -/
import Derived.Test.YtcoiklolgilhaaaGreatDoorUk
import Derived.Test.YtcoiklolgilhaaaGreatDoorPg
import Derived.Test.YtcoiklolgilhaaaGreatDoorPs
import Derived.Test.YtcoiklolgilhaaaGreatDoorPt
namespace Go.Proofs.YtcoiklolgilhaaaGreatDoor
open Go.RowKit
set_option maxRecDepth 100000
theorem chk40 {s : Sh} (h1 : 1 ≤ s.cls ∧ s.cls ≤ 6) (h : okHull s = false) : chkP s = 40 := by unfold chkP; rw [if_pos h1, h]; rfl
/-- what the walk of Check knows of the eight numbers -/
structure Eight (s : Sh) : Prop where
  cls : 1 ≤ s.cls ∧ s.cls ≤ 6
  pow : 100 ≤ s.pow ∧ s.pow ≤ 100000
  dra : 10 ≤ s.dra ∧ s.dra ≤ 2000
  ton : 10 ≤ s.ton ∧ s.ton ≤ 500000
  slow : 0 ≤ s.slow ∧ s.slow ≤ 20
  brash : 0 ≤ s.brash ∧ s.brash ≤ 100
  ridge : 0 ≤ s.ridge ∧ s.ridge ≤ 500
  press : 0 ≤ s.press ∧ s.press ≤ 5000

set_option maxHeartbeats 2000000 in
theorem rCheck_nums (s : Sh) (m : Mem3) (w : World) (h : ¬ Eight s) : Calls Tryz.prog 95 #[.agg (shipA s m)] w fun e w' => e = .returned (.int .i64 (chkP s)) ∧ Below w.heap.size w w' := by
  have HB0 := Lib.hid ((Below.refl w.heap.size w).alloc (Nat.le_refl _) (.cells (shipA s m) 36))
  by_cases h0 : 1 ≤ s.cls ∧ s.cls ≤ 6
  · have HW0 := Lib.hid (rin_is s.cls 1 6 true (decide_eq_true h0))
    by_cases h1 : 100 ≤ s.pow ∧ s.pow ≤ 100000
    · have HW1 := Lib.hid (rin_is s.pow 100 100000 true (decide_eq_true h1))
      by_cases h2 : 10 ≤ s.dra ∧ s.dra ≤ 2000
      · have HW2 := Lib.hid (rin_is s.dra 10 2000 true (decide_eq_true h2))
        by_cases h3 : 10 ≤ s.ton ∧ s.ton ≤ 500000
        · have HW3 := Lib.hid (rin_is s.ton 10 500000 true (decide_eq_true h3))
          by_cases h4 : 0 ≤ s.slow ∧ s.slow ≤ 20
          · have HW4 := Lib.hid (rin_is s.slow 0 20 true (decide_eq_true h4))
            by_cases h5 : 0 ≤ s.brash ∧ s.brash ≤ 100
            · have HW5 := Lib.hid (rin_is s.brash 0 100 true (decide_eq_true h5))
              by_cases h6 : 0 ≤ s.ridge ∧ s.ridge ≤ 500
              · have HW6 := Lib.hid (rin_is s.ridge 0 500 true (decide_eq_true h6))
                by_cases h7 : 0 ≤ s.press ∧ s.press ≤ 5000
                · have HW7 := Lib.hid (rin_is s.press 0 5000 true (decide_eq_true h7))
                  exact absurd ⟨h0, h1, h2, h3, h4, h5, h6, h7⟩ h
                · have HW7 := Lib.hid (rin_is s.press 0 5000 false (decide_eq_false h7))
                  have HE := Lib.hid (chk40 h0 (show okHull s = false by unfold okHull; rw [decide_eq_false h7]; simp))
                  clear h h0 h1 h2 h3 h4 h5 h6 h7
                  go_enter Tryz.func95, Tryz.ntmps95
                  go_wp2_with fail
                  refine (HW0.out _).mono ?_
                  rintro e w' ⟨rfl, rfl⟩
                  go_wp2_with fail
                  refine (HW1.out _).mono ?_
                  rintro e w' ⟨rfl, rfl⟩
                  go_wp2_with fail
                  refine (HW2.out _).mono ?_
                  rintro e w' ⟨rfl, rfl⟩
                  go_wp2_with fail
                  refine (HW3.out _).mono ?_
                  rintro e w' ⟨rfl, rfl⟩
                  go_wp2_with fail
                  refine (HW4.out _).mono ?_
                  rintro e w' ⟨rfl, rfl⟩
                  go_wp2_with fail
                  refine (HW5.out _).mono ?_
                  rintro e w' ⟨rfl, rfl⟩
                  go_wp2_with fail
                  refine (HW6.out _).mono ?_
                  rintro e w' ⟨rfl, rfl⟩
                  go_wp2_with fail
                  refine (HW7.out _).mono ?_
                  rintro e w' ⟨rfl, rfl⟩
                  go_wp2_with fail
                  go_ret
                  exact ⟨by rw [HE.out]; rfl, HB0.out⟩
              · have HW6 := Lib.hid (rin_is s.ridge 0 500 false (decide_eq_false h6))
                have HE := Lib.hid (chk40 h0 (show okHull s = false by unfold okHull; rw [decide_eq_false h6]; simp))
                clear h h0 h1 h2 h3 h4 h5 h6
                go_enter Tryz.func95, Tryz.ntmps95
                go_wp2_with fail
                refine (HW0.out _).mono ?_
                rintro e w' ⟨rfl, rfl⟩
                go_wp2_with fail
                refine (HW1.out _).mono ?_
                rintro e w' ⟨rfl, rfl⟩
                go_wp2_with fail
                refine (HW2.out _).mono ?_
                rintro e w' ⟨rfl, rfl⟩
                go_wp2_with fail
                refine (HW3.out _).mono ?_
                rintro e w' ⟨rfl, rfl⟩
                go_wp2_with fail
                refine (HW4.out _).mono ?_
                rintro e w' ⟨rfl, rfl⟩
                go_wp2_with fail
                refine (HW5.out _).mono ?_
                rintro e w' ⟨rfl, rfl⟩
                go_wp2_with fail
                refine (HW6.out _).mono ?_
                rintro e w' ⟨rfl, rfl⟩
                go_wp2_with fail
                go_ret
                exact ⟨by rw [HE.out]; rfl, HB0.out⟩
            · have HW5 := Lib.hid (rin_is s.brash 0 100 false (decide_eq_false h5))
              have HE := Lib.hid (chk40 h0 (show okHull s = false by unfold okHull; rw [decide_eq_false h5]; simp))
              clear h h0 h1 h2 h3 h4 h5
              go_enter Tryz.func95, Tryz.ntmps95
              go_wp2_with fail
              refine (HW0.out _).mono ?_
              rintro e w' ⟨rfl, rfl⟩
              go_wp2_with fail
              refine (HW1.out _).mono ?_
              rintro e w' ⟨rfl, rfl⟩
              go_wp2_with fail
              refine (HW2.out _).mono ?_
              rintro e w' ⟨rfl, rfl⟩
              go_wp2_with fail
              refine (HW3.out _).mono ?_
              rintro e w' ⟨rfl, rfl⟩
              go_wp2_with fail
              refine (HW4.out _).mono ?_
              rintro e w' ⟨rfl, rfl⟩
              go_wp2_with fail
              refine (HW5.out _).mono ?_
              rintro e w' ⟨rfl, rfl⟩
              go_wp2_with fail
              go_ret
              exact ⟨by rw [HE.out]; rfl, HB0.out⟩
          · have HW4 := Lib.hid (rin_is s.slow 0 20 false (decide_eq_false h4))
            have HE := Lib.hid (chk40 h0 (show okHull s = false by unfold okHull; rw [decide_eq_false h4]; simp))
            clear h h0 h1 h2 h3 h4
            go_enter Tryz.func95, Tryz.ntmps95
            go_wp2_with fail
            refine (HW0.out _).mono ?_
            rintro e w' ⟨rfl, rfl⟩
            go_wp2_with fail
            refine (HW1.out _).mono ?_
            rintro e w' ⟨rfl, rfl⟩
            go_wp2_with fail
            refine (HW2.out _).mono ?_
            rintro e w' ⟨rfl, rfl⟩
            go_wp2_with fail
            refine (HW3.out _).mono ?_
            rintro e w' ⟨rfl, rfl⟩
            go_wp2_with fail
            refine (HW4.out _).mono ?_
            rintro e w' ⟨rfl, rfl⟩
            go_wp2_with fail
            go_ret
            exact ⟨by rw [HE.out]; rfl, HB0.out⟩
        · have HW3 := Lib.hid (rin_is s.ton 10 500000 false (decide_eq_false h3))
          have HE := Lib.hid (chk40 h0 (show okHull s = false by unfold okHull; rw [decide_eq_false h3]; simp))
          clear h h0 h1 h2 h3
          go_enter Tryz.func95, Tryz.ntmps95
          go_wp2_with fail
          refine (HW0.out _).mono ?_
          rintro e w' ⟨rfl, rfl⟩
          go_wp2_with fail
          refine (HW1.out _).mono ?_
          rintro e w' ⟨rfl, rfl⟩
          go_wp2_with fail
          refine (HW2.out _).mono ?_
          rintro e w' ⟨rfl, rfl⟩
          go_wp2_with fail
          refine (HW3.out _).mono ?_
          rintro e w' ⟨rfl, rfl⟩
          go_wp2_with fail
          go_ret
          exact ⟨by rw [HE.out]; rfl, HB0.out⟩
      · have HW2 := Lib.hid (rin_is s.dra 10 2000 false (decide_eq_false h2))
        have HE := Lib.hid (chk40 h0 (show okHull s = false by unfold okHull; rw [decide_eq_false h2]; simp))
        clear h h0 h1 h2
        go_enter Tryz.func95, Tryz.ntmps95
        go_wp2_with fail
        refine (HW0.out _).mono ?_
        rintro e w' ⟨rfl, rfl⟩
        go_wp2_with fail
        refine (HW1.out _).mono ?_
        rintro e w' ⟨rfl, rfl⟩
        go_wp2_with fail
        refine (HW2.out _).mono ?_
        rintro e w' ⟨rfl, rfl⟩
        go_wp2_with fail
        go_ret
        exact ⟨by rw [HE.out]; rfl, HB0.out⟩
    · have HW1 := Lib.hid (rin_is s.pow 100 100000 false (decide_eq_false h1))
      have HE := Lib.hid (chk40 h0 (show okHull s = false by unfold okHull; rw [decide_eq_false h1]; simp))
      clear h h0 h1
      go_enter Tryz.func95, Tryz.ntmps95
      go_wp2_with fail
      refine (HW0.out _).mono ?_
      rintro e w' ⟨rfl, rfl⟩
      go_wp2_with fail
      refine (HW1.out _).mono ?_
      rintro e w' ⟨rfl, rfl⟩
      go_wp2_with fail
      go_ret
      exact ⟨by rw [HE.out]; rfl, HB0.out⟩
  · have HW0 := Lib.hid (rin_is s.cls 1 6 false (decide_eq_false h0))
    have HE := Lib.hid (show chkP s = 41 by unfold chkP; rw [if_neg h0])
    clear h h0
    go_enter Tryz.func95, Tryz.ntmps95
    go_wp2_with fail
    refine (HW0.out _).mono ?_
    rintro e w' ⟨rfl, rfl⟩
    go_wp2_with fail
    go_ret
    exact ⟨by rw [HE.out]; rfl, HB0.out⟩
set_option maxHeartbeats 2000000 in
theorem rCheck_curves (s : Sh) (m : Mem3) (w : World) (g : Eight s) (hs : ShipIn w s m) (h : ¬ (okCv s.th = true ∧ okCv s.wa = true ∧ okCv s.ic = true)) : Calls Tryz.prog 95 #[.agg (shipA s m)] w fun e w' => e = .returned (.int .i64 (chkP s)) ∧ Below w.heap.size w w' := by
  obtain ⟨t0, hz, tb⟩ := one_alloc w (.cells (shipA s m) 36)
  have HB0 := Lib.hid tb
  have HK0 := Lib.hid t0
  have HS := Lib.hid hs
  clear tb t0
  have HW0 := Lib.hid (rin_is s.cls 1 6 true (decide_eq_true g.cls))
  have HW1 := Lib.hid (rin_is s.pow 100 100000 true (decide_eq_true g.pow))
  have HW2 := Lib.hid (rin_is s.dra 10 2000 true (decide_eq_true g.dra))
  have HW3 := Lib.hid (rin_is s.ton 10 500000 true (decide_eq_true g.ton))
  have HW4 := Lib.hid (rin_is s.slow 0 20 true (decide_eq_true g.slow))
  have HW5 := Lib.hid (rin_is s.brash 0 100 true (decide_eq_true g.brash))
  have HW6 := Lib.hid (rin_is s.ridge 0 500 true (decide_eq_true g.ridge))
  have HW7 := Lib.hid (rin_is s.press 0 5000 true (decide_eq_true g.press))
  have HN := Lib.hid (fun (hf : okHull s = false) => chk40 g.cls hf)
  clear g
  cases hc0 : okCv s.th with
  | false =>
    have HE := Lib.hid (HN.out (by unfold okHull; rw [hc0]; simp))
    clear h hs
    go_enter Tryz.func95, Tryz.ntmps95
    go_wp2_with fail
    refine (HW0.out _).mono ?_
    rintro e w' ⟨rfl, rfl⟩
    go_wp2_with fail
    refine (HW1.out _).mono ?_
    rintro e w' ⟨rfl, rfl⟩
    go_wp2_with fail
    refine (HW2.out _).mono ?_
    rintro e w' ⟨rfl, rfl⟩
    go_wp2_with fail
    refine (HW3.out _).mono ?_
    rintro e w' ⟨rfl, rfl⟩
    go_wp2_with fail
    refine (HW4.out _).mono ?_
    rintro e w' ⟨rfl, rfl⟩
    go_wp2_with fail
    refine (HW5.out _).mono ?_
    rintro e w' ⟨rfl, rfl⟩
    go_wp2_with fail
    refine (HW6.out _).mono ?_
    rintro e w' ⟨rfl, rfl⟩
    go_wp2_with fail
    refine (HW7.out _).mono ?_
    rintro e w' ⟨rfl, rfl⟩
    go_wp2_with fail
    have HC0 := rCurve_any m.pt s.th.n m.ct s.th rfl HS.out.nt _ (HS.out.t.later HB0.out)
    rw [hc0] at HC0
    refine HC0.mono ?_
    clear HC0
    rintro e W1 ⟨rfl, hb⟩
    have HB1 := Lib.hid (HB0.out.trans (hb.mono HB0.out.size))
    have HK1 := Lib.hid ((hb.block w.heap.size (lt_of_block HK0.out)).trans HK0.out)
    clear hb
    obtain ⟨k0, k1, k2, k3, k4, k5, k6, k7, k8, k9, k10⟩ := cells11 HK1.out
    go_wp2_with fail
    clear k0 k1 k2 k3 k4 k5 k6 k7 k8 k9 k10
    go_ret
    exact ⟨by rw [HE.out]; rfl, HB1.out⟩
  | true =>
    cases hc1 : okCv s.wa with
    | false =>
      have HE := Lib.hid (HN.out (by unfold okHull; rw [hc1]; simp))
      clear h hs
      go_enter Tryz.func95, Tryz.ntmps95
      go_wp2_with fail
      refine (HW0.out _).mono ?_
      rintro e w' ⟨rfl, rfl⟩
      go_wp2_with fail
      refine (HW1.out _).mono ?_
      rintro e w' ⟨rfl, rfl⟩
      go_wp2_with fail
      refine (HW2.out _).mono ?_
      rintro e w' ⟨rfl, rfl⟩
      go_wp2_with fail
      refine (HW3.out _).mono ?_
      rintro e w' ⟨rfl, rfl⟩
      go_wp2_with fail
      refine (HW4.out _).mono ?_
      rintro e w' ⟨rfl, rfl⟩
      go_wp2_with fail
      refine (HW5.out _).mono ?_
      rintro e w' ⟨rfl, rfl⟩
      go_wp2_with fail
      refine (HW6.out _).mono ?_
      rintro e w' ⟨rfl, rfl⟩
      go_wp2_with fail
      refine (HW7.out _).mono ?_
      rintro e w' ⟨rfl, rfl⟩
      go_wp2_with fail
      have HC0 := rCurve_any m.pt s.th.n m.ct s.th rfl HS.out.nt _ (HS.out.t.later HB0.out)
      rw [hc0] at HC0
      refine HC0.mono ?_
      clear HC0
      rintro e W1 ⟨rfl, hb⟩
      have HB1 := Lib.hid (HB0.out.trans (hb.mono HB0.out.size))
      have HK1 := Lib.hid ((hb.block w.heap.size (lt_of_block HK0.out)).trans HK0.out)
      clear hb
      obtain ⟨k0, k1, k2, k3, k4, k5, k6, k7, k8, k9, k10⟩ := cells11 HK1.out
      go_wp2_with fail
      clear k0 k1 k2 k3 k4 k5 k6 k7 k8 k9 k10
      have HC1 := rCurve_any m.pw s.wa.n m.cw s.wa rfl HS.out.nw _ (HS.out.w.later HB1.out)
      rw [hc1] at HC1
      refine HC1.mono ?_
      clear HC1
      rintro e W2 ⟨rfl, hb⟩
      have HB2 := Lib.hid (HB1.out.trans (hb.mono HB1.out.size))
      have HK2 := Lib.hid ((hb.block w.heap.size (lt_of_block HK1.out)).trans HK1.out)
      clear hb
      obtain ⟨k0, k1, k2, k3, k4, k5, k6, k7, k8, k9, k10⟩ := cells11 HK2.out
      go_wp2_with fail
      clear k0 k1 k2 k3 k4 k5 k6 k7 k8 k9 k10
      go_ret
      exact ⟨by rw [HE.out]; rfl, HB2.out⟩
    | true =>
      cases hc2 : okCv s.ic with
      | true => exact absurd ⟨hc0, hc1, hc2⟩ h
      | false =>
        have HE := Lib.hid (HN.out (by unfold okHull; rw [hc2]; simp))
        clear h hs
        go_enter Tryz.func95, Tryz.ntmps95
        go_wp2_with fail
        refine (HW0.out _).mono ?_
        rintro e w' ⟨rfl, rfl⟩
        go_wp2_with fail
        refine (HW1.out _).mono ?_
        rintro e w' ⟨rfl, rfl⟩
        go_wp2_with fail
        refine (HW2.out _).mono ?_
        rintro e w' ⟨rfl, rfl⟩
        go_wp2_with fail
        refine (HW3.out _).mono ?_
        rintro e w' ⟨rfl, rfl⟩
        go_wp2_with fail
        refine (HW4.out _).mono ?_
        rintro e w' ⟨rfl, rfl⟩
        go_wp2_with fail
        refine (HW5.out _).mono ?_
        rintro e w' ⟨rfl, rfl⟩
        go_wp2_with fail
        refine (HW6.out _).mono ?_
        rintro e w' ⟨rfl, rfl⟩
        go_wp2_with fail
        refine (HW7.out _).mono ?_
        rintro e w' ⟨rfl, rfl⟩
        go_wp2_with fail
        have HC0 := rCurve_any m.pt s.th.n m.ct s.th rfl HS.out.nt _ (HS.out.t.later HB0.out)
        rw [hc0] at HC0
        refine HC0.mono ?_
        clear HC0
        rintro e W1 ⟨rfl, hb⟩
        have HB1 := Lib.hid (HB0.out.trans (hb.mono HB0.out.size))
        have HK1 := Lib.hid ((hb.block w.heap.size (lt_of_block HK0.out)).trans HK0.out)
        clear hb
        obtain ⟨k0, k1, k2, k3, k4, k5, k6, k7, k8, k9, k10⟩ := cells11 HK1.out
        go_wp2_with fail
        clear k0 k1 k2 k3 k4 k5 k6 k7 k8 k9 k10
        have HC1 := rCurve_any m.pw s.wa.n m.cw s.wa rfl HS.out.nw _ (HS.out.w.later HB1.out)
        rw [hc1] at HC1
        refine HC1.mono ?_
        clear HC1
        rintro e W2 ⟨rfl, hb⟩
        have HB2 := Lib.hid (HB1.out.trans (hb.mono HB1.out.size))
        have HK2 := Lib.hid ((hb.block w.heap.size (lt_of_block HK1.out)).trans HK1.out)
        clear hb
        obtain ⟨k0, k1, k2, k3, k4, k5, k6, k7, k8, k9, k10⟩ := cells11 HK2.out
        go_wp2_with fail
        clear k0 k1 k2 k3 k4 k5 k6 k7 k8 k9 k10
        have HC2 := rCurve_any m.pi s.ic.n m.ci s.ic rfl HS.out.ni _ (HS.out.i.later HB2.out)
        rw [hc2] at HC2
        refine HC2.mono ?_
        clear HC2
        rintro e W3 ⟨rfl, hb⟩
        have HB3 := Lib.hid (HB2.out.trans (hb.mono HB2.out.size))
        have HK3 := Lib.hid ((hb.block w.heap.size (lt_of_block HK2.out)).trans HK2.out)
        clear hb
        obtain ⟨k0, k1, k2, k3, k4, k5, k6, k7, k8, k9, k10⟩ := cells11 HK3.out
        go_wp2_with fail
        clear k0 k1 k2 k3 k4 k5 k6 k7 k8 k9 k10
        go_ret
        exact ⟨by rw [HE.out]; rfl, HB3.out⟩
end Go.Proofs.YtcoiklolgilhaaaGreatDoor
namespace Go.Proofs.YtcoiklolgilhaaaGreatDoor
open Go.RowKit
set_option maxRecDepth 100000
def DecTo (c : Cv) (k : Nat) : Prop := ∀ j, j + 1 < k → c.y (j + 1) ≤ c.y j
def IncTo (c : Cv) (k : Nat) : Prop := ∀ j, j + 1 < k → c.y j ≤ c.y (j + 1)
theorem decTo_all {c : Cv} (h : DecTo c c.n) : decB c = true := allN_iff.2 fun i hi => decide_eq_true (h i (by omega))
theorem incTo_all {c : Cv} (h : IncTo c c.n) : incB c = true := allN_iff.2 fun i hi => decide_eq_true (h i (by omega))
theorem decB_no {c : Cv} {k : Nat} (hk : k + 1 < c.n) (h : c.y k < c.y (k + 1)) : decB c = false := by
  cases e : decB c with
  | false => rfl
  | true => have := of_decide_eq_true (allN_iff.1 e k (by omega)); omega
theorem incB_no {c : Cv} {k : Nat} (hk : k + 1 < c.n) (h : c.y (k + 1) < c.y k) : incB c = false := by
  cases e : incB c with
  | false => rfl
  | true => have := of_decide_eq_true (allN_iff.1 e k (by omega)); omega
set_option maxHeartbeats 4000000 in
theorem rCheck_rest (s : Sh) (m : Mem3) (w : World) (g : Eight s) (hs : ShipIn w s m) (hc0 : okCv s.th = true) (hc1 : okCv s.wa = true) (hc2 : okCv s.ic = true) : Calls Tryz.prog 95 #[.agg (shipA s m)] w fun e w' => e = .returned (.int .i64 (chkP s)) ∧ Below w.heap.size w w' := by
  obtain ⟨pt, pw, pi, ct, cw, ci⟩ := m
  have q0 := (okCv_iff.1 hc0).two
  have q1 := (okCv_iff.1 hc1).two
  have q2 := (okCv_iff.1 hc2).two
  obtain ⟨ba, oa, ea, _⟩ := hs.t 0 (by omega)
  obtain ⟨bb, ob, eb, _⟩ := hs.w 0 (by omega)
  obtain ⟨bc, oc, ec, _⟩ := hs.i 0 (by omega)
  simp only at ea eb ec
  subst ea eb ec
  obtain ⟨m, hm⟩ : ∃ m : Mem3, m = ⟨some ⟨ba, oa, none⟩, some ⟨bb, ob, none⟩, some ⟨bc, oc, none⟩, ct, cw, ci⟩ := ⟨_, rfl⟩
  rw [← hm] at hs
  have mt : m.pt = some ⟨ba, oa, none⟩ := by rw [hm]
  have mw : m.pw = some ⟨bb, ob, none⟩ := by rw [hm]
  have mi : m.pi = some ⟨bc, oc, none⟩ := by rw [hm]
  have mct : m.ct = ct := by rw [hm]
  have mcw : m.cw = cw := by rw [hm]
  have mci : m.ci = ci := by rw [hm]
  have hsA : shipA s ⟨some ⟨ba, oa, none⟩, some ⟨bb, ob, none⟩, some ⟨bc, oc, none⟩, ct, cw, ci⟩ = #[.int .i64 s.cls, .int .i64 s.pow, .int .i64 s.dra, .int .i64 s.ton, .slice (some ⟨ba, oa, none⟩) s.th.n ct, .slice (some ⟨bb, ob, none⟩) s.wa.n cw, .slice (some ⟨bc, oc, none⟩) s.ic.n ci, .int .i64 s.slow, .int .i64 s.brash, .int .i64 s.ridge, .int .i64 s.press] := rfl
  have h48a := fun W hW => rCurve_any m.pt s.th.n m.ct s.th rfl hs.nt W hW
  have h48b := fun W hW => rCurve_any m.pw s.wa.n m.cw s.wa rfl hs.nw W hW
  have h48c := fun W hW => rCurve_any m.pi s.ic.n m.ci s.ic rfl hs.ni W hW
  rw [hc0, mt, mct] at h48a
  rw [hc1, mw, mcw] at h48b
  rw [hc2, mi, mci] at h48c
  have P0 := hs.t
  have P1 := hs.w
  have P2 := hs.i
  rw [mt] at P0
  rw [mw] at P1
  rw [mi] at P2
  have HP0 := Lib.hid P0
  have HP1 := Lib.hid P1
  have HP2 := Lib.hid P2
  have HQ0 := Lib.hid h48a
  have HQ1 := Lib.hid h48b
  have HQ2 := Lib.hid h48c
  clear hm mt mw mi mct mcw mci h48a h48b h48c P0 P1 P2 hs m
  rw [hsA]
  generalize hA : (#[.int .i64 s.cls, .int .i64 s.pow, .int .i64 s.dra, .int .i64 s.ton, .slice (some ⟨ba, oa, none⟩) s.th.n ct, .slice (some ⟨bb, ob, none⟩) s.wa.n cw, .slice (some ⟨bc, oc, none⟩) s.ic.n ci, .int .i64 s.slow, .int .i64 s.brash, .int .i64 s.ridge, .int .i64 s.press] : Array Value) = A
  obtain ⟨t0, hz, tb⟩ := one_alloc w (.cells A 36)
  have HB0 := Lib.hid tb
  have HK0 := Lib.hid t0
  have G0 := Lib.hid (okCv_iff.1 hc0)
  have G1 := Lib.hid (okCv_iff.1 hc1)
  have G2 := Lib.hid (okCv_iff.1 hc2)
  have n00 := G0.out.two
  have n01 := G0.out.eight
  have n10 := G1.out.two
  have n11 := G1.out.eight
  have n20 := G2.out.two
  have n21 := G2.out.eight
  have HG := Lib.hid g
  clear tb t0
  have HW0 := Lib.hid (rin_is s.cls 1 6 true (decide_eq_true g.cls))
  have HW1 := Lib.hid (rin_is s.pow 100 100000 true (decide_eq_true g.pow))
  have HW2 := Lib.hid (rin_is s.dra 10 2000 true (decide_eq_true g.dra))
  have HW3 := Lib.hid (rin_is s.ton 10 500000 true (decide_eq_true g.ton))
  have HW4 := Lib.hid (rin_is s.slow 0 20 true (decide_eq_true g.slow))
  have HW5 := Lib.hid (rin_is s.brash 0 100 true (decide_eq_true g.brash))
  have HW6 := Lib.hid (rin_is s.ridge 0 500 true (decide_eq_true g.ridge))
  have HW7 := Lib.hid (rin_is s.press 0 5000 true (decide_eq_true g.press))
  have HN := Lib.hid (fun (hf : okHull s = false) => chk40 g.cls hf)
  have HO0 := Lib.hid hc0
  have HO1 := Lib.hid hc1
  have HO2 := Lib.hid hc2
  clear g hc0 hc1 hc2 q0 q1 q2 hsA
  subst hA
  go_enter Tryz.func95, Tryz.ntmps95
  go_wp2_with fail
  refine (HW0.out _).mono ?_
  rintro e w' ⟨rfl, rfl⟩
  go_wp2_with fail
  refine (HW1.out _).mono ?_
  rintro e w' ⟨rfl, rfl⟩
  go_wp2_with fail
  refine (HW2.out _).mono ?_
  rintro e w' ⟨rfl, rfl⟩
  go_wp2_with fail
  refine (HW3.out _).mono ?_
  rintro e w' ⟨rfl, rfl⟩
  go_wp2_with fail
  refine (HW4.out _).mono ?_
  rintro e w' ⟨rfl, rfl⟩
  go_wp2_with fail
  refine (HW5.out _).mono ?_
  rintro e w' ⟨rfl, rfl⟩
  go_wp2_with fail
  refine (HW6.out _).mono ?_
  rintro e w' ⟨rfl, rfl⟩
  go_wp2_with fail
  refine (HW7.out _).mono ?_
  rintro e w' ⟨rfl, rfl⟩
  go_wp2_with fail
  refine (HQ0.out _ (HP0.out.later HB0.out)).mono ?_
  rintro e W1 ⟨rfl, hb⟩
  have HB1 := Lib.hid (HB0.out.trans (hb.mono HB0.out.size))
  have HK1 := Lib.hid ((hb.block w.heap.size (lt_of_block HK0.out)).trans HK0.out)
  clear hb
  obtain ⟨k0, k1, k2, k3, k4, k5, k6, k7, k8, k9, k10⟩ := cells11 HK1.out
  go_wp2_with fail
  clear k0 k1 k2 k3 k4 k5 k6 k7 k8 k9 k10
  refine (HQ1.out _ (HP1.out.later HB1.out)).mono ?_
  rintro e W2 ⟨rfl, hb⟩
  have HB2 := Lib.hid (HB1.out.trans (hb.mono HB1.out.size))
  have HK2 := Lib.hid ((hb.block w.heap.size (lt_of_block HK1.out)).trans HK1.out)
  clear hb
  obtain ⟨k0, k1, k2, k3, k4, k5, k6, k7, k8, k9, k10⟩ := cells11 HK2.out
  go_wp2_with fail
  clear k0 k1 k2 k3 k4 k5 k6 k7 k8 k9 k10
  refine (HQ2.out _ (HP2.out.later HB2.out)).mono ?_
  rintro e W3 ⟨rfl, hb⟩
  have HB3 := Lib.hid (HB2.out.trans (hb.mono HB2.out.size))
  have HK3 := Lib.hid ((hb.block w.heap.size (lt_of_block HK2.out)).trans HK2.out)
  clear hb
  obtain ⟨k0, k1, k2, k3, k4, k5, k6, k7, k8, k9, k10⟩ := cells11 HK3.out
  go_wp2_with fail
  clear k0 k1 k2 k3 k4 k5 k6 k7 k8 k9 k10
  go_loopw [3] (fun i wr => ∃ k : Nat, k + 1 ≤ s.th.n ∧ i = .int .i64 ((k : Int) + 1) ∧ Hid (DecTo s.th (k + 1)) ∧ Hid (Below w.heap.size w wr) ∧ Hid (wr.heap[w.heap.size]? = some (.cells #[.int .i64 s.cls, .int .i64 s.pow, .int .i64 s.dra, .int .i64 s.ton, .slice (some ⟨ba, oa, none⟩) s.th.n ct, .slice (some ⟨bb, ob, none⟩) s.wa.n cw, .slice (some ⟨bc, oc, none⟩) s.ic.n ci, .int .i64 s.slow, .int .i64 s.brash, .int .i64 s.ridge, .int .i64 s.press] 36 (0, 0)))) (fun i _ => s.th.n - (intOf i).toNat)
  case atStart => exact ⟨0, by omega, rfl, Lib.hid (fun j hj => by omega), HB3.out, HK3.out⟩
  case round =>
    obtain ⟨k, hk, rfl, hu, hI, hK⟩ := hrel
    have HK := Lib.hid hK.out
    have HI := Lib.hid hI.out
    clear hK hI
    obtain ⟨k0, k1, k2, k3, k4, k5, k6, k7, k8, k9, k10⟩ := cells11 HK.out
    by_cases hlt : k + 1 < s.th.n
    · obtain ⟨b, o, e, hbl, px, py⟩ := (HP0.out.later HI.out) k (by omega)
      obtain ⟨b', o', e', hbl', qx, qy⟩ := (HP0.out.later HI.out) (k + 1) hlt
      obtain ⟨rfl, rfl⟩ : _ = b ∧ _ = o := by simpa using e
      obtain ⟨rfl, rfl⟩ : _ = b' ∧ _ = o' := by simpa using e'
      clear e e'
      have hkn : (k : Int) < (s.th.n : Int) := by omega
      have hk1 : (k : Int) + 1 < (s.th.n : Int) := by omega
      have hk0 : (0 : Int) ≤ (k : Int) := by omega
      have hkj : (k : Int) + 1 - 1 = (k : Int) := by omega
      by_cases hbad : s.th.y k < s.th.y (k + 1)
      · have HE := Lib.hid (HN.out (by unfold okHull; rw [decB_no hlt hbad]; simp))
        go_wp2_with fail
        go_quiet (fail)
        go_wp2_with fail
        go_ret
        exact ⟨by rw [HE.out]; rfl, below_drewN HI.out _⟩
      · have HU := Lib.hid (show DecTo s.th (k + 1 + 1) from fun j hj => by
          by_cases e : j = k
          · subst e; omega
          · exact hu.out j (by omega))
        have hbad' : ¬ (s.th.y k < s.th.y (k + 1)) := hbad
        clear hbad
        go_wp2_with fail
        go_quiet (fail)
        go_wp2_with fail
        go_roundw
        case rel => exact ⟨k + 1, by omega, (show Value.int IntKind.i64 ((k : Int) + 1 + 1) = .int .i64 (((k + 1 : Nat) : Int) + 1) by rw [show ((k + 1 : Nat) : Int) = (k : Int) + 1 by omega]), HU, Lib.hid (below_drewN HI.out _), HK⟩
        case measure => simp [intOf]; omega
    · obtain ⟨n', hn'⟩ : ∃ n', s.th.n = n' := ⟨_, rfl⟩
      have HD0 := Lib.hid (show decB s.th = true from decTo_all (show DecTo s.th s.th.n from (show s.th.n = k + 1 by omega) ▸ hu.out))
      have hkx : ¬ ((k : Int) + 1 < (s.th.n : Int)) := by omega
      clear hu hn' hk hlt
      go_wp2_with fail
      clear k0 k1 k2 k3 k4 k5 k6 k7 k8 k9 k10
      obtain ⟨HB4, HK4⟩ : Hid (Below w.heap.size w wr) ∧ Hid (wr.heap[w.heap.size]? = some (.cells #[.int .i64 s.cls, .int .i64 s.pow, .int .i64 s.dra, .int .i64 s.ton, .slice (some ⟨ba, oa, none⟩) s.th.n ct, .slice (some ⟨bb, ob, none⟩) s.wa.n cw, .slice (some ⟨bc, oc, none⟩) s.ic.n ci, .int .i64 s.slow, .int .i64 s.brash, .int .i64 s.ridge, .int .i64 s.press] 36 (0, 0))) := ⟨HI, HK⟩
      clear HI HK
      go_loopw [4] (fun i wr => ∃ k : Nat, k + 1 ≤ s.wa.n ∧ i = .int .i64 ((k : Int) + 1) ∧ Hid (IncTo s.wa (k + 1)) ∧ Hid (Below w.heap.size w wr) ∧ Hid (wr.heap[w.heap.size]? = some (.cells #[.int .i64 s.cls, .int .i64 s.pow, .int .i64 s.dra, .int .i64 s.ton, .slice (some ⟨ba, oa, none⟩) s.th.n ct, .slice (some ⟨bb, ob, none⟩) s.wa.n cw, .slice (some ⟨bc, oc, none⟩) s.ic.n ci, .int .i64 s.slow, .int .i64 s.brash, .int .i64 s.ridge, .int .i64 s.press] 36 (0, 0)))) (fun i _ => s.wa.n - (intOf i).toNat)
      case atStart => exact ⟨0, by omega, rfl, Lib.hid (fun j hj => by omega), HB4.out, HK4.out⟩
      case round =>
        obtain ⟨k, hk, rfl, hu, hI, hK⟩ := hrel
        have HK := Lib.hid hK.out
        have HI := Lib.hid hI.out
        clear hK hI
        obtain ⟨k0, k1, k2, k3, k4, k5, k6, k7, k8, k9, k10⟩ := cells11 HK.out
        by_cases hlt : k + 1 < s.wa.n
        · obtain ⟨b, o, e, hbl, px, py⟩ := (HP1.out.later HI.out) k (by omega)
          obtain ⟨b', o', e', hbl', qx, qy⟩ := (HP1.out.later HI.out) (k + 1) hlt
          obtain ⟨rfl, rfl⟩ : _ = b ∧ _ = o := by simpa using e
          obtain ⟨rfl, rfl⟩ : _ = b' ∧ _ = o' := by simpa using e'
          clear e e'
          have hkn : (k : Int) < (s.wa.n : Int) := by omega
          have hk1 : (k : Int) + 1 < (s.wa.n : Int) := by omega
          have hk0 : (0 : Int) ≤ (k : Int) := by omega
          have hkj : (k : Int) + 1 - 1 = (k : Int) := by omega
          by_cases hbad : s.wa.y (k + 1) < s.wa.y k
          · have HE := Lib.hid (HN.out (by unfold okHull; rw [incB_no hlt hbad]; simp))
            go_wp2_with fail
            go_quiet (fail)
            go_wp2_with fail
            go_ret
            exact ⟨by rw [HE.out]; rfl, below_drewN HI.out _⟩
          · have HU := Lib.hid (show IncTo s.wa (k + 1 + 1) from fun j hj => by
              by_cases e : j = k
              · subst e; omega
              · exact hu.out j (by omega))
            have hbad' : ¬ (s.wa.y (k + 1) < s.wa.y k) := hbad
            clear hbad
            go_wp2_with fail
            go_quiet (fail)
            go_wp2_with fail
            go_roundw
            case rel => exact ⟨k + 1, by omega, (show Value.int IntKind.i64 ((k : Int) + 1 + 1) = .int .i64 (((k + 1 : Nat) : Int) + 1) by rw [show ((k + 1 : Nat) : Int) = (k : Int) + 1 by omega]), HU, Lib.hid (below_drewN HI.out _), HK⟩
            case measure => simp [intOf]; omega
        · obtain ⟨n', hn'⟩ : ∃ n', s.wa.n = n' := ⟨_, rfl⟩
          have HD1 := Lib.hid (show incB s.wa = true from incTo_all (show IncTo s.wa s.wa.n from (show s.wa.n = k + 1 by omega) ▸ hu.out))
          have hkx : ¬ ((k : Int) + 1 < (s.wa.n : Int)) := by omega
          clear hu hn' hk hlt
          go_wp2_with fail
          clear k0 k1 k2 k3 k4 k5 k6 k7 k8 k9 k10
          obtain ⟨HB5, HK5⟩ : Hid (Below w.heap.size w wr) ∧ Hid (wr.heap[w.heap.size]? = some (.cells #[.int .i64 s.cls, .int .i64 s.pow, .int .i64 s.dra, .int .i64 s.ton, .slice (some ⟨ba, oa, none⟩) s.th.n ct, .slice (some ⟨bb, ob, none⟩) s.wa.n cw, .slice (some ⟨bc, oc, none⟩) s.ic.n ci, .int .i64 s.slow, .int .i64 s.brash, .int .i64 s.ridge, .int .i64 s.press] 36 (0, 0))) := ⟨HI, HK⟩
          clear HI HK
          go_loopw [5] (fun i wr => ∃ k : Nat, k + 1 ≤ s.ic.n ∧ i = .int .i64 ((k : Int) + 1) ∧ Hid (IncTo s.ic (k + 1)) ∧ Hid (Below w.heap.size w wr) ∧ Hid (wr.heap[w.heap.size]? = some (.cells #[.int .i64 s.cls, .int .i64 s.pow, .int .i64 s.dra, .int .i64 s.ton, .slice (some ⟨ba, oa, none⟩) s.th.n ct, .slice (some ⟨bb, ob, none⟩) s.wa.n cw, .slice (some ⟨bc, oc, none⟩) s.ic.n ci, .int .i64 s.slow, .int .i64 s.brash, .int .i64 s.ridge, .int .i64 s.press] 36 (0, 0)))) (fun i _ => s.ic.n - (intOf i).toNat)
          case atStart => exact ⟨0, by omega, rfl, Lib.hid (fun j hj => by omega), HB5.out, HK5.out⟩
          case round =>
            obtain ⟨k, hk, rfl, hu, hI, hK⟩ := hrel
            have HK := Lib.hid hK.out
            have HI := Lib.hid hI.out
            clear hK hI
            obtain ⟨k0, k1, k2, k3, k4, k5, k6, k7, k8, k9, k10⟩ := cells11 HK.out
            by_cases hlt : k + 1 < s.ic.n
            · obtain ⟨b, o, e, hbl, px, py⟩ := (HP2.out.later HI.out) k (by omega)
              obtain ⟨b', o', e', hbl', qx, qy⟩ := (HP2.out.later HI.out) (k + 1) hlt
              obtain ⟨rfl, rfl⟩ : _ = b ∧ _ = o := by simpa using e
              obtain ⟨rfl, rfl⟩ : _ = b' ∧ _ = o' := by simpa using e'
              clear e e'
              have hkn : (k : Int) < (s.ic.n : Int) := by omega
              have hk1 : (k : Int) + 1 < (s.ic.n : Int) := by omega
              have hk0 : (0 : Int) ≤ (k : Int) := by omega
              have hkj : (k : Int) + 1 - 1 = (k : Int) := by omega
              by_cases hbad : s.ic.y (k + 1) < s.ic.y k
              · have HE := Lib.hid (HN.out (by unfold okHull; rw [incB_no hlt hbad]; simp))
                go_wp2_with fail
                go_quiet (fail)
                go_wp2_with fail
                go_ret
                exact ⟨by rw [HE.out]; rfl, below_drewN HI.out _⟩
              · have HU := Lib.hid (show IncTo s.ic (k + 1 + 1) from fun j hj => by
                  by_cases e : j = k
                  · subst e; omega
                  · exact hu.out j (by omega))
                have hbad' : ¬ (s.ic.y (k + 1) < s.ic.y k) := hbad
                clear hbad
                go_wp2_with fail
                go_quiet (fail)
                go_wp2_with fail
                go_roundw
                case rel => exact ⟨k + 1, by omega, (show Value.int IntKind.i64 ((k : Int) + 1 + 1) = .int .i64 (((k + 1 : Nat) : Int) + 1) by rw [show ((k + 1 : Nat) : Int) = (k : Int) + 1 by omega]), HU, Lib.hid (below_drewN HI.out _), HK⟩
                case measure => simp [intOf]; omega
            · obtain ⟨n', hn'⟩ : ∃ n', s.ic.n = n' := ⟨_, rfl⟩
              have HD2 := Lib.hid (show incB s.ic = true from incTo_all (show IncTo s.ic s.ic.n from (show s.ic.n = k + 1 by omega) ▸ hu.out))
              have hkx : ¬ ((k : Int) + 1 < (s.ic.n : Int)) := by omega
              clear hu hn' hk hlt
              obtain ⟨b0, o0, e0, hb0, x0, _⟩ := (HP0.out.later HI.out) (s.th.n - 1) (by omega)
              obtain ⟨b1, o1, e1, hb1, x1, _⟩ := (HP1.out.later HI.out) (s.wa.n - 1) (by omega)
              obtain ⟨b2, o2, e2, hb2, x2, _⟩ := (HP2.out.later HI.out) (s.ic.n - 1) (by omega)
              obtain ⟨b3, o3, e3, hb3, _, y3⟩ := (HP2.out.later HI.out) 0 (by omega)
              obtain ⟨rfl, rfl⟩ : _ = b0 ∧ _ = o0 := by simpa using e0
              obtain ⟨rfl, rfl⟩ : _ = b1 ∧ _ = o1 := by simpa using e1
              obtain ⟨rfl, rfl⟩ : _ = b2 ∧ _ = o2 := by simpa using e2
              obtain ⟨rfl, rfl⟩ : _ = b3 ∧ _ = o3 := by simpa using e3
              clear e0 e1 e2 e3
              simp only [Nat.zero_mul, Nat.add_zero] at y3
              have m0 : (s.th.n : Int) - 1 = ((s.th.n - 1 : Nat) : Int) := by omega
              have m1 : (s.wa.n : Int) - 1 = ((s.wa.n - 1 : Nat) : Int) := by omega
              have m2 : (s.ic.n : Int) - 1 = ((s.ic.n - 1 : Nat) : Int) := by omega
              have l0 : ((s.th.n - 1 : Nat) : Int) < s.th.n := by omega
              have l1 : ((s.wa.n - 1 : Nat) : Int) < s.wa.n := by omega
              have l2 : ((s.ic.n - 1 : Nat) : Int) < s.ic.n := by omega
              have l3 : (0 : Int) < s.ic.n := by omega
              go_wp2_with fail

              obtain ⟨HB6, HK6⟩ : Hid (Below w.heap.size w wr) ∧ Hid (wr.heap[w.heap.size]? = some (.cells #[.int .i64 s.cls, .int .i64 s.pow, .int .i64 s.dra, .int .i64 s.ton, .slice (some ⟨ba, oa, none⟩) s.th.n ct, .slice (some ⟨bb, ob, none⟩) s.wa.n cw, .slice (some ⟨bc, oc, none⟩) s.ic.n ci, .int .i64 s.slow, .int .i64 s.brash, .int .i64 s.ridge, .int .i64 s.press] 36 (0, 0))) := ⟨HI, HK⟩
              clear HI HK
              by_cases ht : 10 ≤ s.th.x (s.th.n - 1) ∧ s.th.x (s.th.n - 1) ≤ 250
              · by_cases hw : s.wa.x (s.wa.n - 1) ≤ 250
                · by_cases hy : s.ic.y 0 = 0
                  · by_cases hx : s.ic.x (s.ic.n - 1) = 400
                    · have HE := Lib.hid (show chkP s = 0 by
                        unfold chkP okHull
                        rw [if_pos HG.out.cls, decide_eq_true HG.out.pow, decide_eq_true HG.out.dra, decide_eq_true HG.out.ton, HO0.out, HD0.out, decide_eq_true (show 10 ≤ lastXP s.th ∧ lastXP s.th ≤ 250 from ht), HO1.out, HD1.out, decide_eq_true (show lastXP s.wa ≤ 250 from hw), HO2.out, HD2.out, decide_eq_true hy, decide_eq_true (show lastXP s.ic = 400 from hx), decide_eq_true HG.out.slow, decide_eq_true HG.out.brash, decide_eq_true HG.out.ridge, decide_eq_true HG.out.press]
                        rfl)
                      refine (rin_is _ 10 250 true (decide_eq_true ht) _).mono ?_
                      rintro e w' ⟨rfl, rfl⟩
                      go_wp2_with fail
                      go_ret
                      exact ⟨by rw [HE.out]; rfl, HB6.out⟩
                    · have HE := Lib.hid (HN.out (by unfold okHull; rw [decide_eq_false (show ¬ (lastXP s.ic = 400) from hx)]; simp))
                      have hx' : (s.ic.x (s.ic.n - 1) != 400) = true := by simpa using hx
                      refine (rin_is _ 10 250 true (decide_eq_true ht) _).mono ?_
                      rintro e w' ⟨rfl, rfl⟩
                      go_wp2_with fail
                      go_ret
                      exact ⟨by rw [HE.out]; rfl, HB6.out⟩
                  · have HE := Lib.hid (HN.out (by unfold okHull; rw [decide_eq_false (show ¬ (s.ic.y 0 = 0) from hy)]; simp))
                    have hy' : (s.ic.y 0 != 0) = true := by simpa using hy
                    refine (rin_is _ 10 250 true (decide_eq_true ht) _).mono ?_
                    rintro e w' ⟨rfl, rfl⟩
                    go_wp2_with fail
                    go_ret
                    exact ⟨by rw [HE.out]; rfl, HB6.out⟩
                · have HE := Lib.hid (HN.out (by unfold okHull; rw [decide_eq_false (show ¬ (lastXP s.wa ≤ 250) from hw)]; simp))
                  have hw' : 250 < s.wa.x (s.wa.n - 1) := by omega
                  clear hw
                  refine (rin_is _ 10 250 true (decide_eq_true ht) _).mono ?_
                  rintro e w' ⟨rfl, rfl⟩
                  go_wp2_with fail
                  go_ret
                  exact ⟨by rw [HE.out]; rfl, HB6.out⟩
              · have HE := Lib.hid (HN.out (by unfold okHull; rw [decide_eq_false (show ¬ (10 ≤ lastXP s.th ∧ lastXP s.th ≤ 250) from ht)]; simp))
                refine (rin_is _ 10 250 false (decide_eq_false ht) _).mono ?_
                rintro e w' ⟨rfl, rfl⟩
                go_wp2_with fail
                go_ret
                exact ⟨by rw [HE.out]; rfl, HB6.out⟩
theorem rCheck_any (s : Sh) (m : Mem3) (w : World) (hs : ShipIn w s m) : Calls Tryz.prog 95 #[.agg (shipA s m)] w fun e w' => e = .returned (.int .i64 (chkP s)) ∧ Below w.heap.size w w' := by
  by_cases h : Eight s
  · by_cases hc : okCv s.th = true ∧ okCv s.wa = true ∧ okCv s.ic = true
    · exact rCheck_rest s m w h hs hc.1 hc.2.1 hc.2.2
    · exact rCheck_curves s m w h hs hc
  · exact rCheck_nums s m w h
end Go.Proofs.YtcoiklolgilhaaaGreatDoor
namespace Go.Proofs.YtcoiklolgilhaaaGreatDoor
open Go.RowKit
set_option maxRecDepth 100000
theorem rf_thr {s : Sh} (g : IsCv s.th) {v : Int} (hv : 0 ≤ v) : (rfP s.th v).1 / (rfP s.th v).2 = thrP s v := by
  obtain ⟨e, hd, _, _, _⟩ := rf_eq g hv
  have bd := (valP_at g hv).bd g
  exact Int.le_antisymm (ediv_le_fr hd bd.2.2.1 e.le) (ediv_le_fr bd.2.2.1 hd e.ge)
theorem rthrust_any (s : Sh) (m : Mem3) (g : IsCv s.th) (v : Int) (hv : 0 ≤ v) (hv' : v ≤ 1000) (w : World) (h : ShipIn w s m) :
    Calls Tryz.prog 134 #[.agg (shipA s m), .int .i64 v] w fun e w' => e = .returned (.int .i64 (thrP s v)) ∧ Below w.heap.size w w' := by
  have hb0 := (Below.refl w.heap.size w).alloc (Nat.le_refl _) (.cells (shipA s m) 36)
  have HB0 := Lib.hid hb0
  have HV := Lib.hid (fraction_any m.pt s.th.n m.ct s.th rfl g v hv hv' h.ct _ (h.t.later hb0))
  obtain ⟨_, l2, l0, l1, l3⟩ := rf_eq g hv
  have HT := Lib.hid (rf_thr g hv)
  clear h hb0
  generalize (rfP s.th v).1 = N at *
  generalize (rfP s.th v).2 = D at *
  have hq0 := Int.ediv_nonneg l0 (Int.le_of_lt l2)
  have hq1 := Int.ediv_le_self D l0
  have hD : D ≠ 0 := by omega
  have hwr : wrap64 (N.tdiv D) = N / D := by
    rw [Int.tdiv_eq_ediv_of_nonneg l0]
    exact w64 _ (by omega)
  go_enter Tryz.func134, Tryz.ntmps134
  go_wp2_with fail
  refine HV.out.mono ?_
  rintro e W1 ⟨rfl, hb1⟩
  have HB1 := Lib.hid (HB0.out.trans (hb1.mono HB0.out.size))
  clear hb1
  go_wp2_with fail
  go_ret
  exact ⟨by rw [← HT.out]; simp, HB1.out⟩
end Go.Proofs.YtcoiklolgilhaaaGreatDoor
namespace Go.Proofs.YtcoiklolgilhaaaGreatDoor
open Go.RowKit
set_option maxRecDepth 100000
/-- what the reference's Thrust answers -/
def rThrustRes (s : Sh) (v : Int) : Value := if chkP s = 0 then (if 0 ≤ v ∧ v ≤ 250 then .tuple #[.int .i64 (thrP s v), .int .i64 0] else .tuple #[.int .i64 0, .int .i64 6]) else .tuple #[.int .i64 0, .int .i64 (chkP s)]
set_option maxHeartbeats 1000000 in
theorem rThrust_any (s : Sh) (m : Mem3) (v : Int) (w : World) (h : ShipIn w s m) :
    Calls Tryz.prog 109 #[.agg (shipA s m), .int .i64 v] w fun e w' => e = .returned (rThrustRes s v) ∧ Below w.heap.size w w' := by
  have HS := Lib.hid h
  obtain ⟨t0, hz, hbl⟩ := one_alloc w (.cells (shipA s m) 36)
  have HB0 := Lib.hid hbl
  have HK0 := Lib.hid t0
  have HC1 := Lib.hid (rCheck_any s m (w.alloc (.cells (shipA s m) 36)) (h.later hbl))
  obtain ⟨c0, c1, c2, c3, c4, c5, c6, c7, c8, c9, c10⟩ := cells11 t0
  clear t0 hbl h
  by_cases hE : chkP s = 0
  · have g := Lib.hid (good_of hE)
    rw [hE] at HC1
    by_cases hr : 0 ≤ v ∧ v ≤ 250
    · have HW := Lib.hid (rin_is v 0 250 true (decide_eq_true hr))
      have HR := Lib.hid (show rThrustRes s v = .tuple #[.int .i64 (thrP s v), .int .i64 0] by unfold rThrustRes; rw [if_pos hE, if_pos hr])
      have HT := Lib.hid (fun W hW => rthrust_any s m g.out.th v hr.1 (by omega) W hW)
      clear hE hr
      go_enter Tryz.func109, Tryz.ntmps109
      go_wp2_with fail
      refine HC1.out.mono ?_
      rintro e W1 ⟨rfl, hb1⟩
      have HB1 := Lib.hid (HB0.out.trans (hb1.mono HB0.out.size))
      have K0 := Lib.hid ((hb1.block w.heap.size (by simp)).trans HK0.out)
      clear hb1 c0 c1 c2 c3 c4 c5 c6 c7 c8 c9 c10
      obtain ⟨c0, c1, c2, c3, c4, c5, c6, c7, c8, c9, c10⟩ := cells11 K0.out
      go_wp2_with fail
      refine (HW.out _).mono ?_
      rintro e w' ⟨rfl, rfl⟩
      go_wp2_with fail
      refine (HT.out _ (HS.out.later HB1.out)).mono ?_
      rintro e W2 ⟨rfl, hb2⟩
      go_wp2_with fail
      refine bodyPost_ret (v := .tuple #[.int .i64 (thrP s v), .int .i64 0]) (by simp [results, Tryz.results109, go_sem]) rfl ⟨by rw [HR.out], HB1.out.trans (hb2.mono HB1.out.size)⟩
    · have HW := Lib.hid (rin_is v 0 250 false (decide_eq_false hr))
      have HR := Lib.hid (show rThrustRes s v = .tuple #[.int .i64 0, .int .i64 6] by unfold rThrustRes; rw [if_pos hE, if_neg hr])
      clear hE hr
      go_enter Tryz.func109, Tryz.ntmps109
      go_wp2_with fail
      refine HC1.out.mono ?_
      rintro e W1 ⟨rfl, hb1⟩
      have HB1 := Lib.hid (HB0.out.trans (hb1.mono HB0.out.size))
      go_wp2_with fail
      refine (HW.out _).mono ?_
      rintro e w' ⟨rfl, rfl⟩
      go_wp2_with fail
      refine bodyPost_ret (v := .tuple #[.int .i64 0, .int .i64 6]) (by simp [results, Tryz.results109, go_sem]) rfl ⟨by rw [HR.out], HB1.out⟩
  · have HR := Lib.hid (show rThrustRes s v = .tuple #[.int .i64 0, .int .i64 (chkP s)] by unfold rThrustRes; rw [if_neg hE])
    have hE' : (chkP s != 0) = true := by simpa using hE
    go_enter Tryz.func109, Tryz.ntmps109
    go_wp2_with fail
    refine HC1.out.mono ?_
    rintro e W1 ⟨rfl, hb1⟩
    have HB1 := Lib.hid (HB0.out.trans (hb1.mono HB0.out.size))
    go_wp2_with fail
    refine bodyPost_ret (v := .tuple #[.int .i64 0, .int .i64 (chkP s)]) (by simp [results, Tryz.results109, go_sem]) rfl ⟨by rw [HR.out], HB1.out⟩
end Go.Proofs.YtcoiklolgilhaaaGreatDoor
namespace Go.Proofs.YtcoiklolgilhaaaGreatDoor
open Go.RowKit
set_option maxRecDepth 100000
theorem rThrust_eq (s : Sh) (v : Int) : rThrustRes s v = ThrustRes s v := by
  unfold rThrustRes ThrustRes orL errS
  by_cases h : chkP s = 0
  · by_cases hv : 0 ≤ v ∧ v ≤ 250
    · simp [h, hv]
    · simp [h, hv]
  · simp [h]
set_option maxHeartbeats 2000000 in
theorem sameShip_any (s : Sh) (m m' : Mem3) (w : World) (h : ShipIn w s m) (h' : ShipIn w s m') :
    Calls Tryz.prog 31 #[.agg (shipA s m), .agg (shipA s m')] w fun e w' => e = .returned (.bool true) ∧ Below w.heap.size w w' := by
  obtain ⟨t1, t2, tz, tb⟩ := two_allocs w (.cells (shipA s m) 24) (.cells (shipA s m') 24)
  have HB0 := Lib.hid tb
  have HA0 := Lib.hid t1
  have HK0 := Lib.hid t2
  have HS := Lib.hid h
  have HS' := Lib.hid h'
  have HT := Lib.hid (fun W (hW : Below w.heap.size w W) => Equal_same m.pt m'.pt s.th.n m.ct m'.ct s.th rfl HS.out.nt W (HS.out.t.later hW) (HS'.out.t.later hW))
  have HW := Lib.hid (fun W (hW : Below w.heap.size w W) => Equal_same m.pw m'.pw s.wa.n m.cw m'.cw s.wa rfl HS.out.nw W (HS.out.w.later hW) (HS'.out.w.later hW))
  have HI := Lib.hid (fun W (hW : Below w.heap.size w W) => Equal_same m.pi m'.pi s.ic.n m.ci m'.ci s.ic rfl HS.out.ni W (HS.out.i.later hW) (HS'.out.i.later hW))
  have hz1 : w.heap.size < ((w.alloc (.cells (shipA s m) 24)).alloc (.cells (shipA s m') 24)).heap.size := by omega
  have hz2 : w.heap.size + 1 < ((w.alloc (.cells (shipA s m) 24)).alloc (.cells (shipA s m') 24)).heap.size := by omega
  obtain ⟨a0, a1, a2, a3, a4, a5, a6, a7, a8, a9, a10⟩ := cells11 t1
  obtain ⟨c0, c1, c2, c3, c4, c5, c6, c7, c8, c9, c10⟩ := cells11 t2
  clear t1 t2 tb tz h h'
  go_enter Tryz.func31, Tryz.ntmps31
  go_wp2_with fail
  generalize (w.alloc (.cells (shipA s m) 24)).alloc (.cells (shipA s m') 24) = X at *
  clear a0 a1 a2 a3 a4 a5 a6 a7 a8 a9 a10 c0 c1 c2 c3 c4 c5 c6 c7 c8 c9 c10
  refine (HT.out _ HB0.out).mono ?_
  rintro e W1 ⟨rfl, hb⟩
  have HB1 := Lib.hid (HB0.out.trans (hb.mono HB0.out.size))
  have HA1 := Lib.hid ((hb.block _ hz1).trans HA0.out)
  have HK1 := Lib.hid ((hb.block _ hz2).trans HK0.out)
  have y1 := lt_of_block HA1.out
  have y2 := lt_of_block HK1.out
  clear hb hz1 hz2
  obtain ⟨a0, a1, a2, a3, a4, a5, a6, a7, a8, a9, a10⟩ := cells11 HA1.out
  obtain ⟨c0, c1, c2, c3, c4, c5, c6, c7, c8, c9, c10⟩ := cells11 HK1.out
  go_wp2_with fail
  clear a0 a1 a2 a3 a4 a5 a6 a7 a8 a9 a10 c0 c1 c2 c3 c4 c5 c6 c7 c8 c9 c10
  refine (HW.out _ HB1.out).mono ?_
  rintro e W2 ⟨rfl, hb⟩
  have HB2 := Lib.hid (HB1.out.trans (hb.mono HB1.out.size))
  have HA2 := Lib.hid ((hb.block _ y1).trans HA1.out)
  have HK2 := Lib.hid ((hb.block _ y2).trans HK1.out)
  have z1 := lt_of_block HA2.out
  have z2 := lt_of_block HK2.out
  clear hb y1 y2
  obtain ⟨a0, a1, a2, a3, a4, a5, a6, a7, a8, a9, a10⟩ := cells11 HA2.out
  obtain ⟨c0, c1, c2, c3, c4, c5, c6, c7, c8, c9, c10⟩ := cells11 HK2.out
  go_wp2_with fail
  clear a0 a1 a2 a3 a4 a5 a6 a7 a8 a9 a10 c0 c1 c2 c3 c4 c5 c6 c7 c8 c9 c10
  refine (HI.out _ HB2.out).mono ?_
  rintro e W3 ⟨rfl, hb⟩
  have HB3 := Lib.hid (HB2.out.trans (hb.mono HB2.out.size))
  have HA3 := Lib.hid ((hb.block _ z1).trans HA2.out)
  have HK3 := Lib.hid ((hb.block _ z2).trans HK2.out)
  clear hb z1 z2
  obtain ⟨a0, a1, a2, a3, a4, a5, a6, a7, a8, a9, a10⟩ := cells11 HA3.out
  obtain ⟨c0, c1, c2, c3, c4, c5, c6, c7, c8, c9, c10⟩ := cells11 HK3.out
  go_wp2_with fail
  go_ret
  exact ⟨by simp, HB3.out⟩
end Go.Proofs.YtcoiklolgilhaaaGreatDoor
namespace Go.Proofs.YtcoiklolgilhaaaGreatDoor
open Go.RowKit
set_option maxRecDepth 100000
theorem pts_of_ptsL {W : World} {p : Option Addr} {c : Cv} (h : Pts W p (cvOf (ptsL c))) : Pts W p c := fun i hi => by
  obtain ⟨b, o, e, hb, h1, h2⟩ := h i (by show i < (ptsL c).length; rw [ptsL_len]; exact hi)
  exact ⟨b, o, e, hb, by rw [h1, (ptsL_get c hi).1], by rw [h2, (ptsL_get c hi).2]⟩
set_option maxHeartbeats 2000000 in
theorem Clone_in (p : Option Addr) (n cap : Nat) (c : Cv) (hc : c.n = n) (h8 : n ≤ 1000) (w : World) (hP : Pts w p c) :
    Calls Tryz.prog 64 #[.slice p n cap] w fun e w' => ∃ p' cap', e = .returned (.slice p' n cap') ∧ n ≤ cap' ∧ Pts w' p' c ∧ (∀ a, p' = some a → w.heap.size ≤ a.block) ∧ Below w.heap.size w w' := by
  by_cases hn : n = 0
  · have hv : ∀ W q, Pts W q c := fun W q i hi => by omega
    have HV := Lib.hid hv
    clear hv
    cases p with
    | none =>
      have q22 : ∀ W, (binOp .eql 22 (.slice none n cap) (.slice none 0 0)).run Tryz.prog W = .ok (.bool true) W := fun W => (Lib.run_eql_slice_nil W _ _ none n cap 0 0 und22).trans rfl
      subst hn
      clear hP hc
      go_enter Tryz.func64, Tryz.ntmps64
      go_wp2_with fail
      go_ret
      exact ⟨_, _, rfl, Nat.le_refl _, HV.out _ _, (fun a e => by cases e), Below.refl _ _⟩
    | some ad =>
      obtain ⟨i0, hi, hz0, hz1, hz2⟩ := info_parts info30
      have q22 : ∀ W, (binOp .eql 22 (.slice (some ad) n cap) (.slice none 0 0)).run Tryz.prog W = .ok (.bool false) W := fun W => (Lib.run_eql_slice_nil W _ _ (some ad) n cap 0 0 und22).trans rfl
      subst hn
      clear hP hc
      go_enter Tryz.func64, Tryz.ntmps64
      go_wp2_with (at_builtin; refine Hid.out ?_)
      refine Lib.hid ?_
      refine wpList_append_own _ rfl (.tmp 5) (.tmp 6) 22 rfl w.heap.size 89 i0 (.agg #[.int .i64 0, .int .i64 0]) 2 16 und22 hi hz0 hz1 hz2 rfl (by decide) _ 0 [] rfl (World.ownsRow_made w #[] 0 (Nat.le_refl _) (Nat.zero_le _) rfl) ad 0 cap [] rfl rfl (by intro j u hj; simp at hj) (by simp) (by unfold maxLen; omega) (by omega) (by simp) ?_
      intro v' w1 hown hgrow hnil
      have hfin := ((Below.refl _ w).alloc (Nat.le_refl _) (.cells #[] 89)).grown hgrow (by simp) (by intro k hk; have hk' := Option.some.inj ((show some w.heap.size = some k from hk)); omega)
      have hr : PRow w1 w.heap.size v' [] := by simpa [PRow, flatP] using hown
      obtain ⟨q, c2, e0⟩ := prow_shape hr
      subst e0
      have hcap := prow_cap hr
      have hnew : ∀ a, q = some a → w.heap.size ≤ a.block := fun a e => pown_base hr a.block (by rw [e]; rfl)
      clear hown hgrow hnil
      go_wp2_with fail
      go_ret
      exact ⟨_, _, rfl, Nat.zero_le _, HV.out _ _, hnew, hfin⟩
  · refine (Clone_any p n cap c hc (by omega) h8 w hP).mono ?_
    rintro e w' ⟨v', rfl, hr, _, hb⟩
    obtain ⟨q, c2, e0⟩ := prow_shape hr
    subst e0
    have hcap := prow_cap hr
    rw [ptsL_len] at hcap
    refine ⟨q, c2, by rw [ptsL_len, hc], by omega, pts_of_ptsL hr.pts, fun a e => pown_base hr a.block (by rw [e]; rfl), hb⟩
end Go.Proofs.YtcoiklolgilhaaaGreatDoor
