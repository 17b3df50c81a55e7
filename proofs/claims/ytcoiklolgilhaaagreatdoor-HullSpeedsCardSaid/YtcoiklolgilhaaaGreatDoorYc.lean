/- The contracts of the reference's Resistance, Makes, Speed, Load: for any ship, any ice, any speed. The contracts of the reference's load, Load, strength, span, cell, met. The contracts of the reference's span, cell, met. The contract of the reference's Corners: 16 ices of the cell, the first one its least, the last one its greatest. The contracts of the reference's Speeds and Beset. The contract of the reference's Beset. The contract of the reference's Beyond. A lemma of the model: a region that draws its order and whose guards are known ahead, met or not (an operation that is skipped yields undef). The contract of the reference's safe. The contract of the reference's safe. The contract of the reference's Safe. Bounds of what a ship burns. The contract of the reference's Burn. What is known while region 3 of HullSpeeds runs (two ships made, four variables laid). The operations of region 3 of HullSpeeds. The reference's ship made of a ship: its points are fresh. The law HullSpeeds behind its arguments. The openings of an ice and of a cell, for the CARD of HullSpeeds. -/
import Derived.Test.YtcoiklolgilhaaaGreatDoorXh
import Derived.Test.YtcoiklolgilhaaaGreatDoorPw
import Derived.Test.YtcoiklolgilhaaaGreatDoorRi
import Derived.Test.YtcoiklolgilhaaaGreatDoorQd
namespace Go.Proofs.YtcoiklolgilhaaaGreatDoor
open Go.RowKit
set_option maxRecDepth 100000
def wholeB (i : Ic) : Bool := decide (0 ≤ i.conc ∧ i.conc ≤ 100) && decide (0 ≤ i.thick ∧ i.thick ≤ 400) && decide (0 ≤ i.ridge ∧ i.ridge ≤ 100) && decide (0 ≤ i.press ∧ i.press ≤ 3)
theorem wholeB_good {i : Ic} (h : wholeB i = true) : GoodI i := by
  simp only [wholeB, Bool.and_eq_true, decide_eq_true_eq] at h
  exact ⟨h.1.1.1, h.1.1.2, h.1.2, h.2⟩
theorem good_wholeB {i : Ic} (g : GoodI i) : wholeB i = true := by
  simp only [wholeB, Bool.and_eq_true, decide_eq_true_eq]
  exact ⟨⟨⟨g.conc, g.thick⟩, g.ridge⟩, g.press⟩
theorem iceE_whole (i : Ic) : iceE i = if wholeB i = true then 0 else 20 := by
  by_cases h : wholeB i = true
  · rw [if_pos h]
    exact iceE_of (wholeB_good h)
  · rw [if_neg h]
    unfold iceE errB
    split
    · rename_i hk
      exact absurd (good_wholeB (iceE_ok (show iceE i = 0 by unfold iceE errB; rw [if_pos hk]))) h
    · rfl
set_option maxHeartbeats 2000000 in
theorem rwhole_any (i : Ic) (w : World) : Calls Tryz.prog 78 #[.agg (iceV i)] w fun e w' => e = .returned (.bool (wholeB i)) ∧ Below w.heap.size w w' := by
  obtain ⟨t0, hz, hbl⟩ := one_alloc w (.cells (iceV i) 38)
  have HB := Lib.hid hbl
  obtain ⟨⟨d0, d1, d2, d3⟩, _⟩ := cells4 t0
  obtain ⟨b0, h0⟩ : ∃ b, decide (0 ≤ i.conc ∧ i.conc ≤ 100) = b := ⟨_, rfl⟩
  obtain ⟨b1, h1⟩ : ∃ b, decide (0 ≤ i.thick ∧ i.thick ≤ 400) = b := ⟨_, rfl⟩
  obtain ⟨b2, h2⟩ : ∃ b, decide (0 ≤ i.ridge ∧ i.ridge ≤ 100) = b := ⟨_, rfl⟩
  obtain ⟨b3, h3⟩ : ∃ b, decide (0 ≤ i.press ∧ i.press ≤ 3) = b := ⟨_, rfl⟩
  have HE := Lib.hid (show wholeB i = (b0 && b1 && b2 && b3) by unfold wholeB; rw [h0, h1, h2, h3])
  have HW0 := Lib.hid (rin_is _ _ _ b0 h0)
  have HW1 := Lib.hid (rin_is _ _ _ b1 h1)
  have HW2 := Lib.hid (rin_is _ _ _ b2 h2)
  have HW3 := Lib.hid (rin_is _ _ _ b3 h3)
  clear t0 hbl h0 h1 h2 h3
  go_enter Tryz.func78, Tryz.ntmps78
  go_wp2_with fail
  refine (HW0.out _).mono ?_
  rintro e w' ⟨rfl, rfl⟩
  cases b0 with
  | false =>
    go_wp2_with fail
    go_ret
    exact ⟨by rw [HE.out]; rfl, HB.out⟩
  | true =>
    go_wp2_with fail
    refine (HW1.out _).mono ?_
    rintro e w' ⟨rfl, rfl⟩
    cases b1 with
    | false =>
      go_wp2_with fail
      go_ret
      exact ⟨by rw [HE.out]; rfl, HB.out⟩
    | true =>
      go_wp2_with fail
      refine (HW2.out _).mono ?_
      rintro e w' ⟨rfl, rfl⟩
      cases b2 with
      | false =>
        go_wp2_with fail
        go_ret
        exact ⟨by rw [HE.out]; rfl, HB.out⟩
      | true =>
        go_wp2_with fail
        refine (HW3.out _).mono ?_
        rintro e w' ⟨rfl, rfl⟩
        go_wp2_with fail
        go_ret
        exact ⟨by rw [HE.out]; simp, HB.out⟩
theorem orL3 {a b c : Int} : orL [a, b, c] = if a = 0 then (if b = 0 then c else b) else a := by
  unfold orL
  by_cases h : a = 0
  · by_cases h' : b = 0
    · by_cases h'' : c = 0 <;> simp [h, h', h'']
    · simp [h, h']
  · simp [h]
set_option maxHeartbeats 2000000 in
theorem rasked_any (s : Sh) (m : Mem3) (i : Ic) (v : Int) (w : World) (h : ShipIn w s m) :
    Calls Tryz.prog 71 #[.agg (shipA s m), .agg (iceV i), .int .i64 v] w fun e w' => e = .returned (.int .i64 (orL [chkP s, iceE i, errS v])) ∧ Below w.heap.size w w' := by
  by_cases hw : wholeB i = true
  · refine (rasked_ok s m i (wholeB_good hw) v w h).mono ?_
    rintro e w' ⟨rfl, hb⟩
    refine ⟨?_, hb⟩
    rw [askE_or, orL3, iceE_whole, if_pos hw]
    by_cases hc : chkP s = 0
    · rw [if_pos hc, if_pos rfl, hc]
      by_cases hv : errS v = 0 <;> simp [orL, hv]
    · rw [if_neg hc]
      simp [orL, hc]
  · obtain ⟨t0, t1, hz, hbl⟩ := two_allocs w (.cells (shipA s m) 36) (.cells (iceV i) 38)
    have HB := Lib.hid hbl
    have HK4 := Lib.hid t0
    have HK5 := Lib.hid t1
    have HS := Lib.hid (h.later hbl)
    have HW := Lib.hid (show wholeB i = false by simpa using hw)
    have HE := Lib.hid (show orL [chkP s, iceE i, errS v] = if chkP s = 0 then 20 else chkP s by rw [orL3, iceE_whole, if_neg hw]; simp)
    clear t0 t1 hbl h hw
    obtain ⟨c0, c1, c2, c3, c4, c5, c6, c7, c8, c9, c10⟩ := cells11 HK4.out
    obtain ⟨⟨d0, d1, d2, d3⟩, _⟩ := cells4 HK5.out
    go_enter Tryz.func71, Tryz.ntmps71
    go_wp2_with fail
    refine (rCheck_any s m _ HS.out).mono ?_
    rintro e V1 ⟨rfl, hb⟩
    clear c0 c1 c2 c3 c4 c5 c6 c7 c8 c9 c10 d0 d1 d2 d3
    replace HK5 := Lib.hid ((hb.block _ (lt_of_block HK5.out)).trans HK5.out)
    replace HB := Lib.hid (HB.out.trans (hb.mono HB.out.size))
    clear hb HS HK4
    obtain ⟨⟨d0, d1, d2, d3⟩, _⟩ := cells4 HK5.out
    by_cases hc : chkP s = 0
    · have HE2 := Lib.hid (HE.out.trans (if_pos hc))
      rw [hc]
      clear hc
      go_wp2_with fail
      refine (rwhole_any i _).mono ?_
      rw [HW.out]
      rintro e V2 ⟨rfl, hb⟩
      replace HB := Lib.hid (HB.out.trans (hb.mono HB.out.size))
      clear hb d0 d1 d2 d3
      go_wp2_with fail
      go_ret
      exact ⟨by rw [HE2.out]; rfl, HB.out⟩
    · have HE2 := Lib.hid (HE.out.trans (if_neg hc))
      have hc' : (chkP s != 0) = true := by simpa using hc
      go_wp2_with fail
      go_ret
      exact ⟨by rw [HE2.out]; rfl, HB.out⟩
set_option maxHeartbeats 2000000 in
theorem rResistance_any (s : Sh) (m : Mem3) (i : Ic) (v : Int) (ch : Bool) (w : World) (h : ShipIn w s m) :
    Calls Tryz.prog 14 #[.agg (shipA s m), .agg (iceV i), .int .i64 v, .bool ch] w fun e w' => e = .returned (ResistanceRes s i v ch) ∧ Below w.heap.size w w' := by
  obtain ⟨t0, t1, hz, hbl⟩ := two_allocs w (.cells (shipA s m) 36) (.cells (iceV i) 38)
  have HB := Lib.hid hbl
  have HK4 := Lib.hid t0
  have HK5 := Lib.hid t1
  have HS := Lib.hid (h.later hbl)
  clear t0 t1 hbl h
  obtain ⟨c0, c1, c2, c3, c4, c5, c6, c7, c8, c9, c10⟩ := cells11 HK4.out
  obtain ⟨⟨d0, d1, d2, d3⟩, _⟩ := cells4 HK5.out
  by_cases hE : orL [chkP s, iceE i, errS v] = 0
  · have hE3 : orL [chkP s, iceE i, errS v] = 0 := hE
    have HR := Lib.hid (show ResistanceRes s i v ch = _ from by unfold ResistanceRes; exact if_pos hE)
    obtain ⟨o1, o2⟩ := orL1 hE3
    obtain ⟨o2, o3⟩ := orL1 o2
    have o3' := (orL1 o3).1
    have g := good_of o1
    have gi := iceE_ok o2
    have hv : 0 ≤ (v : Int) ∧ (v : Int) ≤ 250 := by
      unfold errS at o3'
      by_cases h : 0 ≤ (v : Int) ∧ (v : Int) ≤ 250
      · exact h
      · rw [if_neg h] at o3'; cases o3'
    have HC := Lib.hid (fun (W : World) (hW : ShipIn W s m) => rresistance_any s m i ch g gi v hv.1 hv.2 W hW)
    have HA := Lib.hid (by have := rasked_any s m i v _ HS.out; rw [hE3] at this; exact this)
    clear hE hE3 o1 o2 o3 o3' g gi hv
    go_enter Tryz.func14, Tryz.ntmps14
    go_wp2_with fail
    refine HA.out.mono ?_
    rintro e V1 ⟨rfl, hb⟩
    clear c0 c1 c2 c3 c4 c5 c6 c7 c8 c9 c10 d0 d1 d2 d3 HA
    replace HK4 := Lib.hid ((hb.block _ (lt_of_block HK4.out)).trans HK4.out)
    replace HK5 := Lib.hid ((hb.block _ (lt_of_block HK5.out)).trans HK5.out)
    replace HS := Lib.hid (HS.out.later hb)
    replace HB := Lib.hid (HB.out.trans (hb.mono HB.out.size))
    clear hb
    obtain ⟨c0, c1, c2, c3, c4, c5, c6, c7, c8, c9, c10⟩ := cells11 HK4.out
    obtain ⟨⟨d0, d1, d2, d3⟩, _⟩ := cells4 HK5.out
    go_wp2_with fail
    refine (HC.out _ HS.out).mono ?_
    rintro e V2 ⟨rfl, hb⟩
    replace HB := Lib.hid (HB.out.trans (hb.mono HB.out.size))
    clear hb c0 c1 c2 c3 c4 c5 c6 c7 c8 c9 c10 d0 d1 d2 d3
    go_wp2_with fail
    go_ret2
    exact ⟨by rw [HR.out]; rfl, HB.out⟩
  · have HR := Lib.hid (show ResistanceRes s i v ch = _ from by unfold ResistanceRes; exact if_neg hE)
    have HA := Lib.hid (rasked_any s m i v _ HS.out)
    have hx : orL [chkP s, iceE i, errS v] = orL [chkP s, iceE i, errS v] := rfl
    rw [hx] at HA
    clear hx
    generalize orL [chkP s, iceE i, errS v] = E at *
    have hc' : (E != 0) = true := by simpa using hE
    go_enter Tryz.func14, Tryz.ntmps14
    go_wp2_with fail
    refine HA.out.mono ?_
    rintro e V1 ⟨rfl, hb⟩
    replace HB := Lib.hid (HB.out.trans (hb.mono HB.out.size))
    clear hb c0 c1 c2 c3 c4 c5 c6 c7 c8 c9 c10 d0 d1 d2 d3 HA
    go_wp2_with fail
    go_ret2
    exact ⟨by rw [HR.out]; rfl, HB.out⟩
set_option maxHeartbeats 2000000 in
theorem rMakes_any (s : Sh) (m : Mem3) (i : Ic) (v : Int) (ch : Bool) (w : World) (h : ShipIn w s m) :
    Calls Tryz.prog 16 #[.agg (shipA s m), .agg (iceV i), .int .i64 v, .bool ch] w fun e w' => e = .returned (MakesRes s i v ch) ∧ Below w.heap.size w w' := by
  obtain ⟨t0, t1, hz, hbl⟩ := two_allocs w (.cells (shipA s m) 36) (.cells (iceV i) 38)
  have HB := Lib.hid hbl
  have HK4 := Lib.hid t0
  have HK5 := Lib.hid t1
  have HS := Lib.hid (h.later hbl)
  clear t0 t1 hbl h
  obtain ⟨c0, c1, c2, c3, c4, c5, c6, c7, c8, c9, c10⟩ := cells11 HK4.out
  obtain ⟨⟨d0, d1, d2, d3⟩, _⟩ := cells4 HK5.out
  by_cases hE : orL [chkP s, iceE i, errS v] = 0
  · have hE3 : orL [chkP s, iceE i, errS v] = 0 := hE
    have HR := Lib.hid (show MakesRes s i v ch = _ from by unfold MakesRes; exact if_pos hE)
    obtain ⟨o1, o2⟩ := orL1 hE3
    obtain ⟨o2, o3⟩ := orL1 o2
    have o3' := (orL1 o3).1
    have g := good_of o1
    have gi := iceE_ok o2
    have hv : 0 ≤ (v : Int) ∧ (v : Int) ≤ 250 := by
      unfold errS at o3'
      by_cases h : 0 ≤ (v : Int) ∧ (v : Int) ≤ 250
      · exact h
      · rw [if_neg h] at o3'; cases o3'
    have HC := Lib.hid (fun (W : World) (hW : ShipIn W s m) => rmakes_any s m i ch g gi v hv.1 hv.2 W hW)
    have HA := Lib.hid (by have := rasked_any s m i v _ HS.out; rw [hE3] at this; exact this)
    clear hE hE3 o1 o2 o3 o3' g gi hv
    go_enter Tryz.func16, Tryz.ntmps16
    go_wp2_with fail
    refine HA.out.mono ?_
    rintro e V1 ⟨rfl, hb⟩
    clear c0 c1 c2 c3 c4 c5 c6 c7 c8 c9 c10 d0 d1 d2 d3 HA
    replace HK4 := Lib.hid ((hb.block _ (lt_of_block HK4.out)).trans HK4.out)
    replace HK5 := Lib.hid ((hb.block _ (lt_of_block HK5.out)).trans HK5.out)
    replace HS := Lib.hid (HS.out.later hb)
    replace HB := Lib.hid (HB.out.trans (hb.mono HB.out.size))
    clear hb
    obtain ⟨c0, c1, c2, c3, c4, c5, c6, c7, c8, c9, c10⟩ := cells11 HK4.out
    obtain ⟨⟨d0, d1, d2, d3⟩, _⟩ := cells4 HK5.out
    go_wp2_with fail
    refine (HC.out _ HS.out).mono ?_
    rintro e V2 ⟨rfl, hb⟩
    replace HB := Lib.hid (HB.out.trans (hb.mono HB.out.size))
    clear hb c0 c1 c2 c3 c4 c5 c6 c7 c8 c9 c10 d0 d1 d2 d3
    go_wp2_with fail
    go_ret2
    exact ⟨by rw [HR.out]; rfl, HB.out⟩
  · have HR := Lib.hid (show MakesRes s i v ch = _ from by unfold MakesRes; exact if_neg hE)
    have HA := Lib.hid (rasked_any s m i v _ HS.out)
    have hx : orL [chkP s, iceE i, errS v] = orL [chkP s, iceE i, errS v] := rfl
    rw [hx] at HA
    clear hx
    generalize orL [chkP s, iceE i, errS v] = E at *
    have hc' : (E != 0) = true := by simpa using hE
    go_enter Tryz.func16, Tryz.ntmps16
    go_wp2_with fail
    refine HA.out.mono ?_
    rintro e V1 ⟨rfl, hb⟩
    replace HB := Lib.hid (HB.out.trans (hb.mono HB.out.size))
    clear hb c0 c1 c2 c3 c4 c5 c6 c7 c8 c9 c10 d0 d1 d2 d3 HA
    go_wp2_with fail
    go_ret2
    exact ⟨by rw [HR.out]; rfl, HB.out⟩
set_option maxHeartbeats 2000000 in
theorem rSpeed_any (s : Sh) (m : Mem3) (i : Ic) (ch : Bool) (w : World) (h : ShipIn w s m) :
    Calls Tryz.prog 18 #[.agg (shipA s m), .agg (iceV i), .bool ch] w fun e w' => e = .returned (SpeedRes s i ch) ∧ Below w.heap.size w w' := by
  obtain ⟨t0, t1, hz, hbl⟩ := two_allocs w (.cells (shipA s m) 36) (.cells (iceV i) 38)
  have HB := Lib.hid hbl
  have HK4 := Lib.hid t0
  have HK5 := Lib.hid t1
  have HS := Lib.hid (h.later hbl)
  clear t0 t1 hbl h
  obtain ⟨c0, c1, c2, c3, c4, c5, c6, c7, c8, c9, c10⟩ := cells11 HK4.out
  obtain ⟨⟨d0, d1, d2, d3⟩, _⟩ := cells4 HK5.out
  by_cases hE : orL [chkP s, iceE i] = 0
  · have hE3 : orL [chkP s, iceE i, errS 0] = 0 := (by obtain ⟨o1, o2⟩ := orL1 hE; obtain ⟨o2, _⟩ := orL1 o2; rw [orL3, if_pos o1, if_pos o2]; rfl)
    have HR := Lib.hid (show SpeedRes s i ch = _ from by unfold SpeedRes; exact if_pos hE)
    obtain ⟨o1, o2⟩ := orL1 hE3
    obtain ⟨o2, o3⟩ := orL1 o2
    have o3' := (orL1 o3).1
    have g := good_of o1
    have gi := iceE_ok o2
    have hv : 0 ≤ (0 : Int) ∧ (0 : Int) ≤ 250 := by
      unfold errS at o3'
      by_cases h : 0 ≤ (0 : Int) ∧ (0 : Int) ≤ 250
      · exact h
      · rw [if_neg h] at o3'; cases o3'
    have HC := Lib.hid (fun (W : World) (hW : ShipIn W s m) => rspeed_any s m i ch g gi W hW)
    have HA := Lib.hid (by have := rasked_any s m i 0 _ HS.out; rw [hE3] at this; exact this)
    clear hE hE3 o1 o2 o3 o3' g gi hv
    go_enter Tryz.func18, Tryz.ntmps18
    go_wp2_with fail
    refine HA.out.mono ?_
    rintro e V1 ⟨rfl, hb⟩
    clear c0 c1 c2 c3 c4 c5 c6 c7 c8 c9 c10 d0 d1 d2 d3 HA
    replace HK4 := Lib.hid ((hb.block _ (lt_of_block HK4.out)).trans HK4.out)
    replace HK5 := Lib.hid ((hb.block _ (lt_of_block HK5.out)).trans HK5.out)
    replace HS := Lib.hid (HS.out.later hb)
    replace HB := Lib.hid (HB.out.trans (hb.mono HB.out.size))
    clear hb
    obtain ⟨c0, c1, c2, c3, c4, c5, c6, c7, c8, c9, c10⟩ := cells11 HK4.out
    obtain ⟨⟨d0, d1, d2, d3⟩, _⟩ := cells4 HK5.out
    go_wp2_with fail
    refine (HC.out _ HS.out).mono ?_
    rintro e V2 ⟨rfl, hb⟩
    replace HB := Lib.hid (HB.out.trans (hb.mono HB.out.size))
    clear hb c0 c1 c2 c3 c4 c5 c6 c7 c8 c9 c10 d0 d1 d2 d3
    go_wp2_with fail
    go_ret2
    exact ⟨by rw [HR.out]; rfl, HB.out⟩
  · have HR := Lib.hid (show SpeedRes s i ch = _ from by unfold SpeedRes; exact if_neg hE)
    have HA := Lib.hid (rasked_any s m i 0 _ HS.out)
    have hx : orL [chkP s, iceE i, errS 0] = orL [chkP s, iceE i] := (by rw [orL3]; unfold orL; by_cases h1 : chkP s = 0 <;> by_cases h2 : iceE i = 0 <;> simp [h1, h2, errS])
    rw [hx] at HA
    clear hx
    generalize orL [chkP s, iceE i] = E at *
    have hc' : (E != 0) = true := by simpa using hE
    go_enter Tryz.func18, Tryz.ntmps18
    go_wp2_with fail
    refine HA.out.mono ?_
    rintro e V1 ⟨rfl, hb⟩
    replace HB := Lib.hid (HB.out.trans (hb.mono HB.out.size))
    clear hb c0 c1 c2 c3 c4 c5 c6 c7 c8 c9 c10 d0 d1 d2 d3 HA
    go_wp2_with fail
    go_ret2
    exact ⟨by rw [HR.out]; rfl, HB.out⟩
end Go.Proofs.YtcoiklolgilhaaaGreatDoor
namespace Go.Proofs.YtcoiklolgilhaaaGreatDoor
open Go.RowKit
set_option maxRecDepth 100000
set_option maxHeartbeats 2000000 in
theorem rload_any (i : Ic) (gi : GoodI i) (v : Int) (hv : 0 ≤ v) (hv' : v ≤ 250) (ch : Bool) (w : World) : Calls Tryz.prog 80 #[.agg (iceV i), .int .i64 v, .bool ch] w fun e w' => e = .returned (.int .i64 (loadP i v ch)) ∧ Below w.heap.size w w' := by
  obtain ⟨t0, hz, hbl⟩ := one_alloc w (.cells (iceV i) 38)
  have HB := Lib.hid hbl
  obtain ⟨⟨d0, d1, d2, d3⟩, _⟩ := cells4 t0
  obtain ⟨q1, q2⟩ := gi.conc
  obtain ⟨q3, q4⟩ := gi.thick
  obtain ⟨q5, q6⟩ := gi.ridge
  obtain ⟨q7, q8⟩ := gi.press
  have m1 := Int.mul_le_mul q4 (show 100 + v ≤ 350 by omega) (by omega) (by omega)
  have m0 := Int.mul_nonneg q3 (show 0 ≤ 100 + v by omega)
  clear gi t0 hbl
  by_cases hc : i.conc = 0
  · have HE := Lib.hid (show loadP i v ch = 0 by unfold loadP; rw [if_pos hc])
    have hc' : (i.conc == 0) = true := by simp [hc]
    clear hc
    go_enter Tryz.func80, Tryz.ntmps80
    go_wp2_with fail
    go_ret
    exact ⟨by rw [HE.out]; rfl, HB.out⟩
  · have hc' : (i.conc == 0) = false := by simp [hc]
    cases ch with
    | false =>
      have HE := Lib.hid (show loadP i v false = i.thick * (100 + v) + 300 * i.ridge + 2000 * i.press by unfold loadP riP; rw [if_neg hc]; simp)
      clear hc
      go_enter Tryz.func80, Tryz.ntmps80
      go_wp2_with fail
      go_ret
      exact ⟨by rw [HE.out]; rfl, HB.out⟩
    | true =>
      have HE := Lib.hid (show loadP i v true = i.thick * (100 + v) / 2 + i.thick * (100 + v) % 2 + 2000 * i.press by unfold loadP riP; rw [if_neg hc]; simp; omega)
      have e1 : (0 : Int) ≤ i.thick * (100 + v) / 2 ∧ i.thick * (100 + v) / 2 ≤ 70000 := by omega
      have e2 : (0 : Int) ≤ i.thick * (100 + v) % 2 ∧ i.thick * (100 + v) % 2 ≤ 1 := by omega
      clear hc
      go_enter Tryz.func80, Tryz.ntmps80
      go_wp2_with fail
      go_ret
      exact ⟨by rw [HE.out]; rfl, HB.out⟩
set_option maxHeartbeats 2000000 in
theorem rLoad_any (i : Ic) (v : Int) (ch : Bool) (w : World) :
    Calls Tryz.prog 20 #[.agg (iceV i), .int .i64 v, .bool ch] w fun e w' => e = .returned (LoadRes i v ch) ∧ Below w.heap.size w w' := by
  obtain ⟨t0, hz, hbl⟩ := one_alloc w (.cells (iceV i) 38)
  have HB := Lib.hid hbl
  have HK := Lib.hid t0
  clear t0 hbl
  obtain ⟨⟨d0, d1, d2, d3⟩, _⟩ := cells4 HK.out
  by_cases hw : wholeB i = true
  · have gi := wholeB_good hw
    have hi : iceE i = 0 := iceE_of gi
    have HW := Lib.hid (by have := rwhole_any i (w.alloc (.cells (iceV i) 38)); rw [hw] at this; exact this)
    by_cases hv : 0 ≤ v ∧ v ≤ 250
    · have HI := Lib.hid (rin_is v 0 250 true (decide_eq_true hv))
      have HR := Lib.hid (show LoadRes i v ch = .tuple #[.int .i64 (loadP i v ch), .int .i64 0] by unfold LoadRes; rw [if_pos (by rw [hi]; simp [orL, errS, hv])])
      have HL := Lib.hid (fun W => rload_any i gi v hv.1 hv.2 ch W)
      clear hw gi hi hv
      go_enter Tryz.func20, Tryz.ntmps20
      go_wp2_with fail
      refine HW.out.mono ?_
      rintro e V1 ⟨rfl, hb⟩
      clear d0 d1 d2 d3 HW
      replace HK := Lib.hid ((hb.block _ (lt_of_block HK.out)).trans HK.out)
      replace HB := Lib.hid (HB.out.trans (hb.mono HB.out.size))
      clear hb
      obtain ⟨⟨d0, d1, d2, d3⟩, _⟩ := cells4 HK.out
      go_wp2_with fail
      refine (HI.out _).mono ?_
      rintro e w' ⟨rfl, rfl⟩
      go_wp2_with fail
      refine (HL.out _).mono ?_
      rintro e V2 ⟨rfl, hb⟩
      replace HB := Lib.hid (HB.out.trans (hb.mono HB.out.size))
      clear hb d0 d1 d2 d3
      go_wp2_with fail
      go_ret2
      exact ⟨by rw [HR.out]; rfl, HB.out⟩
    · have HI := Lib.hid (rin_is v 0 250 false (decide_eq_false hv))
      have HR := Lib.hid (show LoadRes i v ch = .tuple #[.int .i64 0, .int .i64 6] by unfold LoadRes; rw [hi, if_neg (by simp [orL, errS, hv])]; simp [orL, errS, hv])
      clear hw gi hi hv
      go_enter Tryz.func20, Tryz.ntmps20
      go_wp2_with fail
      refine HW.out.mono ?_
      rintro e V1 ⟨rfl, hb⟩
      clear d0 d1 d2 d3 HW
      replace HB := Lib.hid (HB.out.trans (hb.mono HB.out.size))
      clear hb
      go_wp2_with fail
      refine (HI.out _).mono ?_
      rintro e w' ⟨rfl, rfl⟩
      go_wp2_with fail
      go_ret2
      exact ⟨by rw [HR.out]; rfl, HB.out⟩
  · have hi : iceE i = 20 := by rw [iceE_whole, if_neg hw]
    have hw' : wholeB i = false := by simpa using hw
    have HW := Lib.hid (by have := rwhole_any i (w.alloc (.cells (iceV i) 38)); rw [hw'] at this; exact this)
    have HR := Lib.hid (show LoadRes i v ch = .tuple #[.int .i64 0, .int .i64 20] by unfold LoadRes; rw [hi, if_neg (by simp [orL])]; simp [orL])
    clear hw hw' hi
    go_enter Tryz.func20, Tryz.ntmps20
    go_wp2_with fail
    refine HW.out.mono ?_
    rintro e V1 ⟨rfl, hb⟩
    clear d0 d1 d2 d3 HW
    replace HB := Lib.hid (HB.out.trans (hb.mono HB.out.size))
    clear hb
    go_wp2_with fail
    go_ret2
    exact ⟨by rw [HR.out]; rfl, HB.out⟩
theorem rstrength_any (c : Int) (w : World) : Calls Tryz.prog 89 #[.int .i64 c] w fun e w' => e = .returned (.int .i64 (strP c)) ∧ w = w' := by
  by_cases h1 : c = 1
  · subst h1
    go_enter Tryz.func89, Tryz.ntmps89
    go_wp2_with fail
    go_ret
    exact ⟨rfl, rfl⟩
  by_cases h2 : c = 2
  · subst h2
    go_enter Tryz.func89, Tryz.ntmps89
    go_wp2_with fail
    go_ret
    exact ⟨rfl, rfl⟩
  by_cases h3 : c = 3
  · subst h3
    go_enter Tryz.func89, Tryz.ntmps89
    go_wp2_with fail
    go_ret
    exact ⟨rfl, rfl⟩
  by_cases h4 : c = 4
  · subst h4
    go_enter Tryz.func89, Tryz.ntmps89
    go_wp2_with fail
    go_ret
    exact ⟨rfl, rfl⟩
  by_cases h5 : c = 5
  · subst h5
    go_enter Tryz.func89, Tryz.ntmps89
    go_wp2_with fail
    go_ret
    exact ⟨rfl, rfl⟩
  have HE := Lib.hid (show strP c = 90000 by unfold strP; rw [if_neg h1, if_neg h2, if_neg h3, if_neg h4, if_neg h5])
  have g1 : (c == 1) = false := by simpa using h1
  have g2 : (c == 2) = false := by simpa using h2
  have g3 : (c == 3) = false := by simpa using h3
  have g4 : (c == 4) = false := by simpa using h4
  have g5 : (c == 5) = false := by simpa using h5
  clear h1 h2 h3 h4 h5
  go_enter Tryz.func89, Tryz.ntmps89
  go_wp2_with fail
  go_ret
  exact ⟨by rw [HE.out]; rfl, rfl⟩
end Go.Proofs.YtcoiklolgilhaaaGreatDoor
namespace Go.Proofs.YtcoiklolgilhaaaGreatDoor
open Go.RowKit
set_option maxRecDepth 100000
def spanB (lo hi most : Int) : Bool := decide (0 ≤ lo) && decide (hi ≤ most) && decide (lo ≤ hi)
theorem rspan_any (lo hi most : Int) (w : World) : Calls Tryz.prog 103 #[.agg #[.int .i64 lo, .int .i64 hi], .int .i64 most] w fun e w' => e = .returned (.bool (spanB lo hi most)) ∧ Below w.heap.size w w' := by
  obtain ⟨t0, hz, hbl⟩ := one_alloc w (.cells #[.int .i64 lo, .int .i64 hi] 28)
  have HB := Lib.hid hbl
  obtain ⟨⟨d0, d1⟩, _⟩ := cells2 t0
  clear t0 hbl
  by_cases h1 : 0 ≤ lo
  · by_cases h2 : hi ≤ most
    · by_cases h3 : lo ≤ hi
      · have HE := Lib.hid (show spanB lo hi most = true by simp [spanB, h1, h2, h3])
        go_enter Tryz.func103, Tryz.ntmps103
        go_wp2_with fail
        go_ret
        exact ⟨by rw [HE.out]; simp [h3], HB.out⟩
      · have HE := Lib.hid (show spanB lo hi most = false by simp [spanB, h3])
        go_enter Tryz.func103, Tryz.ntmps103
        go_wp2_with fail
        go_ret
        exact ⟨by rw [HE.out]; simp [h3], HB.out⟩
    · have HE := Lib.hid (show spanB lo hi most = false by simp [spanB, h2])
      go_enter Tryz.func103, Tryz.ntmps103
      go_wp2_with fail
      go_ret
      exact ⟨by rw [HE.out]; simp, HB.out⟩
  · have HE := Lib.hid (show spanB lo hi most = false by simp [spanB, h1])
    go_enter Tryz.func103, Tryz.ntmps103
    go_wp2_with fail
    go_ret
    exact ⟨by rw [HE.out]; simp, HB.out⟩
def cellB (lo hi : Ic) : Bool := spanB lo.conc hi.conc 100 && spanB lo.thick hi.thick 400 && spanB lo.ridge hi.ridge 100 && spanB lo.press hi.press 3
theorem spanB_iff {lo hi most : Int} : spanB lo hi most = true ↔ 0 ≤ lo ∧ hi ≤ most ∧ lo ≤ hi := by simp [spanB, and_assoc]
theorem cellB_good {lo hi : Ic} (h : cellB lo hi = true) : GoodC lo hi := by
  simp only [cellB, Bool.and_eq_true, spanB_iff] at h
  obtain ⟨⟨⟨a, b⟩, c⟩, d⟩ := h
  exact ⟨⟨⟨a.1, by omega⟩, ⟨b.1, by omega⟩, ⟨c.1, by omega⟩, ⟨d.1, by omega⟩⟩, ⟨⟨by omega, a.2.1⟩, ⟨by omega, b.2.1⟩, ⟨by omega, c.2.1⟩, ⟨by omega, d.2.1⟩⟩, ⟨a.2.2, b.2.2, c.2.2, d.2.2⟩⟩
theorem good_cellB {lo hi : Ic} (g : GoodC lo hi) : cellB lo hi = true := by
  simp only [cellB, Bool.and_eq_true, spanB_iff]
  exact ⟨⟨⟨⟨g.gl.conc.1, g.gh.conc.2, g.le.conc⟩, ⟨g.gl.thick.1, g.gh.thick.2, g.le.thick⟩⟩, ⟨g.gl.ridge.1, g.gh.ridge.2, g.le.ridge⟩⟩, ⟨g.gl.press.1, g.gh.press.2, g.le.press⟩⟩
theorem cellE_cell (lo hi : Ic) : cellE lo hi = if cellB lo hi = true then 0 else 20 := by
  by_cases h : cellB lo hi = true
  · rw [if_pos h]
    exact cellE_of (cellB_good h)
  · rw [if_neg h]
    unfold cellE errB
    split
    · rename_i hk
      exact absurd (good_cellB (cellE_ok (show cellE lo hi = 0 by unfold cellE errB; rw [if_pos hk]))) h
    · rfl
set_option maxHeartbeats 2000000 in
theorem rcell_any (lo hi : Ic) (w : World) : Calls Tryz.prog 96 #[.agg (cellV lo hi)] w fun e w' => e = .returned (.bool (cellB lo hi)) ∧ Below w.heap.size w w' := by
  obtain ⟨t0, hz, hbl⟩ := one_alloc w (.cells (cellV lo hi) 39)
  have HB := Lib.hid hbl
  have HK := Lib.hid t0
  have HE := Lib.hid (rfl : cellB lo hi = cellB lo hi)
  clear t0 hbl HE
  obtain ⟨⟨d0, d1, d2, d3, d4, d5, d6, d7⟩, _⟩ := cells8 HK.out
  go_enter Tryz.func96, Tryz.ntmps96
  go_wp2_with fail
  refine (rspan_any lo.conc hi.conc 100 _).mono ?_
  rintro e V0 ⟨rfl, hb⟩
  clear d0 d1 d2 d3 d4 d5 d6 d7
  replace HK := Lib.hid ((hb.block _ (lt_of_block HK.out)).trans HK.out)
  replace HB := Lib.hid (HB.out.trans (hb.mono HB.out.size))
  clear hb
  obtain ⟨⟨d0, d1, d2, d3, d4, d5, d6, d7⟩, _⟩ := cells8 HK.out
  cases g0 : spanB lo.conc hi.conc 100 with
  | false =>
    have G0 := Lib.hid g0
    clear g0
    go_wp2_with fail
    go_ret
    exact ⟨by unfold cellB; rw [G0.out]; simp, HB.out⟩
  | true =>
    have G0 := Lib.hid g0
    clear g0
    go_wp2_with fail
    refine (rspan_any lo.thick hi.thick 400 _).mono ?_
    rintro e V1 ⟨rfl, hb⟩
    clear d0 d1 d2 d3 d4 d5 d6 d7
    replace HK := Lib.hid ((hb.block _ (lt_of_block HK.out)).trans HK.out)
    replace HB := Lib.hid (HB.out.trans (hb.mono HB.out.size))
    clear hb
    obtain ⟨⟨d0, d1, d2, d3, d4, d5, d6, d7⟩, _⟩ := cells8 HK.out
    cases g1 : spanB lo.thick hi.thick 400 with
    | false =>
      have G1 := Lib.hid g1
      clear g1
      go_wp2_with fail
      go_ret
      exact ⟨by unfold cellB; rw [G0.out, G1.out]; simp, HB.out⟩
    | true =>
      have G1 := Lib.hid g1
      clear g1
      go_wp2_with fail
      refine (rspan_any lo.ridge hi.ridge 100 _).mono ?_
      rintro e V2 ⟨rfl, hb⟩
      clear d0 d1 d2 d3 d4 d5 d6 d7
      replace HK := Lib.hid ((hb.block _ (lt_of_block HK.out)).trans HK.out)
      replace HB := Lib.hid (HB.out.trans (hb.mono HB.out.size))
      clear hb
      obtain ⟨⟨d0, d1, d2, d3, d4, d5, d6, d7⟩, _⟩ := cells8 HK.out
      cases g2 : spanB lo.ridge hi.ridge 100 with
      | false =>
        have G2 := Lib.hid g2
        clear g2
        go_wp2_with fail
        go_ret
        exact ⟨by unfold cellB; rw [G0.out, G1.out, G2.out]; simp, HB.out⟩
      | true =>
        have G2 := Lib.hid g2
        clear g2
        go_wp2_with fail
        refine (rspan_any lo.press hi.press 3 _).mono ?_
        rintro e V3 ⟨rfl, hb⟩
        clear d0 d1 d2 d3 d4 d5 d6 d7
        replace HK := Lib.hid ((hb.block _ (lt_of_block HK.out)).trans HK.out)
        replace HB := Lib.hid (HB.out.trans (hb.mono HB.out.size))
        clear hb
        obtain ⟨⟨d0, d1, d2, d3, d4, d5, d6, d7⟩, _⟩ := cells8 HK.out
        go_wp2_with fail
        go_ret
        exact ⟨by unfold cellB; rw [G0.out, G1.out, G2.out]; simp, HB.out⟩
set_option maxHeartbeats 2000000 in
theorem rmet_any (s : Sh) (m : Mem3) (lo hi : Ic) (w : World) (h : ShipIn w s m) :
    Calls Tryz.prog 85 #[.agg (shipA s m), .agg (cellV lo hi)] w fun e w' => e = .returned (.int .i64 (orL [chkP s, cellE lo hi])) ∧ Below w.heap.size w w' := by
  obtain ⟨t0, t1, hz, hbl⟩ := two_allocs w (.cells (shipA s m) 36) (.cells (cellV lo hi) 39)
  have HB := Lib.hid hbl
  have HK4 := Lib.hid t0
  have HK5 := Lib.hid t1
  have HS := Lib.hid (h.later hbl)
  clear t0 t1 hbl h
  obtain ⟨c0, c1, c2, c3, c4, c5, c6, c7, c8, c9, c10⟩ := cells11 HK4.out
  obtain ⟨⟨d0, d1, d2, d3, d4, d5, d6, d7⟩, _⟩ := cells8 HK5.out
  go_enter Tryz.func85, Tryz.ntmps85
  go_wp2_with fail
  refine (rCheck_any s m _ HS.out).mono ?_
  rintro e V1 ⟨rfl, hb⟩
  clear c0 c1 c2 c3 c4 c5 c6 c7 c8 c9 c10 d0 d1 d2 d3 d4 d5 d6 d7
  replace HK5 := Lib.hid ((hb.block _ (lt_of_block HK5.out)).trans HK5.out)
  replace HB := Lib.hid (HB.out.trans (hb.mono HB.out.size))
  clear hb HS HK4
  obtain ⟨⟨d0, d1, d2, d3, d4, d5, d6, d7⟩, _⟩ := cells8 HK5.out
  by_cases hc : chkP s = 0
  · have HO := Lib.hid (show orL [chkP s, cellE lo hi] = if cellB lo hi = true then 0 else 20 by rw [hc, cellE_cell]; split <;> simp [orL])
    rw [hc]
    clear hc
    go_wp2_with fail
    refine (rcell_any lo hi _).mono ?_
    rintro e V2 ⟨rfl, hb⟩
    replace HB := Lib.hid (HB.out.trans (hb.mono HB.out.size))
    clear hb d0 d1 d2 d3 d4 d5 d6 d7
    cases g : cellB lo hi with
    | true =>
      have HO2 := Lib.hid (HO.out.trans (if_pos g))
      clear g HO
      go_wp2_with fail
      go_ret
      exact ⟨by rw [HO2.out]; rfl, HB.out⟩
    | false =>
      have HO2 := Lib.hid (HO.out.trans (if_neg (by simp [g])))
      clear g HO
      go_wp2_with fail
      go_ret
      exact ⟨by rw [HO2.out]; rfl, HB.out⟩
  · have HO := Lib.hid (show orL [chkP s, cellE lo hi] = chkP s by simp [orL, hc])
    have hc' : (chkP s != 0) = true := by simpa using hc
    go_wp2_with fail
    go_ret
    exact ⟨by rw [HO.out]; rfl, HB.out⟩
end Go.Proofs.YtcoiklolgilhaaaGreatDoor
namespace Go.Proofs.YtcoiklolgilhaaaGreatDoor
open Go.RowKit
set_option maxRecDepth 100000
theorem und143 : Tryz.prog.underlying 143 = some (.slice 38) := by kernel_rfl
theorem info38 : (Tryz.prog.info? 38).map (fun i => (i.zero, i.size, i.bytes)) = some (some (.agg #[.int .i64 0, .int .i64 0, .int .i64 0, .int .i64 0]), 4, 32) := by kernel_rfl
def flatI (l : List Ic) : List Value := l.flatMap fun q => (iceV q).toList
theorem flatI_len : ∀ l : List Ic, (flatI l).length = l.length * 4
  | [] => rfl
  | q :: l => by
    have h := flatI_len l
    have e : flatI (q :: l) = (iceV q).toList ++ flatI l := by simp [flatI]
    rw [e, List.length_append, h]
    simp
    omega
theorem flatI_snoc (l : List Ic) (q : Ic) : flatI (l ++ [q]) = flatI l ++ (iceV q).toList := by simp [flatI]
def icOf (l : List Ic) : Nat → Ic := fun i => l.getD i ⟨0, 0, 0, 0⟩
theorem flatI_get : ∀ (l : List Ic) (i : Nat), i < l.length → ∀ c, c < 4 → (flatI l)[i * 4 + c]? = (iceV (icOf l i))[c]?
  | [], i, h, _, _ => by simp at h
  | q :: l, 0, _, c, hc => by
    have e : flatI (q :: l) = (iceV q).toList ++ flatI l := by simp [flatI]
    rw [e, List.getElem?_append_left (by simpa using hc)]
    simp [icOf]
  | q :: l, i + 1, h, c, hc => by
    have h1 : i < l.length := by simpa using h
    have e : flatI (q :: l) = (iceV q).toList ++ flatI l := by simp [flatI]
    have hl : (iceV q).toList.length = 4 := rfl
    rw [e, List.getElem?_append_right (by rw [hl]; omega), hl, show (i + 1) * 4 + c - 4 = i * 4 + c by omega, flatI_get l i h1 c hc]
    simp [icOf]
theorem row_base {W : World} {base size n : Nat} {e : TypeId} {v : Value} {xs : List Value} (h : W.ownsRow base e size v n xs) : ∀ j, v.ownBlock = some j → base ≤ j := fun j e => by
  rcases h.2 with ⟨rfl, _⟩ | ⟨g, cap, cur, rfl, hbg, hg, _⟩
  · simp [Value.ownBlock] at e
  · obtain rfl : g = j := by simpa [Value.ownBlock] using e
    exact hbg
theorem row_shape {W : World} {base size n : Nat} {e : TypeId} {v : Value} {xs : List Value} (h : W.ownsRow base e size v n xs) : ∃ q c, v = .slice q n c := by
  rcases h.2 with ⟨rfl, e2⟩ | ⟨g, cap, cur, rfl, _⟩
  · exact ⟨none, 0, by rw [e2]⟩
  · exact ⟨_, _, rfl⟩
abbrev IcRow (W : World) (base : Nat) (v : Value) (l : List Ic) : Prop := W.ownsRow base 38 4 v l.length (flatI l)
/-- ices in memory -/
def IcesIn (W : World) (p : Option Addr) (n : Nat) (X : Nat → Ic) : Prop := ∀ i, i < n → ∃ b o, p = some ⟨b, o, none⟩ ∧ b < W.heap.size ∧ W.cell? ⟨b, o + i * 4, none⟩ = some (.int .i64 (X i).conc) ∧ W.cell? ⟨b, o + i * 4 + 1, none⟩ = some (.int .i64 (X i).thick) ∧ W.cell? ⟨b, o + i * 4 + 2, none⟩ = some (.int .i64 (X i).ridge) ∧ W.cell? ⟨b, o + i * 4 + 3, none⟩ = some (.int .i64 (X i).press)
theorem IcesIn.later {w W : World} {p : Option Addr} {n : Nat} {X : Nat → Ic} (h : IcesIn w p n X) (hb : Below w.heap.size w W) : IcesIn W p n X := fun i hi => by
  obtain ⟨b, o, e, hlt, h0, h1, h2, h3⟩ := h i hi
  exact ⟨b, o, e, Nat.lt_of_lt_of_le hlt hb.size, (hb.cell (p := ⟨b, o + i * 4, none⟩) hlt).trans h0, (hb.cell (p := ⟨b, o + i * 4 + 1, none⟩) hlt).trans h1, (hb.cell (p := ⟨b, o + i * 4 + 2, none⟩) hlt).trans h2, (hb.cell (p := ⟨b, o + i * 4 + 3, none⟩) hlt).trans h3⟩
theorem IcRow.ices {W : World} {base : Nat} {p : Option Addr} {n c : Nat} {l : List Ic} (h : IcRow W base (.slice p n c) l) : IcesIn W p l.length (icOf l) := fun i hi => by
  rcases h.2 with ⟨_, e2⟩ | ⟨g, cap, cur, e1, _, hg, hn, _, hsz, htk⟩
  · rw [e2] at hi; omega
  · simp only [Value.slice.injEq] at e1
    obtain ⟨rfl, _, _⟩ := e1
    have hlen : (flatI l).length = l.length * 4 := flatI_len l
    have get : ∀ j, j < l.length * 4 → cur[j]? = (flatI l)[j]? := fun j hj => by
      rw [← htk, List.getElem?_take_of_lt hj, Array.getElem?_toList]
    have hc : ∀ c v, (iceV (icOf l i))[c]? = some v → W.cell? ⟨g, 0 + i * 4 + c, none⟩ = some v := fun c v hv => by
      have hcl : c < 4 := by have := (Array.getElem?_eq_some_iff.1 hv).1; simpa using this
      rw [Nat.zero_add]
      exact (cell_of_block hg _).trans ((get _ (by omega)).trans ((flatI_get l i hi c hcl).trans hv))
    exact ⟨g, 0, rfl, lt_of_block hg, hc 0 _ rfl, hc 1 _ rfl, hc 2 _ rfl, hc 3 _ rfl⟩
/-- the corners of a cell, as far as they are made -/
structure Crn (lo hi : Ic) (l : List Ic) : Prop where
  i : ∀ x ∈ l, InC lo hi x
  f : 0 < l.length → icOf l 0 = lo
  z : 15 < l.length → icOf l 15 = hi
theorem icOf_old {l : List Ic} {x : Ic} {i : Nat} (h : i < l.length) : icOf (l ++ [x]) i = icOf l i := by simp [icOf, List.getElem?_append_left h]
theorem icOf_new (l : List Ic) (x : Ic) : icOf (l ++ [x]) l.length = x := by simp [icOf]
theorem Crn.snoc {lo hi : Ic} {l : List Ic} (h : Crn lo hi l) {x : Ic} (hx : InC lo hi x) (h0 : l.length = 0 → x = lo) (h15 : l.length = 15 → x = hi) : Crn lo hi (l ++ [x]) := by
  refine ⟨fun y hy => ?_, fun _ => ?_, fun hl => ?_⟩
  · rcases List.mem_append.1 hy with e | e
    · exact h.i y e
    · obtain rfl := List.mem_singleton.1 e
      exact hx
  · rcases Nat.eq_zero_or_pos l.length with e | e
    · have := icOf_new l x
      rw [e] at this
      rw [this]; exact h0 e
    · rw [icOf_old e]; exact h.f e
  · rcases Nat.lt_trichotomy l.length 15 with e | e | e
    · simp at hl; omega
    · have := icOf_new l x
      rw [e] at this
      rw [this]; exact h15 e
    · rw [icOf_old e]; exact h.z e
set_option maxHeartbeats 16000000 in
theorem Corners_any (lo hi : Ic) (gc : GoodC lo hi) (w : World) : Calls Tryz.prog 86 #[.agg (cellV lo hi)] w fun e w' => ∃ p cap X, e = .returned (.slice p 16 cap) ∧ IcesIn w' p 16 X ∧ (∀ k, k < 16 → InC lo hi (X k)) ∧ X 0 = lo ∧ X 15 = hi ∧ Below w.heap.size w w' := by
  obtain ⟨i0, hi0, hz0, hz1, hz2⟩ := info_parts info38
  obtain ⟨t0, hz, hbl⟩ := one_alloc w (.cells (cellV lo hi) 39)
  have HB := Lib.hid hbl
  have HK := Lib.hid t0
  have HLE := Lib.hid gc.le
  clear t0 hbl gc
  go_enter Tryz.func86, Tryz.ntmps86
  go_wp2_with fail
  generalize w.alloc (.cells (cellV lo hi) 39) = X0 at *
  go_loopw [3, 4] (fun v n wr => ∃ (k : Nat) (l : List Ic), n = .int .i64 k ∧ k ≤ 16 ∧ Hid (l.length = k) ∧ Hid (Crn lo hi l) ∧ Hid (Below w.heap.size w wr) ∧ Hid (wr.heap[w.heap.size]? = some (.cells (cellV lo hi) 39 (0, 0))) ∧ Hid (IcRow wr (w.heap.size + 1) v l)) (fun _ n _ => 16 - (intOf n).toNat)
  case atStart => exact ⟨0, [], rfl, by omega, Lib.hid rfl, Lib.hid ⟨fun x h => (by cases h), fun h => (by cases h), fun h => (by cases h)⟩, HB, HK, Lib.hid ⟨rfl, .inl ⟨rfl, rfl⟩⟩⟩
  case round =>
    clear HB HK
    obtain ⟨k, l, rfl, hk, hn, hc, hB, hK, hR⟩ := hrel
    have HN := Lib.hid hn.out
    have HCR := Lib.hid hc.out
    have HB := Lib.hid hB.out
    have HK := Lib.hid hK.out
    have HR := Lib.hid hR.out
    clear hn hc hB hK hR
    by_cases hlt : k < 16
    · have hlt' : (k : Int) < 16 := by omega
      have hk0 : (0 : Int) ≤ (k : Int) := by omega
      obtain ⟨⟨d0, d1, d2, d3, d4, d5, d6, d7⟩, _⟩ := cells8 HK.out
      have hlw := lt_of_block HK.out
      have hne : w.heap.size ≠ wr.heap.size := by omega
      have hne' : wr.heap.size ≠ w.heap.size := by omega
      have hba := (Below.refl wr.heap.size wr).alloc (Nat.le_refl _) (.cells (iceV lo) 38)
      obtain ⟨⟨f0, f1, f2, f3, f4, f5, f6, f7⟩, _⟩ := cells8 ((hba.block _ hlw).trans HK.out)
      obtain ⟨b0, h0⟩ : ∃ b, ((k : Int) % 2 == 1) = b := ⟨_, rfl⟩
      obtain ⟨b1, h1⟩ : ∃ b, ((k : Int) / 2 % 2 == 1) = b := ⟨_, rfl⟩
      obtain ⟨b2, h2⟩ : ∃ b, ((k : Int) / 4 % 2 == 1) = b := ⟨_, rfl⟩
      obtain ⟨b3, h3⟩ : ∃ b, ((k : Int) / 8 == 1) = b := ⟨_, rfl⟩
      have H0 := Lib.hid h0
      have H1 := Lib.hid h1
      have H2 := Lib.hid h2
      have H3 := Lib.hid h3
      cases b0 <;> cases b1 <;> cases b2 <;> cases b3
      case false.false.false.false =>
        go_wp2_with (at_builtin; refine Hid.out ?_)
        refine Lib.hid ?_
        have hb1 := (Below.refl wr.heap.size wr).alloc (Nat.le_refl _) (.cells #[.int .i64 lo.conc, .int .i64 lo.thick, .int .i64 lo.ridge, .int .i64 lo.press] 38)
        have hbT := hb1.alloc hb1.size (.cells #[.int .i64 lo.conc, .int .i64 lo.thick, .int .i64 lo.ridge, .int .i64 lo.press] 38)
        have hs1 : (wr.alloc (.cells #[.int .i64 lo.conc, .int .i64 lo.thick, .int .i64 lo.ridge, .int .i64 lo.press] 38)).heap.size = wr.heap.size + 1 := by simp
        have hnb := block_new (wr.alloc (.cells #[.int .i64 lo.conc, .int .i64 lo.thick, .int .i64 lo.ridge, .int .i64 lo.press] 38)) (.cells #[.int .i64 lo.conc, .int .i64 lo.thick, .int .i64 lo.ridge, .int .i64 lo.press] 38)
        rw [hs1] at hnb
        replace HK := Lib.hid ((hbT.block _ hlw).trans HK.out)
        replace HR := Lib.hid (row_later HR.out hbT)
        replace HB := Lib.hid (HB.out.trans (hbT.mono HB.out.size))
        have hsT := hbT.size
        clear hb1 hbT hs1 hba f0 f1 f2 f3 f4 f5 f6 f7 d0 d1 d2 d3 d4 d5 d6 d7 h0 h1 h2 h3
        generalize (wr.alloc (.cells #[.int .i64 lo.conc, .int .i64 lo.thick, .int .i64 lo.ridge, .int .i64 lo.press] 38)).alloc (.cells #[.int .i64 lo.conc, .int .i64 lo.thick, .int .i64 lo.ridge, .int .i64 lo.press] 38) = Y1 at *
        refine wpList_append_own _ rfl (.tmp 53) (.tmp 55) 143 rfl (w.heap.size + 1) 38 i0 (.agg #[.int .i64 0, .int .i64 0, .int .i64 0, .int .i64 0]) 4 32 und143 hi0 hz0 hz1 hz2 rfl (by decide) u3 l.length (flatI l) rfl HR.out ⟨wr.heap.size + 1, 0, none⟩ 1 1 [.int .i64 lo.conc, .int .i64 lo.thick, .int .i64 lo.ridge, .int .i64 lo.press] rfl rfl (World.news_of_block hnb) (by simp [Value.oneCell']) (by rw [HN.out]; simp only [maxLen]; omega) (by rw [HN.out]; omega) (by omega) ?_
        intro v2 Zg hown hgrow _
        have zb := (Below.refl (w.heap.size + 1) Y1).grown hgrow (by omega) (row_base HR.out)
        have HRN := Lib.hid (show IcRow Zg (w.heap.size + 1) v2 (l ++ [⟨lo.conc, lo.thick, lo.ridge, lo.press⟩]) from by unfold IcRow; rw [flatI_snoc, List.length_append]; exact hown)
        replace HK := Lib.hid ((zb.block _ (by omega)).trans HK.out)
        replace HB := Lib.hid (HB.out.trans (zb.mono (by omega)))
        clear hown hgrow zb HR hnb hsT
        go_wp2_with fail
        go_roundw
        case rel => exact ⟨k + 1, l ++ [⟨lo.conc, lo.thick, lo.ridge, lo.press⟩], by go_num, by omega, Lib.hid (by rw [List.length_append, HN.out]; rfl), Lib.hid (HCR.out.snoc ⟨⟨Int.le_refl _, Int.le_refl _, Int.le_refl _, Int.le_refl _⟩, ⟨HLE.out.conc, HLE.out.thick, HLE.out.ridge, HLE.out.press⟩⟩ (fun _ => rfl) (fun e => by have h := H0.out; have := HN.out; simp only [beq_eq_false_iff_ne, ne_eq] at h; omega)), HB, HK, HRN⟩
        case measure => simp [intOf]; omega
      case false.false.false.true =>
        go_wp2_with (at_builtin; refine Hid.out ?_)
        refine Lib.hid ?_
        have hb1 := (Below.refl wr.heap.size wr).alloc (Nat.le_refl _) (.cells #[.int .i64 lo.conc, .int .i64 lo.thick, .int .i64 lo.ridge, .int .i64 hi.press] 38)
        have hbT := hb1.alloc hb1.size (.cells #[.int .i64 lo.conc, .int .i64 lo.thick, .int .i64 lo.ridge, .int .i64 hi.press] 38)
        have hs1 : (wr.alloc (.cells #[.int .i64 lo.conc, .int .i64 lo.thick, .int .i64 lo.ridge, .int .i64 hi.press] 38)).heap.size = wr.heap.size + 1 := by simp
        have hnb := block_new (wr.alloc (.cells #[.int .i64 lo.conc, .int .i64 lo.thick, .int .i64 lo.ridge, .int .i64 hi.press] 38)) (.cells #[.int .i64 lo.conc, .int .i64 lo.thick, .int .i64 lo.ridge, .int .i64 hi.press] 38)
        rw [hs1] at hnb
        replace HK := Lib.hid ((hbT.block _ hlw).trans HK.out)
        replace HR := Lib.hid (row_later HR.out hbT)
        replace HB := Lib.hid (HB.out.trans (hbT.mono HB.out.size))
        have hsT := hbT.size
        clear hb1 hbT hs1 hba f0 f1 f2 f3 f4 f5 f6 f7 d0 d1 d2 d3 d4 d5 d6 d7 h0 h1 h2 h3
        generalize (wr.alloc (.cells #[.int .i64 lo.conc, .int .i64 lo.thick, .int .i64 lo.ridge, .int .i64 hi.press] 38)).alloc (.cells #[.int .i64 lo.conc, .int .i64 lo.thick, .int .i64 lo.ridge, .int .i64 hi.press] 38) = Y1 at *
        refine wpList_append_own _ rfl (.tmp 53) (.tmp 55) 143 rfl (w.heap.size + 1) 38 i0 (.agg #[.int .i64 0, .int .i64 0, .int .i64 0, .int .i64 0]) 4 32 und143 hi0 hz0 hz1 hz2 rfl (by decide) u3 l.length (flatI l) rfl HR.out ⟨wr.heap.size + 1, 0, none⟩ 1 1 [.int .i64 lo.conc, .int .i64 lo.thick, .int .i64 lo.ridge, .int .i64 hi.press] rfl rfl (World.news_of_block hnb) (by simp [Value.oneCell']) (by rw [HN.out]; simp only [maxLen]; omega) (by rw [HN.out]; omega) (by omega) ?_
        intro v2 Zg hown hgrow _
        have zb := (Below.refl (w.heap.size + 1) Y1).grown hgrow (by omega) (row_base HR.out)
        have HRN := Lib.hid (show IcRow Zg (w.heap.size + 1) v2 (l ++ [⟨lo.conc, lo.thick, lo.ridge, hi.press⟩]) from by unfold IcRow; rw [flatI_snoc, List.length_append]; exact hown)
        replace HK := Lib.hid ((zb.block _ (by omega)).trans HK.out)
        replace HB := Lib.hid (HB.out.trans (zb.mono (by omega)))
        clear hown hgrow zb HR hnb hsT
        go_wp2_with fail
        go_roundw
        case rel => exact ⟨k + 1, l ++ [⟨lo.conc, lo.thick, lo.ridge, hi.press⟩], by go_num, by omega, Lib.hid (by rw [List.length_append, HN.out]; rfl), Lib.hid (HCR.out.snoc ⟨⟨Int.le_refl _, Int.le_refl _, Int.le_refl _, HLE.out.press⟩, ⟨HLE.out.conc, HLE.out.thick, HLE.out.ridge, Int.le_refl _⟩⟩ (fun e => by have h := H3.out; have := HN.out; simp only [beq_iff_eq] at h; omega) (fun e => by have h := H0.out; have := HN.out; simp only [beq_eq_false_iff_ne, ne_eq] at h; omega)), HB, HK, HRN⟩
        case measure => simp [intOf]; omega
      case false.false.true.false =>
        go_wp2_with (at_builtin; refine Hid.out ?_)
        refine Lib.hid ?_
        have hb1 := (Below.refl wr.heap.size wr).alloc (Nat.le_refl _) (.cells #[.int .i64 lo.conc, .int .i64 lo.thick, .int .i64 hi.ridge, .int .i64 lo.press] 38)
        have hbT := hb1.alloc hb1.size (.cells #[.int .i64 lo.conc, .int .i64 lo.thick, .int .i64 hi.ridge, .int .i64 lo.press] 38)
        have hs1 : (wr.alloc (.cells #[.int .i64 lo.conc, .int .i64 lo.thick, .int .i64 hi.ridge, .int .i64 lo.press] 38)).heap.size = wr.heap.size + 1 := by simp
        have hnb := block_new (wr.alloc (.cells #[.int .i64 lo.conc, .int .i64 lo.thick, .int .i64 hi.ridge, .int .i64 lo.press] 38)) (.cells #[.int .i64 lo.conc, .int .i64 lo.thick, .int .i64 hi.ridge, .int .i64 lo.press] 38)
        rw [hs1] at hnb
        replace HK := Lib.hid ((hbT.block _ hlw).trans HK.out)
        replace HR := Lib.hid (row_later HR.out hbT)
        replace HB := Lib.hid (HB.out.trans (hbT.mono HB.out.size))
        have hsT := hbT.size
        clear hb1 hbT hs1 hba f0 f1 f2 f3 f4 f5 f6 f7 d0 d1 d2 d3 d4 d5 d6 d7 h0 h1 h2 h3
        generalize (wr.alloc (.cells #[.int .i64 lo.conc, .int .i64 lo.thick, .int .i64 hi.ridge, .int .i64 lo.press] 38)).alloc (.cells #[.int .i64 lo.conc, .int .i64 lo.thick, .int .i64 hi.ridge, .int .i64 lo.press] 38) = Y1 at *
        refine wpList_append_own _ rfl (.tmp 53) (.tmp 55) 143 rfl (w.heap.size + 1) 38 i0 (.agg #[.int .i64 0, .int .i64 0, .int .i64 0, .int .i64 0]) 4 32 und143 hi0 hz0 hz1 hz2 rfl (by decide) u3 l.length (flatI l) rfl HR.out ⟨wr.heap.size + 1, 0, none⟩ 1 1 [.int .i64 lo.conc, .int .i64 lo.thick, .int .i64 hi.ridge, .int .i64 lo.press] rfl rfl (World.news_of_block hnb) (by simp [Value.oneCell']) (by rw [HN.out]; simp only [maxLen]; omega) (by rw [HN.out]; omega) (by omega) ?_
        intro v2 Zg hown hgrow _
        have zb := (Below.refl (w.heap.size + 1) Y1).grown hgrow (by omega) (row_base HR.out)
        have HRN := Lib.hid (show IcRow Zg (w.heap.size + 1) v2 (l ++ [⟨lo.conc, lo.thick, hi.ridge, lo.press⟩]) from by unfold IcRow; rw [flatI_snoc, List.length_append]; exact hown)
        replace HK := Lib.hid ((zb.block _ (by omega)).trans HK.out)
        replace HB := Lib.hid (HB.out.trans (zb.mono (by omega)))
        clear hown hgrow zb HR hnb hsT
        go_wp2_with fail
        go_roundw
        case rel => exact ⟨k + 1, l ++ [⟨lo.conc, lo.thick, hi.ridge, lo.press⟩], by go_num, by omega, Lib.hid (by rw [List.length_append, HN.out]; rfl), Lib.hid (HCR.out.snoc ⟨⟨Int.le_refl _, Int.le_refl _, HLE.out.ridge, Int.le_refl _⟩, ⟨HLE.out.conc, HLE.out.thick, Int.le_refl _, HLE.out.press⟩⟩ (fun e => by have h := H2.out; have := HN.out; simp only [beq_iff_eq] at h; omega) (fun e => by have h := H0.out; have := HN.out; simp only [beq_eq_false_iff_ne, ne_eq] at h; omega)), HB, HK, HRN⟩
        case measure => simp [intOf]; omega
      case false.false.true.true =>
        go_wp2_with (at_builtin; refine Hid.out ?_)
        refine Lib.hid ?_
        have hb1 := (Below.refl wr.heap.size wr).alloc (Nat.le_refl _) (.cells #[.int .i64 lo.conc, .int .i64 lo.thick, .int .i64 hi.ridge, .int .i64 hi.press] 38)
        have hbT := hb1.alloc hb1.size (.cells #[.int .i64 lo.conc, .int .i64 lo.thick, .int .i64 hi.ridge, .int .i64 hi.press] 38)
        have hs1 : (wr.alloc (.cells #[.int .i64 lo.conc, .int .i64 lo.thick, .int .i64 hi.ridge, .int .i64 hi.press] 38)).heap.size = wr.heap.size + 1 := by simp
        have hnb := block_new (wr.alloc (.cells #[.int .i64 lo.conc, .int .i64 lo.thick, .int .i64 hi.ridge, .int .i64 hi.press] 38)) (.cells #[.int .i64 lo.conc, .int .i64 lo.thick, .int .i64 hi.ridge, .int .i64 hi.press] 38)
        rw [hs1] at hnb
        replace HK := Lib.hid ((hbT.block _ hlw).trans HK.out)
        replace HR := Lib.hid (row_later HR.out hbT)
        replace HB := Lib.hid (HB.out.trans (hbT.mono HB.out.size))
        have hsT := hbT.size
        clear hb1 hbT hs1 hba f0 f1 f2 f3 f4 f5 f6 f7 d0 d1 d2 d3 d4 d5 d6 d7 h0 h1 h2 h3
        generalize (wr.alloc (.cells #[.int .i64 lo.conc, .int .i64 lo.thick, .int .i64 hi.ridge, .int .i64 hi.press] 38)).alloc (.cells #[.int .i64 lo.conc, .int .i64 lo.thick, .int .i64 hi.ridge, .int .i64 hi.press] 38) = Y1 at *
        refine wpList_append_own _ rfl (.tmp 53) (.tmp 55) 143 rfl (w.heap.size + 1) 38 i0 (.agg #[.int .i64 0, .int .i64 0, .int .i64 0, .int .i64 0]) 4 32 und143 hi0 hz0 hz1 hz2 rfl (by decide) u3 l.length (flatI l) rfl HR.out ⟨wr.heap.size + 1, 0, none⟩ 1 1 [.int .i64 lo.conc, .int .i64 lo.thick, .int .i64 hi.ridge, .int .i64 hi.press] rfl rfl (World.news_of_block hnb) (by simp [Value.oneCell']) (by rw [HN.out]; simp only [maxLen]; omega) (by rw [HN.out]; omega) (by omega) ?_
        intro v2 Zg hown hgrow _
        have zb := (Below.refl (w.heap.size + 1) Y1).grown hgrow (by omega) (row_base HR.out)
        have HRN := Lib.hid (show IcRow Zg (w.heap.size + 1) v2 (l ++ [⟨lo.conc, lo.thick, hi.ridge, hi.press⟩]) from by unfold IcRow; rw [flatI_snoc, List.length_append]; exact hown)
        replace HK := Lib.hid ((zb.block _ (by omega)).trans HK.out)
        replace HB := Lib.hid (HB.out.trans (zb.mono (by omega)))
        clear hown hgrow zb HR hnb hsT
        go_wp2_with fail
        go_roundw
        case rel => exact ⟨k + 1, l ++ [⟨lo.conc, lo.thick, hi.ridge, hi.press⟩], by go_num, by omega, Lib.hid (by rw [List.length_append, HN.out]; rfl), Lib.hid (HCR.out.snoc ⟨⟨Int.le_refl _, Int.le_refl _, HLE.out.ridge, HLE.out.press⟩, ⟨HLE.out.conc, HLE.out.thick, Int.le_refl _, Int.le_refl _⟩⟩ (fun e => by have h := H2.out; have := HN.out; simp only [beq_iff_eq] at h; omega) (fun e => by have h := H0.out; have := HN.out; simp only [beq_eq_false_iff_ne, ne_eq] at h; omega)), HB, HK, HRN⟩
        case measure => simp [intOf]; omega
      case false.true.false.false =>
        go_wp2_with (at_builtin; refine Hid.out ?_)
        refine Lib.hid ?_
        have hb1 := (Below.refl wr.heap.size wr).alloc (Nat.le_refl _) (.cells #[.int .i64 lo.conc, .int .i64 hi.thick, .int .i64 lo.ridge, .int .i64 lo.press] 38)
        have hbT := hb1.alloc hb1.size (.cells #[.int .i64 lo.conc, .int .i64 hi.thick, .int .i64 lo.ridge, .int .i64 lo.press] 38)
        have hs1 : (wr.alloc (.cells #[.int .i64 lo.conc, .int .i64 hi.thick, .int .i64 lo.ridge, .int .i64 lo.press] 38)).heap.size = wr.heap.size + 1 := by simp
        have hnb := block_new (wr.alloc (.cells #[.int .i64 lo.conc, .int .i64 hi.thick, .int .i64 lo.ridge, .int .i64 lo.press] 38)) (.cells #[.int .i64 lo.conc, .int .i64 hi.thick, .int .i64 lo.ridge, .int .i64 lo.press] 38)
        rw [hs1] at hnb
        replace HK := Lib.hid ((hbT.block _ hlw).trans HK.out)
        replace HR := Lib.hid (row_later HR.out hbT)
        replace HB := Lib.hid (HB.out.trans (hbT.mono HB.out.size))
        have hsT := hbT.size
        clear hb1 hbT hs1 hba f0 f1 f2 f3 f4 f5 f6 f7 d0 d1 d2 d3 d4 d5 d6 d7 h0 h1 h2 h3
        generalize (wr.alloc (.cells #[.int .i64 lo.conc, .int .i64 hi.thick, .int .i64 lo.ridge, .int .i64 lo.press] 38)).alloc (.cells #[.int .i64 lo.conc, .int .i64 hi.thick, .int .i64 lo.ridge, .int .i64 lo.press] 38) = Y1 at *
        refine wpList_append_own _ rfl (.tmp 53) (.tmp 55) 143 rfl (w.heap.size + 1) 38 i0 (.agg #[.int .i64 0, .int .i64 0, .int .i64 0, .int .i64 0]) 4 32 und143 hi0 hz0 hz1 hz2 rfl (by decide) u3 l.length (flatI l) rfl HR.out ⟨wr.heap.size + 1, 0, none⟩ 1 1 [.int .i64 lo.conc, .int .i64 hi.thick, .int .i64 lo.ridge, .int .i64 lo.press] rfl rfl (World.news_of_block hnb) (by simp [Value.oneCell']) (by rw [HN.out]; simp only [maxLen]; omega) (by rw [HN.out]; omega) (by omega) ?_
        intro v2 Zg hown hgrow _
        have zb := (Below.refl (w.heap.size + 1) Y1).grown hgrow (by omega) (row_base HR.out)
        have HRN := Lib.hid (show IcRow Zg (w.heap.size + 1) v2 (l ++ [⟨lo.conc, hi.thick, lo.ridge, lo.press⟩]) from by unfold IcRow; rw [flatI_snoc, List.length_append]; exact hown)
        replace HK := Lib.hid ((zb.block _ (by omega)).trans HK.out)
        replace HB := Lib.hid (HB.out.trans (zb.mono (by omega)))
        clear hown hgrow zb HR hnb hsT
        go_wp2_with fail
        go_roundw
        case rel => exact ⟨k + 1, l ++ [⟨lo.conc, hi.thick, lo.ridge, lo.press⟩], by go_num, by omega, Lib.hid (by rw [List.length_append, HN.out]; rfl), Lib.hid (HCR.out.snoc ⟨⟨Int.le_refl _, HLE.out.thick, Int.le_refl _, Int.le_refl _⟩, ⟨HLE.out.conc, Int.le_refl _, HLE.out.ridge, HLE.out.press⟩⟩ (fun e => by have h := H1.out; have := HN.out; simp only [beq_iff_eq] at h; omega) (fun e => by have h := H0.out; have := HN.out; simp only [beq_eq_false_iff_ne, ne_eq] at h; omega)), HB, HK, HRN⟩
        case measure => simp [intOf]; omega
      case false.true.false.true =>
        go_wp2_with (at_builtin; refine Hid.out ?_)
        refine Lib.hid ?_
        have hb1 := (Below.refl wr.heap.size wr).alloc (Nat.le_refl _) (.cells #[.int .i64 lo.conc, .int .i64 hi.thick, .int .i64 lo.ridge, .int .i64 hi.press] 38)
        have hbT := hb1.alloc hb1.size (.cells #[.int .i64 lo.conc, .int .i64 hi.thick, .int .i64 lo.ridge, .int .i64 hi.press] 38)
        have hs1 : (wr.alloc (.cells #[.int .i64 lo.conc, .int .i64 hi.thick, .int .i64 lo.ridge, .int .i64 hi.press] 38)).heap.size = wr.heap.size + 1 := by simp
        have hnb := block_new (wr.alloc (.cells #[.int .i64 lo.conc, .int .i64 hi.thick, .int .i64 lo.ridge, .int .i64 hi.press] 38)) (.cells #[.int .i64 lo.conc, .int .i64 hi.thick, .int .i64 lo.ridge, .int .i64 hi.press] 38)
        rw [hs1] at hnb
        replace HK := Lib.hid ((hbT.block _ hlw).trans HK.out)
        replace HR := Lib.hid (row_later HR.out hbT)
        replace HB := Lib.hid (HB.out.trans (hbT.mono HB.out.size))
        have hsT := hbT.size
        clear hb1 hbT hs1 hba f0 f1 f2 f3 f4 f5 f6 f7 d0 d1 d2 d3 d4 d5 d6 d7 h0 h1 h2 h3
        generalize (wr.alloc (.cells #[.int .i64 lo.conc, .int .i64 hi.thick, .int .i64 lo.ridge, .int .i64 hi.press] 38)).alloc (.cells #[.int .i64 lo.conc, .int .i64 hi.thick, .int .i64 lo.ridge, .int .i64 hi.press] 38) = Y1 at *
        refine wpList_append_own _ rfl (.tmp 53) (.tmp 55) 143 rfl (w.heap.size + 1) 38 i0 (.agg #[.int .i64 0, .int .i64 0, .int .i64 0, .int .i64 0]) 4 32 und143 hi0 hz0 hz1 hz2 rfl (by decide) u3 l.length (flatI l) rfl HR.out ⟨wr.heap.size + 1, 0, none⟩ 1 1 [.int .i64 lo.conc, .int .i64 hi.thick, .int .i64 lo.ridge, .int .i64 hi.press] rfl rfl (World.news_of_block hnb) (by simp [Value.oneCell']) (by rw [HN.out]; simp only [maxLen]; omega) (by rw [HN.out]; omega) (by omega) ?_
        intro v2 Zg hown hgrow _
        have zb := (Below.refl (w.heap.size + 1) Y1).grown hgrow (by omega) (row_base HR.out)
        have HRN := Lib.hid (show IcRow Zg (w.heap.size + 1) v2 (l ++ [⟨lo.conc, hi.thick, lo.ridge, hi.press⟩]) from by unfold IcRow; rw [flatI_snoc, List.length_append]; exact hown)
        replace HK := Lib.hid ((zb.block _ (by omega)).trans HK.out)
        replace HB := Lib.hid (HB.out.trans (zb.mono (by omega)))
        clear hown hgrow zb HR hnb hsT
        go_wp2_with fail
        go_roundw
        case rel => exact ⟨k + 1, l ++ [⟨lo.conc, hi.thick, lo.ridge, hi.press⟩], by go_num, by omega, Lib.hid (by rw [List.length_append, HN.out]; rfl), Lib.hid (HCR.out.snoc ⟨⟨Int.le_refl _, HLE.out.thick, Int.le_refl _, HLE.out.press⟩, ⟨HLE.out.conc, Int.le_refl _, HLE.out.ridge, Int.le_refl _⟩⟩ (fun e => by have h := H1.out; have := HN.out; simp only [beq_iff_eq] at h; omega) (fun e => by have h := H0.out; have := HN.out; simp only [beq_eq_false_iff_ne, ne_eq] at h; omega)), HB, HK, HRN⟩
        case measure => simp [intOf]; omega
      case false.true.true.false =>
        go_wp2_with (at_builtin; refine Hid.out ?_)
        refine Lib.hid ?_
        have hb1 := (Below.refl wr.heap.size wr).alloc (Nat.le_refl _) (.cells #[.int .i64 lo.conc, .int .i64 hi.thick, .int .i64 hi.ridge, .int .i64 lo.press] 38)
        have hbT := hb1.alloc hb1.size (.cells #[.int .i64 lo.conc, .int .i64 hi.thick, .int .i64 hi.ridge, .int .i64 lo.press] 38)
        have hs1 : (wr.alloc (.cells #[.int .i64 lo.conc, .int .i64 hi.thick, .int .i64 hi.ridge, .int .i64 lo.press] 38)).heap.size = wr.heap.size + 1 := by simp
        have hnb := block_new (wr.alloc (.cells #[.int .i64 lo.conc, .int .i64 hi.thick, .int .i64 hi.ridge, .int .i64 lo.press] 38)) (.cells #[.int .i64 lo.conc, .int .i64 hi.thick, .int .i64 hi.ridge, .int .i64 lo.press] 38)
        rw [hs1] at hnb
        replace HK := Lib.hid ((hbT.block _ hlw).trans HK.out)
        replace HR := Lib.hid (row_later HR.out hbT)
        replace HB := Lib.hid (HB.out.trans (hbT.mono HB.out.size))
        have hsT := hbT.size
        clear hb1 hbT hs1 hba f0 f1 f2 f3 f4 f5 f6 f7 d0 d1 d2 d3 d4 d5 d6 d7 h0 h1 h2 h3
        generalize (wr.alloc (.cells #[.int .i64 lo.conc, .int .i64 hi.thick, .int .i64 hi.ridge, .int .i64 lo.press] 38)).alloc (.cells #[.int .i64 lo.conc, .int .i64 hi.thick, .int .i64 hi.ridge, .int .i64 lo.press] 38) = Y1 at *
        refine wpList_append_own _ rfl (.tmp 53) (.tmp 55) 143 rfl (w.heap.size + 1) 38 i0 (.agg #[.int .i64 0, .int .i64 0, .int .i64 0, .int .i64 0]) 4 32 und143 hi0 hz0 hz1 hz2 rfl (by decide) u3 l.length (flatI l) rfl HR.out ⟨wr.heap.size + 1, 0, none⟩ 1 1 [.int .i64 lo.conc, .int .i64 hi.thick, .int .i64 hi.ridge, .int .i64 lo.press] rfl rfl (World.news_of_block hnb) (by simp [Value.oneCell']) (by rw [HN.out]; simp only [maxLen]; omega) (by rw [HN.out]; omega) (by omega) ?_
        intro v2 Zg hown hgrow _
        have zb := (Below.refl (w.heap.size + 1) Y1).grown hgrow (by omega) (row_base HR.out)
        have HRN := Lib.hid (show IcRow Zg (w.heap.size + 1) v2 (l ++ [⟨lo.conc, hi.thick, hi.ridge, lo.press⟩]) from by unfold IcRow; rw [flatI_snoc, List.length_append]; exact hown)
        replace HK := Lib.hid ((zb.block _ (by omega)).trans HK.out)
        replace HB := Lib.hid (HB.out.trans (zb.mono (by omega)))
        clear hown hgrow zb HR hnb hsT
        go_wp2_with fail
        go_roundw
        case rel => exact ⟨k + 1, l ++ [⟨lo.conc, hi.thick, hi.ridge, lo.press⟩], by go_num, by omega, Lib.hid (by rw [List.length_append, HN.out]; rfl), Lib.hid (HCR.out.snoc ⟨⟨Int.le_refl _, HLE.out.thick, HLE.out.ridge, Int.le_refl _⟩, ⟨HLE.out.conc, Int.le_refl _, Int.le_refl _, HLE.out.press⟩⟩ (fun e => by have h := H1.out; have := HN.out; simp only [beq_iff_eq] at h; omega) (fun e => by have h := H0.out; have := HN.out; simp only [beq_eq_false_iff_ne, ne_eq] at h; omega)), HB, HK, HRN⟩
        case measure => simp [intOf]; omega
      case false.true.true.true =>
        go_wp2_with (at_builtin; refine Hid.out ?_)
        refine Lib.hid ?_
        have hb1 := (Below.refl wr.heap.size wr).alloc (Nat.le_refl _) (.cells #[.int .i64 lo.conc, .int .i64 hi.thick, .int .i64 hi.ridge, .int .i64 hi.press] 38)
        have hbT := hb1.alloc hb1.size (.cells #[.int .i64 lo.conc, .int .i64 hi.thick, .int .i64 hi.ridge, .int .i64 hi.press] 38)
        have hs1 : (wr.alloc (.cells #[.int .i64 lo.conc, .int .i64 hi.thick, .int .i64 hi.ridge, .int .i64 hi.press] 38)).heap.size = wr.heap.size + 1 := by simp
        have hnb := block_new (wr.alloc (.cells #[.int .i64 lo.conc, .int .i64 hi.thick, .int .i64 hi.ridge, .int .i64 hi.press] 38)) (.cells #[.int .i64 lo.conc, .int .i64 hi.thick, .int .i64 hi.ridge, .int .i64 hi.press] 38)
        rw [hs1] at hnb
        replace HK := Lib.hid ((hbT.block _ hlw).trans HK.out)
        replace HR := Lib.hid (row_later HR.out hbT)
        replace HB := Lib.hid (HB.out.trans (hbT.mono HB.out.size))
        have hsT := hbT.size
        clear hb1 hbT hs1 hba f0 f1 f2 f3 f4 f5 f6 f7 d0 d1 d2 d3 d4 d5 d6 d7 h0 h1 h2 h3
        generalize (wr.alloc (.cells #[.int .i64 lo.conc, .int .i64 hi.thick, .int .i64 hi.ridge, .int .i64 hi.press] 38)).alloc (.cells #[.int .i64 lo.conc, .int .i64 hi.thick, .int .i64 hi.ridge, .int .i64 hi.press] 38) = Y1 at *
        refine wpList_append_own _ rfl (.tmp 53) (.tmp 55) 143 rfl (w.heap.size + 1) 38 i0 (.agg #[.int .i64 0, .int .i64 0, .int .i64 0, .int .i64 0]) 4 32 und143 hi0 hz0 hz1 hz2 rfl (by decide) u3 l.length (flatI l) rfl HR.out ⟨wr.heap.size + 1, 0, none⟩ 1 1 [.int .i64 lo.conc, .int .i64 hi.thick, .int .i64 hi.ridge, .int .i64 hi.press] rfl rfl (World.news_of_block hnb) (by simp [Value.oneCell']) (by rw [HN.out]; simp only [maxLen]; omega) (by rw [HN.out]; omega) (by omega) ?_
        intro v2 Zg hown hgrow _
        have zb := (Below.refl (w.heap.size + 1) Y1).grown hgrow (by omega) (row_base HR.out)
        have HRN := Lib.hid (show IcRow Zg (w.heap.size + 1) v2 (l ++ [⟨lo.conc, hi.thick, hi.ridge, hi.press⟩]) from by unfold IcRow; rw [flatI_snoc, List.length_append]; exact hown)
        replace HK := Lib.hid ((zb.block _ (by omega)).trans HK.out)
        replace HB := Lib.hid (HB.out.trans (zb.mono (by omega)))
        clear hown hgrow zb HR hnb hsT
        go_wp2_with fail
        go_roundw
        case rel => exact ⟨k + 1, l ++ [⟨lo.conc, hi.thick, hi.ridge, hi.press⟩], by go_num, by omega, Lib.hid (by rw [List.length_append, HN.out]; rfl), Lib.hid (HCR.out.snoc ⟨⟨Int.le_refl _, HLE.out.thick, HLE.out.ridge, HLE.out.press⟩, ⟨HLE.out.conc, Int.le_refl _, Int.le_refl _, Int.le_refl _⟩⟩ (fun e => by have h := H1.out; have := HN.out; simp only [beq_iff_eq] at h; omega) (fun e => by have h := H0.out; have := HN.out; simp only [beq_eq_false_iff_ne, ne_eq] at h; omega)), HB, HK, HRN⟩
        case measure => simp [intOf]; omega
      case true.false.false.false =>
        go_wp2_with (at_builtin; refine Hid.out ?_)
        refine Lib.hid ?_
        have hb1 := (Below.refl wr.heap.size wr).alloc (Nat.le_refl _) (.cells #[.int .i64 hi.conc, .int .i64 lo.thick, .int .i64 lo.ridge, .int .i64 lo.press] 38)
        have hbT := hb1.alloc hb1.size (.cells #[.int .i64 hi.conc, .int .i64 lo.thick, .int .i64 lo.ridge, .int .i64 lo.press] 38)
        have hs1 : (wr.alloc (.cells #[.int .i64 hi.conc, .int .i64 lo.thick, .int .i64 lo.ridge, .int .i64 lo.press] 38)).heap.size = wr.heap.size + 1 := by simp
        have hnb := block_new (wr.alloc (.cells #[.int .i64 hi.conc, .int .i64 lo.thick, .int .i64 lo.ridge, .int .i64 lo.press] 38)) (.cells #[.int .i64 hi.conc, .int .i64 lo.thick, .int .i64 lo.ridge, .int .i64 lo.press] 38)
        rw [hs1] at hnb
        replace HK := Lib.hid ((hbT.block _ hlw).trans HK.out)
        replace HR := Lib.hid (row_later HR.out hbT)
        replace HB := Lib.hid (HB.out.trans (hbT.mono HB.out.size))
        have hsT := hbT.size
        clear hb1 hbT hs1 hba f0 f1 f2 f3 f4 f5 f6 f7 d0 d1 d2 d3 d4 d5 d6 d7 h0 h1 h2 h3
        generalize (wr.alloc (.cells #[.int .i64 hi.conc, .int .i64 lo.thick, .int .i64 lo.ridge, .int .i64 lo.press] 38)).alloc (.cells #[.int .i64 hi.conc, .int .i64 lo.thick, .int .i64 lo.ridge, .int .i64 lo.press] 38) = Y1 at *
        refine wpList_append_own _ rfl (.tmp 53) (.tmp 55) 143 rfl (w.heap.size + 1) 38 i0 (.agg #[.int .i64 0, .int .i64 0, .int .i64 0, .int .i64 0]) 4 32 und143 hi0 hz0 hz1 hz2 rfl (by decide) u3 l.length (flatI l) rfl HR.out ⟨wr.heap.size + 1, 0, none⟩ 1 1 [.int .i64 hi.conc, .int .i64 lo.thick, .int .i64 lo.ridge, .int .i64 lo.press] rfl rfl (World.news_of_block hnb) (by simp [Value.oneCell']) (by rw [HN.out]; simp only [maxLen]; omega) (by rw [HN.out]; omega) (by omega) ?_
        intro v2 Zg hown hgrow _
        have zb := (Below.refl (w.heap.size + 1) Y1).grown hgrow (by omega) (row_base HR.out)
        have HRN := Lib.hid (show IcRow Zg (w.heap.size + 1) v2 (l ++ [⟨hi.conc, lo.thick, lo.ridge, lo.press⟩]) from by unfold IcRow; rw [flatI_snoc, List.length_append]; exact hown)
        replace HK := Lib.hid ((zb.block _ (by omega)).trans HK.out)
        replace HB := Lib.hid (HB.out.trans (zb.mono (by omega)))
        clear hown hgrow zb HR hnb hsT
        go_wp2_with fail
        go_roundw
        case rel => exact ⟨k + 1, l ++ [⟨hi.conc, lo.thick, lo.ridge, lo.press⟩], by go_num, by omega, Lib.hid (by rw [List.length_append, HN.out]; rfl), Lib.hid (HCR.out.snoc ⟨⟨HLE.out.conc, Int.le_refl _, Int.le_refl _, Int.le_refl _⟩, ⟨Int.le_refl _, HLE.out.thick, HLE.out.ridge, HLE.out.press⟩⟩ (fun e => by have h := H0.out; have := HN.out; simp only [beq_iff_eq] at h; omega) (fun e => by have h := H1.out; have := HN.out; simp only [beq_eq_false_iff_ne, ne_eq] at h; omega)), HB, HK, HRN⟩
        case measure => simp [intOf]; omega
      case true.false.false.true =>
        go_wp2_with (at_builtin; refine Hid.out ?_)
        refine Lib.hid ?_
        have hb1 := (Below.refl wr.heap.size wr).alloc (Nat.le_refl _) (.cells #[.int .i64 hi.conc, .int .i64 lo.thick, .int .i64 lo.ridge, .int .i64 hi.press] 38)
        have hbT := hb1.alloc hb1.size (.cells #[.int .i64 hi.conc, .int .i64 lo.thick, .int .i64 lo.ridge, .int .i64 hi.press] 38)
        have hs1 : (wr.alloc (.cells #[.int .i64 hi.conc, .int .i64 lo.thick, .int .i64 lo.ridge, .int .i64 hi.press] 38)).heap.size = wr.heap.size + 1 := by simp
        have hnb := block_new (wr.alloc (.cells #[.int .i64 hi.conc, .int .i64 lo.thick, .int .i64 lo.ridge, .int .i64 hi.press] 38)) (.cells #[.int .i64 hi.conc, .int .i64 lo.thick, .int .i64 lo.ridge, .int .i64 hi.press] 38)
        rw [hs1] at hnb
        replace HK := Lib.hid ((hbT.block _ hlw).trans HK.out)
        replace HR := Lib.hid (row_later HR.out hbT)
        replace HB := Lib.hid (HB.out.trans (hbT.mono HB.out.size))
        have hsT := hbT.size
        clear hb1 hbT hs1 hba f0 f1 f2 f3 f4 f5 f6 f7 d0 d1 d2 d3 d4 d5 d6 d7 h0 h1 h2 h3
        generalize (wr.alloc (.cells #[.int .i64 hi.conc, .int .i64 lo.thick, .int .i64 lo.ridge, .int .i64 hi.press] 38)).alloc (.cells #[.int .i64 hi.conc, .int .i64 lo.thick, .int .i64 lo.ridge, .int .i64 hi.press] 38) = Y1 at *
        refine wpList_append_own _ rfl (.tmp 53) (.tmp 55) 143 rfl (w.heap.size + 1) 38 i0 (.agg #[.int .i64 0, .int .i64 0, .int .i64 0, .int .i64 0]) 4 32 und143 hi0 hz0 hz1 hz2 rfl (by decide) u3 l.length (flatI l) rfl HR.out ⟨wr.heap.size + 1, 0, none⟩ 1 1 [.int .i64 hi.conc, .int .i64 lo.thick, .int .i64 lo.ridge, .int .i64 hi.press] rfl rfl (World.news_of_block hnb) (by simp [Value.oneCell']) (by rw [HN.out]; simp only [maxLen]; omega) (by rw [HN.out]; omega) (by omega) ?_
        intro v2 Zg hown hgrow _
        have zb := (Below.refl (w.heap.size + 1) Y1).grown hgrow (by omega) (row_base HR.out)
        have HRN := Lib.hid (show IcRow Zg (w.heap.size + 1) v2 (l ++ [⟨hi.conc, lo.thick, lo.ridge, hi.press⟩]) from by unfold IcRow; rw [flatI_snoc, List.length_append]; exact hown)
        replace HK := Lib.hid ((zb.block _ (by omega)).trans HK.out)
        replace HB := Lib.hid (HB.out.trans (zb.mono (by omega)))
        clear hown hgrow zb HR hnb hsT
        go_wp2_with fail
        go_roundw
        case rel => exact ⟨k + 1, l ++ [⟨hi.conc, lo.thick, lo.ridge, hi.press⟩], by go_num, by omega, Lib.hid (by rw [List.length_append, HN.out]; rfl), Lib.hid (HCR.out.snoc ⟨⟨HLE.out.conc, Int.le_refl _, Int.le_refl _, HLE.out.press⟩, ⟨Int.le_refl _, HLE.out.thick, HLE.out.ridge, Int.le_refl _⟩⟩ (fun e => by have h := H0.out; have := HN.out; simp only [beq_iff_eq] at h; omega) (fun e => by have h := H1.out; have := HN.out; simp only [beq_eq_false_iff_ne, ne_eq] at h; omega)), HB, HK, HRN⟩
        case measure => simp [intOf]; omega
      case true.false.true.false =>
        go_wp2_with (at_builtin; refine Hid.out ?_)
        refine Lib.hid ?_
        have hb1 := (Below.refl wr.heap.size wr).alloc (Nat.le_refl _) (.cells #[.int .i64 hi.conc, .int .i64 lo.thick, .int .i64 hi.ridge, .int .i64 lo.press] 38)
        have hbT := hb1.alloc hb1.size (.cells #[.int .i64 hi.conc, .int .i64 lo.thick, .int .i64 hi.ridge, .int .i64 lo.press] 38)
        have hs1 : (wr.alloc (.cells #[.int .i64 hi.conc, .int .i64 lo.thick, .int .i64 hi.ridge, .int .i64 lo.press] 38)).heap.size = wr.heap.size + 1 := by simp
        have hnb := block_new (wr.alloc (.cells #[.int .i64 hi.conc, .int .i64 lo.thick, .int .i64 hi.ridge, .int .i64 lo.press] 38)) (.cells #[.int .i64 hi.conc, .int .i64 lo.thick, .int .i64 hi.ridge, .int .i64 lo.press] 38)
        rw [hs1] at hnb
        replace HK := Lib.hid ((hbT.block _ hlw).trans HK.out)
        replace HR := Lib.hid (row_later HR.out hbT)
        replace HB := Lib.hid (HB.out.trans (hbT.mono HB.out.size))
        have hsT := hbT.size
        clear hb1 hbT hs1 hba f0 f1 f2 f3 f4 f5 f6 f7 d0 d1 d2 d3 d4 d5 d6 d7 h0 h1 h2 h3
        generalize (wr.alloc (.cells #[.int .i64 hi.conc, .int .i64 lo.thick, .int .i64 hi.ridge, .int .i64 lo.press] 38)).alloc (.cells #[.int .i64 hi.conc, .int .i64 lo.thick, .int .i64 hi.ridge, .int .i64 lo.press] 38) = Y1 at *
        refine wpList_append_own _ rfl (.tmp 53) (.tmp 55) 143 rfl (w.heap.size + 1) 38 i0 (.agg #[.int .i64 0, .int .i64 0, .int .i64 0, .int .i64 0]) 4 32 und143 hi0 hz0 hz1 hz2 rfl (by decide) u3 l.length (flatI l) rfl HR.out ⟨wr.heap.size + 1, 0, none⟩ 1 1 [.int .i64 hi.conc, .int .i64 lo.thick, .int .i64 hi.ridge, .int .i64 lo.press] rfl rfl (World.news_of_block hnb) (by simp [Value.oneCell']) (by rw [HN.out]; simp only [maxLen]; omega) (by rw [HN.out]; omega) (by omega) ?_
        intro v2 Zg hown hgrow _
        have zb := (Below.refl (w.heap.size + 1) Y1).grown hgrow (by omega) (row_base HR.out)
        have HRN := Lib.hid (show IcRow Zg (w.heap.size + 1) v2 (l ++ [⟨hi.conc, lo.thick, hi.ridge, lo.press⟩]) from by unfold IcRow; rw [flatI_snoc, List.length_append]; exact hown)
        replace HK := Lib.hid ((zb.block _ (by omega)).trans HK.out)
        replace HB := Lib.hid (HB.out.trans (zb.mono (by omega)))
        clear hown hgrow zb HR hnb hsT
        go_wp2_with fail
        go_roundw
        case rel => exact ⟨k + 1, l ++ [⟨hi.conc, lo.thick, hi.ridge, lo.press⟩], by go_num, by omega, Lib.hid (by rw [List.length_append, HN.out]; rfl), Lib.hid (HCR.out.snoc ⟨⟨HLE.out.conc, Int.le_refl _, HLE.out.ridge, Int.le_refl _⟩, ⟨Int.le_refl _, HLE.out.thick, Int.le_refl _, HLE.out.press⟩⟩ (fun e => by have h := H0.out; have := HN.out; simp only [beq_iff_eq] at h; omega) (fun e => by have h := H1.out; have := HN.out; simp only [beq_eq_false_iff_ne, ne_eq] at h; omega)), HB, HK, HRN⟩
        case measure => simp [intOf]; omega
      case true.false.true.true =>
        go_wp2_with (at_builtin; refine Hid.out ?_)
        refine Lib.hid ?_
        have hb1 := (Below.refl wr.heap.size wr).alloc (Nat.le_refl _) (.cells #[.int .i64 hi.conc, .int .i64 lo.thick, .int .i64 hi.ridge, .int .i64 hi.press] 38)
        have hbT := hb1.alloc hb1.size (.cells #[.int .i64 hi.conc, .int .i64 lo.thick, .int .i64 hi.ridge, .int .i64 hi.press] 38)
        have hs1 : (wr.alloc (.cells #[.int .i64 hi.conc, .int .i64 lo.thick, .int .i64 hi.ridge, .int .i64 hi.press] 38)).heap.size = wr.heap.size + 1 := by simp
        have hnb := block_new (wr.alloc (.cells #[.int .i64 hi.conc, .int .i64 lo.thick, .int .i64 hi.ridge, .int .i64 hi.press] 38)) (.cells #[.int .i64 hi.conc, .int .i64 lo.thick, .int .i64 hi.ridge, .int .i64 hi.press] 38)
        rw [hs1] at hnb
        replace HK := Lib.hid ((hbT.block _ hlw).trans HK.out)
        replace HR := Lib.hid (row_later HR.out hbT)
        replace HB := Lib.hid (HB.out.trans (hbT.mono HB.out.size))
        have hsT := hbT.size
        clear hb1 hbT hs1 hba f0 f1 f2 f3 f4 f5 f6 f7 d0 d1 d2 d3 d4 d5 d6 d7 h0 h1 h2 h3
        generalize (wr.alloc (.cells #[.int .i64 hi.conc, .int .i64 lo.thick, .int .i64 hi.ridge, .int .i64 hi.press] 38)).alloc (.cells #[.int .i64 hi.conc, .int .i64 lo.thick, .int .i64 hi.ridge, .int .i64 hi.press] 38) = Y1 at *
        refine wpList_append_own _ rfl (.tmp 53) (.tmp 55) 143 rfl (w.heap.size + 1) 38 i0 (.agg #[.int .i64 0, .int .i64 0, .int .i64 0, .int .i64 0]) 4 32 und143 hi0 hz0 hz1 hz2 rfl (by decide) u3 l.length (flatI l) rfl HR.out ⟨wr.heap.size + 1, 0, none⟩ 1 1 [.int .i64 hi.conc, .int .i64 lo.thick, .int .i64 hi.ridge, .int .i64 hi.press] rfl rfl (World.news_of_block hnb) (by simp [Value.oneCell']) (by rw [HN.out]; simp only [maxLen]; omega) (by rw [HN.out]; omega) (by omega) ?_
        intro v2 Zg hown hgrow _
        have zb := (Below.refl (w.heap.size + 1) Y1).grown hgrow (by omega) (row_base HR.out)
        have HRN := Lib.hid (show IcRow Zg (w.heap.size + 1) v2 (l ++ [⟨hi.conc, lo.thick, hi.ridge, hi.press⟩]) from by unfold IcRow; rw [flatI_snoc, List.length_append]; exact hown)
        replace HK := Lib.hid ((zb.block _ (by omega)).trans HK.out)
        replace HB := Lib.hid (HB.out.trans (zb.mono (by omega)))
        clear hown hgrow zb HR hnb hsT
        go_wp2_with fail
        go_roundw
        case rel => exact ⟨k + 1, l ++ [⟨hi.conc, lo.thick, hi.ridge, hi.press⟩], by go_num, by omega, Lib.hid (by rw [List.length_append, HN.out]; rfl), Lib.hid (HCR.out.snoc ⟨⟨HLE.out.conc, Int.le_refl _, HLE.out.ridge, HLE.out.press⟩, ⟨Int.le_refl _, HLE.out.thick, Int.le_refl _, Int.le_refl _⟩⟩ (fun e => by have h := H0.out; have := HN.out; simp only [beq_iff_eq] at h; omega) (fun e => by have h := H1.out; have := HN.out; simp only [beq_eq_false_iff_ne, ne_eq] at h; omega)), HB, HK, HRN⟩
        case measure => simp [intOf]; omega
      case true.true.false.false =>
        go_wp2_with (at_builtin; refine Hid.out ?_)
        refine Lib.hid ?_
        have hb1 := (Below.refl wr.heap.size wr).alloc (Nat.le_refl _) (.cells #[.int .i64 hi.conc, .int .i64 hi.thick, .int .i64 lo.ridge, .int .i64 lo.press] 38)
        have hbT := hb1.alloc hb1.size (.cells #[.int .i64 hi.conc, .int .i64 hi.thick, .int .i64 lo.ridge, .int .i64 lo.press] 38)
        have hs1 : (wr.alloc (.cells #[.int .i64 hi.conc, .int .i64 hi.thick, .int .i64 lo.ridge, .int .i64 lo.press] 38)).heap.size = wr.heap.size + 1 := by simp
        have hnb := block_new (wr.alloc (.cells #[.int .i64 hi.conc, .int .i64 hi.thick, .int .i64 lo.ridge, .int .i64 lo.press] 38)) (.cells #[.int .i64 hi.conc, .int .i64 hi.thick, .int .i64 lo.ridge, .int .i64 lo.press] 38)
        rw [hs1] at hnb
        replace HK := Lib.hid ((hbT.block _ hlw).trans HK.out)
        replace HR := Lib.hid (row_later HR.out hbT)
        replace HB := Lib.hid (HB.out.trans (hbT.mono HB.out.size))
        have hsT := hbT.size
        clear hb1 hbT hs1 hba f0 f1 f2 f3 f4 f5 f6 f7 d0 d1 d2 d3 d4 d5 d6 d7 h0 h1 h2 h3
        generalize (wr.alloc (.cells #[.int .i64 hi.conc, .int .i64 hi.thick, .int .i64 lo.ridge, .int .i64 lo.press] 38)).alloc (.cells #[.int .i64 hi.conc, .int .i64 hi.thick, .int .i64 lo.ridge, .int .i64 lo.press] 38) = Y1 at *
        refine wpList_append_own _ rfl (.tmp 53) (.tmp 55) 143 rfl (w.heap.size + 1) 38 i0 (.agg #[.int .i64 0, .int .i64 0, .int .i64 0, .int .i64 0]) 4 32 und143 hi0 hz0 hz1 hz2 rfl (by decide) u3 l.length (flatI l) rfl HR.out ⟨wr.heap.size + 1, 0, none⟩ 1 1 [.int .i64 hi.conc, .int .i64 hi.thick, .int .i64 lo.ridge, .int .i64 lo.press] rfl rfl (World.news_of_block hnb) (by simp [Value.oneCell']) (by rw [HN.out]; simp only [maxLen]; omega) (by rw [HN.out]; omega) (by omega) ?_
        intro v2 Zg hown hgrow _
        have zb := (Below.refl (w.heap.size + 1) Y1).grown hgrow (by omega) (row_base HR.out)
        have HRN := Lib.hid (show IcRow Zg (w.heap.size + 1) v2 (l ++ [⟨hi.conc, hi.thick, lo.ridge, lo.press⟩]) from by unfold IcRow; rw [flatI_snoc, List.length_append]; exact hown)
        replace HK := Lib.hid ((zb.block _ (by omega)).trans HK.out)
        replace HB := Lib.hid (HB.out.trans (zb.mono (by omega)))
        clear hown hgrow zb HR hnb hsT
        go_wp2_with fail
        go_roundw
        case rel => exact ⟨k + 1, l ++ [⟨hi.conc, hi.thick, lo.ridge, lo.press⟩], by go_num, by omega, Lib.hid (by rw [List.length_append, HN.out]; rfl), Lib.hid (HCR.out.snoc ⟨⟨HLE.out.conc, HLE.out.thick, Int.le_refl _, Int.le_refl _⟩, ⟨Int.le_refl _, Int.le_refl _, HLE.out.ridge, HLE.out.press⟩⟩ (fun e => by have h := H0.out; have := HN.out; simp only [beq_iff_eq] at h; omega) (fun e => by have h := H2.out; have := HN.out; simp only [beq_eq_false_iff_ne, ne_eq] at h; omega)), HB, HK, HRN⟩
        case measure => simp [intOf]; omega
      case true.true.false.true =>
        go_wp2_with (at_builtin; refine Hid.out ?_)
        refine Lib.hid ?_
        have hb1 := (Below.refl wr.heap.size wr).alloc (Nat.le_refl _) (.cells #[.int .i64 hi.conc, .int .i64 hi.thick, .int .i64 lo.ridge, .int .i64 hi.press] 38)
        have hbT := hb1.alloc hb1.size (.cells #[.int .i64 hi.conc, .int .i64 hi.thick, .int .i64 lo.ridge, .int .i64 hi.press] 38)
        have hs1 : (wr.alloc (.cells #[.int .i64 hi.conc, .int .i64 hi.thick, .int .i64 lo.ridge, .int .i64 hi.press] 38)).heap.size = wr.heap.size + 1 := by simp
        have hnb := block_new (wr.alloc (.cells #[.int .i64 hi.conc, .int .i64 hi.thick, .int .i64 lo.ridge, .int .i64 hi.press] 38)) (.cells #[.int .i64 hi.conc, .int .i64 hi.thick, .int .i64 lo.ridge, .int .i64 hi.press] 38)
        rw [hs1] at hnb
        replace HK := Lib.hid ((hbT.block _ hlw).trans HK.out)
        replace HR := Lib.hid (row_later HR.out hbT)
        replace HB := Lib.hid (HB.out.trans (hbT.mono HB.out.size))
        have hsT := hbT.size
        clear hb1 hbT hs1 hba f0 f1 f2 f3 f4 f5 f6 f7 d0 d1 d2 d3 d4 d5 d6 d7 h0 h1 h2 h3
        generalize (wr.alloc (.cells #[.int .i64 hi.conc, .int .i64 hi.thick, .int .i64 lo.ridge, .int .i64 hi.press] 38)).alloc (.cells #[.int .i64 hi.conc, .int .i64 hi.thick, .int .i64 lo.ridge, .int .i64 hi.press] 38) = Y1 at *
        refine wpList_append_own _ rfl (.tmp 53) (.tmp 55) 143 rfl (w.heap.size + 1) 38 i0 (.agg #[.int .i64 0, .int .i64 0, .int .i64 0, .int .i64 0]) 4 32 und143 hi0 hz0 hz1 hz2 rfl (by decide) u3 l.length (flatI l) rfl HR.out ⟨wr.heap.size + 1, 0, none⟩ 1 1 [.int .i64 hi.conc, .int .i64 hi.thick, .int .i64 lo.ridge, .int .i64 hi.press] rfl rfl (World.news_of_block hnb) (by simp [Value.oneCell']) (by rw [HN.out]; simp only [maxLen]; omega) (by rw [HN.out]; omega) (by omega) ?_
        intro v2 Zg hown hgrow _
        have zb := (Below.refl (w.heap.size + 1) Y1).grown hgrow (by omega) (row_base HR.out)
        have HRN := Lib.hid (show IcRow Zg (w.heap.size + 1) v2 (l ++ [⟨hi.conc, hi.thick, lo.ridge, hi.press⟩]) from by unfold IcRow; rw [flatI_snoc, List.length_append]; exact hown)
        replace HK := Lib.hid ((zb.block _ (by omega)).trans HK.out)
        replace HB := Lib.hid (HB.out.trans (zb.mono (by omega)))
        clear hown hgrow zb HR hnb hsT
        go_wp2_with fail
        go_roundw
        case rel => exact ⟨k + 1, l ++ [⟨hi.conc, hi.thick, lo.ridge, hi.press⟩], by go_num, by omega, Lib.hid (by rw [List.length_append, HN.out]; rfl), Lib.hid (HCR.out.snoc ⟨⟨HLE.out.conc, HLE.out.thick, Int.le_refl _, HLE.out.press⟩, ⟨Int.le_refl _, Int.le_refl _, HLE.out.ridge, Int.le_refl _⟩⟩ (fun e => by have h := H0.out; have := HN.out; simp only [beq_iff_eq] at h; omega) (fun e => by have h := H2.out; have := HN.out; simp only [beq_eq_false_iff_ne, ne_eq] at h; omega)), HB, HK, HRN⟩
        case measure => simp [intOf]; omega
      case true.true.true.false =>
        go_wp2_with (at_builtin; refine Hid.out ?_)
        refine Lib.hid ?_
        have hb1 := (Below.refl wr.heap.size wr).alloc (Nat.le_refl _) (.cells #[.int .i64 hi.conc, .int .i64 hi.thick, .int .i64 hi.ridge, .int .i64 lo.press] 38)
        have hbT := hb1.alloc hb1.size (.cells #[.int .i64 hi.conc, .int .i64 hi.thick, .int .i64 hi.ridge, .int .i64 lo.press] 38)
        have hs1 : (wr.alloc (.cells #[.int .i64 hi.conc, .int .i64 hi.thick, .int .i64 hi.ridge, .int .i64 lo.press] 38)).heap.size = wr.heap.size + 1 := by simp
        have hnb := block_new (wr.alloc (.cells #[.int .i64 hi.conc, .int .i64 hi.thick, .int .i64 hi.ridge, .int .i64 lo.press] 38)) (.cells #[.int .i64 hi.conc, .int .i64 hi.thick, .int .i64 hi.ridge, .int .i64 lo.press] 38)
        rw [hs1] at hnb
        replace HK := Lib.hid ((hbT.block _ hlw).trans HK.out)
        replace HR := Lib.hid (row_later HR.out hbT)
        replace HB := Lib.hid (HB.out.trans (hbT.mono HB.out.size))
        have hsT := hbT.size
        clear hb1 hbT hs1 hba f0 f1 f2 f3 f4 f5 f6 f7 d0 d1 d2 d3 d4 d5 d6 d7 h0 h1 h2 h3
        generalize (wr.alloc (.cells #[.int .i64 hi.conc, .int .i64 hi.thick, .int .i64 hi.ridge, .int .i64 lo.press] 38)).alloc (.cells #[.int .i64 hi.conc, .int .i64 hi.thick, .int .i64 hi.ridge, .int .i64 lo.press] 38) = Y1 at *
        refine wpList_append_own _ rfl (.tmp 53) (.tmp 55) 143 rfl (w.heap.size + 1) 38 i0 (.agg #[.int .i64 0, .int .i64 0, .int .i64 0, .int .i64 0]) 4 32 und143 hi0 hz0 hz1 hz2 rfl (by decide) u3 l.length (flatI l) rfl HR.out ⟨wr.heap.size + 1, 0, none⟩ 1 1 [.int .i64 hi.conc, .int .i64 hi.thick, .int .i64 hi.ridge, .int .i64 lo.press] rfl rfl (World.news_of_block hnb) (by simp [Value.oneCell']) (by rw [HN.out]; simp only [maxLen]; omega) (by rw [HN.out]; omega) (by omega) ?_
        intro v2 Zg hown hgrow _
        have zb := (Below.refl (w.heap.size + 1) Y1).grown hgrow (by omega) (row_base HR.out)
        have HRN := Lib.hid (show IcRow Zg (w.heap.size + 1) v2 (l ++ [⟨hi.conc, hi.thick, hi.ridge, lo.press⟩]) from by unfold IcRow; rw [flatI_snoc, List.length_append]; exact hown)
        replace HK := Lib.hid ((zb.block _ (by omega)).trans HK.out)
        replace HB := Lib.hid (HB.out.trans (zb.mono (by omega)))
        clear hown hgrow zb HR hnb hsT
        go_wp2_with fail
        go_roundw
        case rel => exact ⟨k + 1, l ++ [⟨hi.conc, hi.thick, hi.ridge, lo.press⟩], by go_num, by omega, Lib.hid (by rw [List.length_append, HN.out]; rfl), Lib.hid (HCR.out.snoc ⟨⟨HLE.out.conc, HLE.out.thick, HLE.out.ridge, Int.le_refl _⟩, ⟨Int.le_refl _, Int.le_refl _, Int.le_refl _, HLE.out.press⟩⟩ (fun e => by have h := H0.out; have := HN.out; simp only [beq_iff_eq] at h; omega) (fun e => by have h := H3.out; have := HN.out; simp only [beq_eq_false_iff_ne, ne_eq] at h; omega)), HB, HK, HRN⟩
        case measure => simp [intOf]; omega
      case true.true.true.true =>
        go_wp2_with (at_builtin; refine Hid.out ?_)
        refine Lib.hid ?_
        have hb1 := (Below.refl wr.heap.size wr).alloc (Nat.le_refl _) (.cells #[.int .i64 hi.conc, .int .i64 hi.thick, .int .i64 hi.ridge, .int .i64 hi.press] 38)
        have hbT := hb1.alloc hb1.size (.cells #[.int .i64 hi.conc, .int .i64 hi.thick, .int .i64 hi.ridge, .int .i64 hi.press] 38)
        have hs1 : (wr.alloc (.cells #[.int .i64 hi.conc, .int .i64 hi.thick, .int .i64 hi.ridge, .int .i64 hi.press] 38)).heap.size = wr.heap.size + 1 := by simp
        have hnb := block_new (wr.alloc (.cells #[.int .i64 hi.conc, .int .i64 hi.thick, .int .i64 hi.ridge, .int .i64 hi.press] 38)) (.cells #[.int .i64 hi.conc, .int .i64 hi.thick, .int .i64 hi.ridge, .int .i64 hi.press] 38)
        rw [hs1] at hnb
        replace HK := Lib.hid ((hbT.block _ hlw).trans HK.out)
        replace HR := Lib.hid (row_later HR.out hbT)
        replace HB := Lib.hid (HB.out.trans (hbT.mono HB.out.size))
        have hsT := hbT.size
        clear hb1 hbT hs1 hba f0 f1 f2 f3 f4 f5 f6 f7 d0 d1 d2 d3 d4 d5 d6 d7 h0 h1 h2 h3
        generalize (wr.alloc (.cells #[.int .i64 hi.conc, .int .i64 hi.thick, .int .i64 hi.ridge, .int .i64 hi.press] 38)).alloc (.cells #[.int .i64 hi.conc, .int .i64 hi.thick, .int .i64 hi.ridge, .int .i64 hi.press] 38) = Y1 at *
        refine wpList_append_own _ rfl (.tmp 53) (.tmp 55) 143 rfl (w.heap.size + 1) 38 i0 (.agg #[.int .i64 0, .int .i64 0, .int .i64 0, .int .i64 0]) 4 32 und143 hi0 hz0 hz1 hz2 rfl (by decide) u3 l.length (flatI l) rfl HR.out ⟨wr.heap.size + 1, 0, none⟩ 1 1 [.int .i64 hi.conc, .int .i64 hi.thick, .int .i64 hi.ridge, .int .i64 hi.press] rfl rfl (World.news_of_block hnb) (by simp [Value.oneCell']) (by rw [HN.out]; simp only [maxLen]; omega) (by rw [HN.out]; omega) (by omega) ?_
        intro v2 Zg hown hgrow _
        have zb := (Below.refl (w.heap.size + 1) Y1).grown hgrow (by omega) (row_base HR.out)
        have HRN := Lib.hid (show IcRow Zg (w.heap.size + 1) v2 (l ++ [⟨hi.conc, hi.thick, hi.ridge, hi.press⟩]) from by unfold IcRow; rw [flatI_snoc, List.length_append]; exact hown)
        replace HK := Lib.hid ((zb.block _ (by omega)).trans HK.out)
        replace HB := Lib.hid (HB.out.trans (zb.mono (by omega)))
        clear hown hgrow zb HR hnb hsT
        go_wp2_with fail
        go_roundw
        case rel => exact ⟨k + 1, l ++ [⟨hi.conc, hi.thick, hi.ridge, hi.press⟩], by go_num, by omega, Lib.hid (by rw [List.length_append, HN.out]; rfl), Lib.hid (HCR.out.snoc ⟨⟨HLE.out.conc, HLE.out.thick, HLE.out.ridge, HLE.out.press⟩, ⟨Int.le_refl _, Int.le_refl _, Int.le_refl _, Int.le_refl _⟩⟩ (fun e => by have h := H0.out; have := HN.out; simp only [beq_iff_eq] at h; omega) (fun _ => rfl)), HB, HK, HRN⟩
        case measure => simp [intOf]; omega
    · obtain rfl : k = 16 := by omega
      obtain ⟨q, cp, e3⟩ := row_shape HR.out
      subst e3
      have hl := HN.out
      have HX := Lib.hid (show IcesIn wr q 16 (icOf l) from by rw [← hl]; exact HR.out.ices)
      have HI := Lib.hid (fun i (h : i < 16) => show InC lo hi (icOf l i) from by
        have hi' : i < l.length := by omega
        have e : icOf l i = l[i] := by simp [icOf, hi']
        rw [e]
        exact HCR.out.i _ (List.getElem_mem hi'))
      have HF := Lib.hid (HCR.out.f (by omega))
      have HZ := Lib.hid (HCR.out.z (by omega))
      clear HR HCR
      go_wp2_with fail
      go_ret
      exact ⟨q, cp, icOf l, by first | rfl | (rw [hl]; rfl), HX.out, HI.out, HF.out, HZ.out, HB.out⟩
end Go.Proofs.YtcoiklolgilhaaaGreatDoor
namespace Go.Proofs.YtcoiklolgilhaaaGreatDoor
open Go.RowKit
set_option maxRecDepth 100000
section
variable {Q : Exit → Act → World → Prop} {o : Oper} {a' : Act} {W : World}
theorem op_idx143 {s t g ob n cap i : Nat} (hi : i < n) (hop : o.op = Op.indexAddr 143 (.tmp s) (.tmp t)) (he : a'.eval (.tmp s) = .slice (some ⟨g, ob, none⟩) n cap) (ht : a'.eval (.tmp t) = .int .i64 i) :
    o.wp Tryz.prog a' W (fun a'' W' => a'' = a'.put o.dst (.pointer (some ⟨g, ob + i * 4, none⟩)) ∧ Below W.heap.size W W') Q := by
  have hr := Below.refl W.heap.size W
  have he' : a'.tmps[s]?.getD undef = .slice (some ⟨g, ob, none⟩) n cap := by simpa [Act.eval] using he
  have ht' : a'.tmps[t]?.getD undef = .int .i64 i := by simpa [Act.eval] using ht
  have hi' : (i : Int) < (n : Int) := by omega
  have hi0 : (0 : Int) ≤ (i : Int) := by omega
  unfold Oper.wp execOp
  rw [hop]
  simp [go_sem, he', ht', hi', hi0, hr]
theorem op_load38o {s g ob : Nat} {x0 x1 x2 x3 : Value} (hop : o.op = Op.load 38 (.tmp s)) (he : a'.eval (.tmp s) = .pointer (some ⟨g, ob, none⟩))
    (c0 : W.cell? ⟨g, ob, none⟩ = some x0) (c1 : W.cell? ⟨g, ob + 1, none⟩ = some x1) (c2 : W.cell? ⟨g, ob + 2, none⟩ = some x2) (c3 : W.cell? ⟨g, ob + 3, none⟩ = some x3) :
    o.wp Tryz.prog a' W (fun a'' W' => a'' = a'.put o.dst (.agg #[x0, x1, x2, x3]) ∧ Below W.heap.size W W') Q := by
  have hr := Below.refl W.heap.size W
  have he' : a'.tmps[s]?.getD undef = .pointer (some ⟨g, ob, none⟩) := by simpa [Act.eval] using he
  unfold Oper.wp execOp
  rw [hop]
  simp [go_sem, he', c0, c1, c2, c3, hr]
end
def spF9 (s : Sh) (m : Mem3) (g ob cap k : Nat) (ch : Bool) (x : Ic) : Nat → Value → Prop
  | 0, v => v = .agg (shipA s m)
  | 1, v => v = .slice (some ⟨g, ob, none⟩) 16 cap
  | 2, v => v = .int .i64 (k : Int)
  | 3, v => v = .pointer (some ⟨g, ob + k * 4, none⟩)
  | 4, v => v = .agg (iceV x)
  | 5, v => v = .bool ch
  | 6, v => v = .int .i64 (speedP s x ch : Nat)
  | 7, v => v = .int .i64 (speedP s x ch : Nat)
  | _, _ => True
set_option maxHeartbeats 16000000 in
theorem rSpeeds_any (s : Sh) (m : Mem3) (lo hi : Ic) (ch : Bool) (w : World) (h : ShipIn w s m) :
    Calls Tryz.prog 24 #[.agg (shipA s m), .agg (cellV lo hi), .bool ch] w fun e w' => e = .returned (SpeedsRes s lo hi ch) ∧ Below w.heap.size w w' := by
  obtain ⟨t0, t1, t2, tz, tb⟩ := three_allocs w (.cells (shipA s m) 36) (.cells (cellV lo hi) 39) (.cells #[.int .i64 0, .int .i64 0] 28)
  have HB := Lib.hid tb
  have HK3 := Lib.hid t0
  have HK4 := Lib.hid t1
  have HK6 := Lib.hid t2
  have HS := Lib.hid (h.later tb)
  clear t0 t1 t2 tb h
  obtain ⟨c0, c1, c2, c3, c4, c5, c6, c7, c8, c9, c10⟩ := cells11 HK3.out
  obtain ⟨⟨d0, d1, d2, d3, d4, d5, d6, d7⟩, _⟩ := cells8 HK4.out
  go_enter Tryz.func24, Tryz.ntmps24
  go_wp2_with fail
  generalize ((w.alloc (.cells (shipA s m) 36)).alloc (.cells (cellV lo hi) 39)).alloc (.cells #[.int .i64 0, .int .i64 0] 28) = X0 at *
  refine (rmet_any s m lo hi X0 HS.out).mono ?_
  rintro e V1 ⟨rfl, hb⟩
  clear c0 c1 c2 c3 c4 c5 c6 c7 c8 c9 c10 d0 d1 d2 d3 d4 d5 d6 d7
  replace HK3 := Lib.hid ((hb.block _ (lt_of_block HK3.out)).trans HK3.out)
  replace HK4 := Lib.hid ((hb.block _ (lt_of_block HK4.out)).trans HK4.out)
  replace HK6 := Lib.hid ((hb.block _ (lt_of_block HK6.out)).trans HK6.out)
  replace HS := Lib.hid (HS.out.later hb)
  replace HB := Lib.hid (HB.out.trans (hb.mono HB.out.size))
  clear hb
  by_cases hE : orL [chkP s, cellE lo hi] = 0
  · have HR := Lib.hid (show SpeedsRes s lo hi ch = _ from by unfold SpeedsRes; exact if_pos hE)
    obtain ⟨o1, o2⟩ := orL1 hE
    have g := Lib.hid (good_of o1)
    have gc := Lib.hid (cellE_ok (orL1 o2).1)
    have HSP := Lib.hid (span_sp (ch := ch) g.out gc.out)
    rw [hE]
    clear hE o1 o2
    obtain ⟨⟨d0, d1, d2, d3, d4, d5, d6, d7⟩, _⟩ := cells8 HK4.out
    go_wp2_with fail
    refine (Corners_any lo hi gc.out _).mono ?_
    rintro e V2 ⟨q, cap, X, rfl, hX, hIn, hX0, hX15, hb⟩
    have HX := Lib.hid hX
    have HIN := Lib.hid hIn
    have HX0 := Lib.hid hX0
    have HX15 := Lib.hid hX15
    clear d0 d1 d2 d3 d4 d5 d6 d7 hX hIn hX0 hX15
    replace HK3 := Lib.hid ((hb.block _ (lt_of_block HK3.out)).trans HK3.out)
    replace HK6 := Lib.hid ((hb.block _ (lt_of_block HK6.out)).trans HK6.out)
    replace HS := Lib.hid (HS.out.later hb)
    replace HB := Lib.hid (HB.out.trans (hb.mono HB.out.size))
    clear hb HK4
    obtain ⟨g0, ob, eq, _⟩ := HX.out 0 (by omega)
    subst eq
    have hba := (Below.refl V2.heap.size V2).alloc (Nat.le_refl _) (.cells #[.int .i64 250, .int .i64 0] 28)
    have hk10 := block_new V2 (.cells #[.int .i64 250, .int .i64 0] 28)
    have hl6 := lt_of_block HK6.out
    go_wp2_with fail
    have HB2 := Lib.hid hba
    have HK10 := Lib.hid hk10
    clear hba hk10
    generalize V2.alloc (.cells #[.int .i64 250, .int .i64 0] 28) = X1 at *
    have spt := Lib.hid (fun (i : Ic) (gi : GoodI i) => (sp_top (ch := ch) g.out gi).2)
    go_loopw [11] (fun n wr => ∃ (k : Nat) (A B : Int), n = .int .i64 k ∧ k ≤ 16 ∧ Hid (((speedP s hi ch : Nat) : Int) ≤ A ∧ A ≤ 250 ∧ 0 ≤ B ∧ B ≤ ((speedP s lo ch : Nat) : Int) ∧ (15 < k → A ≤ ((speedP s hi ch : Nat) : Int)) ∧ (0 < k → ((speedP s lo ch : Nat) : Int) ≤ B)) ∧ Hid (Below V2.heap.size V2 wr) ∧ Hid (wr.heap[V2.heap.size]? = some (.cells #[.int .i64 A, .int .i64 B] 28 (0, 0)))) (fun n _ => 16 - (intOf n).toNat)
    case atStart => exact ⟨0, 250, 0, rfl, by omega, Lib.hid ⟨by have := spt.out hi gc.out.gh; omega, Int.le_refl _, Int.le_refl _, by omega, fun h => by omega, fun h => by omega⟩, HB2, HK10⟩
    case round =>
      clear HB2 HK10
      obtain ⟨k, A, B, rfl, hk, hF, hB, hK10⟩ := hrel
      have HF := Lib.hid hF.out
      have HB2 := Lib.hid hB.out
      have HK10 := Lib.hid hK10.out
      replace HK3 := Lib.hid ((HB2.out.block _ (lt_of_block HK3.out)).trans HK3.out)
      replace HK6 := Lib.hid ((HB2.out.block _ (lt_of_block HK6.out)).trans HK6.out)
      replace HS := Lib.hid (HS.out.later HB2.out)
      replace HX := Lib.hid (HX.out.later HB2.out)
      clear hF hB hK10
      by_cases hlt : k < 16
      · have hlt' : (k : Int) < 16 := by omega
        have HXk := Lib.hid (fun (W : World) (hW : Below wr.heap.size wr W) => (HX.out.later hW) k hlt)
        go_wp2_with fail
        refine wp_region_fi [29, 30, 31, 32, 33, 34, 35, 12] (spF9 s m g0 ob cap k ch (X k)) (fun _ _ W => Below wr.heap.size wr W) (by kernel_rfl) (by kernel_rfl) ?sz ?ts ?z ?val ?fin
        case sz => intro s hs h; simp at hs ⊢; omega
        case ts => simp
        case z => exact below_drawn wr
        case val =>
          intro jj
          match jj with
          | 0 => intro o L V ho hL hd a' W hX hfr hdp; obtain rfl := Option.some.inj ho; exact opx_of (op_load36 rfl (hfr 3 (by decide)) ((hX.block _ (lt_of_block HK3.out)).trans HK3.out)) fun W' hb => ⟨rfl, hX.trans (hb.mono hX.size)⟩
          | 1 => intro o L V ho hL hd a' W hX hfr hdp; obtain rfl := Option.some.inj ho; exact opx_of (op_move rfl (hfr 9 (by decide))) fun W' hb => ⟨rfl, hX.trans (hb.mono hX.size)⟩
          | 2 => intro o L V ho hL hd a' W hX hfr hdp; obtain rfl := Option.some.inj ho; exact opx_of (op_move rfl (hfr 11 (by decide))) fun W' hb => ⟨rfl, hX.trans (hb.mono hX.size)⟩
          | 3 => intro o L V ho hL hd a' W hX hfr hdp; obtain rfl := Option.some.inj ho; exact opx_of (op_idx143 hlt rfl (Dp (hdp 1 30 (by decide) rfl (by kernel_rfl)) id) (Dp (hdp 2 31 (by decide) rfl (by kernel_rfl)) id)) fun W' hb => ⟨rfl, hX.trans (hb.mono hX.size)⟩
          | 4 =>
            intro o L V ho hL hd a' W hX hfr hdp; obtain rfl := Option.some.inj ho
            obtain ⟨b', o', eq, _, x0, x1, x2, x3⟩ := HXk.out W hX
            simp only [Option.some.injEq, Addr.mk.injEq, and_true] at eq
            obtain ⟨rfl, rfl⟩ := eq
            exact opx_of (op_load38o rfl (Dp (hdp 3 32 (by decide) rfl (by kernel_rfl)) id) x0 x1 x2 x3) fun W' hb => ⟨rfl, hX.trans (hb.mono hX.size)⟩
          | 5 => intro o L V ho hL hd a' W hX hfr hdp; obtain rfl := Option.some.inj ho; exact opx_of (op_move rfl (hfr 2 (by decide))) fun W' hb => ⟨rfl, hX.trans (hb.mono hX.size)⟩
          | 6 =>
            intro o L V ho hL hd a' W hX hfr hdp; obtain rfl := Option.some.inj ho
            refine opx_call3g rfl (Dp (hdp 0 29 (by decide) rfl (by kernel_rfl)) id) (Dp (hdp 4 33 (by decide) rfl (by kernel_rfl)) id) (Dp (hdp 5 34 (by decide) rfl (by kernel_rfl)) id) eg76c ((rspeed_any s m (X k) ch g.out ((HIN.out k hlt).good gc.out) W (HS.out.later hX)).mono ?_)
            rintro e W' ⟨rfl, hb⟩
            exact ⟨_, rfl, rfl, hX.trans (hb.mono hX.size)⟩
          | 7 => intro o L V ho hL hd a' W hX hfr hdp; obtain rfl := Option.some.inj ho; exact opx_of (op_assign rfl (Dp (hdp 6 35 (by decide) rfl (by kernel_rfl)) id)) fun W' hb => ⟨rfl, hX.trans (hb.mono hX.size)⟩
          | j + 8 => intro o L V ho; simp at ho
        case fin =>
          intro W1 L V hL hF hI
          have e7 : V 7 = .int .i64 (speedP s (X k) ch : Nat) := hF 7 (by decide)
          have hb := hI
          clear hF hL hI HXk
          replace HK10 := Lib.hid ((hb.block _ (lt_of_block HK10.out)).trans HK10.out)
          replace HB2 := Lib.hid (HB2.out.trans (hb.mono HB2.out.size))
          clear hb HK3 HK6 HS HX
          simp only [fill, Act.put, List.setIfInBounds_toArray, List.set_cons_zero, List.set_cons_succ, Nat.reduceAdd]
          rw [e7]
          generalize V 0 = v0, V 1 = v1, V 2 = v2, V 3 = v3, V 4 = v4, V 5 = v5, V 6 = v6 at *
          clear e7 V
          have HIK := Lib.hid (in_cell (ch := ch) g.out gc.out ((HIN.out k hlt).good gc.out) (HIN.out k hlt).l (HIN.out k hlt).h)
          have HSX := Lib.hid (And.intro (show k = 0 → speedP s (X k) ch = speedP s lo ch from fun e => by rw [e, HX0.out]) (show k = 15 → speedP s (X k) ch = speedP s hi ch from fun e => by rw [e, HX15.out]))
          generalize (speedP s (X k) ch) = SX at *
          obtain ⟨⟨t0, t1⟩, _⟩ := cells2 HK10.out
          go_wp2_with fail
          have hz := setCell_block (setCell_block HK10.out 0 (.int .i64 (min A SX))) 1 (.int .i64 (max B SX))
          simp only [List.setIfInBounds_toArray, List.set_cons_zero, List.set_cons_succ] at hz
          have hc := (chg_setCell W1 V2.heap.size 0 (.int .i64 (min A SX))).trans (chg_setCell _ V2.heap.size 1 (.int .i64 (max B SX)))
          obtain ⟨i1, i2⟩ := HIK.out
          obtain ⟨x1, x2⟩ := HSX.out
          obtain ⟨y1, y2, y3, y4, y5, y6⟩ := HF.out
          refine ⟨⟨k + 1, min A SX, max B SX, by go_num, by omega, Lib.hid ⟨by omega, by omega, by omega, by omega, fun h => by omega, fun h => by omega⟩, Lib.hid (HB2.out.trans (hc.below (Nat.le_refl _))), Lib.hid hz⟩, by simp only [intOf]; omega⟩
      · obtain rfl : k = 16 := by omega
        obtain ⟨y1, y2, y3, y4, y5, y6⟩ := HF.out
        have eA : A = ((speedP s hi ch : Nat) : Int) := by omega
        have eB : B = ((speedP s lo ch : Nat) : Int) := by omega
        subst eA eB
        have HW := Lib.hid (HB.out.trans (HB2.out.mono HB.out.size))
        obtain ⟨⟨t0, t1⟩, _⟩ := cells2 HK10.out
        go_wp2_with (refine list_store2 rfl rfl rfl (.inr (.inr rfl)) rfl rfl HK6.out ?_; intro Z hz hc; have HZ := Lib.hid (HW.out.trans (hc.below (by omega))); obtain ⟨⟨r0, r1⟩, _⟩ := cells2 hz; clear hz hc)
        refine bodyPost_ret (v := .tuple #[.agg #[.int .i64 ((speedP s hi ch : Nat) : Int), .int .i64 ((speedP s lo ch : Nat) : Int)], .int .i64 0]) (by simp [results, Tryz.results24, go_sem, r0, r1]) rfl ⟨by rw [HR.out, HSP.out.1, HSP.out.2], HZ.out⟩
  · have HR := Lib.hid (show SpeedsRes s lo hi ch = _ from by unfold SpeedsRes; exact if_neg hE)
    generalize orL [chkP s, cellE lo hi] = E at *
    have hc' : (E != 0) = true := by simpa using hE
    go_wp2_with (refine list_store2 rfl rfl rfl (.inr (.inr rfl)) rfl rfl HK6.out ?_; intro Z hz hc; have HZ := Lib.hid (HB.out.trans (hc.below (by omega))); obtain ⟨⟨r0, r1⟩, _⟩ := cells2 hz; clear hz hc)
    refine bodyPost_ret (v := .tuple #[.agg #[.int .i64 0, .int .i64 0], .int .i64 E]) (by simp [results, Tryz.results24, go_sem, r0, r1]) rfl ⟨by rw [HR.out], HZ.out⟩
end Go.Proofs.YtcoiklolgilhaaaGreatDoor
namespace Go.Proofs.YtcoiklolgilhaaaGreatDoor
open Go.RowKit
set_option maxRecDepth 100000
section
variable {Q : Exit → Act → World → Prop} {o : Oper} {a' : Act} {W : World}
theorem op_lssc {s : Nat} {c x : Int} (hop : o.op = Op.binOp .lss 3 (.tmp s) (.const (.int .i64 c)) 3) (he : a'.eval (.tmp s) = .int .i64 x) :
    o.wp Tryz.prog a' W (fun a'' W' => a'' = a'.put o.dst (.bool (decide (x < c))) ∧ Below W.heap.size W W') Q := by
  have hr := Below.refl W.heap.size W
  have he' : a'.tmps[s]?.getD undef = .int .i64 x := by simpa [Act.eval] using he
  unfold Oper.wp execOp
  rw [hop]
  simp [go_sem, he', hr]
theorem op_assignc {v : Value} (hop : o.op = Op.assign (.const v)) :
    o.wp Tryz.prog a' W (fun a'' W' => a'' = a'.put o.dst v ∧ Below W.heap.size W W') Q := by
  have hr := Below.refl W.heap.size W
  unfold Oper.wp execOp
  rw [hop]
  simp [go_sem, hr]
end
def beF (b : Nat) (A B : Int) : Nat → Value → Prop
  | 0, v => v = .pointer (some ⟨b, 0, none⟩)
  | 1, v => v = .int .i64 A
  | 2, v => v = .bool (decide (A < 10))
  | 3, v => v = .pointer (some ⟨b, 1, none⟩)
  | 4, v => v = .int .i64 B
  | 5, v => v = .bool (decide (B < 10))
  | 6, v => v = .bool (decide (A < 10))
  | 7, v => v = .bool (decide (B < 10))
  | 8, v => v = .int .i64 0
  | _, _ => True
set_option maxHeartbeats 16000000 in
theorem rBeset_any (s : Sh) (m : Mem3) (lo hi : Ic) (ch : Bool) (w : World) (h : ShipIn w s m) :
    Calls Tryz.prog 26 #[.agg (shipA s m), .agg (cellV lo hi), .bool ch] w fun e w' => e = .returned (BesetRes s lo hi ch) ∧ Below w.heap.size w w' := by
  obtain ⟨t0, t1, tz, tb⟩ := two_allocs w (.cells (shipA s m) 36) (.cells (cellV lo hi) 39)
  have HB := Lib.hid tb
  have HK3 := Lib.hid t0
  have HK4 := Lib.hid t1
  have HS := Lib.hid (h.later tb)
  clear t0 t1 tb h
  obtain ⟨c0, c1, c2, c3, c4, c5, c6, c7, c8, c9, c10⟩ := cells11 HK3.out
  obtain ⟨⟨d0, d1, d2, d3, d4, d5, d6, d7⟩, _⟩ := cells8 HK4.out
  go_enter Tryz.func26, Tryz.ntmps26
  go_wp2_with fail
  generalize (w.alloc (.cells (shipA s m) 36)).alloc (.cells (cellV lo hi) 39) = X0 at *
  refine (rSpeeds_any s m lo hi ch X0 HS.out).mono ?_
  rintro e V1 ⟨rfl, hb⟩
  clear c0 c1 c2 c3 c4 c5 c6 c7 c8 c9 c10 d0 d1 d2 d3 d4 d5 d6 d7 HK3 HK4 HS
  replace HB := Lib.hid (HB.out.trans (hb.mono HB.out.size))
  clear hb
  by_cases hE : orL [chkP s, cellE lo hi] = 0
  · have HR := Lib.hid (show BesetRes s lo hi ch = _ from by unfold BesetRes; exact if_pos hE)
    obtain ⟨o1, o2⟩ := orL1 hE
    have g := Lib.hid (good_of o1)
    have gc := Lib.hid (cellE_ok (orL1 o2).1)
    have HSP := Lib.hid (span_sp (ch := ch) g.out gc.out)
    have HBO := Lib.hid (bes_one (ch := ch) g.out gc.out)
    rw [show SpeedsRes s lo hi ch = _ from by unfold SpeedsRes; exact if_pos hE, HSP.out.1, HSP.out.2]
    clear hE o1 o2
    have hba := (Below.refl V1.heap.size V1).alloc (Nat.le_refl _) (.cells #[.int .i64 ((speedP s hi ch : Nat) : Int), .int .i64 ((speedP s lo ch : Nat) : Int)] 28)
    have hk := block_new V1 (.cells #[.int .i64 ((speedP s hi ch : Nat) : Int), .int .i64 ((speedP s lo ch : Nat) : Int)] 28)
    replace HB := Lib.hid (HB.out.trans (hba.mono HB.out.size))
    have HK := Lib.hid hk
    go_wp2_with fail
    clear hba hk
    generalize V1.alloc (.cells #[.int .i64 ((speedP s hi ch : Nat) : Int), .int .i64 ((speedP s lo ch : Nat) : Int)] 28) = X1 at *
    refine wp_region_fi [21, 22, 23, 24, 25, 26, 6, 7, 8] (beF V1.heap.size (speedP s hi ch : Nat) (speedP s lo ch : Nat)) (fun _ _ W => Below X1.heap.size X1 W) (by kernel_rfl) (by kernel_rfl) ?sz ?ts ?z ?val ?fin
    case sz => intro s hs h; simp at hs ⊢; omega
    case ts => simp
    case z => exact below_drawn X1
    case val =>
      intro jj
      match jj with
      | 0 => intro o L V ho hL hd a' W hX hfr hdp; obtain rfl := Option.some.inj ho; exact opx_of (op_fa57 rfl (hfr 9 (by decide)) (by decide)) fun W' hb => ⟨rfl, hX.trans (hb.mono hX.size)⟩
      | 1 => intro o L V ho hL hd a' W hX hfr hdp; obtain rfl := Option.some.inj ho; exact opx_of (op_load3 rfl (Dp (hdp 0 21 (by decide) rfl (by kernel_rfl)) id) (by rw [cell_of_block ((hX.block _ (lt_of_block HK.out)).trans HK.out)]; rfl)) fun W' hb => ⟨rfl, hX.trans (hb.mono hX.size)⟩
      | 2 => intro o L V ho hL hd a' W hX hfr hdp; obtain rfl := Option.some.inj ho; exact opx_of (op_lssc rfl (Dp (hdp 1 22 (by decide) rfl (by kernel_rfl)) id)) fun W' hb => ⟨rfl, hX.trans (hb.mono hX.size)⟩
      | 3 => intro o L V ho hL hd a' W hX hfr hdp; obtain rfl := Option.some.inj ho; exact opx_of (op_fa57 rfl (hfr 9 (by decide)) (by decide)) fun W' hb => ⟨rfl, hX.trans (hb.mono hX.size)⟩
      | 4 => intro o L V ho hL hd a' W hX hfr hdp; obtain rfl := Option.some.inj ho; exact opx_of (op_load3 rfl (Dp (hdp 3 24 (by decide) rfl (by kernel_rfl)) id) (by rw [cell_of_block ((hX.block _ (lt_of_block HK.out)).trans HK.out)]; rfl)) fun W' hb => ⟨rfl, hX.trans (hb.mono hX.size)⟩
      | 5 => intro o L V ho hL hd a' W hX hfr hdp; obtain rfl := Option.some.inj ho; exact opx_of (op_lssc rfl (Dp (hdp 4 25 (by decide) rfl (by kernel_rfl)) id)) fun W' hb => ⟨rfl, hX.trans (hb.mono hX.size)⟩
      | 6 => intro o L V ho hL hd a' W hX hfr hdp; obtain rfl := Option.some.inj ho; exact opx_of (op_assign rfl (Dp (hdp 2 23 (by decide) rfl (by kernel_rfl)) id)) fun W' hb => ⟨rfl, hX.trans (hb.mono hX.size)⟩
      | 7 => intro o L V ho hL hd a' W hX hfr hdp; obtain rfl := Option.some.inj ho; exact opx_of (op_assign rfl (Dp (hdp 5 26 (by decide) rfl (by kernel_rfl)) id)) fun W' hb => ⟨rfl, hX.trans (hb.mono hX.size)⟩
      | 8 => intro o L V ho hL hd a' W hX hfr hdp; obtain rfl := Option.some.inj ho; exact opx_of (op_assignc rfl) fun W' hb => ⟨rfl, hX.trans (hb.mono hX.size)⟩
      | j + 9 => intro o L V ho; simp at ho
    case fin =>
      intro W1 L V hL hF hI
      have e6 : V 6 = .bool (decide (((speedP s hi ch : Nat) : Int) < 10)) := hF 6 (by decide)
      have e7 : V 7 = .bool (decide (((speedP s lo ch : Nat) : Int) < 10)) := hF 7 (by decide)
      have e8 : V 8 = .int .i64 0 := hF 8 (by decide)
      have HW := Lib.hid (HB.out.trans (hI.mono HB.out.size))
      clear hF hL hI HK HB
      simp only [fill, Act.put, List.setIfInBounds_toArray, List.set_cons_zero, List.set_cons_succ, Nat.reduceAdd]
      rw [e6, e7, e8]
      generalize V 0 = v0, V 1 = v1, V 2 = v2, V 3 = v3, V 4 = v4, V 5 = v5 at *
      clear e6 e7 e8 V
      go_wp2_with fail
      refine bodyPost_ret (v := .tuple #[.bool (decide (((speedP s hi ch : Nat) : Int) < 10)), .bool (decide (((speedP s lo ch : Nat) : Int) < 10)), .int .i64 0]) (by simp [results, Tryz.results26, go_sem]) rfl ⟨by rw [HR.out, HBO.out.1, HBO.out.2], HW.out⟩
  · have HR := Lib.hid (show BesetRes s lo hi ch = _ from by unfold BesetRes; exact if_neg hE)
    rw [show SpeedsRes s lo hi ch = _ from by unfold SpeedsRes; exact if_neg hE]
    generalize orL [chkP s, cellE lo hi] = E at *
    have hc' : (E != 0) = true := by simpa using hE
    have HZ := Lib.hid (HB.out.trans (((Below.refl V1.heap.size V1).alloc (Nat.le_refl _) (.cells #[.int .i64 0, .int .i64 0] 28)).mono HB.out.size))
    go_wp2_with fail
    refine bodyPost_ret (v := .tuple #[.bool false, .bool false, .int .i64 E]) (by simp [results, Tryz.results26, go_sem]) rfl ⟨by rw [HR.out], HZ.out⟩
end Go.Proofs.YtcoiklolgilhaaaGreatDoor
namespace Go.Proofs.YtcoiklolgilhaaaGreatDoor
open Go.RowKit
set_option maxRecDepth 100000
theorem eg80c : ∀ args w, (callFunc 80 args).run Tryz.prog w = .ok (.enter 80 args) w := Go.Proofs.enters_of Tryz.func80 (by kernel_rfl) rfl
theorem eg89c : ∀ args w, (callFunc 89 args).run Tryz.prog w = .ok (.enter 89 args) w := Go.Proofs.enters_of Tryz.func89 (by kernel_rfl) rfl
section
variable {Q : Exit → Act → World → Prop} {o : Oper} {a' : Act} {W : World}
theorem op_gtrt3 {s t : Nat} {x y : Int} (hop : o.op = Op.binOp .gtr 3 (.tmp s) (.tmp t) 3) (he : a'.eval (.tmp s) = .int .i64 x) (ht : a'.eval (.tmp t) = .int .i64 y) :
    o.wp Tryz.prog a' W (fun a'' W' => a'' = a'.put o.dst (.bool (decide (y < x))) ∧ Below W.heap.size W W') Q := by
  have hr := Below.refl W.heap.size W
  have he' : a'.tmps[s]?.getD undef = .int .i64 x := by simpa [Act.eval] using he
  have ht' : a'.tmps[t]?.getD undef = .int .i64 y := by simpa [Act.eval] using ht
  unfold Oper.wp execOp
  rw [hop]
  simp [go_sem, he', ht', hr]
theorem op_fa36z {s b : Nat} (hop : o.op = Op.fieldAddr 36 (.tmp s) 0) (he : a'.eval (.tmp s) = .pointer (some ⟨b, 0, none⟩)) :
    o.wp Tryz.prog a' W (fun a'' W' => a'' = a'.put o.dst (.pointer (some ⟨b, 0, none⟩)) ∧ Below W.heap.size W W') Q := by
  have hr := Below.refl W.heap.size W
  have he' : a'.tmps[s]?.getD undef = .pointer (some ⟨b, 0, none⟩) := by simpa [Act.eval] using he
  unfold Oper.wp execOp
  rw [hop]
  simp [go_sem, he', hr]
end
def byF (s : Sh) (g ob cap k : Nat) (pb : Nat) (v : Int) (ch : Bool) (x : Ic) : Nat → Value → Prop
  | 0, u => u = .slice (some ⟨g, ob, none⟩) 16 cap
  | 1, u => u = .int .i64 (k : Int)
  | 2, u => u = .pointer (some ⟨g, ob + k * 4, none⟩)
  | 3, u => u = .agg (iceV x)
  | 4, u => u = .int .i64 v
  | 5, u => u = .bool ch
  | 6, u => u = .int .i64 (loadP x v ch)
  | 7, u => u = .pointer (some ⟨pb, 0, none⟩)
  | 8, u => u = .int .i64 s.cls
  | 9, u => u = .int .i64 (strP s.cls)
  | 10, u => u = .bool (beyP s x ch v)
  | _, _ => True
set_option maxHeartbeats 16000000 in
theorem rBeyond_any (s : Sh) (m : Mem3) (lo hi : Ic) (v : Int) (ch : Bool) (w : World) (h : ShipIn w s m) :
    Calls Tryz.prog 28 #[.agg (shipA s m), .agg (cellV lo hi), .int .i64 v, .bool ch] w fun e w' => e = .returned (BeyondRes s lo hi v ch) ∧ Below w.heap.size w w' := by
  obtain ⟨t0, t1, tz, tb⟩ := two_allocs w (.cells (shipA s m) 36) (.cells (cellV lo hi) 39)
  have HB := Lib.hid tb
  have HK3 := Lib.hid t0
  have HK4 := Lib.hid t1
  have HS := Lib.hid (h.later tb)
  clear t0 t1 tb h
  obtain ⟨c0, c1, c2, c3, c4, c5, c6, c7, c8, c9, c10⟩ := cells11 HK3.out
  obtain ⟨⟨d0, d1, d2, d3, d4, d5, d6, d7⟩, _⟩ := cells8 HK4.out
  go_enter Tryz.func28, Tryz.ntmps28
  go_wp2_with fail
  generalize (w.alloc (.cells (shipA s m) 36)).alloc (.cells (cellV lo hi) 39) = X0 at *
  refine (rmet_any s m lo hi X0 HS.out).mono ?_
  rintro e V1 ⟨rfl, hb⟩
  clear c0 c1 c2 c3 c4 c5 c6 c7 c8 c9 c10 d0 d1 d2 d3 d4 d5 d6 d7
  replace HK3 := Lib.hid ((hb.block _ (lt_of_block HK3.out)).trans HK3.out)
  replace HK4 := Lib.hid ((hb.block _ (lt_of_block HK4.out)).trans HK4.out)
  replace HB := Lib.hid (HB.out.trans (hb.mono HB.out.size))
  clear hb HS
  by_cases hE : orL [chkP s, cellE lo hi] = 0
  · obtain ⟨o1, o2⟩ := orL1 hE
    have g := Lib.hid (good_of o1)
    have gc := Lib.hid (cellE_ok (orL1 o2).1)
    have e2 := (orL1 o2).1
    rw [hE]
    by_cases hv : 0 ≤ v ∧ v ≤ 250
    · have HR := Lib.hid (show BeyondRes s lo hi v ch = .tuple #[.bool (beyP s hi ch v), .bool (beyP s lo ch v), .int .i64 0] from by unfold BeyondRes; rw [if_pos (by rw [orL3, if_pos o1, if_pos e2]; simp [errS, hv]), (bey_one gc.out hv.1).1, (bey_one gc.out hv.1).2])
      have HI := Lib.hid (rin_is v 0 250 true (decide_eq_true hv))
      have HV := Lib.hid hv
      clear hE o1 o2 e2 hv
      go_wp2_with fail
      refine (HI.out _).mono ?_
      rintro e w' ⟨rfl, rfl⟩
      obtain ⟨⟨d0, d1, d2, d3, d4, d5, d6, d7⟩, _⟩ := cells8 HK4.out
      go_wp2_with fail
      refine (Corners_any lo hi gc.out _).mono ?_
      rintro e V2 ⟨q, cap, X, rfl, hX, hIn, hX0, hX15, hb⟩
      have HX := Lib.hid hX
      have HIN := Lib.hid hIn
      have HX0 := Lib.hid hX0
      have HX15 := Lib.hid hX15
      clear d0 d1 d2 d3 d4 d5 d6 d7 hX hIn hX0 hX15
      replace HK3 := Lib.hid ((hb.block _ (lt_of_block HK3.out)).trans HK3.out)
      replace HB := Lib.hid (HB.out.trans (hb.mono HB.out.size))
      clear hb HK4
      obtain ⟨g0, ob, eq, _⟩ := HX.out 0 (by omega)
      subst eq
      have HB2 := Lib.hid (Below.refl V2.heap.size V2)
      go_wp2_with fail
      go_loopw [12, 14] (fun c n wr => ∃ (k j : Nat), n = .int .i64 k ∧ c = .int .i64 j ∧ k ≤ 16 ∧ Hid (j ≤ k ∧ (0 < j → beyP s hi ch v = true) ∧ (beyP s lo ch v = true → j = k) ∧ (0 < k → j = k → beyP s lo ch v = true) ∧ (15 < k → beyP s hi ch v = true → 0 < j)) ∧ Hid (Below V2.heap.size V2 wr)) (fun _ n _ => 16 - (intOf n).toNat)
      case atStart => exact ⟨0, 0, rfl, rfl, by omega, Lib.hid ⟨by omega, fun h => absurd h (by omega), fun _ => rfl, fun h => absurd h (by omega), fun h => absurd h (by omega)⟩, HB2⟩
      case round =>
        clear HB2
        obtain ⟨k, j, rfl, rfl, hk, hF, hB⟩ := hrel
        have HF := Lib.hid hF.out
        have HB2 := Lib.hid hB.out
        replace HK3 := Lib.hid ((HB2.out.block _ (lt_of_block HK3.out)).trans HK3.out)
        replace HX := Lib.hid (HX.out.later HB2.out)
        clear hF hB
        by_cases hlt : k < 16
        · have hlt' : (k : Int) < 16 := by omega
          have HXk := Lib.hid (fun (W : World) (hW : Below wr.heap.size wr W) => (HX.out.later hW) k hlt)
          go_wp2_with fail
          refine wp_region_fi [32, 33, 34, 35, 36, 37, 38, 39, 40, 41, 42] (byF s g0 ob cap k w.heap.size v ch (X k)) (fun _ _ W => Below wr.heap.size wr W) (by kernel_rfl) (by kernel_rfl) ?sz ?ts ?z ?val ?fin
          case sz => intro s hs h; simp at hs ⊢; omega
          case ts => simp
          case z => exact below_drawn wr
          case val =>
            intro jj
            match jj with
            | 0 => intro o L V ho hL hd a' W hX hfr hdp; obtain rfl := Option.some.inj ho; exact opx_of (op_move rfl (hfr 13 (by decide))) fun W' hb => ⟨rfl, hX.trans (hb.mono hX.size)⟩
            | 1 => intro o L V ho hL hd a' W hX hfr hdp; obtain rfl := Option.some.inj ho; exact opx_of (op_move rfl (hfr 14 (by decide))) fun W' hb => ⟨rfl, hX.trans (hb.mono hX.size)⟩
            | 2 => intro o L V ho hL hd a' W hX hfr hdp; obtain rfl := Option.some.inj ho; exact opx_of (op_idx143 hlt rfl (Dp (hdp 0 32 (by decide) rfl (by kernel_rfl)) id) (Dp (hdp 1 33 (by decide) rfl (by kernel_rfl)) id)) fun W' hb => ⟨rfl, hX.trans (hb.mono hX.size)⟩
            | 3 =>
              intro o L V ho hL hd a' W hX hfr hdp; obtain rfl := Option.some.inj ho
              obtain ⟨b', o', eq, _, x0, x1, x2, x3⟩ := HXk.out W hX
              simp only [Option.some.injEq, Addr.mk.injEq, and_true] at eq
              obtain ⟨rfl, rfl⟩ := eq
              exact opx_of (op_load38o rfl (Dp (hdp 2 34 (by decide) rfl (by kernel_rfl)) id) x0 x1 x2 x3) fun W' hb => ⟨rfl, hX.trans (hb.mono hX.size)⟩
            | 4 => intro o L V ho hL hd a' W hX hfr hdp; obtain rfl := Option.some.inj ho; exact opx_of (op_move rfl (hfr 2 (by decide))) fun W' hb => ⟨rfl, hX.trans (hb.mono hX.size)⟩
            | 5 => intro o L V ho hL hd a' W hX hfr hdp; obtain rfl := Option.some.inj ho; exact opx_of (op_move rfl (hfr 3 (by decide))) fun W' hb => ⟨rfl, hX.trans (hb.mono hX.size)⟩
            | 6 =>
              intro o L V ho hL hd a' W hX hfr hdp; obtain rfl := Option.some.inj ho
              refine opx_call3g rfl (Dp (hdp 3 35 (by decide) rfl (by kernel_rfl)) id) (Dp (hdp 4 36 (by decide) rfl (by kernel_rfl)) id) (Dp (hdp 5 37 (by decide) rfl (by kernel_rfl)) id) eg80c ((rload_any (X k) ((HIN.out k hlt).good gc.out) v HV.out.1 HV.out.2 ch W).mono ?_)
              rintro e W' ⟨rfl, hb⟩
              exact ⟨_, rfl, rfl, hX.trans (hb.mono hX.size)⟩
            | 7 => intro o L V ho hL hd a' W hX hfr hdp; obtain rfl := Option.some.inj ho; exact opx_of (op_fa36z rfl (hfr 4 (by decide))) fun W' hb => ⟨rfl, hX.trans (hb.mono hX.size)⟩
            | 8 => intro o L V ho hL hd a' W hX hfr hdp; obtain rfl := Option.some.inj ho; exact opx_of (op_load3 rfl (Dp (hdp 7 39 (by decide) rfl (by kernel_rfl)) id) (by rw [cell_of_block ((hX.block _ (lt_of_block HK3.out)).trans HK3.out)]; rfl)) fun W' hb => ⟨rfl, hX.trans (hb.mono hX.size)⟩
            | 9 =>
              intro o L V ho hL hd a' W hX hfr hdp; obtain rfl := Option.some.inj ho
              refine opx_callu rfl (Dp (hdp 8 40 (by decide) rfl (by kernel_rfl)) id) eg89c ((rstrength_any s.cls W).mono ?_)
              rintro e W' ⟨rfl, rfl⟩
              exact ⟨_, rfl, rfl, hX⟩
            | 10 => intro o L V ho hL hd a' W hX hfr hdp; obtain rfl := Option.some.inj ho; exact opx_of (op_gtrt3 rfl (Dp (hdp 6 38 (by decide) rfl (by kernel_rfl)) id) (Dp (hdp 9 41 (by decide) rfl (by kernel_rfl)) id)) fun W' hb => ⟨rfl, hX.trans (hb.mono hX.size)⟩
            | j + 11 => intro o L V ho; simp at ho
          case fin =>
            intro W1 L V hL hF2 hI
            have e10 : V 10 = .bool (beyP s (X k) ch v) := hF2 10 (by decide)
            have hb := hI
            clear hF2 hL hI HXk
            replace HB2 := Lib.hid (HB2.out.trans (hb.mono HB2.out.size))
            clear hb HK3 HX
            simp only [fill, Act.put, List.setIfInBounds_toArray, List.set_cons_zero, List.set_cons_succ, Nat.reduceAdd]
            rw [e10]
            generalize V 0 = v0, V 1 = v1, V 2 = v2, V 3 = v3, V 4 = v4, V 5 = v5, V 6 = v6, V 7 = v7, V 8 = v8, V 9 = v9 at *
            clear e10 V
            have HIK := Lib.hid (And.intro (fun e : beyP s lo ch v = true => bey_le gc.out.gl ((HIN.out k hlt).good gc.out) (HIN.out k hlt).l HV.out.1 (Int.le_refl _) (fun h => h) e) (fun e : beyP s (X k) ch v = true => bey_le ((HIN.out k hlt).good gc.out) gc.out.gh (HIN.out k hlt).h HV.out.1 (Int.le_refl _) (fun h => h) e))
            have HSX := Lib.hid (And.intro (show k = 0 → beyP s (X k) ch v = beyP s lo ch v from fun e => by rw [e, HX0.out]) (show k = 15 → beyP s (X k) ch v = beyP s hi ch v from fun e => by rw [e, HX15.out]))
            generalize beyP s (X k) ch v = SX at *
            cases SX with
            | true =>
              have yj : (j : Int) ≤ 16 := by have := HF.out.1; omega
              go_wp2_with fail
              obtain ⟨i1, i2⟩ := HIK.out
              obtain ⟨x1, x2⟩ := HSX.out
              obtain ⟨y1, y2, y3, y4, y5⟩ := HF.out
              refine ⟨⟨k + 1, j + 1, by go_num, by go_num, by omega, Lib.hid ⟨by omega, fun _ => i2 rfl, fun e => by have := y3 e; omega, fun _ e => if h0 : k = 0 then (x1 h0).symm else y4 (by omega) (by omega), fun _ _ => by omega⟩, HB2⟩, by simp only [intOf]; omega⟩
            | false =>
              go_wp2_with fail
              obtain ⟨i1, i2⟩ := HIK.out
              obtain ⟨x1, x2⟩ := HSX.out
              obtain ⟨y1, y2, y3, y4, y5⟩ := HF.out
              refine ⟨⟨k + 1, j, by go_num, rfl, by omega, Lib.hid ⟨by omega, y2, fun e => absurd (i1 e) (by simp), fun _ e => absurd e (by omega), fun h e => absurd ((x2 (by omega)).symm.trans rfl) (by rw [e]; simp)⟩, HB2⟩, by simp only [intOf]; omega⟩
        · obtain rfl : k = 16 := by omega
          obtain ⟨y1, y2, y3, y4, y5⟩ := HF.out
          have HA := Lib.hid (show decide (0 < j) = beyP s hi ch v from by
            cases e : beyP s hi ch v with
            | true => have := y5 (by omega) e; simp; omega
            | false => simp; by_cases h : 0 < j
                       · rw [y2 h] at e; cases e
                       · omega)
          have HC := Lib.hid (show ((j : Int) == 16) = beyP s lo ch v from by
            cases e : beyP s lo ch v with
            | true => have := y3 e; simp; omega
            | false => simp; intro h; rw [y4 (by omega) (by omega)] at e; cases e)
          have HW := Lib.hid (HB.out.trans (HB2.out.mono HB.out.size))
          have yj : (j : Int) ≤ 16 := by omega
          clear y1 y2 y3 y4 y5 HF
          go_wp2_with fail
          refine bodyPost_ret (v := .tuple #[.bool (decide (0 < j)), .bool ((j : Int) == 16), .int .i64 0]) (by simp [results, Tryz.results28, go_sem]) rfl ⟨by rw [HR.out, ← HA.out, ← HC.out], HW.out⟩
    · have HR := Lib.hid (show BeyondRes s lo hi v ch = .tuple #[.bool false, .bool false, .int .i64 6] from by unfold BeyondRes; rw [if_neg (by rw [orL3, if_pos o1, if_pos e2]; simp [errS, hv]), orL3, if_pos o1, if_pos e2]; simp [errS, hv])
      have HI := Lib.hid (rin_is v 0 250 false (decide_eq_false hv))
      clear hE o1 o2 e2 hv
      go_wp2_with fail
      refine (HI.out _).mono ?_
      rintro e w' ⟨rfl, rfl⟩
      go_wp2_with fail
      refine bodyPost_ret (v := .tuple #[.bool false, .bool false, .int .i64 6]) (by simp [results, Tryz.results28, go_sem]) rfl ⟨by rw [HR.out], HB.out⟩

  · have HR := Lib.hid (show BeyondRes s lo hi v ch = .tuple #[.bool false, .bool false, .int .i64 (orL [chkP s, cellE lo hi])] from by
      have hq : orL [chkP s, cellE lo hi, errS v] = orL [chkP s, cellE lo hi] := by
        unfold orL at hE ⊢
        by_cases h1 : chkP s = 0
        · by_cases h2 : cellE lo hi = 0
          · simp [h1, h2] at hE
          · simp [h1, h2]
        · simp [h1]
      unfold BeyondRes; rw [hq, if_neg hE])
    generalize orL [chkP s, cellE lo hi] = E at *
    have hc' : (E != 0) = true := by simpa using hE
    go_wp2_with fail
    refine bodyPost_ret (v := .tuple #[.bool false, .bool false, .int .i64 E]) (by simp [results, Tryz.results28, go_sem]) rfl ⟨by rw [HR.out], HB.out⟩
end Go.Proofs.YtcoiklolgilhaaaGreatDoor
namespace Go.Proofs.YtcoiklolgilhaaaGreatDoor
open Go.RowKit
set_option maxRecDepth 100000
section
variable {P : Program} {Q : Exit → Act → World → Prop}
theorem fill_eval_none : ∀ (ss : List Nat) (k i : Nat) (u : Nat → Option Value) (a : Act) (s : Nat), ss[i]? = some s → ss.Nodup → u (k + i) = none → (fill ss k u a).eval (.tmp s) = a.eval (.tmp s)
  | [], _, i, _, _, _, h, _, _ => by simp at h
  | s' :: ss, k, 0, u, a, s, h, hn, hu => by
    simp only [List.getElem?_cons_zero, Option.some.injEq] at h
    subst h
    have hu' : u k = none := by simpa using hu
    unfold fill
    rw [hu']
    exact fill_eval_other ss (k + 1) u a s' (List.nodup_cons.1 hn).1
  | s' :: ss, k, i + 1, u, a, s, h, hn, hu => by
    have h' : ss[i]? = some s := by simpa using h
    have hm : s ∈ ss := List.mem_of_getElem? h'
    have h1 : s' ≠ s := fun e => (List.nodup_cons.1 hn).1 (e ▸ hm)
    unfold fill
    rw [fill_eval_none ss (k + 1) i u _ s h' (List.nodup_cons.1 hn).2 (by rw [← hu]; congr 1; omega)]
    cases u k with
    | none => rfl
    | some v => exact put_eval_ne a v h1
theorem wp_region_allh {id : Nat} {a : Act} {w : World} {l : List Oper} (slots : List Nat) (sk : Nat → Bool) (Rw : (Nat → Bool) → (Nat → Value) → World → Prop)
    (hm : P.follows .mixedOrders = true) (hB : allGB l.toArray slots = true) (hsz : ∀ s ∈ slots, s < 1000 → s < a.tmps.size) (hts : a.tmps.size ≤ 1000)
    (h0 : Rw (fun _ => false) (fun _ => undef) { w with drawn := w.drawn + 1 })
    (hval : ∀ i o L V, l[i]? = some o → sk i = false → L i = false → (∀ j, Region.waitsFor .any l.toArray i j = true → L j = true) → ∀ a' W, Rw L V W → (∀ t, t ∉ slots → a'.eval (.tmp t) = a.eval (.tmp t)) → (∀ j t, slots[j]? = some t → L j = false → a'.eval (.tmp t) = a.eval (.tmp t)) →
      (∀ j s, s < 1000 → slots[j]? = some s → Region.waitsFor .any l.toArray i j = true → a'.eval (.tmp s) = V j) →
      o.wp P a' W (fun a'' W' => ∃ x, a'' = a'.put o.dst x ∧ Rw (fun j => if j = i then true else L j) (fun j => if j = i then x else V j) W') Q)
    (hgd : ∀ (i : Nat) (o : Oper) (j : Nat) (b : Bool) L V W, l[i]? = some o → o.guard = some (j, b) → L j = true → Rw L V W → V j = .bool (if sk i then !b else b))
    (hsk : ∀ (i : Nat) (o : Oper) L V W, l[i]? = some o → sk i = true → L i = false → Rw L V W → o.guard.isSome = true ∧ Rw (fun j => if j = i then true else L j) (fun j => if j = i then undef else V j) W)
    (hend : ∀ (W : World) L V, (∀ i, i < l.length → L i = true) → Rw L V W → Q .normal (fill slots 0 (fun i => some (V i)) a) W) :
    (Code.region id l.toArray true).wp P Q a w := by
  simp only [allGB, Bool.and_eq_true] at hB
  obtain ⟨hback, hsl⟩ := hB
  simp only [slotsG2, Bool.and_eq_true, decide_eq_true_eq] at hsl
  obtain ⟨⟨hlen, hnd⟩, hall⟩ := hsl
  have hszl : l.toArray.size = l.length := by simp
  have hop : ∀ i, i < l.length → ∃ o s, l[i]? = some o ∧ guardB .any l.toArray slots i o = true ∧ (o.dst = some s ∨ (o.dst = none ∧ 1000 ≤ s)) ∧ slots[i]? = some s := by
    intro i hi
    have h1 := List.all_eq_true.1 hall i (List.mem_range.2 (by simpa using hi))
    cases ho : l.toArray[i]? with
    | none => rw [ho] at h1; cases h1
    | some o =>
      rw [ho] at h1
      simp only [Bool.and_eq_true, beq_iff_eq, Bool.or_eq_true, decide_eq_true_eq] at h1
      have hs' : slots[i]? = some (slots[i]'(by rw [hlen, hszl]; exact hi)) := List.getElem?_eq_getElem _
      refine ⟨o, _, by simpa using ho, h1.1, ?_, hs'⟩
      rcases h1.2 with h2 | ⟨h2, h3⟩
      · exact .inl (by rw [h2, hs'])
      · refine .inr ⟨h2, ?_⟩
        rw [hs'] at h3
        simpa using h3
  refine wp_region_any hm ?_
  have main : ∀ f (listed : Array Bool) a' W, listed.size = l.toArray.size → cnt listed l.toArray.size = f → (∃ V, a' = fill slots 0 (uSt V listed) a ∧ Rw (fun i => listed.getD i false) V W) → wpAny P .any l.toArray Q f listed a' W := by
    intro f
    induction f with
    | zero =>
      rintro listed a' W hls hc ⟨V, rfl, hR⟩
      have hd := cnt_zero _ hc
      have hd' : ∀ i, i < l.length → listed.getD i false = true := fun i hi => by
        have := hd i (by rw [hszl]; exact hi)
        have hsz' : i < listed.size := by rw [hls, hszl]; exact hi
        simp [hsz'] at this ⊢
        exact this
      have hrdy : Region.ready .any l.toArray listed = [] := List.eq_nil_iff_forall_not_mem.2 fun i hi => by
        obtain ⟨hu, o, ho, _⟩ := mem_ready.1 hi
        have hi' : i < l.toArray.size := (Array.getElem?_eq_some_iff.1 ho).1
        have := hd i hi'
        rw [this] at hu; cases hu
      have hfill : fill slots 0 (uSt V listed) a = fill slots 0 (fun i => some (V i)) a := by
        have : ∀ (ss : List Nat) (k : Nat) (b : Act), k + ss.length ≤ l.length → fill ss k (uSt V listed) b = fill ss k (fun i => some (V i)) b := by
          intro ss
          induction ss with
          | nil => intro k b _; rfl
          | cons s ss ih =>
            intro k b hk
            simp only [List.length_cons] at hk
            unfold fill
            have e : uSt V listed k = some (V k) := by unfold uSt; rw [hd' k (by omega)]; rfl
            rw [e]
            exact ih (k + 1) _ (by omega)
        exact this slots 0 a (by rw [hlen, hszl]; omega)
      refine ⟨hrdy, ?_⟩
      rw [hfill]
      exact hend W _ V hd' hR
    | succ f ih =>
      rintro listed a' W hls hc ⟨V, rfl, hR⟩
      obtain ⟨i0, hi0, hu0⟩ := cnt_pos (listed := listed) l.toArray.size (by omega)
      refine ⟨fun h0 => ?_, fun i hi => ?_⟩
      · exfalso
        obtain ⟨j, hj, hju, hleast⟩ := least (p := fun i => listed.getD i true = false) i0 hu0
        obtain ⟨o, ho, hdeps⟩ := backB_spec hback (show j < l.toArray.size by omega)
        have : j ∈ Region.ready .any l.toArray listed := mem_ready.2 ⟨hju, o, ho, fun e he hb => by
          have hlt := hdeps e he hb
          have h1 := hleast e.on hlt
          have hsz' : e.on < listed.size := by omega
          simp [hsz'] at h1 ⊢
          exact h1⟩
        rw [h0] at this
        cases this
      · obtain ⟨hun, o, ho', hdeps⟩ := mem_ready.1 hi
        have hi' : i < l.length := by have := (Array.getElem?_eq_some_iff.1 ho').1; rwa [hszl] at this
        obtain ⟨o2, s, ho, hg, hdst, hss⟩ := hop i hi'
        obtain rfl : o = o2 := by simpa [ho] using ho'.symm
        have hun' : listed.getD i false = false := getD_both hun
        have hself : (listed.setIfInBounds i true).getD i false = true := by
          have hsz' : i < listed.size := by rw [hls, hszl]; exact hi'
          simp [hsz']
        have hput : ∀ x, (fill slots 0 (uSt V listed) a).put o.dst x = fill slots 0 (uSt (fun j => if j = i then x else V j) (listed.setIfInBounds i true)) a := by
          intro x
          have hput0 : (fill slots 0 (uSt V listed) a).put o.dst x = (fill slots 0 (uSt V listed) a).put (some s) x := by
            rcases hdst with h | ⟨h, hs⟩
            · rw [h]
            · rw [h]
              have hz := fill_size slots 0 (uSt V listed) a
              have hq : (fill slots 0 (uSt V listed) a).tmps.size ≤ s := by rw [hz]; exact Nat.le_trans hts hs
              simp only [Act.put]
              rw [Array.setIfInBounds_eq_of_size_le hq]
          rw [hput0]
          rw [fill_put_at slots 0 i _ a s x hss hnd (by simp only [Nat.zero_add]; unfold uSt; rw [hun']; rfl)]
          refine fill_congr slots 0 _ _ a (fun j _ => ?_)
          simp only [upd, Nat.zero_add]
          by_cases e : j = i
          · subst e
            simp only [if_true, uSt, hself]
          · rw [if_neg e]
            unfold uSt
            rw [getD_set_ne false (Ne.symm e)]
            simp only [if_neg e]
        unfold wpOp
        simp only [ho']
        have hw : ∀ j b, o.guard = some (j, b) → yielded l.toArray (fill slots 0 (uSt V listed) a).tmps j = some (if sk i then !b else b) := by
            intro j b hgo
            unfold guardB at hg
            rw [hgo] at hg
            simp only [Bool.and_eq_true, decide_eq_true_eq] at hg
            obtain ⟨hwt, hs1⟩ := hg
            obtain ⟨o3, ho3, e, he, hbd, hon⟩ := Region.waitsFor_spec hwt
            obtain rfl : o = o3 := Option.some.inj (ho'.symm.trans ho3)
            have hl := hdeps e he hbd
            rw [hon] at hl
            have hj : j < l.length := by
              rcases Nat.lt_or_ge j l.length with h | h
              · exact h
              · have : listed.getD j false = false := by
                  have hsz' : ¬ j < listed.size := by rw [hls, hszl]; omega
                  simp [hsz']
                rw [this] at hl; cases hl
            obtain ⟨oj, sj, hoj, _, hdj, hsj⟩ := hop j hj
            rw [hsj] at hs1
            have hs1' : sj < 1000 := by simpa using hs1
            clear hs1
            have hdj' : oj.dst = some sj := by
              rcases hdj with h | ⟨_, h⟩
              · exact h
              · exact absurd h (Nat.not_le_of_lt hs1')
            have hs3 : sj < a.tmps.size := hsz sj (List.mem_of_getElem? hsj) hs1'
            have hv := hgd i o j b (fun i => listed.getD i false) V W ho hgo hl hR
            have hev := fill_eval_at slots 0 j (uSt V listed) a sj (V j) hsj hnd (by simp only [Nat.zero_add]; unfold uSt; rw [hl]; rfl) hs3
            rw [hv] at hev
            generalize (if sk i then !b else b) = c at *
            have hsz4 : sj < (fill slots 0 (uSt V listed) a).tmps.size := by rw [fill_size]; exact hs3
            have hev2 : (fill slots 0 (uSt V listed) a).tmps[sj]? = some (.bool c) := by
              have h0 : (fill slots 0 (uSt V listed) a).tmps[sj]?.getD undef = .bool c := by simpa [Act.eval] using hev
              rw [Array.getElem?_eq_getElem hsz4] at h0 ⊢
              simpa using h0
            have hoj' : l.toArray[j]? = some oj := by simpa using hoj
            simp [yielded, hoj', hdj', hev2]
        cases hsi : sk i with
        | true =>
          obtain ⟨hgs, hR'⟩ := hsk i o (fun i => listed.getD i false) V W ho hsi hun' hR
          have hw' : ¬ Region.wanted o (yielded l.toArray (fill slots 0 (uSt V listed) a).tmps) = true := by
            unfold Region.wanted
            cases hgo : o.guard with
            | none => rw [hgo] at hgs; cases hgs
            | some jb =>
              obtain ⟨j, b⟩ := jb
              have := hw j b hgo
              rw [hsi] at this
              simp [this]
          rw [if_neg hw']
          refine ih _ _ _ (by simp [hls]) ?_ ⟨_, hput undef, ?_⟩
          · have := cnt_set hun l.toArray.size (by rw [hszl]; exact hi')
            omega
          · have e : (fun j => (listed.setIfInBounds i true).getD j false) = fun j => if j = i then true else listed.getD j false := by
              funext j
              by_cases e : j = i
              · subst e; simp only [if_true]; exact hself
              · rw [if_neg e, getD_set_ne false (Ne.symm e)]
            rw [e]; exact hR'
        | false =>
          have hw : Region.wanted o (yielded l.toArray (fill slots 0 (uSt V listed) a).tmps) = true := by
            unfold Region.wanted
            cases hgo : o.guard with
            | none => rfl
            | some jb =>
              obtain ⟨j, b⟩ := jb
              have := hw j b hgo
              rw [hsi] at this
              simp [this]
          rw [if_pos hw]
          refine .inl ?_
          refine Oper.wp_mono ?_ (hval i o (fun i => listed.getD i false) V ho hsi hun' (fun j hwt => ?_) _ W hR (fun t ht => fill_eval_other slots 0 _ a t ht) (fun j t ht hj => fill_eval_none slots 0 j _ a t ht hnd (by simp only [Nat.zero_add]; unfold uSt; rw [hj]; rfl)) (fun j s' hs1 hs' hwt => ?_))
          · rintro a'' W' ⟨x, rfl, hR'⟩
            refine ih _ _ _ (by simp [hls]) ?_ ⟨_, hput x, ?_⟩
            · have := cnt_set hun l.toArray.size (by rw [hszl]; exact hi')
              omega
            · have e : (fun j => (listed.setIfInBounds i true).getD j false) = fun j => if j = i then true else listed.getD j false := by
                funext j
                by_cases e : j = i
                · subst e; simp only [if_true]; exact hself
                · rw [if_neg e, getD_set_ne false (Ne.symm e)]
              rw [e]; exact hR'
          · obtain ⟨o3, ho3, e, he, hbd, hon⟩ := Region.waitsFor_spec hwt
            obtain rfl : o = o3 := Option.some.inj (ho'.symm.trans ho3)
            have hl := hdeps e he hbd
            rw [hon] at hl
            exact hl
          · obtain ⟨o3, ho3, e, he, hbd, hon⟩ := Region.waitsFor_spec hwt
            obtain rfl : o = o3 := Option.some.inj (ho'.symm.trans ho3)
            have hl := hdeps e he hbd
            rw [hon] at hl
            have hs3 : s' < a.tmps.size := hsz s' (List.mem_of_getElem? hs') hs1
            refine fill_eval_at slots 0 j _ a s' (V j) hs' hnd ?_ hs3
            simp only [Nat.zero_add]
            unfold uSt
            rw [hl]
            rfl
  refine main _ _ _ _ (by simp) ?_ ⟨fun _ => undef, ?_, ?_⟩
  · have : ∀ k, k ≤ l.toArray.size → cnt (Array.replicate l.toArray.size false) k = k := by
      intro k
      induction k with
      | zero => intro _; rfl
      | succ k ih =>
        intro hk
        unfold cnt
        rw [ih (by omega), getD_in (listed := Array.replicate l.toArray.size false) (by simp at hk ⊢; omega) (getD_replicate_false _ _)]
        simp
    exact this _ (Nat.le_refl _)
  · have e : ∀ (ss : List Nat) (k : Nat), fill ss k (uSt (fun _ => undef) (Array.replicate l.toArray.size false)) a = a := by
      intro ss
      induction ss with
      | nil => intro k; rfl
      | cons s ss ih =>
        intro k
        unfold fill
        have : uSt (fun _ => undef) (Array.replicate l.toArray.size false) k = none := by unfold uSt; rw [getD_replicate_false]; rfl
        rw [this]
        exact ih (k + 1)
    exact (e slots 0).symm
  · have e : (fun i => (Array.replicate l.toArray.size false).getD i false) = fun _ => false := by funext i; exact getD_replicate_false _ _
    rw [e]; exact h0
theorem wp_region_fih {id : Nat} {a : Act} {w : World} {l : List Oper} (slots : List Nat) (sk : Nat → Bool) (F : Nat → Value → Prop) (I : (Nat → Bool) → (Nat → Value) → World → Prop)
    (hm : P.follows .mixedOrders = true) (hB : allGB l.toArray slots = true) (hsz : ∀ s ∈ slots, s < 1000 → s < a.tmps.size) (hts : a.tmps.size ≤ 1000)
    (h0 : I (fun _ => false) (fun _ => undef) { w with drawn := w.drawn + 1 })
    (hval : ∀ i o L V, l[i]? = some o → sk i = false → L i = false → (∀ j, Region.waitsFor .any l.toArray i j = true → L j = true) → ∀ a' W, I L V W → (∀ t, t ∉ slots → a'.eval (.tmp t) = a.eval (.tmp t)) → (∀ j t, slots[j]? = some t → L j = false → a'.eval (.tmp t) = a.eval (.tmp t)) →
      (∀ j s, s < 1000 → slots[j]? = some s → Region.waitsFor .any l.toArray i j = true → a'.eval (.tmp s) = V j ∧ F j (V j)) →
      o.wp P a' W (fun a'' W' => ∃ x, a'' = a'.put o.dst x ∧ F i x ∧ I (fun j => if j = i then true else L j) (fun j => if j = i then x else V j) W') Q)
    (hgd : ∀ (i : Nat) (o : Oper) (j : Nat) (b : Bool), l[i]? = some o → o.guard = some (j, b) → ∀ v, F j v → v = .bool (if sk i then !b else b))
    (hsk : ∀ (i : Nat) (o : Oper), l[i]? = some o → sk i = true → o.guard.isSome = true ∧ F i undef ∧ ∀ L V W, I L V W → I (fun j => if j = i then true else L j) (fun j => if j = i then undef else V j) W)
    (hend : ∀ (W : World) L V, (∀ i, i < l.length → L i = true) → (∀ i, i < l.length → F i (V i)) → I L V W → Q .normal (fill slots 0 (fun i => some (V i)) a) W) :
    (Code.region id l.toArray true).wp P Q a w := by
  refine wp_region_allh slots sk (fun L V W => (∀ j, L j = true → F j (V j)) ∧ I L V W) hm hB hsz hts ⟨fun j h => (by cases h), h0⟩ ?_ (fun i o j b L V W ho hg hL hR => hgd i o j b ho hg _ (hR.1 j hL)) (fun i o L V W ho hs hl hR => ?_) ?_
  · rintro i o L V ho hsi hL hd a' W ⟨hF, hI⟩ hfr hfs hdp
    refine Oper.wp_mono ?_ (hval i o L V ho hsi hL hd a' W hI hfr hfs (fun j s h1 h2 h3 => ⟨hdp j s h1 h2 h3, hF j (hd j h3)⟩))
    rintro a'' W' ⟨x, rfl, hx, hI'⟩
    refine ⟨x, rfl, fun j hj => ?_, hI'⟩
    by_cases e : j = i
    · subst e
      simp only [if_true]
      exact hx
    · simp only [if_neg e] at hj ⊢
      exact hF j hj
  · obtain ⟨h1, h2, h3⟩ := hsk i o ho hs
    refine ⟨h1, fun j hj => ?_, h3 L V W hR.2⟩
    by_cases e : j = i
    · subst e
      simp only [if_true]
      exact h2
    · simp only [if_neg e] at hj ⊢
      exact hR.1 j hj
  · rintro W L V hL ⟨hF, hI⟩
    exact hend W L V hL (fun i hi => hF i (hL i hi)) hI
end
end Go.Proofs.YtcoiklolgilhaaaGreatDoor
namespace Go.Proofs.YtcoiklolgilhaaaGreatDoor
open Go.RowKit
set_option maxRecDepth 100000
section
variable {Q : Exit → Act → World → Prop} {o : Oper} {a' : Act} {W : World}
theorem opx_call3m {f s t : Nat} {v u : Value} {c : Int} {ts : Array TypeId} {Rq : Value → World → Prop} (hop : o.op = Op.call { callee := .value (.func f), args := #[.tmp s, .const (.int .i64 c), .tmp t], argTypes := ts })
    (he : a'.eval (.tmp s) = v) (ht : a'.eval (.tmp t) = u) (eg : ∀ args w, (callFunc f args).run Tryz.prog w = .ok (.enter f args) w) (hc : Calls Tryz.prog f #[v, .int .i64 c, u] W fun e W' => ∃ r, e = .returned r ∧ Rq r W') :
    o.wp Tryz.prog a' W (fun a'' W' => ∃ x, a'' = a'.put o.dst x ∧ Rq x W') Q := by
  have he' : a'.tmps[s]?.getD undef = v := by simpa [Act.eval] using he
  have ht' : a'.tmps[t]?.getD undef = u := by simpa [Act.eval] using ht
  unfold Oper.wp execOp
  rw [hop]
  simp [go_sem, he', ht', eg]
  refine hc.mono ?_
  rintro e w' ⟨r, rfl, hb⟩
  exact ⟨r, rfl, hb⟩
theorem op_leqt3 {s t : Nat} {x y : Int} (hop : o.op = Op.binOp .leq 3 (.tmp s) (.tmp t) 3) (he : a'.eval (.tmp s) = .int .i64 x) (ht : a'.eval (.tmp t) = .int .i64 y) :
    o.wp Tryz.prog a' W (fun a'' W' => a'' = a'.put o.dst (.bool (!decide (y < x))) ∧ Below W.heap.size W W') Q := by
  have hr := Below.refl W.heap.size W
  have he' : a'.tmps[s]?.getD undef = .int .i64 x := by simpa [Act.eval] using he
  have ht' : a'.tmps[t]?.getD undef = .int .i64 y := by simpa [Act.eval] using ht
  have hq : decide (x ≤ y) = !decide (y < x) := by
    by_cases h : y < x
    · have : ¬ x ≤ y := by omega
      simp [h, this]
    · have : x ≤ y := by omega
      simp [h, this]
  unfold Oper.wp execOp
  rw [hop]
  rw [← hq]
  simp [go_sem, he', ht', hr]
theorem op_pickand {s t : Nat} {b c : Bool} (hop : o.op = Op.pick (.tmp s) (.tmp t) (.const (.bool false))) (he : a'.eval (.tmp s) = .bool b) (ht : b = true → a'.eval (.tmp t) = .bool c) :
    o.wp Tryz.prog a' W (fun a'' W' => a'' = a'.put o.dst (.bool (b && c)) ∧ Below W.heap.size W W') Q := by
  have hr := Below.refl W.heap.size W
  have he' : a'.tmps[s]?.getD undef = .bool b := by simpa [Act.eval] using he
  unfold Oper.wp execOp
  rw [hop]
  cases b with
  | false => simp [go_sem, he', hr]
  | true =>
    have ht' : a'.tmps[t]?.getD undef = .bool c := by simpa [Act.eval] using ht rfl
    simp [go_sem, he', ht', hr]
end
theorem eg74c : ∀ args w, (callFunc 74 args).run Tryz.prog w = .ok (.enter 74 args) w := Go.Proofs.enters_of Tryz.func74 (by kernel_rfl) rfl
def sfF5 (s : Sh) (m : Mem3) (g ob cap k : Nat) (ch : Bool) (x : Ic) : Nat → Value → Prop
  | 0, u => u = .agg (shipA s m)
  | 1, u => u = .slice (some ⟨g, ob, none⟩) 16 cap
  | 2, u => u = .int .i64 (k : Int)
  | 3, u => u = .pointer (some ⟨g, ob + k * 4, none⟩)
  | 4, u => u = .agg (iceV x)
  | 5, u => u = .bool ch
  | 6, u => u = .int .i64 (speedP s x ch : Nat)
  | 7, u => u = .bool (decide (((speedP s x ch : Nat) : Int) < 10))
  | _, _ => True
def sfF10 (s : Sh) (g ob cap k : Nat) (pb : Nat) (ch : Bool) (x : Ic) : Nat → Value → Prop
  | 0, u => u = .slice (some ⟨g, ob, none⟩) 16 cap
  | 1, u => u = .int .i64 (k : Int)
  | 2, u => u = .pointer (some ⟨g, ob + k * 4, none⟩)
  | 3, u => u = .agg (iceV x)
  | 4, u => u = .bool ch
  | 5, u => u = .int .i64 (loadP x 10 ch)
  | 6, u => u = .pointer (some ⟨pb, 0, none⟩)
  | 7, u => u = .int .i64 s.cls
  | 8, u => u = .int .i64 (strP s.cls)
  | 9, u => u = .bool (beyP s x ch 10)
  | _, _ => True
def sfF20 (s : Sh) (m : Mem3) (g ob cap k : Nat) (pb : Nat) (v : Int) (ch : Bool) (x : Ic) (B : Bool) : Nat → Value → Prop
  | 0, u => u = .bool B
  | 1, u => u = .bool B
  | 2, u => B = true → u = .agg (shipA s m)
  | 3, u => B = true → u = .slice (some ⟨g, ob, none⟩) 16 cap
  | 4, u => B = true → u = .int .i64 (k : Int)
  | 5, u => B = true → u = .pointer (some ⟨g, ob + k * 4, none⟩)
  | 6, u => B = true → u = .agg (iceV x)
  | 7, u => B = true → u = .int .i64 v
  | 8, u => B = true → u = .bool ch
  | 9, u => B = true → u = .bool (makesP s x ch v)
  | 10, u => u = .bool (B && makesP s x ch v)
  | 11, u => u = .bool (B && makesP s x ch v)
  | 12, u => (B && makesP s x ch v) = true → u = .slice (some ⟨g, ob, none⟩) 16 cap
  | 13, u => (B && makesP s x ch v) = true → u = .int .i64 (k : Int)
  | 14, u => (B && makesP s x ch v) = true → u = .pointer (some ⟨g, ob + k * 4, none⟩)
  | 15, u => (B && makesP s x ch v) = true → u = .agg (iceV x)
  | 16, u => (B && makesP s x ch v) = true → u = .int .i64 v
  | 17, u => (B && makesP s x ch v) = true → u = .bool ch
  | 18, u => (B && makesP s x ch v) = true → u = .int .i64 (loadP x v ch)
  | 19, u => (B && makesP s x ch v) = true → u = .pointer (some ⟨pb, 0, none⟩)
  | 20, u => (B && makesP s x ch v) = true → u = .int .i64 s.cls
  | 21, u => (B && makesP s x ch v) = true → u = .int .i64 (strP s.cls)
  | 22, u => (B && makesP s x ch v) = true → u = .bool (!beyP s x ch v)
  | 23, u => u = .bool ((B && makesP s x ch v) && !beyP s x ch v)
  | 24, u => u = .bool ((B && makesP s x ch v) && !beyP s x ch v)
  | _, _ => True
def sfSk (B C : Bool) (i : Nat) : Bool := (decide (2 ≤ i) && decide (i < 10) && !B) || (decide (12 ≤ i) && decide (i < 23) && !C)
theorem scan_safe {s : Sh} {i : Ic} (g : Good s) (gi : GoodI i) (ch : Bool) : scanN (safeB s i ch) 251 = safeP s i ch := by
  have t1 := g.top
  unfold safeP
  refine scan_eq (safeB_anti g gi ch _) (by omega) (fun k hk => ?_)
  have : ¬ (k : Int) ≤ lastXP s.th := by omega
  simp [safeB, makesP, this]
end Go.Proofs.YtcoiklolgilhaaaGreatDoor
namespace Go.Proofs.YtcoiklolgilhaaaGreatDoor
open Go.RowKit
set_option maxRecDepth 100000
set_option maxHeartbeats 16000000 in
theorem rsafe_any (s : Sh) (m : Mem3) (lo hi : Ic) (ch : Bool) (gg : Good s) (cc : GoodC lo hi) (w : World) (h : ShipIn w s m) :
    Calls Tryz.prog 91 #[.agg (shipA s m), .agg (cellV lo hi), .bool ch] w fun e w' => e = .returned (.tuple #[.int .i64 (ssLo s lo hi ch), .int .i64 (ssE s lo hi ch)]) ∧ Below w.heap.size w w' := by
  obtain ⟨t0, t1, tz, tb⟩ := two_allocs w (.cells (shipA s m) 36) (.cells (cellV lo hi) 39)
  have HB := Lib.hid tb
  have HK3 := Lib.hid t0
  have HK4 := Lib.hid t1
  have HS := Lib.hid (h.later tb)
  have g := Lib.hid gg
  have gc := Lib.hid cc
  clear t0 t1 tb h gg cc
  obtain ⟨⟨d0, d1, d2, d3, d4, d5, d6, d7⟩, _⟩ := cells8 HK4.out
  go_enter Tryz.func91, Tryz.ntmps91
  go_wp2_with fail
  generalize (w.alloc (.cells (shipA s m) 36)).alloc (.cells (cellV lo hi) 39) = X0 at *
  refine (Corners_any lo hi gc.out _).mono ?_
  rintro e V2 ⟨q, cap, X, rfl, hX, hIn, hX0, hX15, hb⟩
  have HX := Lib.hid hX
  have HIN := Lib.hid hIn
  have HX15 := Lib.hid hX15
  clear d0 d1 d2 d3 d4 d5 d6 d7 hX hIn hX0 hX15
  replace HK3 := Lib.hid ((hb.block _ (lt_of_block HK3.out)).trans HK3.out)
  replace HS := Lib.hid (HS.out.later hb)
  replace HB := Lib.hid (HB.out.trans (hb.mono HB.out.size))
  clear hb HK4 tz
  obtain ⟨g0, ob, eq, _⟩ := HX.out 0 (by omega)
  subst eq
  have HB2 := Lib.hid (Below.refl V2.heap.size V2)
  go_wp2_with fail
  go_loopw [9] (fun n wr => ∃ (k : Nat), n = .int .i64 k ∧ k ≤ 16 ∧ Hid (15 < k → ¬ ((speedP s hi ch : Nat) : Int) < 10) ∧ Hid (Below V2.heap.size V2 wr)) (fun n _ => 16 - (intOf n).toNat)
  case atStart => exact ⟨0, rfl, by omega, Lib.hid (fun h => absurd h (by omega)), HB2⟩
  case round =>
    clear HB2
    obtain ⟨k, rfl, hk, hF, hB⟩ := hrel
    have HF := Lib.hid hF.out
    have HB2 := Lib.hid hB.out
    clear hF hB
    by_cases hlt : k < 16
    · have hlt' : (k : Int) < 16 := by omega
      replace HK3 := Lib.hid ((HB2.out.block _ (lt_of_block HK3.out)).trans HK3.out)
      replace HS := Lib.hid (HS.out.later HB2.out)
      have HXk := Lib.hid (fun (W : World) (hW : Below wr.heap.size wr W) => ((HX.out.later HB2.out).later hW) k hlt)
      go_wp2_with fail
      refine wp_region_fi [23, 24, 25, 26, 27, 28, 29, 30] (sfF5 s m g0 ob cap k ch (X k)) (fun _ _ W => Below wr.heap.size wr W) (by kernel_rfl) (by kernel_rfl) ?sz ?ts ?z ?val ?fin
      case sz => intro s hs h; simp at hs ⊢; omega
      case ts => simp
      case z => exact below_drawn wr
      case val =>
        intro jj
        match jj with
        | 0 => intro o L V ho hL hd a' W hX hfr hdp; obtain rfl := Option.some.inj ho; exact opx_of (op_load36 rfl (hfr 3 (by decide)) ((hX.block _ (lt_of_block HK3.out)).trans HK3.out)) fun W' hb => ⟨rfl, hX.trans (hb.mono hX.size)⟩
        | 1 => intro o L V ho hL hd a' W hX hfr hdp; obtain rfl := Option.some.inj ho; exact opx_of (op_move rfl (hfr 8 (by decide))) fun W' hb => ⟨rfl, hX.trans (hb.mono hX.size)⟩
        | 2 => intro o L V ho hL hd a' W hX hfr hdp; obtain rfl := Option.some.inj ho; exact opx_of (op_move rfl (hfr 9 (by decide))) fun W' hb => ⟨rfl, hX.trans (hb.mono hX.size)⟩
        | 3 => intro o L V ho hL hd a' W hX hfr hdp; obtain rfl := Option.some.inj ho; exact opx_of (op_idx143 hlt rfl (Dp (hdp 1 24 (by decide) rfl (by kernel_rfl)) id) (Dp (hdp 2 25 (by decide) rfl (by kernel_rfl)) id)) fun W' hb => ⟨rfl, hX.trans (hb.mono hX.size)⟩
        | 4 =>
            intro o L V ho hL hd a' W hX hfr hdp; obtain rfl := Option.some.inj ho
            obtain ⟨b', o', eq, _, x0, x1, x2, x3⟩ := HXk.out W hX
            simp only [Option.some.injEq, Addr.mk.injEq, and_true] at eq
            obtain ⟨rfl, rfl⟩ := eq
            exact opx_of (op_load38o rfl (Dp (hdp 3 26 (by decide) rfl (by kernel_rfl)) id) x0 x1 x2 x3) fun W' hb => ⟨rfl, hX.trans (hb.mono hX.size)⟩
        | 5 => intro o L V ho hL hd a' W hX hfr hdp; obtain rfl := Option.some.inj ho; exact opx_of (op_move rfl (hfr 2 (by decide))) fun W' hb => ⟨rfl, hX.trans (hb.mono hX.size)⟩
        | 6 =>
          intro o L V ho hL hd a' W hX hfr hdp; obtain rfl := Option.some.inj ho
          refine opx_call3g rfl (Dp (hdp 0 23 (by decide) rfl (by kernel_rfl)) id) (Dp (hdp 4 27 (by decide) rfl (by kernel_rfl)) id) (Dp (hdp 5 28 (by decide) rfl (by kernel_rfl)) id) eg76c ((rspeed_any s m (X k) ch g.out ((HIN.out k hlt).good gc.out) W (HS.out.later hX)).mono ?_)
          rintro e W' ⟨rfl, hb⟩
          exact ⟨_, rfl, rfl, hX.trans (hb.mono hX.size)⟩
        | 7 => intro o L V ho hL hd a' W hX hfr hdp; obtain rfl := Option.some.inj ho; exact opx_of (op_lssc rfl (Dp (hdp 6 29 (by decide) rfl (by kernel_rfl)) id)) fun W' hb => ⟨rfl, hX.trans (hb.mono hX.size)⟩
        | j + 8 => intro o L V ho; simp at ho
      case fin =>
        intro W1 L V hL hF2 hI
        have e7 : V 7 = .bool (decide (((speedP s (X k) ch : Nat) : Int) < 10)) := hF2 7 (by decide)
        have hb := hI
        clear hF2 hL hI HXk
        replace HB2 := Lib.hid (HB2.out.trans (hb.mono HB2.out.size))
        clear hb HK3 HX HS
        simp only [fill, Act.put, List.setIfInBounds_toArray, List.set_cons_zero, List.set_cons_succ, Nat.reduceAdd]
        rw [e7]
        generalize V 0 = v0, V 1 = v1, V 2 = v2, V 3 = v3, V 4 = v4, V 5 = v5, V 6 = v6 at *
        clear e7 V
        have HIK := Lib.hid (in_cell (ch := ch) g.out gc.out ((HIN.out k hlt).good gc.out) (HIN.out k hlt).l (HIN.out k hlt).h)
        have HSX := Lib.hid (show k = 15 → speedP s (X k) ch = speedP s hi ch from fun e => by rw [e, HX15.out])
        by_cases hs : ((speedP s (X k) ch : Nat) : Int) < 10
        · have HE := Lib.hid (ss_beset g.out gc.out (show ((speedP s hi ch : Nat) : Int) < 10 from by have := HIK.out.1; omega))
          have HL := Lib.hid (show ssLo s lo hi ch = 0 from by unfold ssLo; rw [HE.out]; rfl)
          have hs' := decide_eq_true hs
          rw [hs']
          clear hs hs'
          go_wp2_with fail
          refine bodyPost_ret (v := .tuple #[.int .i64 0, .int .i64 4]) (by simp [results, Tryz.results91, go_sem]) rfl ⟨by rw [HE.out, HL.out], ?_⟩
          exact HB.out.trans (HB2.out.mono HB.out.size)
        · have hs' := decide_eq_false hs
          rw [hs']
          have HQ := Lib.hid hs
          clear hs hs'
          go_wp2_with fail
          have x2 := HSX.out
          have y := HQ.out
          refine ⟨⟨k + 1, by go_num, by omega, Lib.hid (fun h => by have := x2 (by omega); omega), HB2⟩, by simp only [intOf]; omega⟩
    · obtain rfl : k = 16 := by omega
      have HSP := Lib.hid (HF.out (by omega))
      clear HF hlt hk
      go_wp2_with fail
      generalize wr = Y1 at *
      go_loopw [10] (fun n wr => ∃ (k : Nat), n = .int .i64 k ∧ k ≤ 16 ∧ Hid (15 < k → beyP s hi ch 10 = false) ∧ Hid (Below V2.heap.size V2 wr)) (fun n _ => 16 - (intOf n).toNat)
      case atStart => exact ⟨0, rfl, by omega, Lib.hid (fun h => absurd h (by omega)), HB2⟩
      case round =>
        clear HB2
        obtain ⟨k, rfl, hk, hF, hB⟩ := hrel
        have HF := Lib.hid hF.out
        have HB2 := Lib.hid hB.out
        clear hF hB
        by_cases hlt : k < 16
        · have hlt' : (k : Int) < 16 := by omega
          replace HK3 := Lib.hid ((HB2.out.block _ (lt_of_block HK3.out)).trans HK3.out)
          have HXk := Lib.hid (fun (W : World) (hW : Below wr.heap.size wr W) => ((HX.out.later HB2.out).later hW) k hlt)
          go_wp2_with fail
          refine wp_region_fi [37, 38, 39, 40, 41, 42, 43, 44, 45, 46] (sfF10 s g0 ob cap k w.heap.size ch (X k)) (fun _ _ W => Below wr.heap.size wr W) (by kernel_rfl) (by kernel_rfl) ?sz ?ts ?z ?val ?fin
          case sz => intro s hs h; simp at hs ⊢; omega
          case ts => simp
          case z => exact below_drawn wr
          case val =>
            intro jj
            match jj with
            | 0 => intro o L V ho hL hd a' W hX hfr hdp; obtain rfl := Option.some.inj ho; exact opx_of (op_move rfl (hfr 8 (by decide))) fun W' hb => ⟨rfl, hX.trans (hb.mono hX.size)⟩
            | 1 => intro o L V ho hL hd a' W hX hfr hdp; obtain rfl := Option.some.inj ho; exact opx_of (op_move rfl (hfr 10 (by decide))) fun W' hb => ⟨rfl, hX.trans (hb.mono hX.size)⟩
            | 2 => intro o L V ho hL hd a' W hX hfr hdp; obtain rfl := Option.some.inj ho; exact opx_of (op_idx143 hlt rfl (Dp (hdp 0 37 (by decide) rfl (by kernel_rfl)) id) (Dp (hdp 1 38 (by decide) rfl (by kernel_rfl)) id)) fun W' hb => ⟨rfl, hX.trans (hb.mono hX.size)⟩
            | 3 =>
              intro o L V ho hL hd a' W hX hfr hdp; obtain rfl := Option.some.inj ho
              obtain ⟨b', o', eq, _, x0, x1, x2, x3⟩ := HXk.out W hX
              simp only [Option.some.injEq, Addr.mk.injEq, and_true] at eq
              obtain ⟨rfl, rfl⟩ := eq
              exact opx_of (op_load38o rfl (Dp (hdp 2 39 (by decide) rfl (by kernel_rfl)) id) x0 x1 x2 x3) fun W' hb => ⟨rfl, hX.trans (hb.mono hX.size)⟩
            | 4 => intro o L V ho hL hd a' W hX hfr hdp; obtain rfl := Option.some.inj ho; exact opx_of (op_move rfl (hfr 2 (by decide))) fun W' hb => ⟨rfl, hX.trans (hb.mono hX.size)⟩
            | 5 =>
              intro o L V ho hL hd a' W hX hfr hdp; obtain rfl := Option.some.inj ho
              refine opx_call3m rfl (Dp (hdp 3 40 (by decide) rfl (by kernel_rfl)) id) (Dp (hdp 4 41 (by decide) rfl (by kernel_rfl)) id) eg80c ((rload_any (X k) ((HIN.out k hlt).good gc.out) 10 (by decide) (by decide) ch W).mono ?_)
              rintro e W' ⟨rfl, hb⟩
              exact ⟨_, rfl, rfl, hX.trans (hb.mono hX.size)⟩
            | 6 => intro o L V ho hL hd a' W hX hfr hdp; obtain rfl := Option.some.inj ho; exact opx_of (op_fa36z rfl (hfr 3 (by decide))) fun W' hb => ⟨rfl, hX.trans (hb.mono hX.size)⟩
            | 7 => intro o L V ho hL hd a' W hX hfr hdp; obtain rfl := Option.some.inj ho; exact opx_of (op_load3 rfl (Dp (hdp 6 43 (by decide) rfl (by kernel_rfl)) id) (by rw [cell_of_block ((hX.block _ (lt_of_block HK3.out)).trans HK3.out)]; rfl)) fun W' hb => ⟨rfl, hX.trans (hb.mono hX.size)⟩
            | 8 =>
              intro o L V ho hL hd a' W hX hfr hdp; obtain rfl := Option.some.inj ho
              refine opx_callu rfl (Dp (hdp 7 44 (by decide) rfl (by kernel_rfl)) id) eg89c ((rstrength_any s.cls W).mono ?_)
              rintro e W' ⟨rfl, rfl⟩
              exact ⟨_, rfl, rfl, hX⟩
            | 9 => intro o L V ho hL hd a' W hX hfr hdp; obtain rfl := Option.some.inj ho; exact opx_of (op_gtrt3 rfl (Dp (hdp 5 42 (by decide) rfl (by kernel_rfl)) id) (Dp (hdp 8 45 (by decide) rfl (by kernel_rfl)) id)) fun W' hb => ⟨rfl, hX.trans (hb.mono hX.size)⟩
            | j + 10 => intro o L V ho; simp at ho
          case fin =>
            intro W1 L V hL hF2 hI
            have e9 : V 9 = .bool (beyP s (X k) ch 10) := hF2 9 (by decide)
            have hb := hI
            clear hF2 hL hI HXk
            replace HB2 := Lib.hid (HB2.out.trans (hb.mono HB2.out.size))
            clear hb HK3 HX HS
            simp only [fill, Act.put, List.setIfInBounds_toArray, List.set_cons_zero, List.set_cons_succ, Nat.reduceAdd]
            rw [e9]
            generalize V 0 = v0, V 1 = v1, V 2 = v2, V 3 = v3, V 4 = v4, V 5 = v5, V 6 = v6, V 7 = v7, V 8 = v8 at *
            clear e9 V
            have HIK := Lib.hid (fun e : beyP s (X k) ch 10 = true => bey_le ((HIN.out k hlt).good gc.out) gc.out.gh (HIN.out k hlt).h (by decide) (Int.le_refl _) (fun h => h) e)
            have HSX := Lib.hid (show k = 15 → beyP s (X k) ch 10 = beyP s hi ch 10 from fun e => by rw [e, HX15.out])
            generalize beyP s (X k) ch 10 = SX at *
            cases SX with
            | true =>
              have HE := Lib.hid (ss_class g.out gc.out (Int.not_lt.2 HSP.out) (HIK.out rfl))
              have HL := Lib.hid (show ssLo s lo hi ch = 0 from by unfold ssLo; rw [HE.out]; rfl)
              go_wp2_with fail
              refine bodyPost_ret (v := .tuple #[.int .i64 0, .int .i64 41]) (by simp [results, Tryz.results91, go_sem]) rfl ⟨by rw [HE.out, HL.out], ?_⟩
              exact HB.out.trans (HB2.out.mono HB.out.size)
            | false =>
              go_wp2_with fail
              have x2 := HSX.out
              refine ⟨⟨k + 1, by go_num, by omega, Lib.hid (fun h => (x2 (by omega)).symm), HB2⟩, by simp only [intOf]; omega⟩
        · obtain rfl : k = 16 := by omega
          have HBY := Lib.hid (HF.out (by omega))
          clear HF hlt hk
          have HOK := Lib.hid (ss_ok g.out gc.out (Int.not_lt.2 HSP.out) HBY.out)
          go_wp2_with fail
          have HSN := Lib.hid (scan_safe g.out gc.out.gh ch)
          generalize wr = Y2 at *
          go_loopw [11, 12] (fun b n wr => ∃ (v best : Nat), n = .int .i64 v ∧ b = .int .i64 best ∧ v ≤ 251 ∧ Hid (best = scanN (safeB s hi ch) v) ∧ Hid (Below V2.heap.size V2 wr)) (fun _ n _ => 251 - (intOf n).toNat)
          case atStart => exact ⟨0, 0, rfl, rfl, by omega, Lib.hid rfl, HB2⟩
          case round =>
            clear HB2
            obtain ⟨v, best, rfl, rfl, hv, hF, hB⟩ := hrel
            have HF := Lib.hid hF.out
            have HB2 := Lib.hid hB.out
            clear hF hB
            by_cases hlv : v < 251
            · have hlv' : (v : Int) ≤ 250 := by omega
              go_wp2_with fail
              generalize wr = Y3 at *
              go_loopw [13, 14] (fun gd n wr => ∃ (k : Nat) (B : Bool), n = .int .i64 k ∧ gd = .bool B ∧ k ≤ 16 ∧ Hid ((safeB s hi ch v = true → B = true) ∧ (15 < k → B = true → safeB s hi ch v = true)) ∧ Hid (Below V2.heap.size V2 wr)) (fun _ n _ => 16 - (intOf n).toNat)
              case atStart => exact ⟨0, true, rfl, rfl, by omega, Lib.hid ⟨fun _ => rfl, fun h => absurd h (by omega)⟩, HB2⟩
              case round =>
                clear HB2
                obtain ⟨k, B, rfl, rfl, hk, hF, hB⟩ := hrel
                have HG := Lib.hid hF.out
                have HB2 := Lib.hid hB.out
                clear hF hB
                by_cases hlt : k < 16
                · have hlt' : (k : Int) < 16 := by omega
                  replace HK3 := Lib.hid ((HB2.out.block _ (lt_of_block HK3.out)).trans HK3.out)
                  replace HS := Lib.hid (HS.out.later HB2.out)
                  have HXk := Lib.hid (fun (W : World) (hW : Below wr.heap.size wr W) => ((HX.out.later HB2.out).later hW) k hlt)
                  have HGI := Lib.hid ((HIN.out k hlt).good gc.out)
                  go_wp2_with fail
                  refine wp_region_fih [57, 58, 59, 60, 61, 62, 63, 64, 65, 66, 67, 68, 69, 70, 71, 72, 73, 74, 75, 76, 77, 78, 79, 80, 13] (sfSk B (B && makesP s (X k) ch (v : Int))) (sfF20 s m g0 ob cap k w.heap.size (v : Int) ch (X k) B) (fun L _ W => (L 24 = true → L 0 = true) ∧ Below wr.heap.size wr W) (by kernel_rfl) (by kernel_rfl) ?sz ?ts ?z ?val ?gd ?sk ?fin
                  case sz => intro s hs h; simp at hs ⊢; omega
                  case ts => simp
                  case z => exact ⟨fun h => (by cases h), below_drawn wr⟩
                  case gd =>
                    intro i o j b ho hg u hv
                    match i with
                    | 0 => obtain rfl := Option.some.inj ho; cases hg
                    | 1 => obtain rfl := Option.some.inj ho; cases hg
                    | 2 => obtain rfl := Option.some.inj ho; obtain ⟨rfl, rfl⟩ := Prod.mk.inj (Option.some.inj hg); rw [show u = .bool B from hv]; cases B <;> rfl
                    | 3 => obtain rfl := Option.some.inj ho; obtain ⟨rfl, rfl⟩ := Prod.mk.inj (Option.some.inj hg); rw [show u = .bool B from hv]; cases B <;> rfl
                    | 4 => obtain rfl := Option.some.inj ho; obtain ⟨rfl, rfl⟩ := Prod.mk.inj (Option.some.inj hg); rw [show u = .bool B from hv]; cases B <;> rfl
                    | 5 => obtain rfl := Option.some.inj ho; obtain ⟨rfl, rfl⟩ := Prod.mk.inj (Option.some.inj hg); rw [show u = .bool B from hv]; cases B <;> rfl
                    | 6 => obtain rfl := Option.some.inj ho; obtain ⟨rfl, rfl⟩ := Prod.mk.inj (Option.some.inj hg); rw [show u = .bool B from hv]; cases B <;> rfl
                    | 7 => obtain rfl := Option.some.inj ho; obtain ⟨rfl, rfl⟩ := Prod.mk.inj (Option.some.inj hg); rw [show u = .bool B from hv]; cases B <;> rfl
                    | 8 => obtain rfl := Option.some.inj ho; obtain ⟨rfl, rfl⟩ := Prod.mk.inj (Option.some.inj hg); rw [show u = .bool B from hv]; cases B <;> rfl
                    | 9 => obtain rfl := Option.some.inj ho; obtain ⟨rfl, rfl⟩ := Prod.mk.inj (Option.some.inj hg); rw [show u = .bool B from hv]; cases B <;> rfl
                    | 10 => obtain rfl := Option.some.inj ho; cases hg
                    | 11 => obtain rfl := Option.some.inj ho; cases hg
                    | 12 => obtain rfl := Option.some.inj ho; obtain ⟨rfl, rfl⟩ := Prod.mk.inj (Option.some.inj hg); rw [show u = .bool (B && makesP s (X k) ch v) from hv]; cases (B && makesP s (X k) ch (v : Int)) <;> rfl
                    | 13 => obtain rfl := Option.some.inj ho; obtain ⟨rfl, rfl⟩ := Prod.mk.inj (Option.some.inj hg); rw [show u = .bool (B && makesP s (X k) ch v) from hv]; cases (B && makesP s (X k) ch (v : Int)) <;> rfl
                    | 14 => obtain rfl := Option.some.inj ho; obtain ⟨rfl, rfl⟩ := Prod.mk.inj (Option.some.inj hg); rw [show u = .bool (B && makesP s (X k) ch v) from hv]; cases (B && makesP s (X k) ch (v : Int)) <;> rfl
                    | 15 => obtain rfl := Option.some.inj ho; obtain ⟨rfl, rfl⟩ := Prod.mk.inj (Option.some.inj hg); rw [show u = .bool (B && makesP s (X k) ch v) from hv]; cases (B && makesP s (X k) ch (v : Int)) <;> rfl
                    | 16 => obtain rfl := Option.some.inj ho; obtain ⟨rfl, rfl⟩ := Prod.mk.inj (Option.some.inj hg); rw [show u = .bool (B && makesP s (X k) ch v) from hv]; cases (B && makesP s (X k) ch (v : Int)) <;> rfl
                    | 17 => obtain rfl := Option.some.inj ho; obtain ⟨rfl, rfl⟩ := Prod.mk.inj (Option.some.inj hg); rw [show u = .bool (B && makesP s (X k) ch v) from hv]; cases (B && makesP s (X k) ch (v : Int)) <;> rfl
                    | 18 => obtain rfl := Option.some.inj ho; obtain ⟨rfl, rfl⟩ := Prod.mk.inj (Option.some.inj hg); rw [show u = .bool (B && makesP s (X k) ch v) from hv]; cases (B && makesP s (X k) ch (v : Int)) <;> rfl
                    | 19 => obtain rfl := Option.some.inj ho; obtain ⟨rfl, rfl⟩ := Prod.mk.inj (Option.some.inj hg); rw [show u = .bool (B && makesP s (X k) ch v) from hv]; cases (B && makesP s (X k) ch (v : Int)) <;> rfl
                    | 20 => obtain rfl := Option.some.inj ho; obtain ⟨rfl, rfl⟩ := Prod.mk.inj (Option.some.inj hg); rw [show u = .bool (B && makesP s (X k) ch v) from hv]; cases (B && makesP s (X k) ch (v : Int)) <;> rfl
                    | 21 => obtain rfl := Option.some.inj ho; obtain ⟨rfl, rfl⟩ := Prod.mk.inj (Option.some.inj hg); rw [show u = .bool (B && makesP s (X k) ch v) from hv]; cases (B && makesP s (X k) ch (v : Int)) <;> rfl
                    | 22 => obtain rfl := Option.some.inj ho; obtain ⟨rfl, rfl⟩ := Prod.mk.inj (Option.some.inj hg); rw [show u = .bool (B && makesP s (X k) ch v) from hv]; cases (B && makesP s (X k) ch (v : Int)) <;> rfl
                    | 23 => obtain rfl := Option.some.inj ho; cases hg
                    | 24 => obtain rfl := Option.some.inj ho; cases hg
                    | i + 25 => simp at ho
                  case sk =>
                    intro i o ho hsi
                    match i with
                    | 0 => simp [sfSk] at hsi
                    | 1 => simp [sfSk] at hsi
                    | 2 => obtain rfl := Option.some.inj ho; exact ⟨rfl, (fun hB => by rw [hB] at hsi; simp [sfSk] at hsi), fun L V W h => ⟨by simpa using h.1, h.2⟩⟩
                    | 3 => obtain rfl := Option.some.inj ho; exact ⟨rfl, (fun hB => by rw [hB] at hsi; simp [sfSk] at hsi), fun L V W h => ⟨by simpa using h.1, h.2⟩⟩
                    | 4 => obtain rfl := Option.some.inj ho; exact ⟨rfl, (fun hB => by rw [hB] at hsi; simp [sfSk] at hsi), fun L V W h => ⟨by simpa using h.1, h.2⟩⟩
                    | 5 => obtain rfl := Option.some.inj ho; exact ⟨rfl, (fun hB => by rw [hB] at hsi; simp [sfSk] at hsi), fun L V W h => ⟨by simpa using h.1, h.2⟩⟩
                    | 6 => obtain rfl := Option.some.inj ho; exact ⟨rfl, (fun hB => by rw [hB] at hsi; simp [sfSk] at hsi), fun L V W h => ⟨by simpa using h.1, h.2⟩⟩
                    | 7 => obtain rfl := Option.some.inj ho; exact ⟨rfl, (fun hB => by rw [hB] at hsi; simp [sfSk] at hsi), fun L V W h => ⟨by simpa using h.1, h.2⟩⟩
                    | 8 => obtain rfl := Option.some.inj ho; exact ⟨rfl, (fun hB => by rw [hB] at hsi; simp [sfSk] at hsi), fun L V W h => ⟨by simpa using h.1, h.2⟩⟩
                    | 9 => obtain rfl := Option.some.inj ho; exact ⟨rfl, (fun hB => by rw [hB] at hsi; simp [sfSk] at hsi), fun L V W h => ⟨by simpa using h.1, h.2⟩⟩
                    | 10 => simp [sfSk] at hsi
                    | 11 => simp [sfSk] at hsi
                    | 12 => obtain rfl := Option.some.inj ho; exact ⟨rfl, (fun hC => by rw [hC] at hsi; simp [sfSk] at hsi), fun L V W h => ⟨by simpa using h.1, h.2⟩⟩
                    | 13 => obtain rfl := Option.some.inj ho; exact ⟨rfl, (fun hC => by rw [hC] at hsi; simp [sfSk] at hsi), fun L V W h => ⟨by simpa using h.1, h.2⟩⟩
                    | 14 => obtain rfl := Option.some.inj ho; exact ⟨rfl, (fun hC => by rw [hC] at hsi; simp [sfSk] at hsi), fun L V W h => ⟨by simpa using h.1, h.2⟩⟩
                    | 15 => obtain rfl := Option.some.inj ho; exact ⟨rfl, (fun hC => by rw [hC] at hsi; simp [sfSk] at hsi), fun L V W h => ⟨by simpa using h.1, h.2⟩⟩
                    | 16 => obtain rfl := Option.some.inj ho; exact ⟨rfl, (fun hC => by rw [hC] at hsi; simp [sfSk] at hsi), fun L V W h => ⟨by simpa using h.1, h.2⟩⟩
                    | 17 => obtain rfl := Option.some.inj ho; exact ⟨rfl, (fun hC => by rw [hC] at hsi; simp [sfSk] at hsi), fun L V W h => ⟨by simpa using h.1, h.2⟩⟩
                    | 18 => obtain rfl := Option.some.inj ho; exact ⟨rfl, (fun hC => by rw [hC] at hsi; simp [sfSk] at hsi), fun L V W h => ⟨by simpa using h.1, h.2⟩⟩
                    | 19 => obtain rfl := Option.some.inj ho; exact ⟨rfl, (fun hC => by rw [hC] at hsi; simp [sfSk] at hsi), fun L V W h => ⟨by simpa using h.1, h.2⟩⟩
                    | 20 => obtain rfl := Option.some.inj ho; exact ⟨rfl, (fun hC => by rw [hC] at hsi; simp [sfSk] at hsi), fun L V W h => ⟨by simpa using h.1, h.2⟩⟩
                    | 21 => obtain rfl := Option.some.inj ho; exact ⟨rfl, (fun hC => by rw [hC] at hsi; simp [sfSk] at hsi), fun L V W h => ⟨by simpa using h.1, h.2⟩⟩
                    | 22 => obtain rfl := Option.some.inj ho; exact ⟨rfl, (fun hC => by rw [hC] at hsi; simp [sfSk] at hsi), fun L V W h => ⟨by simpa using h.1, h.2⟩⟩
                    | 23 => simp [sfSk] at hsi
                    | 24 => simp [sfSk] at hsi
                    | i + 25 => simp at ho
                  case val =>
                    intro jj
                    match jj with
                    | 0 =>
                      intro o L V ho hsi hL hd a' W hX hfr hfs hdp; obtain rfl := Option.some.inj ho; obtain ⟨hQ, hX⟩ := hX
                      have h24 : L 24 = false := by cases h : L 24 with | false => rfl | true => (rw [hQ h] at hL; cases hL)
                      exact opx_of (op_move rfl (hfs 24 13 rfl h24)) fun W' hb => ⟨rfl, ⟨fun _ => by simp, hX.trans (hb.mono hX.size)⟩⟩
                    | 1 =>
                      intro o L V ho hsi hL hd a' W hX hfr hfs hdp; obtain rfl := Option.some.inj ho; obtain ⟨hQ, hX⟩ := hX
                      exact opx_of (op_move rfl (Dp (hdp 0 57 (by decide) rfl (by kernel_rfl)) id)) fun W' hb => ⟨rfl, ⟨by simpa using hQ, hX.trans (hb.mono hX.size)⟩⟩
                    | 2 =>
                      intro o L V ho hsi hL hd a' W hX hfr hfs hdp; obtain rfl := Option.some.inj ho; obtain ⟨hQ, hX⟩ := hX
                      have hB : B = true := by cases B with | true => rfl | false => simp [sfSk] at hsi
                      exact opx_of (op_load36 rfl (hfr 3 (by decide)) ((hX.block _ (lt_of_block HK3.out)).trans HK3.out)) fun W' hb => ⟨fun _ => rfl, ⟨by simpa using hQ, hX.trans (hb.mono hX.size)⟩⟩
                    | 3 =>
                      intro o L V ho hsi hL hd a' W hX hfr hfs hdp; obtain rfl := Option.some.inj ho; obtain ⟨hQ, hX⟩ := hX
                      exact opx_of (op_move rfl (hfr 8 (by decide))) fun W' hb => ⟨fun _ => rfl, ⟨by simpa using hQ, hX.trans (hb.mono hX.size)⟩⟩
                    | 4 =>
                      intro o L V ho hsi hL hd a' W hX hfr hfs hdp; obtain rfl := Option.some.inj ho; obtain ⟨hQ, hX⟩ := hX
                      exact opx_of (op_move rfl (hfr 14 (by decide))) fun W' hb => ⟨fun _ => rfl, ⟨by simpa using hQ, hX.trans (hb.mono hX.size)⟩⟩
                    | 5 =>
                      intro o L V ho hsi hL hd a' W hX hfr hfs hdp; obtain rfl := Option.some.inj ho; obtain ⟨hQ, hX⟩ := hX
                      have hB : B = true := by cases B with | true => rfl | false => simp [sfSk] at hsi
                      exact opx_of (op_idx143 hlt rfl (Dp (hdp 3 60 (by decide) rfl (by kernel_rfl)) (fun h => h hB)) (Dp (hdp 4 61 (by decide) rfl (by kernel_rfl)) (fun h => h hB))) fun W' hb => ⟨fun _ => rfl, ⟨by simpa using hQ, hX.trans (hb.mono hX.size)⟩⟩
                    | 6 =>
                      intro o L V ho hsi hL hd a' W hX hfr hfs hdp; obtain rfl := Option.some.inj ho; obtain ⟨hQ, hX⟩ := hX
                      have hB : B = true := by cases B with | true => rfl | false => simp [sfSk] at hsi
                      obtain ⟨b', o', eq, _, x0, x1, x2, x3⟩ := HXk.out W hX
                      simp only [Option.some.injEq, Addr.mk.injEq, and_true] at eq
                      obtain ⟨rfl, rfl⟩ := eq
                      exact opx_of (op_load38o rfl (Dp (hdp 5 62 (by decide) rfl (by kernel_rfl)) (fun h => h hB)) x0 x1 x2 x3) fun W' hb => ⟨fun _ => rfl, ⟨by simpa using hQ, hX.trans (hb.mono hX.size)⟩⟩
                    | 7 =>
                      intro o L V ho hsi hL hd a' W hX hfr hfs hdp; obtain rfl := Option.some.inj ho; obtain ⟨hQ, hX⟩ := hX
                      exact opx_of (op_move rfl (hfr 12 (by decide))) fun W' hb => ⟨fun _ => rfl, ⟨by simpa using hQ, hX.trans (hb.mono hX.size)⟩⟩
                    | 8 =>
                      intro o L V ho hsi hL hd a' W hX hfr hfs hdp; obtain rfl := Option.some.inj ho; obtain ⟨hQ, hX⟩ := hX
                      exact opx_of (op_move rfl (hfr 2 (by decide))) fun W' hb => ⟨fun _ => rfl, ⟨by simpa using hQ, hX.trans (hb.mono hX.size)⟩⟩
                    | 9 =>
                      intro o L V ho hsi hL hd a' W hX hfr hfs hdp; obtain rfl := Option.some.inj ho; obtain ⟨hQ, hX⟩ := hX
                      have hB : B = true := by cases B with | true => rfl | false => simp [sfSk] at hsi
                      refine opx_call4g rfl (Dp (hdp 2 59 (by decide) rfl (by kernel_rfl)) (fun h => h hB)) (Dp (hdp 6 63 (by decide) rfl (by kernel_rfl)) (fun h => h hB)) (Dp (hdp 7 64 (by decide) rfl (by kernel_rfl)) (fun h => h hB)) (Dp (hdp 8 65 (by decide) rfl (by kernel_rfl)) (fun h => h hB)) eg74c ((rmakes_any s m (X k) ch g.out HGI.out (v : Int) (by omega) (by omega) W (HS.out.later hX)).mono ?_)
                      rintro e W' ⟨rfl, hb⟩
                      exact ⟨_, rfl, fun _ => rfl, ⟨by simpa using hQ, hX.trans (hb.mono hX.size)⟩⟩
                    | 10 =>
                      intro o L V ho hsi hL hd a' W hX hfr hfs hdp; obtain rfl := Option.some.inj ho; obtain ⟨hQ, hX⟩ := hX
                      exact opx_of (op_pickand rfl (Dp (hdp 1 58 (by decide) rfl (by kernel_rfl)) id) (fun hB => (Dp (hdp 9 66 (by decide) rfl (by kernel_rfl)) (fun h => h hB)))) fun W' hb => ⟨rfl, ⟨by simpa using hQ, hX.trans (hb.mono hX.size)⟩⟩
                    | 11 =>
                      intro o L V ho hsi hL hd a' W hX hfr hfs hdp; obtain rfl := Option.some.inj ho; obtain ⟨hQ, hX⟩ := hX
                      exact opx_of (op_move rfl (Dp (hdp 10 67 (by decide) rfl (by kernel_rfl)) id)) fun W' hb => ⟨rfl, ⟨by simpa using hQ, hX.trans (hb.mono hX.size)⟩⟩
                    | 12 =>
                      intro o L V ho hsi hL hd a' W hX hfr hfs hdp; obtain rfl := Option.some.inj ho; obtain ⟨hQ, hX⟩ := hX
                      exact opx_of (op_move rfl (hfr 8 (by decide))) fun W' hb => ⟨fun _ => rfl, ⟨by simpa using hQ, hX.trans (hb.mono hX.size)⟩⟩
                    | 13 =>
                      intro o L V ho hsi hL hd a' W hX hfr hfs hdp; obtain rfl := Option.some.inj ho; obtain ⟨hQ, hX⟩ := hX
                      exact opx_of (op_move rfl (hfr 14 (by decide))) fun W' hb => ⟨fun _ => rfl, ⟨by simpa using hQ, hX.trans (hb.mono hX.size)⟩⟩
                    | 14 =>
                      intro o L V ho hsi hL hd a' W hX hfr hfs hdp; obtain rfl := Option.some.inj ho; obtain ⟨hQ, hX⟩ := hX
                      have hC : (B && makesP s (X k) ch (v : Int)) = true := by cases hq : (B && makesP s (X k) ch (v : Int)) with | true => rfl | false => rw [hq] at hsi; simp [sfSk] at hsi
                      exact opx_of (op_idx143 hlt rfl (Dp (hdp 12 69 (by decide) rfl (by kernel_rfl)) (fun h => h hC)) (Dp (hdp 13 70 (by decide) rfl (by kernel_rfl)) (fun h => h hC))) fun W' hb => ⟨fun _ => rfl, ⟨by simpa using hQ, hX.trans (hb.mono hX.size)⟩⟩
                    | 15 =>
                      intro o L V ho hsi hL hd a' W hX hfr hfs hdp; obtain rfl := Option.some.inj ho; obtain ⟨hQ, hX⟩ := hX
                      have hC : (B && makesP s (X k) ch (v : Int)) = true := by cases hq : (B && makesP s (X k) ch (v : Int)) with | true => rfl | false => rw [hq] at hsi; simp [sfSk] at hsi
                      obtain ⟨b', o', eq, _, x0, x1, x2, x3⟩ := HXk.out W hX
                      simp only [Option.some.injEq, Addr.mk.injEq, and_true] at eq
                      obtain ⟨rfl, rfl⟩ := eq
                      exact opx_of (op_load38o rfl (Dp (hdp 14 71 (by decide) rfl (by kernel_rfl)) (fun h => h hC)) x0 x1 x2 x3) fun W' hb => ⟨fun _ => rfl, ⟨by simpa using hQ, hX.trans (hb.mono hX.size)⟩⟩
                    | 16 =>
                      intro o L V ho hsi hL hd a' W hX hfr hfs hdp; obtain rfl := Option.some.inj ho; obtain ⟨hQ, hX⟩ := hX
                      exact opx_of (op_move rfl (hfr 12 (by decide))) fun W' hb => ⟨fun _ => rfl, ⟨by simpa using hQ, hX.trans (hb.mono hX.size)⟩⟩
                    | 17 =>
                      intro o L V ho hsi hL hd a' W hX hfr hfs hdp; obtain rfl := Option.some.inj ho; obtain ⟨hQ, hX⟩ := hX
                      exact opx_of (op_move rfl (hfr 2 (by decide))) fun W' hb => ⟨fun _ => rfl, ⟨by simpa using hQ, hX.trans (hb.mono hX.size)⟩⟩
                    | 18 =>
                      intro o L V ho hsi hL hd a' W hX hfr hfs hdp; obtain rfl := Option.some.inj ho; obtain ⟨hQ, hX⟩ := hX
                      have hC : (B && makesP s (X k) ch (v : Int)) = true := by cases hq : (B && makesP s (X k) ch (v : Int)) with | true => rfl | false => rw [hq] at hsi; simp [sfSk] at hsi
                      refine opx_call3g rfl (Dp (hdp 15 72 (by decide) rfl (by kernel_rfl)) (fun h => h hC)) (Dp (hdp 16 73 (by decide) rfl (by kernel_rfl)) (fun h => h hC)) (Dp (hdp 17 74 (by decide) rfl (by kernel_rfl)) (fun h => h hC)) eg80c ((rload_any (X k) HGI.out (v : Int) (by omega) (by omega) ch W).mono ?_)
                      rintro e W' ⟨rfl, hb⟩
                      exact ⟨_, rfl, fun _ => rfl, ⟨by simpa using hQ, hX.trans (hb.mono hX.size)⟩⟩
                    | 19 =>
                      intro o L V ho hsi hL hd a' W hX hfr hfs hdp; obtain rfl := Option.some.inj ho; obtain ⟨hQ, hX⟩ := hX
                      exact opx_of (op_fa36z rfl (hfr 3 (by decide))) fun W' hb => ⟨fun _ => rfl, ⟨by simpa using hQ, hX.trans (hb.mono hX.size)⟩⟩
                    | 20 =>
                      intro o L V ho hsi hL hd a' W hX hfr hfs hdp; obtain rfl := Option.some.inj ho; obtain ⟨hQ, hX⟩ := hX
                      have hC : (B && makesP s (X k) ch (v : Int)) = true := by cases hq : (B && makesP s (X k) ch (v : Int)) with | true => rfl | false => rw [hq] at hsi; simp [sfSk] at hsi
                      exact opx_of (op_load3 rfl (Dp (hdp 19 76 (by decide) rfl (by kernel_rfl)) (fun h => h hC)) (by rw [cell_of_block ((hX.block _ (lt_of_block HK3.out)).trans HK3.out)]; rfl)) fun W' hb => ⟨fun _ => rfl, ⟨by simpa using hQ, hX.trans (hb.mono hX.size)⟩⟩
                    | 21 =>
                      intro o L V ho hsi hL hd a' W hX hfr hfs hdp; obtain rfl := Option.some.inj ho; obtain ⟨hQ, hX⟩ := hX
                      have hC : (B && makesP s (X k) ch (v : Int)) = true := by cases hq : (B && makesP s (X k) ch (v : Int)) with | true => rfl | false => rw [hq] at hsi; simp [sfSk] at hsi
                      refine opx_callu rfl (Dp (hdp 20 77 (by decide) rfl (by kernel_rfl)) (fun h => h hC)) eg89c ((rstrength_any s.cls W).mono ?_)
                      rintro e W' ⟨rfl, rfl⟩
                      exact ⟨_, rfl, fun _ => rfl, ⟨by simpa using hQ, hX⟩⟩
                    | 22 =>
                      intro o L V ho hsi hL hd a' W hX hfr hfs hdp; obtain rfl := Option.some.inj ho; obtain ⟨hQ, hX⟩ := hX
                      have hC : (B && makesP s (X k) ch (v : Int)) = true := by cases hq : (B && makesP s (X k) ch (v : Int)) with | true => rfl | false => rw [hq] at hsi; simp [sfSk] at hsi
                      exact opx_of (op_leqt3 rfl (Dp (hdp 18 75 (by decide) rfl (by kernel_rfl)) (fun h => h hC)) (Dp (hdp 21 78 (by decide) rfl (by kernel_rfl)) (fun h => h hC))) fun W' hb => ⟨fun _ => rfl, ⟨by simpa using hQ, hX.trans (hb.mono hX.size)⟩⟩
                    | 23 =>
                      intro o L V ho hsi hL hd a' W hX hfr hfs hdp; obtain rfl := Option.some.inj ho; obtain ⟨hQ, hX⟩ := hX
                      exact opx_of (op_pickand rfl (Dp (hdp 11 68 (by decide) rfl (by kernel_rfl)) id) (fun hC => (Dp (hdp 22 79 (by decide) rfl (by kernel_rfl)) (fun h => h hC)))) fun W' hb => ⟨rfl, ⟨by simpa using hQ, hX.trans (hb.mono hX.size)⟩⟩
                    | 24 =>
                      intro o L V ho hsi hL hd a' W hX hfr hfs hdp; obtain rfl := Option.some.inj ho; obtain ⟨hQ, hX⟩ := hX
                      exact opx_of (op_assign rfl (Dp (hdp 23 80 (by decide) rfl (by kernel_rfl)) id)) fun W' hb => ⟨rfl, ⟨fun _ => by simpa using hd 0 (by kernel_rfl), hX.trans (hb.mono hX.size)⟩⟩
                    | j + 25 => intro o L V ho; simp at ho
                  case fin =>
                    intro W1 L V hL hF2 hI
                    have e24 : V 24 = .bool ((B && makesP s (X k) ch (v : Int)) && !beyP s (X k) ch (v : Int)) := hF2 24 (by decide)
                    have hb := hI.2
                    clear hF2 hL hI HXk
                    replace HB2 := Lib.hid (HB2.out.trans (hb.mono HB2.out.size))
                    clear hb HK3 HX HS
                    simp only [fill, Act.put, List.setIfInBounds_toArray, List.set_cons_zero, List.set_cons_succ, Nat.reduceAdd]
                    rw [e24]
                    generalize V 0 = v0, V 1 = v1, V 2 = v2, V 3 = v3, V 4 = v4, V 5 = v5, V 6 = v6, V 7 = v7, V 8 = v8, V 9 = v9, V 10 = v10, V 11 = v11, V 12 = v12, V 13 = v13, V 14 = v14, V 15 = v15, V 16 = v16, V 17 = v17, V 18 = v18, V 19 = v19, V 20 = v20, V 21 = v21, V 22 = v22, V 23 = v23 at *
                    clear e24 V
                    rw [show ((B && makesP s (X k) ch (v : Int)) && !beyP s (X k) ch (v : Int)) = (B && safeB s (X k) ch v) from by simp [safeB, Bool.and_assoc]]
                    have HIK := Lib.hid (fun e : safeB s hi ch v = true => safeB_le g.out HGI.out gc.out.gh (HIN.out k hlt).h (Nat.le_refl v) (fun h : ch = true => h) e)
                    have HSX := Lib.hid (show k = 15 → safeB s (X k) ch v = safeB s hi ch v from fun e => by rw [e, HX15.out])
                    generalize safeB s (X k) ch v = SX at *
                    go_wp2_with fail
                    have x1 := HIK.out
                    have x2 := HSX.out
                    obtain ⟨y1, y2⟩ := HG.out
                    refine ⟨⟨k + 1, B && SX, by go_num, rfl, by omega, Lib.hid ⟨fun e => by rw [y1 e, x1 e]; rfl, fun h e => by
                      have hs : SX = true := (Bool.and_eq_true_iff.1 e).2
                      rw [← x2 (by omega)]; exact hs⟩, HB2⟩, by simp only [intOf]; omega⟩
                · obtain rfl : k = 16 := by omega
                  have HBe := Lib.hid (show B = safeB s hi ch v from by
                    obtain ⟨y1, y2⟩ := HG.out
                    cases hb : B with
                    | true => exact (y2 (by omega) hb).symm
                    | false => cases hs : safeB s hi ch v with
                      | true => rw [y1 hs] at hb; cases hb
                      | false => rfl)
                  clear HG hlt hk
                  have HST := Lib.hid (show scanN (safeB s hi ch) (v + 1) = if safeB s hi ch v = true then v else scanN (safeB s hi ch) v from rfl)
                  rw [HBe.out]
                  clear HBe
                  generalize safeB s hi ch v = SB at *
                  cases SB with
                  | true =>
                    go_wp2_with fail
                    refine ⟨⟨v + 1, v, by go_num, rfl, by omega, Lib.hid (by rw [HST.out]; rfl), HB2⟩, by simp only [intOf]; omega⟩
                  | false =>
                    go_wp2_with fail
                    refine ⟨⟨v + 1, best, by go_num, rfl, by omega, Lib.hid (by rw [HST.out, HF.out]; rfl), HB2⟩, by simp only [intOf]; omega⟩
            · obtain rfl : v = 251 := by omega
              go_wp2_with fail
              refine bodyPost_ret (v := .tuple #[.int .i64 (best : Nat), .int .i64 0]) (by simp [results, Tryz.results91, go_sem]) rfl ⟨by rw [HOK.out.1, HOK.out.2.1, HF.out, HSN.out], ?_⟩
              exact HB.out.trans (HB2.out.mono HB.out.size)
end Go.Proofs.YtcoiklolgilhaaaGreatDoor
namespace Go.Proofs.YtcoiklolgilhaaaGreatDoor
open Go.RowKit
set_option maxRecDepth 100000
set_option maxHeartbeats 16000000 in
theorem rSafe_any (s : Sh) (m : Mem3) (lo hi : Ic) (ch : Bool) (w : World) (h : ShipIn w s m) :
    Calls Tryz.prog 30 #[.agg (shipA s m), .agg (cellV lo hi), .bool ch] w fun e w' => e = .returned (SafeRes s lo hi ch) ∧ Below w.heap.size w w' := by
  obtain ⟨t0, t1, tz, tb⟩ := two_allocs w (.cells (shipA s m) 36) (.cells (cellV lo hi) 39)
  have HB := Lib.hid tb
  have HK3 := Lib.hid t0
  have HK4 := Lib.hid t1
  have HS := Lib.hid (h.later tb)
  clear t0 t1 tb h
  obtain ⟨c0, c1, c2, c3, c4, c5, c6, c7, c8, c9, c10⟩ := cells11 HK3.out
  obtain ⟨⟨d0, d1, d2, d3, d4, d5, d6, d7⟩, _⟩ := cells8 HK4.out
  go_enter Tryz.func30, Tryz.ntmps30
  go_wp2_with fail
  generalize (w.alloc (.cells (shipA s m) 36)).alloc (.cells (cellV lo hi) 39) = X0 at *
  refine (rmet_any s m lo hi X0 HS.out).mono ?_
  rintro e V1 ⟨rfl, hb⟩
  clear c0 c1 c2 c3 c4 c5 c6 c7 c8 c9 c10 d0 d1 d2 d3 d4 d5 d6 d7
  replace HK3 := Lib.hid ((hb.block _ (lt_of_block HK3.out)).trans HK3.out)
  replace HK4 := Lib.hid ((hb.block _ (lt_of_block HK4.out)).trans HK4.out)
  replace HS := Lib.hid (HS.out.later hb)
  replace HB := Lib.hid (HB.out.trans (hb.mono HB.out.size))
  clear hb
  by_cases hE : orL [chkP s, cellE lo hi] = 0
  · have HR := Lib.hid (show SafeRes s lo hi ch = _ from by unfold SafeRes; exact if_pos hE)
    obtain ⟨o1, o2⟩ := orL1 hE
    have g := Lib.hid (good_of o1)
    have gc := Lib.hid (cellE_ok (orL1 o2).1)
    rw [hE]
    clear hE o1 o2
    obtain ⟨c0, c1, c2, c3, c4, c5, c6, c7, c8, c9, c10⟩ := cells11 HK3.out
    obtain ⟨⟨d0, d1, d2, d3, d4, d5, d6, d7⟩, _⟩ := cells8 HK4.out
    go_wp2_with fail
    refine (rsafe_any s m lo hi ch g.out gc.out V1 HS.out).mono ?_
    rintro e V2 ⟨rfl, hb⟩
    clear c0 c1 c2 c3 c4 c5 c6 c7 c8 c9 c10 d0 d1 d2 d3 d4 d5 d6 d7 HK3 HK4 HS
    replace HB := Lib.hid (HB.out.trans (hb.mono HB.out.size))
    clear hb
    go_wp2_with fail
    refine bodyPost_ret (v := .tuple #[.int .i64 (ssLo s lo hi ch), .int .i64 (ssE s lo hi ch)]) (by simp [results, Tryz.results30, go_sem]) rfl ⟨by rw [HR.out], HB.out⟩
  · have HR := Lib.hid (show SafeRes s lo hi ch = _ from by unfold SafeRes; exact if_neg hE)
    generalize orL [chkP s, cellE lo hi] = E at *
    have hc' : (E != 0) = true := by simpa using hE
    go_wp2_with fail
    refine bodyPost_ret (v := .tuple #[.int .i64 0, .int .i64 E]) (by simp [results, Tryz.results30, go_sem]) rfl ⟨by rw [HR.out], HB.out⟩
end Go.Proofs.YtcoiklolgilhaaaGreatDoor
namespace Go.Proofs.YtcoiklolgilhaaaGreatDoor
open Go.RowKit
set_option maxRecDepth 100000
theorem thr_top {s : Sh} (g : Good s) {v : Int} (hv : 0 ≤ v) : thrP s v ≤ 20000 := by
  obtain ⟨e, p, q, r, _⟩ := rf_eq g.th hv
  have b := (valP_at g.th hv).bd g.th
  unfold thrP
  have hp := b.2.2.1
  unfold FEq at e
  have h1 : (rfP s.th v).1 * (valP s.th v).2 ≤ 20000 * (rfP s.th v).2 * (valP s.th v).2 := Int.mul_le_mul_of_nonneg_right r (by omega)
  have h2 : (valP s.th v).1 * (rfP s.th v).2 ≤ (20000 * (valP s.th v).2) * (rfP s.th v).2 := by
    rw [← e]
    refine Int.le_trans h1 (Int.le_of_eq ?_)
    grind
  have h3 : (valP s.th v).1 ≤ 20000 * (valP s.th v).2 := Int.le_of_mul_le_mul_right h2 p
  refine Int.le_of_lt_add_one (Int.ediv_lt_of_lt_mul hp ?_)
  have : (20000 + 1) * (valP s.th v).2 = 20000 * (valP s.th v).2 + (valP s.th v).2 := by grind
  omega
theorem fplus_nn {a b : Int × Int} (h1 : 0 ≤ a.1) (h2 : 0 ≤ b.1) (h3 : 0 < a.2) (h4 : 0 < b.2) : 0 ≤ (fplus a b).1 :=
  Int.add_nonneg (Int.mul_nonneg h1 (by omega)) (Int.mul_nonneg h2 (by omega))
theorem res_nn {s : Sh} (g : Good s) {i : Ic} (gi : GoodI i) {v : Int} (hv : 0 ≤ v) (ch : Bool) : 0 ≤ resP s i v ch := by
  have b1 := (valP_at g.wa hv).bd g.wa
  have b2 := (valP_at g.ic gi.thick.1).bd g.ic
  have d := (fr_le g gi gi ⟨Int.le_refl _, Int.le_refl _, Int.le_refl _, Int.le_refl _⟩ hv (Int.le_refl v) (fun h : ch = true => h)).1
  have n : 0 ≤ (frP s i v ch).1 := by
    obtain ⟨p1, p2⟩ := g.slow
    have hs := Int.mul_nonneg p1 hv
    have hbr : 0 ≤ brP s ch := by unfold brP; have := g.brash; split <;> omega
    have hri : 0 ≤ riP i ch := by unfold riP; have := gi.ridge; split <;> omega
    have h1 := Int.mul_nonneg hbr (show 0 ≤ 1000 + s.slow * v by omega)
    have h2 := Int.mul_nonneg g.ridge.1 hri
    have h3 := Int.mul_nonneg g.press.1 gi.press.1
    have c := gi.conc.1
    have a1 := b1.1
    have a2 := b2.1
    have q := b2.2.2.1
    have k1 : 0 ≤ (covF (valP s.ic i.thick) (brP s ch * (1000 + s.slow * v)) (s.ridge * riP i ch) i.conc).1 := by
      unfold covF
      exact Int.mul_nonneg (fplus_nn (Int.mul_nonneg a2 h1) h2 (by simp only; omega) (by simp only; omega)) c
    have k2 : 0 < (covF (valP s.ic i.thick) (brP s ch * (1000 + s.slow * v)) (s.ridge * riP i ch) i.conc).2 := covF_pos q
    unfold frP allF
    refine fplus_nn (fplus_nn a1 k1 b1.2.2.1 k2) h3 ?_ (by simp only; omega)
    simp only [fplus]
    exact Int.mul_pos b1.2.2.1 k2
  unfold resP cdiv
  exact Int.ediv_nonneg (by omega) (by omega)
def burnP (s : Sh) (i : Ic) (v : Int) (ch : Bool) : Int := s.pow / 10 + cdiv (resP s i v ch * v) 50
def BurnRes (s : Sh) (i : Ic) (v : Int) (ch : Bool) : Value := if orL [chkP s, iceE i, errS v] = 0 then (if makesP s i ch v = true then .tuple #[.int .i64 (burnP s i v ch), .int .i64 0] else .tuple #[.int .i64 0, .int .i64 4]) else .tuple #[.int .i64 0, .int .i64 (orL [chkP s, iceE i, errS v])]
theorem res_burn {s : Sh} (g : Good s) {i : Ic} (gi : GoodI i) {v : Int} (hv : 0 ≤ v) (hv' : v ≤ 250) {ch : Bool} (hm : makesP s i ch v = true) : 0 ≤ resP s i v ch * v ∧ resP s i v ch * v ≤ 5000000 ∧ 0 ≤ cdiv (resP s i v ch * v) 50 ∧ cdiv (resP s i v ch * v) 50 ≤ 5000000 := by
  simp only [makesP, Bool.and_eq_true, decide_eq_true_eq] at hm
  have h1 := res_nn g gi hv ch
  have h2 := thr_top g hv
  have h3 := Int.mul_nonneg h1 hv
  have h4 : resP s i v ch * v ≤ 20000 * 250 := Int.mul_le_mul (by omega) hv' hv (by decide)
  refine ⟨h3, by omega, ?_, ?_⟩ <;> (unfold cdiv; omega)
section
variable {Q : Exit → Act → World → Prop} {o : Oper} {a' : Act} {W : World}
theorem op_quoc {s : Nat} {x : Int} (hop : o.op = Op.binOp .quo 3 (.tmp s) (.const (.int .i64 10)) 3) (he : a'.eval (.tmp s) = .int .i64 x) (hx : 100 ≤ x) (hx' : x ≤ 100000) :
    o.wp Tryz.prog a' W (fun a'' W' => a'' = a'.put o.dst (.int .i64 (x / 10)) ∧ Below W.heap.size W W') Q := by
  have hr := Below.refl W.heap.size W
  have he' : a'.tmps[s]?.getD undef = .int .i64 x := by simpa [Act.eval] using he
  have ht : x.tdiv 10 = x / 10 := Int.tdiv_eq_ediv_of_nonneg (by omega)
  have hw' := i64w (x / 10) (by omega)
  unfold Oper.wp execOp
  rw [hop]
  simp [go_sem, he', ht, hw', hr]
theorem op_load127 {s b : Nat} {t : TypeId} {x0 x1 x2 x3 x4 x5 x6 x7 x8 x9 x10 x11 x12 x13 x14 x15 : Value} (hop : o.op = Op.load 127 (.tmp s)) (he : a'.eval (.tmp s) = .pointer (some ⟨b, 0, none⟩)) (hb : W.heap[b]? = some (.cells #[x0, x1, x2, x3, x4, x5, x6, x7, x8, x9, x10, x11, x12, x13, x14, x15] t (0, 0))) :
    o.wp Tryz.prog a' W (fun a'' W' => a'' = a'.put o.dst (.agg #[x0, x1, x2, x3, x4, x5, x6, x7, x8, x9, x10, x11, x12, x13, x14, x15]) ∧ Below W.heap.size W W') Q := by
  obtain ⟨c0, c1, c2, c3, c4, c5, c6, c7, c8, c9, c10, c11, c12, c13, c14, c15⟩ := cells16 hb
  have hr := Below.refl W.heap.size W
  have he' : a'.tmps[s]?.getD undef = .pointer (some ⟨b, 0, none⟩) := by simpa [Act.eval] using he
  unfold Oper.wp execOp
  rw [hop]
  simp [go_sem, he', c0, c1, c2, c3, c4, c5, c6, c7, c8, c9, c10, c11, c12, c13, c14, c15, hr]
theorem opx_call2k {f s : Nat} {v : Value} {c : Int} {ts : Array TypeId} {Rq : Value → World → Prop} (hop : o.op = Op.call { callee := .value (.func f), args := #[.tmp s, .const (.int .i64 c)], argTypes := ts })
    (he : a'.eval (.tmp s) = v) (eg : ∀ args w, (callFunc f args).run Tryz.prog w = .ok (.enter f args) w) (hc : Calls Tryz.prog f #[v, .int .i64 c] W fun e W' => ∃ r, e = .returned r ∧ Rq r W') :
    o.wp Tryz.prog a' W (fun a'' W' => ∃ x, a'' = a'.put o.dst x ∧ Rq x W') Q := by
  have he' : a'.tmps[s]?.getD undef = v := by simpa [Act.eval] using he
  unfold Oper.wp execOp
  rw [hop]
  simp [go_sem, he', eg]
  refine hc.mono ?_
  rintro e w' ⟨r, rfl, hb⟩
  exact ⟨r, rfl, hb⟩
end
theorem eg70c : ∀ args w, (callFunc 70 args).run Tryz.prog w = .ok (.enter 70 args) w := Go.Proofs.enters_of Tryz.func70 (by kernel_rfl) rfl
theorem eg81c : ∀ args w, (callFunc 81 args).run Tryz.prog w = .ok (.enter 81 args) w := Go.Proofs.enters_of Tryz.func81 (by kernel_rfl) rfl
def buF (s : Sh) (m : Mem3) (i : Ic) (v : Int) (ch : Bool) (b : Nat) : Nat → Value → Prop
  | 0, u => u = .pointer (some ⟨b, 0, none⟩)
  | 1, u => u = .pointer (some ⟨b, 1, none⟩)
  | 2, u => u = .int .i64 s.pow
  | 3, u => u = .int .i64 (s.pow / 10)
  | 4, u => u = .agg (sailA s m i ch)
  | 5, u => u = .int .i64 v
  | 6, u => u = .int .i64 (resP s i v ch)
  | 7, u => u = .int .i64 v
  | 8, u => u = .int .i64 (resP s i v ch * v)
  | 9, u => u = .int .i64 (cdiv (resP s i v ch * v) 50)
  | 10, u => u = .int .i64 (burnP s i v ch)
  | 11, u => u = .int .i64 (burnP s i v ch)
  | 12, u => u = .int .i64 0
  | _, _ => True
set_option maxHeartbeats 16000000 in
theorem Burn_any (s : Sh) (ms : Mem3) (x : Ic) (v : Int) (ch : Bool) (w : World) (hs : ShipIn w s ms) (hl : Lim w) :
    Calls Tryz.prog 21 #[.agg (shipA s ms), .agg (iceV x), .int .i64 v, .bool ch] w fun e w' => e = .returned (BurnRes s x v ch) ∧ Below w.heap.size w w' := by
  have HLM := Lib.hid hl
  have hpos := hl.pos
  have HSs := Lib.hid hs
  clear hs
  clear hl
  have hall := two_allocs w (.cells (shipA s ms) 24) (.cells (iceV x) 26)
  go_enter Tryz.func21, Tryz.ntmps21
  go_wp2_with fail
  generalize ((w.alloc (.cells (shipA s ms) 24)).alloc (.cells (iceV x) 26)) = V at *
  obtain ⟨t0, t1, hz, hbl⟩ := hall
  have HB0 := Lib.hid hbl
  have HK0 := Lib.hid t0
  have HK1 := Lib.hid t1
  clear hbl t0 t1
  refine wp_region_multi 6 [12, 13, 14, 15, 16, 17] (fun _ => false) (fun i => ([(.agg (shipA s ms)), (.int .i64 (chkP s)), (.agg (iceV x)), (.int .i64 (iceE x)), (.int .i64 v), (.int .i64 (errS v))] : List Value).getD i undef) (fun _ => .cells #[] 0) (by kernel_rfl) (by kernel_rfl) (fun s hs => by simp at hs ⊢; omega) ?val ?al ?fin
  case val =>
    intro i
    match i with
    | 0 => intro o hlt hal ho a' W hb hfr hdp; obtain rfl := Option.some.inj ho; exact op_load11 rfl (hfr 4 (by decide)) ((hb.block _ (by omega)).trans HK0.out)
    | 1 => intro o hlt hal ho a' W hb hfr hdp; obtain rfl := Option.some.inj ho; exact op_call rfl (hdp 0 12 (by decide) rfl rfl (by kernel_rfl)) eg17 (Check_any s ms W (HSs.out.later (HB0.out.trans (hb.mono HB0.out.size))))
    | 2 => intro o hlt hal ho a' W hb hfr hdp; obtain rfl := Option.some.inj ho; exact op_load4b rfl (hfr 5 (by decide)) ((hb.block _ (by omega)).trans HK1.out)
    | 3 => intro o hlt hal ho a' W hb hfr hdp; obtain rfl := Option.some.inj ho; exact op_call rfl (hdp 2 14 (by decide) rfl rfl (by kernel_rfl)) eg58 (CheckIce_any (icF x) W (HLM.out.below hpos (HB0.out.trans (hb.mono HB0.out.size))))
    | 4 => intro o hlt hal ho a' W hb hfr hdp; obtain rfl := Option.some.inj ho; exact op_move rfl (hfr 2 (by decide))
    | 5 => intro o hlt hal ho a' W hb hfr hdp; obtain rfl := Option.some.inj ho; exact op_call rfl (hdp 4 16 (by decide) rfl rfl (by kernel_rfl)) eg54 (by refine (checkSpeed_any v W).mono ?_; rintro e w' ⟨rfl, rfl⟩; exact ⟨rfl, Below.refl _ _⟩)
    | j + 6 => intro o hlt; omega
  case al => intro i o hlt hal; cases hal
  case fin =>
    intro W B' hb hB' hne
    clear hB' hne
    simp only [List.drop_succ_cons, List.drop_zero, fill, uAll, Act.put, List.setIfInBounds_toArray, List.set_cons_zero, List.set_cons_succ, Nat.reduceAdd, if_false, Bool.false_eq_true, List.getD_cons_zero, List.getD_cons_succ]
    have HB1 := Lib.hid (HB0.out.trans (hb.mono HB0.out.size))
    have K0 := Lib.hid ((hb.block _ (by omega)).trans HK0.out)
    have K1 := Lib.hid ((hb.block _ (by omega)).trans HK1.out)
    have hz1 := hb.size
    clear hb
    go_wp2_with fail
    refine (or_any W.heap.size [chkP s, iceE x, errS v] _ (fun i hi => ?_) (by simp)).mono ?_
    · have hnew := block_new W (.cells #[.int .i64 (chkP s), .int .i64 (iceE x), .int .i64 (errS v)] 40)
      match i, hi with
      | 0, _ => exact (cell_of_block hnew 0).trans rfl
      | 1, _ => exact (cell_of_block hnew 1).trans rfl
      | 2, _ => exact (cell_of_block hnew 2).trans rfl
    rintro e W2 ⟨rfl, rfl⟩
    have hba := (Below.refl W.heap.size W).alloc (Nat.le_refl _) (.cells #[.int .i64 (chkP s), .int .i64 (iceE x), .int .i64 (errS v)] 40)
    have HB2 := Lib.hid (HB1.out.trans (hba.mono HB1.out.size))
    have L0 := Lib.hid ((hba.block _ (by omega)).trans K0.out)
    have L1 := Lib.hid ((hba.block _ (by omega)).trans K1.out)
    have hz2 : V.heap.size ≤ (W.alloc (.cells #[.int .i64 (chkP s), .int .i64 (iceE x), .int .i64 (errS v)] 40)).heap.size := Nat.le_trans hz1 hba.size
    clear hba
    generalize W.alloc (.cells #[.int .i64 (chkP s), .int .i64 (iceE x), .int .i64 (errS v)] 40) = X at *
    clear hz1 K0 HK0 K1 HK1 HB0 HB1
    by_cases hE : orL [chkP s, iceE x, errS v] = 0
    · obtain ⟨o1, o2⟩ := orL1 hE
      obtain ⟨o2, o3⟩ := orL1 o2
      obtain ⟨o3, _⟩ := orL1 o3
      have g := Lib.hid (good_of o1)
      have gi := Lib.hid (iceE_ok o2)
      have hv := Lib.hid (errS_ok o3)
      have HE := Lib.hid hE
      clear o1 o2 o3
      have HSX := Lib.hid (HSs.out.later HB2.out)
      obtain ⟨cs0, cs1, cs2, cs3, cs4, cs5, cs6, cs7, cs8, cs9, cs10⟩ := cells11 L0.out
      obtain ⟨⟨dx0, dx1, dx2, dx3⟩, _⟩ := cells4 L1.out
      rw [hE]
      clear hE
      go_wp2_with fail
      have hba := (Below.refl X.heap.size X).alloc (Nat.le_refl _) (.cells (sailA s ms x ch) 127)
      have HK := Lib.hid (block_new X (.cells (sailA s ms x ch) 127))
      have HW := Lib.hid (HB2.out.trans (hba.mono HB2.out.size))
      replace HSX := Lib.hid (HSX.out.later hba)
      clear hba
      change Calls Tryz.prog 73 #[.agg (sailA s ms x ch), .int .i64 v] (X.alloc (.cells (sailA s ms x ch) 127)) _
      generalize X.alloc (.cells (sailA s ms x ch) 127) = Y at *
      have hkk := X.heap.size
      generalize X.heap.size = bb at *
      clear L0 L1 HB2 cs0 cs1 cs2 cs3 cs4 cs5 cs6 cs7 cs8 cs9 cs10 dx0 dx1 dx2 dx3
      refine (makes_any s ms x ch g.out gi.out v hv.out.1 hv.out.2 Y HSX.out).mono ?_
      rintro e Y1 ⟨rfl, hb⟩
      replace HK := Lib.hid ((hb.block _ (lt_of_block HK.out)).trans HK.out)
      replace HSX := Lib.hid (HSX.out.later hb)
      replace HW := Lib.hid (HW.out.trans (hb.mono HW.out.size))
      clear hb
      by_cases hm : makesP s x ch v = true
      · have HR := Lib.hid (show BurnRes s x v ch = .tuple #[.int .i64 (burnP s x v ch), .int .i64 0] from by unfold BurnRes; rw [if_pos HE.out, if_pos hm])
        have hres := Lib.hid (res_burn g.out gi.out hv.out.1 hv.out.2 hm)
        rw [hm]
        clear hm
        go_wp2_with fail
        refine wp_region_fi [31, 32, 33, 34, 35, 36, 37, 38, 39, 40, 41, 8, 9] (buF s ms x v ch bb) (fun _ _ W => Below Y1.heap.size Y1 W) (by kernel_rfl) (by kernel_rfl) ?sz ?ts ?z ?val ?fin
        case sz => intro s hs h; simp at hs ⊢; omega
        case ts => simp
        case z => exact below_drawn Y1
        case val =>
          intro jj
          match jj with
          | 0 => intro o L V ho hL hd a' W hX hfr hdp; obtain rfl := Option.some.inj ho; exact opx_of (op_fa rfl (hfr 11 (by decide)) (.inl ⟨rfl, rfl, rfl⟩)) fun W' hb => ⟨rfl, hX.trans (hb.mono hX.size)⟩
          | 1 => intro o L V ho hL hd a' W hX hfr hdp; obtain rfl := Option.some.inj ho; exact opx_of (op_fa24k rfl (Dp (hdp 0 31 (by decide) rfl (by kernel_rfl)) id) (by decide)) fun W' hb => ⟨rfl, hX.trans (hb.mono hX.size)⟩
          | 2 => intro o L V ho hL hd a' W hX hfr hdp; obtain rfl := Option.some.inj ho; exact opx_of (op_load3 rfl (Dp (hdp 1 32 (by decide) rfl (by kernel_rfl)) id) (by rw [cell_of_block ((hX.block _ (lt_of_block HK.out)).trans HK.out)]; rfl)) fun W' hb => ⟨rfl, hX.trans (hb.mono hX.size)⟩
          | 3 => intro o L V ho hL hd a' W hX hfr hdp; obtain rfl := Option.some.inj ho; exact opx_of (op_quoc rfl (Dp (hdp 2 33 (by decide) rfl (by kernel_rfl)) id) g.out.pow.1 g.out.pow.2) fun W' hb => ⟨rfl, hX.trans (hb.mono hX.size)⟩
          | 4 => intro o L V ho hL hd a' W hX hfr hdp; obtain rfl := Option.some.inj ho; exact opx_of (op_load127 rfl (hfr 11 (by decide)) ((hX.block _ (lt_of_block HK.out)).trans HK.out)) fun W' hb => ⟨rfl, hX.trans (hb.mono hX.size)⟩
          | 5 => intro o L V ho hL hd a' W hX hfr hdp; obtain rfl := Option.some.inj ho; exact opx_of (op_move rfl (hfr 2 (by decide))) fun W' hb => ⟨rfl, hX.trans (hb.mono hX.size)⟩
          | 6 =>
            intro o L V ho hL hd a' W hX hfr hdp; obtain rfl := Option.some.inj ho
            refine opx_call2g rfl (Dp (hdp 4 35 (by decide) rfl (by kernel_rfl)) id) (Dp (hdp 5 36 (by decide) rfl (by kernel_rfl)) id) eg70c ((resistance_any s ms x ch g.out gi.out v hv.out.1 hv.out.2 W (HSX.out.later hX)).mono ?_)
            rintro e W' ⟨rfl, hb⟩
            exact ⟨_, rfl, rfl, hX.trans (hb.mono hX.size)⟩
          | 7 => intro o L V ho hL hd a' W hX hfr hdp; obtain rfl := Option.some.inj ho; exact opx_of (op_move rfl (hfr 2 (by decide))) fun W' hb => ⟨rfl, hX.trans (hb.mono hX.size)⟩
          | 8 => intro o L V ho hL hd a' W hX hfr hdp; obtain rfl := Option.some.inj ho; exact opx_of (op_mult rfl (Dp (hdp 6 37 (by decide) rfl (by kernel_rfl)) id) (Dp (hdp 7 38 (by decide) rfl (by kernel_rfl)) id) (by have := hres.out; omega)) fun W' hb => ⟨rfl, hX.trans (hb.mono hX.size)⟩
          | 9 =>
            intro o L V ho hL hd a' W hX hfr hdp; obtain rfl := Option.some.inj ho
            refine opx_call2k rfl (Dp (hdp 8 39 (by decide) rfl (by kernel_rfl)) id) eg81c ((roundedUp_any (resP s x v ch * v) 50 hres.out.1 (by have := hres.out; omega) (by decide) (by decide) W).mono ?_)
            rintro e W' ⟨rfl, rfl⟩
            exact ⟨_, rfl, rfl, hX⟩
          | 10 => intro o L V ho hL hd a' W hX hfr hdp; obtain rfl := Option.some.inj ho; exact opx_of (op_addt rfl (Dp (hdp 3 34 (by decide) rfl (by kernel_rfl)) id) (Dp (hdp 9 40 (by decide) rfl (by kernel_rfl)) id) (by have := hres.out; have := g.out.pow; omega)) fun W' hb => ⟨rfl, hX.trans (hb.mono hX.size)⟩
          | 11 => intro o L V ho hL hd a' W hX hfr hdp; obtain rfl := Option.some.inj ho; exact opx_of (op_assign rfl (Dp (hdp 10 41 (by decide) rfl (by kernel_rfl)) id)) fun W' hb => ⟨rfl, hX.trans (hb.mono hX.size)⟩
          | 12 => intro o L V ho hL hd a' W hX hfr hdp; obtain rfl := Option.some.inj ho; exact opx_of (op_assignc rfl) fun W' hb => ⟨rfl, hX.trans (hb.mono hX.size)⟩
          | j + 13 => intro o L V ho; simp at ho
        case fin =>
          intro W1 L V hL hF hI
          have e11 : V 11 = .int .i64 (burnP s x v ch) := hF 11 (by decide)
          have e12 : V 12 = .int .i64 0 := hF 12 (by decide)
          replace HW := Lib.hid (HW.out.trans (hI.mono HW.out.size))
          clear hF hL hI HK HSX
          simp only [fill, Act.put, List.setIfInBounds_toArray, List.set_cons_zero, List.set_cons_succ, Nat.reduceAdd]
          rw [e11, e12]
          generalize V 0 = v0, V 1 = v1, V 2 = v2, V 3 = v3, V 4 = v4, V 5 = v5, V 6 = v6, V 7 = v7, V 8 = v8, V 9 = v9, V 10 = v10 at *
          clear e11 e12 V
          generalize burnP s x v ch = R at *
          go_wp2_with fail
          refine bodyPost_ret (v := .tuple #[.int .i64 R, .int .i64 0]) (by simp [results, Tryz.results21, go_sem]) rfl ⟨by rw [HR.out], HW.out⟩
      · have hm' : makesP s x ch v = false := by simpa using hm
        have HR := Lib.hid (show BurnRes s x v ch = .tuple #[.int .i64 0, .int .i64 4] from by unfold BurnRes; rw [if_pos HE.out, if_neg hm])
        rw [hm']
        clear hm hm'
        go_wp2_with fail
        refine bodyPost_ret (v := .tuple #[.int .i64 0, .int .i64 4]) (by simp [results, Tryz.results21, go_sem]) rfl ⟨by rw [HR.out], HW.out⟩
    · have HR := Lib.hid (show BurnRes s x v ch = .tuple #[.int .i64 0, .int .i64 (orL [chkP s, iceE x, errS v])] by unfold BurnRes; rw [if_neg hE])
      generalize orL [chkP s, iceE x, errS v] = E at *
      go_wp2_with fail
      refine bodyPost_ret (v := .tuple #[.int .i64 0, .int .i64 (E)]) (by simp [results, Tryz.results21, go_sem]) rfl ⟨by rw [HR.out], HB2.out⟩
end Go.Proofs.YtcoiklolgilhaaaGreatDoor
namespace Go.Proofs.YtcoiklolgilhaaaGreatDoor
open Go.RowKit
set_option maxRecDepth 100000
set_option maxHeartbeats 16000000 in
theorem rBurn_any (s : Sh) (m : Mem3) (i : Ic) (v : Int) (ch : Bool) (w : World) (h : ShipIn w s m) :
    Calls Tryz.prog 22 #[.agg (shipA s m), .agg (iceV i), .int .i64 v, .bool ch] w fun e w' => e = .returned (BurnRes s i v ch) ∧ Below w.heap.size w w' := by
  obtain ⟨t0, t1, hz, hbl⟩ := two_allocs w (.cells (shipA s m) 36) (.cells (iceV i) 38)
  have HB := Lib.hid hbl
  have HK4 := Lib.hid t0
  have HK5 := Lib.hid t1
  have HS := Lib.hid (h.later hbl)
  clear t0 t1 hbl h
  obtain ⟨c0, c1, c2, c3, c4, c5, c6, c7, c8, c9, c10⟩ := cells11 HK4.out
  obtain ⟨⟨d0, d1, d2, d3⟩, _⟩ := cells4 HK5.out
  by_cases hE : orL [chkP s, iceE i, errS v] = 0
  · have hE3 : orL [chkP s, iceE i, errS v] = 0 := hE
    have HEE := Lib.hid hE
    obtain ⟨o1, o2⟩ := orL1 hE3
    obtain ⟨o2, o3⟩ := orL1 o2
    have o3' := (orL1 o3).1
    have g := good_of o1
    have gi := iceE_ok o2
    have hv : 0 ≤ (v : Int) ∧ (v : Int) ≤ 250 := by
      unfold errS at o3'
      by_cases h : 0 ≤ (v : Int) ∧ (v : Int) ≤ 250
      · exact h
      · rw [if_neg h] at o3'; cases o3'
    have HMU := Lib.hid (fun hm : makesP s i ch v = true => res_burn g gi hv.1 hv.2 hm)
    have HPW := Lib.hid g.pow
    have HRS := Lib.hid (fun (W : World) (hW : ShipIn W s m) => rresistance_any s m i ch g gi v hv.1 hv.2 W hW)
    have HC := Lib.hid (fun (W : World) (hW : ShipIn W s m) => rmakes_any s m i ch g gi v hv.1 hv.2 W hW)
    have HA := Lib.hid (by have := rasked_any s m i v _ HS.out; rw [hE3] at this; exact this)
    clear hE hE3 o1 o2 o3 o3' g gi hv
    go_enter Tryz.func22, Tryz.ntmps22
    go_wp2_with fail
    refine HA.out.mono ?_
    rintro e V1 ⟨rfl, hb⟩
    clear c0 c1 c2 c3 c4 c5 c6 c7 c8 c9 c10 d0 d1 d2 d3 HA
    replace HK4 := Lib.hid ((hb.block _ (lt_of_block HK4.out)).trans HK4.out)
    replace HK5 := Lib.hid ((hb.block _ (lt_of_block HK5.out)).trans HK5.out)
    replace HS := Lib.hid (HS.out.later hb)
    replace HB := Lib.hid (HB.out.trans (hb.mono HB.out.size))
    clear hb
    obtain ⟨c0, c1, c2, c3, c4, c5, c6, c7, c8, c9, c10⟩ := cells11 HK4.out
    obtain ⟨⟨d0, d1, d2, d3⟩, _⟩ := cells4 HK5.out
    go_wp2_with fail
    refine (HC.out _ HS.out).mono ?_
    rintro e V2 ⟨rfl, hb⟩
    clear c0 c1 c2 c3 c4 c5 c6 c7 c8 c9 c10 d0 d1 d2 d3
    replace HK4 := Lib.hid ((hb.block _ (lt_of_block HK4.out)).trans HK4.out)
    replace HK5 := Lib.hid ((hb.block _ (lt_of_block HK5.out)).trans HK5.out)
    replace HS := Lib.hid (HS.out.later hb)
    replace HB := Lib.hid (HB.out.trans (hb.mono HB.out.size))
    clear hb HC
    by_cases hm : makesP s i ch v = true
    · have HR := Lib.hid (show BurnRes s i v ch = .tuple #[.int .i64 (burnP s i v ch), .int .i64 0] from by unfold BurnRes; rw [if_pos HEE.out, if_pos hm])
      have HM := Lib.hid (HMU.out hm)
      rw [hm]
      clear hm HMU
      obtain ⟨c0, c1, c2, c3, c4, c5, c6, c7, c8, c9, c10⟩ := cells11 HK4.out
      obtain ⟨⟨d0, d1, d2, d3⟩, _⟩ := cells4 HK5.out
      go_wp2_with fail
      refine (HRS.out _ HS.out).mono ?_
      rintro e V3 ⟨rfl, hb⟩
      clear c0 c1 c2 c3 c4 c5 c6 c7 c8 c9 c10 d0 d1 d2 d3
      replace HK4 := Lib.hid ((hb.block _ (lt_of_block HK4.out)).trans HK4.out)
      replace HB := Lib.hid (HB.out.trans (hb.mono HB.out.size))
      clear hb HRS HS HK5
      obtain ⟨c0, c1, c2, c3, c4, c5, c6, c7, c8, c9, c10⟩ := cells11 HK4.out
      have HBU := Lib.hid (show burnP s i v ch = s.pow / 10 + cdiv (resP s i v ch * v) 50 from rfl)
      obtain ⟨m1, m2, m3, m4⟩ := HM.out
      obtain ⟨p1, p2⟩ := HPW.out
      generalize resP s i v ch = R at *
      have hZ : ∃ Z, R * v = Z := ⟨_, rfl⟩
      obtain ⟨Z, hZ⟩ := hZ
      rw [hZ] at m1 m2 HBU
      have ht1 : s.pow.tdiv 10 = s.pow / 10 := Int.tdiv_eq_ediv_of_nonneg (by omega)
      have ht2 : Z.tdiv 50 = Z / 50 := Int.tdiv_eq_ediv_of_nonneg m1
      have ht3 : Z.tmod 50 = Z % 50 := Int.tmod_eq_emod_of_nonneg m1
      by_cases hr : 0 < Z % 50
      · have hc : cdiv Z 50 = Z / 50 + 1 := by unfold cdiv; omega
        go_wp2_with fail
        go_ret2
        exact ⟨by rw [HR.out, HBU.out, hc, Int.add_assoc]; rfl, HB.out⟩
      · have hc : cdiv Z 50 = Z / 50 := by unfold cdiv; omega
        go_wp2_with fail
        go_ret2
        exact ⟨by rw [HR.out, HBU.out, hc]; rfl, HB.out⟩
    · have hm' : makesP s i ch v = false := by simpa using hm
      have HR := Lib.hid (show BurnRes s i v ch = .tuple #[.int .i64 0, .int .i64 4] from by unfold BurnRes; rw [if_pos HEE.out, if_neg hm])
      rw [hm']
      clear hm hm' HMU
      go_wp2_with fail
      go_ret2
      exact ⟨by rw [HR.out]; rfl, HB.out⟩
  · have HR := Lib.hid (show BurnRes s i v ch = _ from by unfold BurnRes; exact if_neg hE)
    have HA := Lib.hid (rasked_any s m i v _ HS.out)
    have hx : orL [chkP s, iceE i, errS v] = orL [chkP s, iceE i, errS v] := rfl
    rw [hx] at HA
    clear hx
    generalize orL [chkP s, iceE i, errS v] = E at *
    have hc' : (E != 0) = true := by simpa using hE
    go_enter Tryz.func22, Tryz.ntmps22
    go_wp2_with fail
    refine HA.out.mono ?_
    rintro e V1 ⟨rfl, hb⟩
    replace HB := Lib.hid (HB.out.trans (hb.mono HB.out.size))
    clear hb c0 c1 c2 c3 c4 c5 c6 c7 c8 c9 c10 d0 d1 d2 d3 HA
    go_wp2_with fail
    go_ret2
    exact ⟨by rw [HR.out]; rfl, HB.out⟩
end Go.Proofs.YtcoiklolgilhaaaGreatDoor
namespace Go.Proofs.YtcoiklolgilhaaaGreatDoor
open Go.RowKit
set_option maxRecDepth 100000
def spSrc : Nat → Nat
  | 6 => 1
  | 7 => 3
  | 8 => 4
  | _ => 5
def spTy : Nat → TypeId
  | 6 => 24
  | 7 => 36
  | 8 => 38
  | _ => 39
def spSz : Nat → Nat
  | 8 => 4
  | 9 => 8
  | _ => 11
structure SpI (w : World) (s : Sh) (L : Nat → Bool) (V : Nat → Value) (W : World) : Prop where
  low : Below w.heap.size w W
  sh : ∀ i, i = 1 ∨ i = 3 → L i = true → ∃ m', V i = .agg (shipA s m') ∧ ShipIn W s m' ∧ ∀ j, 6 ≤ j → j ≤ 9 → L j = true → ∀ B, V j = .pointer (some ⟨B, 0, none⟩) → OffB s m' B
  bl : ∀ j, 6 ≤ j → j ≤ 9 → L j = true → ∃ B vs, V j = .pointer (some ⟨B, 0, none⟩) ∧ w.heap.size ≤ B ∧ W.heap[B]? = some (.cells vs (spTy j) (0, 0)) ∧ vs.size = spSz j ∧ (L (j + 4) = true → V (spSrc j) = .agg vs)
  ne : ∀ j k, 6 ≤ j → j ≤ 9 → 6 ≤ k → k ≤ 9 → j ≠ k → L j = true → L k = true → V j ≠ V k
  dn : ∀ j, 6 ≤ j → j ≤ 9 → L (j + 4) = true → L j = true ∧ L (spSrc j) = true
section
variable {w : World} {s : Sh} {L : Nat → Bool} {V : Nat → Value} {W W' : World}
theorem spSrc_lt (j : Nat) : spSrc j = 1 ∨ spSrc j = 3 ∨ spSrc j = 4 ∨ spSrc j = 5 := by
  unfold spSrc
  split <;> simp
theorem SpI.later (h : SpI w s L V W) (hb : Below W.heap.size W W') : SpI w s L V W' := by
  refine ⟨h.low.trans (hb.mono h.low.size), fun i hi e => ?_, fun j h1 h2 e => ?_, h.ne, h.dn⟩
  · obtain ⟨m', e1, e2, e3⟩ := h.sh i hi e
    exact ⟨m', e1, e2.later hb, e3⟩
  · obtain ⟨B, vs, e1, e2, e3, e4, e5⟩ := h.bl j h1 h2 e
    exact ⟨B, vs, e1, e2, (hb.block _ (lt_of_block e3)).trans e3, e4, e5⟩
/-- an operation that reads: 0, 2, or 4 and 5 before their stores -/
theorem SpI.set (h : SpI w s L V W) (i : Nat) (hi : i = 0 ∨ i = 2 ∨ i = 4 ∨ i = 5) (hn : L i = false) (x : Value) : SpI w s (fun j => if j = i then true else L j) (fun j => if j = i then x else V j) W := by
  have hs : ∀ j, 6 ≤ j → j ≤ 9 → L (j + 4) = true → spSrc j ≠ i := fun j h1 h2 e q => by
    have := (h.dn j h1 h2 e).2
    rw [q, hn] at this
    cases this
  refine ⟨h.low, fun k hk e => ?_, fun j h1 h2 e => ?_, fun j k h1 h2 h3 h4 h5 e f => ?_, fun j h1 h2 e => ?_⟩
  · have hki : k ≠ i := by omega
    simp only [if_neg hki] at e ⊢
    obtain ⟨m', e1, e2, e3⟩ := h.sh k hk e
    refine ⟨m', e1, e2, fun j h1 h2 e => ?_⟩
    have hji : j ≠ i := by omega
    simp only [if_neg hji] at e ⊢
    exact e3 j h1 h2 e
  · have hji : j ≠ i := by omega
    have hji4 : j + 4 ≠ i := by omega
    simp only [if_neg hji, if_neg hji4] at e ⊢
    obtain ⟨B, vs, e1, e2, e3, e4, e5⟩ := h.bl j h1 h2 e
    refine ⟨B, vs, e1, e2, e3, e4, fun e6 => ?_⟩
    rw [if_neg (hs j h1 h2 e6)]
    exact e5 e6
  · have hji : j ≠ i := by omega
    have hki : k ≠ i := by omega
    simp only [if_neg hji, if_neg hki] at e f ⊢
    exact h.ne j k h1 h2 h3 h4 h5 e f
  · have hji : j ≠ i := by omega
    have hji4 : j + 4 ≠ i := by omega
    simp only [if_neg hji4] at e
    simp only [if_neg hji, if_neg (hs j h1 h2 e)]
    exact h.dn j h1 h2 e
/-- a ship made: fresh, off what was laid before -/
theorem SpI.made (h : SpI w s L V W) (i : Nat) (hi : i = 1 ∨ i = 3) (hn : L i = false) {m' : Mem3} (hm : ShipIn W s m') (ho : ∀ j, 6 ≤ j → j ≤ 9 → L j = true → ∀ B, V j = .pointer (some ⟨B, 0, none⟩) → OffB s m' B) :
    SpI w s (fun j => if j = i then true else L j) (fun j => if j = i then .agg (shipA s m') else V j) W := by
  have hs : ∀ j, 6 ≤ j → j ≤ 9 → L (j + 4) = true → spSrc j ≠ i := fun j h1 h2 e q => by
    have := (h.dn j h1 h2 e).2
    rw [q, hn] at this
    cases this
  have hof : ∀ j, 6 ≤ j → j ≤ 9 → (if j = i then true else L j) = true → ∀ B, (if j = i then .agg (shipA s m') else V j) = .pointer (some ⟨B, 0, none⟩) → OffB s m' B := fun j h1 h2 e B q => by
    have hji : j ≠ i := by omega
    rw [if_neg hji] at e q
    exact ho j h1 h2 e B q
  refine ⟨h.low, fun k hk e => ?_, fun j h1 h2 e => ?_, fun j k h1 h2 h3 h4 h5 e f => ?_, fun j h1 h2 e => ?_⟩
  · by_cases hki : k = i
    · subst hki
      exact ⟨m', by simp, hm, hof⟩
    · simp only [if_neg hki] at e ⊢
      obtain ⟨m2, e1, e2, e3⟩ := h.sh k hk e
      refine ⟨m2, e1, e2, fun j h1 h2 e => ?_⟩
      have hji : j ≠ i := by omega
      simp only [if_neg hji] at e ⊢
      exact e3 j h1 h2 e
  · have hji : j ≠ i := by omega
    have hji4 : j + 4 ≠ i := by omega
    simp only [if_neg hji, if_neg hji4] at e ⊢
    obtain ⟨B, vs, e1, e2, e3, e4, e5⟩ := h.bl j h1 h2 e
    refine ⟨B, vs, e1, e2, e3, e4, fun e6 => ?_⟩
    rw [if_neg (hs j h1 h2 e6)]
    exact e5 e6
  · have hji : j ≠ i := by omega
    have hki : k ≠ i := by omega
    simp only [if_neg hji, if_neg hki] at e f ⊢
    exact h.ne j k h1 h2 h3 h4 h5 e f
  · have hji : j ≠ i := by omega
    have hji4 : j + 4 ≠ i := by omega
    simp only [if_neg hji4] at e
    simp only [if_neg hji, if_neg (hs j h1 h2 e)]
    exact h.dn j h1 h2 e
theorem SpI.alloc (h : SpI w s L V W) (i : Nat) (h6 : 6 ≤ i) (h9 : i ≤ 9) (hn : L i = false) (vs : Array Value) (hz : vs.size = spSz i) :
    SpI w s (fun j => if j = i then true else L j) (fun j => if j = i then .pointer (some ⟨W.heap.size, 0, none⟩) else V j) (W.alloc (.cells vs (spTy i))) := by
  have hb := (Below.refl W.heap.size W).alloc (Nat.le_refl _) (.cells vs (spTy i))
  have hs : ∀ j, spSrc j ≠ i := fun j q => by have := spSrc_lt j; omega
  have hold : ∀ j, 6 ≤ j → j ≤ 9 → L j = true → V j ≠ .pointer (some ⟨W.heap.size, 0, none⟩) := fun j h1 h2 e q => by
    obtain ⟨B, vs', e1, e2, e3, _⟩ := h.bl j h1 h2 e
    rw [e1] at q
    have := lt_of_block e3
    simp only [Value.pointer.injEq, Option.some.injEq, Addr.mk.injEq, and_true] at q
    omega
  refine ⟨h.low.trans (hb.mono h.low.size), fun k hk e => ?_, fun j h1 h2 e => ?_, fun j k h1 h2 h3 h4 h5 e f => ?_, fun j h1 h2 e => ?_⟩
  · have hki : k ≠ i := by omega
    simp only [if_neg hki] at e ⊢
    obtain ⟨m', e1, e2, e3⟩ := h.sh k hk e
    refine ⟨m', e1, e2.later hb, fun j h1 h2 e B q => ?_⟩
    by_cases hji : j = i
    · rw [if_pos hji] at q
      simp only [Value.pointer.injEq, Option.some.injEq, Addr.mk.injEq, and_true] at q
      rw [← q]
      exact ship_off e2
    · rw [if_neg hji] at e q
      exact e3 j h1 h2 e B q
  · have hji4 : j + 4 ≠ i := by omega
    by_cases hji : j = i
    · subst hji
      refine ⟨W.heap.size, vs, by simp, h.low.size, block_new W _, hz, fun e6 => ?_⟩
      simp only [if_neg hji4] at e6
      have := (h.dn j h1 h2 e6).1
      rw [hn] at this
      cases this
    · simp only [if_neg hji, if_neg hji4] at e ⊢
      obtain ⟨B, vs', e1, e2, e3, e4, e5⟩ := h.bl j h1 h2 e
      refine ⟨B, vs', e1, e2, (hb.block _ (lt_of_block e3)).trans e3, e4, fun e6 => ?_⟩
      rw [if_neg (hs j)]
      exact e5 e6
  · by_cases hji : j = i
    · have hki : k ≠ i := by omega
      simp only [if_neg hki, if_pos hji] at f ⊢
      exact (hold k h3 h4 f).symm
    · by_cases hki : k = i
      · simp only [if_neg hji, if_pos hki] at e ⊢
        exact hold j h1 h2 e
      · simp only [if_neg hji, if_neg hki] at e f ⊢
        exact h.ne j k h1 h2 h3 h4 h5 e f
  · have hji4 : j + 4 ≠ i := by omega
    simp only [if_neg hji4] at e
    simp only [if_neg (hs j)]
    obtain ⟨k1, k2⟩ := h.dn j h1 h2 e
    refine ⟨?_, k2⟩
    by_cases hji : j = i
    · simp [hji]
    · rw [if_neg hji]; exact k1
theorem SpI.store (h : SpI w s L V W) (i : Nat) (h6 : 6 ≤ i) (h9 : i ≤ 9) (hl : L i = true) (hsr : L (spSrc i) = true) {B : Nat} (hp : V i = .pointer (some ⟨B, 0, none⟩)) {vs : Array Value} (hv : V (spSrc i) = .agg vs) (hz : vs.size = spSz i)
    (hb' : W'.heap[B]? = some (.cells vs (spTy i) (0, 0))) (hc : Chg B W W') (x : Value) :
    SpI w s (fun j => if j = i + 4 then true else L j) (fun j => if j = i + 4 then x else V j) W' := by
  obtain ⟨B', vs0, e1, e2, _⟩ := h.bl i h6 h9 hl
  have hBB : B' = B := by
    rw [e1] at hp
    simpa using hp
  subst hBB
  have hs : ∀ j, spSrc j ≠ i + 4 := fun j q => by have := spSrc_lt j; omega
  refine ⟨h.low.trans (hc.below e2), fun k hk e => ?_, fun j h1 h2 e => ?_, fun j k h1 h2 h3 h4 h5 e f => ?_, fun j h1 h2 e => ?_⟩
  · have hki : k ≠ i + 4 := by omega
    simp only [if_neg hki] at e ⊢
    obtain ⟨m', g1, g2, g3⟩ := h.sh k hk e
    refine ⟨m', g1, g2.chg (g3 i h6 h9 hl B' e1) hc, fun j h1 h2 e => ?_⟩
    have hji : j ≠ i + 4 := by omega
    simp only [if_neg hji] at e ⊢
    exact g3 j h1 h2 e
  · have hji : j ≠ i + 4 := by omega
    simp only [if_neg hji] at e ⊢
    by_cases hj : j = i
    · subst hj
      refine ⟨B', vs, e1, e2, hb', hz, fun _ => ?_⟩
      rw [if_neg (hs j)]
      exact hv
    · have hj4 : j + 4 ≠ i + 4 := by omega
      obtain ⟨B2, vs2, f1, f2, f3, f4, f5⟩ := h.bl j h1 h2 e
      have hne : B2 ≠ B' := fun q => h.ne j i h1 h2 h6 h9 hj e hl (by rw [f1, e1, q])
      refine ⟨B2, vs2, f1, f2, (hc.2.1 _ hne).trans f3, f4, fun e6 => ?_⟩
      rw [if_neg hj4] at e6
      rw [if_neg (hs j)]
      exact f5 e6
  · have hji : j ≠ i + 4 := by omega
    have hki : k ≠ i + 4 := by omega
    simp only [if_neg hji, if_neg hki] at e f ⊢
    exact h.ne j k h1 h2 h3 h4 h5 e f
  · have hji : j ≠ i + 4 := by omega
    simp only [if_neg hji, if_neg (hs j)]
    by_cases hj : j = i
    · subst hj
      exact ⟨hl, hsr⟩
    · have hj4 : j + 4 ≠ i + 4 := by omega
      simp only [if_neg hj4] at e
      exact h.dn j h1 h2 e
end
end Go.Proofs.YtcoiklolgilhaaaGreatDoor
namespace Go.Proofs.YtcoiklolgilhaaaGreatDoor
open Go.RowKit
set_option maxRecDepth 100000
section
variable {Q : Exit → Act → World → Prop} {o : Oper} {a' : Act} {W : World}
theorem opx_store36s {s r b : Nat} {t : TypeId} {x0 x1 x2 x3 x4 x5 x6 x7 x8 x9 x10 : Value} {y0 y1 y2 y3 y7 y8 y9 y10 : Int} {q4 q5 q6 : Option Addr} {n4 c4 n5 c5 n6 c6 : Nat} {Rq : Value → World → Prop} (hd : o.dst = none) (hop : o.op = Op.store 36 (.tmp s) (.tmp r))
    (he : a'.eval (.tmp s) = .pointer (some ⟨b, 0, none⟩)) (hv : a'.eval (.tmp r) = .agg #[.int .i64 y0, .int .i64 y1, .int .i64 y2, .int .i64 y3, .slice q4 n4 c4, .slice q5 n5 c5, .slice q6 n6 c6, .int .i64 y7, .int .i64 y8, .int .i64 y9, .int .i64 y10]) (hb : W.heap[b]? = some (.cells #[x0, x1, x2, x3, x4, x5, x6, x7, x8, x9, x10] t (0, 0)))
    (hR : ∀ W', W'.heap[b]? = some (.cells #[.int .i64 y0, .int .i64 y1, .int .i64 y2, .int .i64 y3, .slice q4 n4 c4, .slice q5 n5 c5, .slice q6 n6 c6, .int .i64 y7, .int .i64 y8, .int .i64 y9, .int .i64 y10] t (0, 0)) → Chg b W W' → Rq undef W') :
    o.wp Tryz.prog a' W (fun a'' W' => ∃ x, a'' = a'.put o.dst x ∧ Rq x W') Q := by
  obtain ⟨k0, k1, k2, k3, k4, k5, k6, k7, k8, k9, k10⟩ := cells11 hb
  have f := fun o => frozen_of_block hb o
  have he' : a'.tmps[s]?.getD undef = .pointer (some ⟨b, 0, none⟩) := by simpa [Act.eval] using he
  have hv' : a'.tmps[r]?.getD undef = .agg #[.int .i64 y0, .int .i64 y1, .int .i64 y2, .int .i64 y3, .slice q4 n4 c4, .slice q5 n5 c5, .slice q6 n6 c6, .int .i64 y7, .int .i64 y8, .int .i64 y9, .int .i64 y10] := by simpa [Act.eval] using hv
  have hfin := hR (World.store11 W b (.int .i64 y0) (.int .i64 y1) (.int .i64 y2) (.int .i64 y3) (.slice q4 n4 c4) (.slice q5 n5 c5) (.slice q6 n6 c6) (.int .i64 y7) (.int .i64 y8) (.int .i64 y9) (.int .i64 y10)) (store11_block hb _ _ _ _ _ _ _ _ _ _ _) (chg_store11 _ _ _ _ _ _ _ _ _ _ _ _ _)
  unfold World.store11 at hfin
  unfold Oper.wp execOp
  rw [hop]
  simp [go_sem, he', hv', k0, k1, k2, k3, k4, k5, k6, k7, k8, k9, k10, f, hd]
  exact ⟨_, hfin⟩
theorem opx_alloc36 {Rq : Value → World → Prop} (hop : o.op = Op.alloc 36) (hR : Rq (.pointer (some ⟨W.heap.size, 0, none⟩)) (W.alloc (.cells #[.int .i64 0, .int .i64 0, .int .i64 0, .int .i64 0, .slice none 0 0, .slice none 0 0, .slice none 0 0, .int .i64 0, .int .i64 0, .int .i64 0, .int .i64 0] 36))) :
    o.wp Tryz.prog a' W (fun a'' W' => ∃ x, a'' = a'.put o.dst x ∧ Rq x W') Q := by
  unfold Oper.wp execOp
  rw [hop]
  simp [go_sem]
  exact ⟨_, rfl, hR⟩
theorem opx_alloc38 {Rq : Value → World → Prop} (hop : o.op = Op.alloc 38) (hR : Rq (.pointer (some ⟨W.heap.size, 0, none⟩)) (W.alloc (.cells #[.int .i64 0, .int .i64 0, .int .i64 0, .int .i64 0] 38))) :
    o.wp Tryz.prog a' W (fun a'' W' => ∃ x, a'' = a'.put o.dst x ∧ Rq x W') Q := by
  unfold Oper.wp execOp
  rw [hop]
  simp [go_sem]
  exact ⟨_, rfl, hR⟩
theorem opx_alloc39 {Rq : Value → World → Prop} (hop : o.op = Op.alloc 39) (hR : Rq (.pointer (some ⟨W.heap.size, 0, none⟩)) (W.alloc (.cells #[.int .i64 0, .int .i64 0, .int .i64 0, .int .i64 0, .int .i64 0, .int .i64 0, .int .i64 0, .int .i64 0] 39))) :
    o.wp Tryz.prog a' W (fun a'' W' => ∃ x, a'' = a'.put o.dst x ∧ Rq x W') Q := by
  unfold Oper.wp execOp
  rw [hop]
  simp [go_sem]
  exact ⟨_, rfl, hR⟩
theorem opx_store38s {s r b : Nat} {t : TypeId} {x0 x1 x2 x3 : Value} {y0 y1 y2 y3 : Int} {Rq : Value → World → Prop} (hd : o.dst = none) (hop : o.op = Op.store 38 (.tmp s) (.tmp r))
    (he : a'.eval (.tmp s) = .pointer (some ⟨b, 0, none⟩)) (hv : a'.eval (.tmp r) = .agg #[.int .i64 y0, .int .i64 y1, .int .i64 y2, .int .i64 y3]) (hb : W.heap[b]? = some (.cells #[x0, x1, x2, x3] t (0, 0)))
    (hR : ∀ W', W'.heap[b]? = some (.cells #[.int .i64 y0, .int .i64 y1, .int .i64 y2, .int .i64 y3] t (0, 0)) → Chg b W W' → Rq undef W') :
    o.wp Tryz.prog a' W (fun a'' W' => ∃ x, a'' = a'.put o.dst x ∧ Rq x W') Q := by
  obtain ⟨k0, k1, k2, k3⟩ : W.cell? ⟨b, 0, none⟩ = some x0 ∧ W.cell? ⟨b, 1, none⟩ = some x1 ∧ W.cell? ⟨b, 2, none⟩ = some x2 ∧ W.cell? ⟨b, 3, none⟩ = some x3 := ⟨(cell_of_block hb 0).trans rfl, (cell_of_block hb 1).trans rfl, (cell_of_block hb 2).trans rfl, (cell_of_block hb 3).trans rfl⟩
  have f := fun o => frozen_of_block hb o
  have he' : a'.tmps[s]?.getD undef = .pointer (some ⟨b, 0, none⟩) := by simpa [Act.eval] using he
  have hv' : a'.tmps[r]?.getD undef = .agg #[.int .i64 y0, .int .i64 y1, .int .i64 y2, .int .i64 y3] := by simpa [Act.eval] using hv
  have hz := (setCell_block (setCell_block (setCell_block (setCell_block hb 0 (.int .i64 y0)) 1 (.int .i64 y1)) 2 (.int .i64 y2)) 3 (.int .i64 y3))
  simp only [List.setIfInBounds_toArray, List.set_cons_zero, List.set_cons_succ] at hz
  have hfin := hR ((((W.setCell ⟨b, 0, none⟩ (.int .i64 y0)).setCell ⟨b, 1, none⟩ (.int .i64 y1)).setCell ⟨b, 2, none⟩ (.int .i64 y2)).setCell ⟨b, 3, none⟩ (.int .i64 y3)) hz ((((chg_setCell W b 0 (.int .i64 y0)).trans (chg_setCell (W.setCell ⟨b, 0, none⟩ (.int .i64 y0)) b 1 (.int .i64 y1))).trans (chg_setCell ((W.setCell ⟨b, 0, none⟩ (.int .i64 y0)).setCell ⟨b, 1, none⟩ (.int .i64 y1)) b 2 (.int .i64 y2))).trans (chg_setCell (((W.setCell ⟨b, 0, none⟩ (.int .i64 y0)).setCell ⟨b, 1, none⟩ (.int .i64 y1)).setCell ⟨b, 2, none⟩ (.int .i64 y2)) b 3 (.int .i64 y3)))
  unfold Oper.wp execOp
  rw [hop]
  simp [go_sem, he', hv', k0, k1, k2, k3, f, hd]
  exact ⟨_, hfin⟩
theorem opx_store39s {s r b : Nat} {t : TypeId} {x0 x1 x2 x3 x4 x5 x6 x7 : Value} {y0 y1 y2 y3 y4 y5 y6 y7 : Int} {Rq : Value → World → Prop} (hd : o.dst = none) (hop : o.op = Op.store 39 (.tmp s) (.tmp r))
    (he : a'.eval (.tmp s) = .pointer (some ⟨b, 0, none⟩)) (hv : a'.eval (.tmp r) = .agg #[.int .i64 y0, .int .i64 y1, .int .i64 y2, .int .i64 y3, .int .i64 y4, .int .i64 y5, .int .i64 y6, .int .i64 y7]) (hb : W.heap[b]? = some (.cells #[x0, x1, x2, x3, x4, x5, x6, x7] t (0, 0)))
    (hR : ∀ W', W'.heap[b]? = some (.cells #[.int .i64 y0, .int .i64 y1, .int .i64 y2, .int .i64 y3, .int .i64 y4, .int .i64 y5, .int .i64 y6, .int .i64 y7] t (0, 0)) → Chg b W W' → Rq undef W') :
    o.wp Tryz.prog a' W (fun a'' W' => ∃ x, a'' = a'.put o.dst x ∧ Rq x W') Q := by
  obtain ⟨k0, k1, k2, k3, k4, k5, k6, k7⟩ : W.cell? ⟨b, 0, none⟩ = some x0 ∧ W.cell? ⟨b, 1, none⟩ = some x1 ∧ W.cell? ⟨b, 2, none⟩ = some x2 ∧ W.cell? ⟨b, 3, none⟩ = some x3 ∧ W.cell? ⟨b, 4, none⟩ = some x4 ∧ W.cell? ⟨b, 5, none⟩ = some x5 ∧ W.cell? ⟨b, 6, none⟩ = some x6 ∧ W.cell? ⟨b, 7, none⟩ = some x7 := ⟨(cell_of_block hb 0).trans rfl, (cell_of_block hb 1).trans rfl, (cell_of_block hb 2).trans rfl, (cell_of_block hb 3).trans rfl, (cell_of_block hb 4).trans rfl, (cell_of_block hb 5).trans rfl, (cell_of_block hb 6).trans rfl, (cell_of_block hb 7).trans rfl⟩
  have f := fun o => frozen_of_block hb o
  have he' : a'.tmps[s]?.getD undef = .pointer (some ⟨b, 0, none⟩) := by simpa [Act.eval] using he
  have hv' : a'.tmps[r]?.getD undef = .agg #[.int .i64 y0, .int .i64 y1, .int .i64 y2, .int .i64 y3, .int .i64 y4, .int .i64 y5, .int .i64 y6, .int .i64 y7] := by simpa [Act.eval] using hv
  have hz := (setCell_block (setCell_block (setCell_block (setCell_block (setCell_block (setCell_block (setCell_block (setCell_block hb 0 (.int .i64 y0)) 1 (.int .i64 y1)) 2 (.int .i64 y2)) 3 (.int .i64 y3)) 4 (.int .i64 y4)) 5 (.int .i64 y5)) 6 (.int .i64 y6)) 7 (.int .i64 y7))
  simp only [List.setIfInBounds_toArray, List.set_cons_zero, List.set_cons_succ] at hz
  have hfin := hR ((((((((W.setCell ⟨b, 0, none⟩ (.int .i64 y0)).setCell ⟨b, 1, none⟩ (.int .i64 y1)).setCell ⟨b, 2, none⟩ (.int .i64 y2)).setCell ⟨b, 3, none⟩ (.int .i64 y3)).setCell ⟨b, 4, none⟩ (.int .i64 y4)).setCell ⟨b, 5, none⟩ (.int .i64 y5)).setCell ⟨b, 6, none⟩ (.int .i64 y6)).setCell ⟨b, 7, none⟩ (.int .i64 y7)) hz ((((((((chg_setCell W b 0 (.int .i64 y0)).trans (chg_setCell (W.setCell ⟨b, 0, none⟩ (.int .i64 y0)) b 1 (.int .i64 y1))).trans (chg_setCell ((W.setCell ⟨b, 0, none⟩ (.int .i64 y0)).setCell ⟨b, 1, none⟩ (.int .i64 y1)) b 2 (.int .i64 y2))).trans (chg_setCell (((W.setCell ⟨b, 0, none⟩ (.int .i64 y0)).setCell ⟨b, 1, none⟩ (.int .i64 y1)).setCell ⟨b, 2, none⟩ (.int .i64 y2)) b 3 (.int .i64 y3))).trans (chg_setCell ((((W.setCell ⟨b, 0, none⟩ (.int .i64 y0)).setCell ⟨b, 1, none⟩ (.int .i64 y1)).setCell ⟨b, 2, none⟩ (.int .i64 y2)).setCell ⟨b, 3, none⟩ (.int .i64 y3)) b 4 (.int .i64 y4))).trans (chg_setCell (((((W.setCell ⟨b, 0, none⟩ (.int .i64 y0)).setCell ⟨b, 1, none⟩ (.int .i64 y1)).setCell ⟨b, 2, none⟩ (.int .i64 y2)).setCell ⟨b, 3, none⟩ (.int .i64 y3)).setCell ⟨b, 4, none⟩ (.int .i64 y4)) b 5 (.int .i64 y5))).trans (chg_setCell ((((((W.setCell ⟨b, 0, none⟩ (.int .i64 y0)).setCell ⟨b, 1, none⟩ (.int .i64 y1)).setCell ⟨b, 2, none⟩ (.int .i64 y2)).setCell ⟨b, 3, none⟩ (.int .i64 y3)).setCell ⟨b, 4, none⟩ (.int .i64 y4)).setCell ⟨b, 5, none⟩ (.int .i64 y5)) b 6 (.int .i64 y6))).trans (chg_setCell (((((((W.setCell ⟨b, 0, none⟩ (.int .i64 y0)).setCell ⟨b, 1, none⟩ (.int .i64 y1)).setCell ⟨b, 2, none⟩ (.int .i64 y2)).setCell ⟨b, 3, none⟩ (.int .i64 y3)).setCell ⟨b, 4, none⟩ (.int .i64 y4)).setCell ⟨b, 5, none⟩ (.int .i64 y5)).setCell ⟨b, 6, none⟩ (.int .i64 y6)) b 7 (.int .i64 y7)))
  unfold Oper.wp execOp
  rw [hop]
  simp [go_sem, he', hv', k0, k1, k2, k3, k4, k5, k6, k7, f, hd]
  exact ⟨_, hfin⟩
end
end Go.Proofs.YtcoiklolgilhaaaGreatDoor
namespace Go.Proofs.YtcoiklolgilhaaaGreatDoor
open Go.RowKit
set_option maxRecDepth 100000
set_option maxHeartbeats 8000000 in
theorem Ship_new (s : Sh) (m : Mem3) (n2 : s.th.n ≤ 1000) (n4 : s.wa.n ≤ 1000) (n6 : s.ic.n ≤ 1000) (w : World) (hs : ShipIn w s m) :
    Calls Tryz.prog 12 #[.agg (shipA s m)] w fun e w' => ∃ m' : Mem3, e = .returned (.agg (shipA s m')) ∧ ShipIn w' s m' ∧ NewM w.heap.size m' ∧ Below w.heap.size w w' := by
  have HS := Lib.hid hs
  have HN := Lib.hid (And.intro n2 (And.intro n4 n6))
  clear n2 n4 n6
  obtain ⟨t1, t2, tz, tb⟩ := two_allocs w (.cells (shipA s m) 24) (.cells #[.int .i64 0, .int .i64 0, .int .i64 0, .int .i64 0, .slice none 0 0, .slice none 0 0, .slice none 0 0, .int .i64 0, .int .i64 0, .int .i64 0, .int .i64 0] 36)
  have H1 := Lib.hid t1
  have H2 := Lib.hid t2
  have HB := Lib.hid tb
  clear t1 t2 tb hs
  go_enter Tryz.func12, Tryz.ntmps12
  go_wp2_with fail
  generalize (w.alloc (.cells (shipA s m) 24)).alloc (.cells #[.int .i64 0, .int .i64 0, .int .i64 0, .int .i64 0, .slice none 0 0, .slice none 0 0, .slice none 0 0, .int .i64 0, .int .i64 0, .int .i64 0, .int .i64 0] 36) = X at *
  refine wp_region_fi [3, 4, 5, 6, 7, 8, 9, 10, 11, 12, 13, 14, 15, 16, 17, 18, 19, 20, 21, 22, 23, 24, 25, 26, 27, 28, 1000] (sqF s m w.heap.size) (Sq w s m) (by kernel_rfl) (by kernel_rfl) ?sz ?ts ?z ?val ?fin
  case sz => intro s hs h; simp at hs ⊢; omega
  case ts => simp
  case z => exact Sq.later ⟨HB.out, H1.out, H2.out, (fun e => by cases e), (fun e => by cases e), (fun e => by cases e), (fun e => by cases e), (fun e => by cases e), (fun e => by cases e)⟩ (below_drawn X)
  case val =>
    intro jj
    match jj with
    | 0 => intro o L V ho hL hd a' W hX hfr hdp; obtain rfl := Option.some.inj ho; exact opx_of (op_fa24k rfl (hfr 1 (by decide)) (by decide)) fun W' hb => ⟨rfl, (hX.later hb).set 0 (by decide) _⟩
    | 1 => intro o L V ho hL hd a' W hX hfr hdp; obtain rfl := Option.some.inj ho; exact opx_of (op_load3 rfl (Dp (hdp 0 3 (by decide) rfl (by kernel_rfl)) id) ((cell_of_block hX.c 0).trans rfl)) fun W' hb => ⟨rfl, (hX.later hb).set 1 (by decide) _⟩
    | 2 => intro o L V ho hL hd a' W hX hfr hdp; obtain rfl := Option.some.inj ho; exact opx_of (op_fa24k rfl (hfr 1 (by decide)) (by decide)) fun W' hb => ⟨rfl, (hX.later hb).set 2 (by decide) _⟩
    | 3 => intro o L V ho hL hd a' W hX hfr hdp; obtain rfl := Option.some.inj ho; exact opx_of (op_load3 rfl (Dp (hdp 2 5 (by decide) rfl (by kernel_rfl)) id) ((cell_of_block hX.c 1).trans rfl)) fun W' hb => ⟨rfl, (hX.later hb).set 3 (by decide) _⟩
    | 4 => intro o L V ho hL hd a' W hX hfr hdp; obtain rfl := Option.some.inj ho; exact opx_of (op_fa24k rfl (hfr 1 (by decide)) (by decide)) fun W' hb => ⟨rfl, (hX.later hb).set 4 (by decide) _⟩
    | 5 => intro o L V ho hL hd a' W hX hfr hdp; obtain rfl := Option.some.inj ho; exact opx_of (op_load3 rfl (Dp (hdp 4 7 (by decide) rfl (by kernel_rfl)) id) ((cell_of_block hX.c 2).trans rfl)) fun W' hb => ⟨rfl, (hX.later hb).set 5 (by decide) _⟩
    | 6 => intro o L V ho hL hd a' W hX hfr hdp; obtain rfl := Option.some.inj ho; exact opx_of (op_fa24k rfl (hfr 1 (by decide)) (by decide)) fun W' hb => ⟨rfl, (hX.later hb).set 6 (by decide) _⟩
    | 7 => intro o L V ho hL hd a' W hX hfr hdp; obtain rfl := Option.some.inj ho; exact opx_of (op_load3 rfl (Dp (hdp 6 9 (by decide) rfl (by kernel_rfl)) id) ((cell_of_block hX.c 3).trans rfl)) fun W' hb => ⟨rfl, (hX.later hb).set 7 (by decide) _⟩
    | 8 => intro o L V ho hL hd a' W hX hfr hdp; obtain rfl := Option.some.inj ho; exact opx_of (op_fa24k rfl (hfr 1 (by decide)) (by decide)) fun W' hb => ⟨rfl, (hX.later hb).set 8 (by decide) _⟩
    | 9 => intro o L V ho hL hd a' W hX hfr hdp; obtain rfl := Option.some.inj ho; exact opx_of (op_load22 rfl (Dp (hdp 8 11 (by decide) rfl (by kernel_rfl)) id) ((cell_of_block hX.c 4).trans rfl)) fun W' hb => ⟨rfl, (hX.later hb).set 9 (by decide) _⟩
    | 10 =>
      intro o L V ho hL hd a' W hX hfr hdp; obtain rfl := Option.some.inj ho
      obtain ⟨f25, f26⟩ := hX.off (i := 10) (by decide) hL
      refine opx_callu rfl (Dp (hdp 9 12 (by decide) rfl (by kernel_rfl)) id) eg16 ((points_in m.pt s.th.n _ s.th rfl HN.out.1 W ((by have := HS.out.t; exact this.later hX.low))).mono ?_)
      rintro e W' ⟨v', rfl, hr, hb⟩
      have hz := (hb.block _ (lt_of_block hX.z)).trans hX.z
      rw [f26] at hz
      simp only [if_neg (show ¬ false = true by simp)] at hz
      refine ⟨_, rfl, trivial, hX.low.trans (hb.mono hX.low.size), (hb.block _ (lt_of_block hX.c)).trans hX.c, ?_, fun _ => CRow.weak (by simpa using hr) (by have := hX.sz; omega), by simpa using fun e => (hX.r13 e).later hb, by simpa using fun e => (hX.r16 e).later hb, ?_, ?_, ?_⟩
      · rw [hz]; simp [f26]
      · intro e; simp [f25] at e
      · intro e; simp [f25] at e
      · intro e; simp [f26] at e
    | 11 => intro o L V ho hL hd a' W hX hfr hdp; obtain rfl := Option.some.inj ho; exact opx_of (op_fa24k rfl (hfr 1 (by decide)) (by decide)) fun W' hb => ⟨rfl, (hX.later hb).set 11 (by decide) _⟩
    | 12 => intro o L V ho hL hd a' W hX hfr hdp; obtain rfl := Option.some.inj ho; exact opx_of (op_load22 rfl (Dp (hdp 11 14 (by decide) rfl (by kernel_rfl)) id) ((cell_of_block hX.c 5).trans rfl)) fun W' hb => ⟨rfl, (hX.later hb).set 12 (by decide) _⟩
    | 13 =>
      intro o L V ho hL hd a' W hX hfr hdp; obtain rfl := Option.some.inj ho
      obtain ⟨f25, f26⟩ := hX.off (i := 13) (by decide) hL
      refine opx_callu rfl (Dp (hdp 12 15 (by decide) rfl (by kernel_rfl)) id) eg16 ((points_in m.pw s.wa.n _ s.wa rfl HN.out.2.1 W ((by have := HS.out.w; exact this.later hX.low))).mono ?_)
      rintro e W' ⟨v', rfl, hr, hb⟩
      have hz := (hb.block _ (lt_of_block hX.z)).trans hX.z
      rw [f26] at hz
      simp only [if_neg (show ¬ false = true by simp)] at hz
      refine ⟨_, rfl, trivial, hX.low.trans (hb.mono hX.low.size), (hb.block _ (lt_of_block hX.c)).trans hX.c, ?_, by simpa using fun e => (hX.r10 e).later hb, fun _ => CRow.weak (by simpa using hr) (by have := hX.sz; omega), by simpa using fun e => (hX.r16 e).later hb, ?_, ?_, ?_⟩
      · rw [hz]; simp [f26]
      · intro e; simp [f25] at e
      · intro e; simp [f25] at e
      · intro e; simp [f26] at e
    | 14 => intro o L V ho hL hd a' W hX hfr hdp; obtain rfl := Option.some.inj ho; exact opx_of (op_fa24k rfl (hfr 1 (by decide)) (by decide)) fun W' hb => ⟨rfl, (hX.later hb).set 14 (by decide) _⟩
    | 15 => intro o L V ho hL hd a' W hX hfr hdp; obtain rfl := Option.some.inj ho; exact opx_of (op_load22 rfl (Dp (hdp 14 17 (by decide) rfl (by kernel_rfl)) id) ((cell_of_block hX.c 6).trans rfl)) fun W' hb => ⟨rfl, (hX.later hb).set 15 (by decide) _⟩
    | 16 =>
      intro o L V ho hL hd a' W hX hfr hdp; obtain rfl := Option.some.inj ho
      obtain ⟨f25, f26⟩ := hX.off (i := 16) (by decide) hL
      refine opx_callu rfl (Dp (hdp 15 18 (by decide) rfl (by kernel_rfl)) id) eg16 ((points_in m.pi s.ic.n _ s.ic rfl HN.out.2.2 W ((by have := HS.out.i; exact this.later hX.low))).mono ?_)
      rintro e W' ⟨v', rfl, hr, hb⟩
      have hz := (hb.block _ (lt_of_block hX.z)).trans hX.z
      rw [f26] at hz
      simp only [if_neg (show ¬ false = true by simp)] at hz
      refine ⟨_, rfl, trivial, hX.low.trans (hb.mono hX.low.size), (hb.block _ (lt_of_block hX.c)).trans hX.c, ?_, by simpa using fun e => (hX.r10 e).later hb, by simpa using fun e => (hX.r13 e).later hb, fun _ => CRow.weak (by simpa using hr) (by have := hX.sz; omega), ?_, ?_, ?_⟩
      · rw [hz]; simp [f26]
      · intro e; simp [f25] at e
      · intro e; simp [f25] at e
      · intro e; simp [f26] at e
    | 17 => intro o L V ho hL hd a' W hX hfr hdp; obtain rfl := Option.some.inj ho; exact opx_of (op_fa24k rfl (hfr 1 (by decide)) (by decide)) fun W' hb => ⟨rfl, (hX.later hb).set 17 (by decide) _⟩
    | 18 => intro o L V ho hL hd a' W hX hfr hdp; obtain rfl := Option.some.inj ho; exact opx_of (op_load3 rfl (Dp (hdp 17 20 (by decide) rfl (by kernel_rfl)) id) ((cell_of_block hX.c 7).trans rfl)) fun W' hb => ⟨rfl, (hX.later hb).set 18 (by decide) _⟩
    | 19 => intro o L V ho hL hd a' W hX hfr hdp; obtain rfl := Option.some.inj ho; exact opx_of (op_fa24k rfl (hfr 1 (by decide)) (by decide)) fun W' hb => ⟨rfl, (hX.later hb).set 19 (by decide) _⟩
    | 20 => intro o L V ho hL hd a' W hX hfr hdp; obtain rfl := Option.some.inj ho; exact opx_of (op_load3 rfl (Dp (hdp 19 22 (by decide) rfl (by kernel_rfl)) id) ((cell_of_block hX.c 8).trans rfl)) fun W' hb => ⟨rfl, (hX.later hb).set 20 (by decide) _⟩
    | 21 => intro o L V ho hL hd a' W hX hfr hdp; obtain rfl := Option.some.inj ho; exact opx_of (op_fa24k rfl (hfr 1 (by decide)) (by decide)) fun W' hb => ⟨rfl, (hX.later hb).set 21 (by decide) _⟩
    | 22 => intro o L V ho hL hd a' W hX hfr hdp; obtain rfl := Option.some.inj ho; exact opx_of (op_load3 rfl (Dp (hdp 21 24 (by decide) rfl (by kernel_rfl)) id) ((cell_of_block hX.c 9).trans rfl)) fun W' hb => ⟨rfl, (hX.later hb).set 22 (by decide) _⟩
    | 23 => intro o L V ho hL hd a' W hX hfr hdp; obtain rfl := Option.some.inj ho; exact opx_of (op_fa24k rfl (hfr 1 (by decide)) (by decide)) fun W' hb => ⟨rfl, (hX.later hb).set 23 (by decide) _⟩
    | 24 => intro o L V ho hL hd a' W hX hfr hdp; obtain rfl := Option.some.inj ho; exact opx_of (op_load3 rfl (Dp (hdp 23 26 (by decide) rfl (by kernel_rfl)) id) ((cell_of_block hX.c 10).trans rfl)) fun W' hb => ⟨rfl, (hX.later hb).set 24 (by decide) _⟩
    | 25 =>
      intro o L V ho hL hd a' W hX hfr hdp; obtain rfl := Option.some.inj ho
      have k10 := hd 10 (by kernel_rfl)
      have k13 := hd 13 (by kernel_rfl)
      have k16 := hd 16 (by kernel_rfl)
      have f26 : L 26 = false := by
        cases e : L 26 with
        | false => rfl
        | true => have := hX.n26 e; rw [hL] at this; cases this
      obtain ⟨q4, c4, e4, _⟩ := hX.r10 k10
      obtain ⟨q5, c5, e5, _⟩ := hX.r13 k13
      obtain ⟨q6, c6, e6, _⟩ := hX.r16 k16
      refine opx_of (op_b42 rfl (Dp (hdp 1 4 (by decide) rfl (by kernel_rfl)) id) (Dp (hdp 3 6 (by decide) rfl (by kernel_rfl)) id) (Dp (hdp 5 8 (by decide) rfl (by kernel_rfl)) id) (Dp (hdp 7 10 (by decide) rfl (by kernel_rfl)) id) ((hdp 10 13 (by decide) rfl (by kernel_rfl)).1.trans e4) ((hdp 13 16 (by decide) rfl (by kernel_rfl)).1.trans e5) ((hdp 16 19 (by decide) rfl (by kernel_rfl)).1.trans e6) (Dp (hdp 18 21 (by decide) rfl (by kernel_rfl)) id) (Dp (hdp 20 23 (by decide) rfl (by kernel_rfl)) id) (Dp (hdp 22 25 (by decide) rfl (by kernel_rfl)) id) (Dp (hdp 24 27 (by decide) rfl (by kernel_rfl)) id)) fun W' hb => ⟨trivial, ?_⟩
      have hY := hX.later hb
      have hz := hY.z
      rw [f26] at hz
      simp only [if_neg (show ¬ false = true by simp)] at hz
      refine ⟨hY.low, hY.c, ?_, by simpa using hY.r10, by simpa using hY.r13, by simpa using hY.r16, ?_, ?_, ?_⟩
      · rw [hz]; simp [f26]
      · simp [e4, e5, e6]
      · simp [k10, k13, k16]
      · simp
    | 26 =>
      intro o L V ho hL hd a' W hX hfr hdp; obtain rfl := Option.some.inj ho
      have k25 := hd 25 (by kernel_rfl)
      have hv := (hdp 25 28 (by decide) rfl (by kernel_rfl)).1
      obtain ⟨k10, k13, k16⟩ := hX.n25 k25
      obtain ⟨q4, c4, e4, _⟩ := hX.r10 k10
      obtain ⟨q5, c5, e5, _⟩ := hX.r13 k13
      obtain ⟨q6, c6, e6, _⟩ := hX.r16 k16
      rw [hX.v25 k25, e4, e5, e6] at hv
      have hz := hX.z
      rw [hL] at hz
      simp only [if_neg (show ¬ false = true by simp)] at hz
      have hs2 := hX.sz
      refine opx_store42 rfl rfl (hfr 2 (by decide)) hv hz fun W' hb hc => ⟨trivial, hX.low.trans (hc.below (by omega)), (hc.2.1 _ (by omega)).trans hX.c, ?_, ?_, ?_, ?_, ?_, ?_, ?_⟩
      · rw [hb, ← e4, ← e5, ← e6]; simp
      · simpa using fun e => (hX.r10 e).sto hc (by omega)
      · simpa using fun e => (hX.r13 e).sto hc (by omega)
      · simpa using fun e => (hX.r16 e).sto hc (by omega)
      · simpa using hX.v25
      · simpa using hX.n25
      · simp [k25]
    | j + 27 => intro o L V ho; simp at ho
  case fin =>
    intro W1 L V hL hF hI
    have r2 := hI.r10 (hL 10 (by decide))
    have r5 := hI.r13 (hL 13 (by decide))
    have r8 := hI.r16 (hL 16 (by decide))
    have hz := hI.z
    rw [hL 26 (by decide)] at hz
    simp only [if_true] at hz
    have HL := Lib.hid hI.low
    obtain ⟨q4, c4, f4, _⟩ := id r2
    obtain ⟨q5, c5, f5, _⟩ := id r5
    obtain ⟨q6, c6, f6, _⟩ := id r8
    rw [f4, f5, f6] at hz
    rw [f4] at r2
    rw [f5] at r5
    rw [f6] at r8
    have HR2 := Lib.hid r2
    have HR5 := Lib.hid r5
    have HR8 := Lib.hid r8
    have HZ := Lib.hid hz
    clear hI hF hL hz r2 r5 r8 H1 H2 HB
    simp only [fill, Act.put, List.setIfInBounds_toArray, List.set_cons_zero, List.set_cons_succ, List.set_nil, Nat.reduceAdd]
    generalize V 0 = v0, V 1 = v1, V 2 = v2, V 3 = v3, V 4 = v4, V 5 = v5, V 6 = v6, V 7 = v7, V 8 = v8, V 9 = v9, V 10 = v10, V 11 = v11, V 12 = v12, V 13 = v13, V 14 = v14, V 15 = v15, V 16 = v16, V 17 = v17, V 18 = v18, V 19 = v19, V 20 = v20, V 21 = v21, V 22 = v22, V 23 = v23, V 24 = v24, V 25 = v25, V 26 = v26 at *
    clear V f4 f5 f6
    obtain ⟨m0, m1, m2, m3, m4, m5, m6, m7, m8, m9, m10⟩ := cells11 HZ.out
    go_wp2_with fail
    refine bodyPost_ret (v := .agg (shipA s ⟨q4, q5, q6, c4, c5, c6⟩)) (by simp [results, Tryz.results12, go_sem, m0, m1, m2, m3, m4, m5, m6, m7, m8, m9, m10]) rfl ⟨⟨q4, q5, q6, c4, c5, c6⟩, rfl, ⟨(crow_pts HR2.out).1, (crow_pts HR5.out).1, (crow_pts HR8.out).1, (crow_pts HR2.out).2, (crow_pts HR5.out).2, (crow_pts HR8.out).2, HS.out.nt, HS.out.nw, HS.out.ni⟩, ⟨fun a e => by have := crow_new HR2.out a e; omega, fun a e => by have := crow_new HR5.out a e; omega, fun a e => by have := crow_new HR8.out a e; omega⟩, HL.out⟩
end Go.Proofs.YtcoiklolgilhaaaGreatDoor
namespace Go.Proofs.YtcoiklolgilhaaaGreatDoor
open Go.RowKit
set_option maxRecDepth 100000
def spF3 (s : Sh) (m : Mem3) (x lo hi : Ic) : Nat → Value → Prop
  | 0, u => u = .agg (shipA s m)
  | 2, u => u = .agg (shipA s m)
  | 4, u => u = .agg (iceV x)
  | 5, u => u = .agg (cellV lo hi)
  | _, _ => True
theorem e3R (s : Sh) (x : Ic) (v : Int) (ch : Bool) : ∃ n e : Int, ResistanceRes s x v ch = .tuple #[.int .i64 n, .int .i64 e] := by
  unfold ResistanceRes; split <;> exact ⟨_, _, rfl⟩
theorem e3M (s : Sh) (x : Ic) (v : Int) (ch : Bool) : ∃ (n : Bool) (e : Int), MakesRes s x v ch = .tuple #[.bool n, .int .i64 e] := by
  unfold MakesRes; split <;> exact ⟨_, _, rfl⟩
theorem e3S (s : Sh) (x : Ic) (ch : Bool) : ∃ n e : Int, SpeedRes s x ch = .tuple #[.int .i64 n, .int .i64 e] := by
  unfold SpeedRes; split <;> exact ⟨_, _, rfl⟩
theorem e3L (x : Ic) (v : Int) (ch : Bool) : ∃ n e : Int, LoadRes x v ch = .tuple #[.int .i64 n, .int .i64 e] := by
  unfold LoadRes; split <;> exact ⟨_, _, rfl⟩
theorem e3B (s : Sh) (x : Ic) (v : Int) (ch : Bool) : ∃ n e : Int, BurnRes s x v ch = .tuple #[.int .i64 n, .int .i64 e] := by
  unfold BurnRes; split
  · split <;> exact ⟨_, _, rfl⟩
  · exact ⟨_, _, rfl⟩
theorem e3Ss (s : Sh) (lo hi : Ic) (ch : Bool) : ∃ n o e : Int, SpeedsRes s lo hi ch = .tuple #[.agg #[.int .i64 n, .int .i64 o], .int .i64 e] := by
  unfold SpeedsRes; split <;> exact ⟨_, _, _, rfl⟩
theorem e3Be (s : Sh) (lo hi : Ic) (ch : Bool) : ∃ (n o : Bool) (e : Int), BesetRes s lo hi ch = .tuple #[.bool n, .bool o, .int .i64 e] := by
  unfold BesetRes; split <;> exact ⟨_, _, _, rfl⟩
theorem e3By (s : Sh) (lo hi : Ic) (v : Int) (ch : Bool) : ∃ (n o : Bool) (e : Int), BeyondRes s lo hi v ch = .tuple #[.bool n, .bool o, .int .i64 e] := by
  unfold BeyondRes; split <;> exact ⟨_, _, _, rfl⟩
theorem e3Sa (s : Sh) (lo hi : Ic) (ch : Bool) : ∃ n e : Int, SafeRes s lo hi ch = .tuple #[.int .i64 n, .int .i64 e] := by
  unfold SafeRes; split <;> exact ⟨_, _, rfl⟩
theorem arr4 {vs : Array Value} (h : vs.size = 4) : ∃ y0 y1 y2 y3, vs = #[y0, y1, y2, y3] := by
  obtain ⟨l⟩ := vs
  match l, h with
  | [y0, y1, y2, y3], _ => exact ⟨y0, y1, y2, y3, rfl⟩
theorem arr8 {vs : Array Value} (h : vs.size = 8) : ∃ y0 y1 y2 y3 y4 y5 y6 y7, vs = #[y0, y1, y2, y3, y4, y5, y6, y7] := by
  obtain ⟨l⟩ := vs
  match l, h with
  | [y0, y1, y2, y3, y4, y5, y6, y7], _ => exact ⟨y0, y1, y2, y3, y4, y5, y6, y7, rfl⟩
theorem arr11 {vs : Array Value} (h : vs.size = 11) : ∃ y0 y1 y2 y3 y4 y5 y6 y7 y8 y9 y10, vs = #[y0, y1, y2, y3, y4, y5, y6, y7, y8, y9, y10] := by
  obtain ⟨l⟩ := vs
  match l, h with
  | [y0, y1, y2, y3, y4, y5, y6, y7, y8, y9, y10], _ => exact ⟨y0, y1, y2, y3, y4, y5, y6, y7, y8, y9, y10, rfl⟩
set_option maxHeartbeats 32000000 in
theorem Speeds_law (s : Sh) (m : Mem3) (x lo hi : Ic) (v : Int) (ch : Bool) (w : World) (hl : Lim w) (hst : Str w) (ha : ShipAt w s m) :
    Calls Tryz.prog 3 #[.agg (shipA s m), .agg (iceV x), .agg (cellV lo hi), .int .i64 v, .bool ch] w fun e w' => e = .returned (.bool true) ∧ Below w.heap.size w w' := by
  obtain ⟨n1, x1, hR1⟩ := e3R s x v ch
  obtain ⟨n2, x2, hR2⟩ := e3M s x v ch
  obtain ⟨n3, x3, hR3⟩ := e3S s x ch
  obtain ⟨n4, x4, hR4⟩ := e3L x v ch
  obtain ⟨n5, x5, hR5⟩ := e3B s x v ch
  obtain ⟨n6, o6, e6, hR6⟩ := e3Ss s lo hi ch
  obtain ⟨n7, o7, e7, hR7⟩ := e3Be s lo hi ch
  obtain ⟨n8, o8, e8, hR8⟩ := e3By s lo hi v ch
  obtain ⟨n9, e9, hR9⟩ := e3Sa s lo hi ch
  have HR1 := Lib.hid hR1
  have HR2 := Lib.hid hR2
  have HR3 := Lib.hid hR3
  have HR4 := Lib.hid hR4
  have HR5 := Lib.hid hR5
  have HR6 := Lib.hid hR6
  have HR7 := Lib.hid hR7
  have HR8 := Lib.hid hR8
  have HR9 := Lib.hid hR9
  clear hR1 hR2 hR3 hR4 hR5 hR6 hR7 hR8 hR9
  have HLM := Lib.hid hl
  have HST := Lib.hid hst
  have hpos := hl.pos
  have hpos1 := hst.pos
  obtain ⟨t0, t1, t2, hz, hbl⟩ := three_allocs w (.cells (shipA s m) 24) (.cells (iceV x) 26) (.cells (cellV lo hi) 30)
  have HB := Lib.hid hbl
  have HK5 := Lib.hid t0
  have HK6 := Lib.hid t1
  have HK7 := Lib.hid t2
  have HS := Lib.hid (ha.later hbl)
  clear hl hst ha t0 t1 t2 hbl hz
  obtain ⟨c0, c1, c2, c3, c4, c5, c6, c7, c8, c9, c10⟩ := cells11 HK5.out
  obtain ⟨⟨d0, d1, d2, d3⟩, _⟩ := cells4 HK6.out
  obtain ⟨⟨g0, g1, g2, g3, g4, g5, g6, g7⟩, _⟩ := cells8 HK7.out
  go_enter Tryz.func3, Tryz.ntmps3
  go_wp2_with fail
  generalize ((w.alloc (.cells (shipA s m) 24)).alloc (.cells (iceV x) 26)).alloc (.cells (cellV lo hi) 30) = X at *
  refine (heavy_any s m X).mono ?_
  rintro e V1 ⟨rfl, hb⟩
  clear c0 c1 c2 c3 c4 c5 c6 c7 c8 c9 c10 d0 d1 d2 d3 g0 g1 g2 g3 g4 g5 g6 g7
  replace HK5 := Lib.hid ((hb.block _ (lt_of_block HK5.out)).trans HK5.out)
  replace HK6 := Lib.hid ((hb.block _ (lt_of_block HK6.out)).trans HK6.out)
  replace HK7 := Lib.hid ((hb.block _ (lt_of_block HK7.out)).trans HK7.out)
  replace HS := Lib.hid (HS.out.later hb)
  replace HB := Lib.hid (HB.out.trans (hb.mono HB.out.size))
  clear hb
  obtain ⟨c0, c1, c2, c3, c4, c5, c6, c7, c8, c9, c10⟩ := cells11 HK5.out
  obtain ⟨⟨d0, d1, d2, d3⟩, _⟩ := cells4 HK6.out
  obtain ⟨⟨g0, g1, g2, g3, g4, g5, g6, g7⟩, _⟩ := cells8 HK7.out
  generalize hv : heavyB s = hv1
  cases hv1 with
  | true =>
    clear hv
    go_wp2_with fail
    refine (awake_any V1 (HLM.out.below hpos HB.out) (HST.out.below hpos1 HB.out)).mono ?_
    rintro e We ⟨rfl, hb⟩
    have HBE := Lib.hid (HB.out.trans (hb.mono HB.out.size))
    clear hb
    go_wp2_with fail
    go_ret
    exact ⟨rfl, HBE.out⟩
  | false =>
    have hv2 := of_decide_eq_false hv
    have l1 : s.th.n ≤ 1000 := by omega
    have l2 : s.wa.n ≤ 1000 := by omega
    have l3 : s.ic.n ≤ 1000 := by omega
    have HN := Lib.hid (And.intro l1 (And.intro l2 l3))
    replace HS := Lib.hid (HS.out.ship l1 l2 l3)
    clear hv hv2 l1 l2 l3
    go_wp2_with fail
    refine wp_region_fi [30, 31, 32, 33, 34, 35, 11, 12, 13, 14, 1000, 1001, 1002, 1003] (spF3 s m x lo hi) (SpI V1 s) (by kernel_rfl) (by kernel_rfl) ?sz ?ts ?z ?val ?fin
    case sz => intro s hs h; simp at hs ⊢; omega
    case ts => simp
    case z => exact ⟨below_drawn V1, (fun _ _ e => by cases e), (fun _ _ _ e => by cases e), (fun _ _ _ _ _ _ _ e => by cases e), (fun _ _ _ e => by cases e)⟩
    case val =>
      intro jj
      match jj with
      | 0 => intro o L V ho hL hd a' W hX hfr hdp; obtain rfl := Option.some.inj ho; exact opx_of (op_load11 rfl (hfr 5 (by decide)) ((hX.low.block _ (lt_of_block HK5.out)).trans HK5.out)) fun W' hb => ⟨rfl, (hX.later hb).set 0 (.inl rfl) hL _⟩
      | 1 =>
        intro o L V ho hL hd a' W hX hfr hdp; obtain rfl := Option.some.inj ho
        refine opx_callu rfl (Dp (hdp 0 30 (by decide) rfl (by kernel_rfl)) id) eg11c ((CopyShip_new s m HN.out.1 HN.out.2.1 HN.out.2.2 W (HS.out.later hX.low)).mono ?_)
        rintro e W' ⟨m', rfl, hin, hnew, hb⟩
        exact ⟨_, rfl, trivial, (hX.later hb).made 1 (.inl rfl) hL hin (fun j h1 h2 e B q => hnew.off s (by obtain ⟨B', _, e1, _, e3, _⟩ := hX.bl j h1 h2 e; rw [e1] at q; cases q; exact lt_of_block e3))⟩
      | 2 => intro o L V ho hL hd a' W hX hfr hdp; obtain rfl := Option.some.inj ho; exact opx_of (op_load11 rfl (hfr 5 (by decide)) ((hX.low.block _ (lt_of_block HK5.out)).trans HK5.out)) fun W' hb => ⟨rfl, (hX.later hb).set 2 (.inr (.inl rfl)) hL _⟩
      | 3 =>
        intro o L V ho hL hd a' W hX hfr hdp; obtain rfl := Option.some.inj ho
        refine opx_callu rfl (Dp (hdp 2 32 (by decide) rfl (by kernel_rfl)) id) eg12c ((Ship_new s m HN.out.1 HN.out.2.1 HN.out.2.2 W (HS.out.later hX.low)).mono ?_)
        rintro e W' ⟨m', rfl, hin, hnew, hb⟩
        exact ⟨_, rfl, trivial, (hX.later hb).made 3 (.inr rfl) hL hin (fun j h1 h2 e B q => hnew.off s (by obtain ⟨B', _, e1, _, e3, _⟩ := hX.bl j h1 h2 e; rw [e1] at q; cases q; exact lt_of_block e3))⟩
      | 4 => intro o L V ho hL hd a' W hX hfr hdp; obtain rfl := Option.some.inj ho; exact opx_of (op_load4b rfl (hfr 6 (by decide)) ((hX.low.block _ (lt_of_block HK6.out)).trans HK6.out)) fun W' hb => ⟨rfl, (hX.later hb).set 4 (.inr (.inr (.inl rfl))) hL _⟩
      | 5 => intro o L V ho hL hd a' W hX hfr hdp; obtain rfl := Option.some.inj ho; exact opx_of (op_load8 rfl (hfr 7 (by decide)) ((hX.low.block _ (lt_of_block HK7.out)).trans HK7.out)) fun W' hb => ⟨rfl, (hX.later hb).set 5 (.inr (.inr (.inr rfl))) hL _⟩
      | 6 => intro o L V ho hL hd a' W hX hfr hdp; obtain rfl := Option.some.inj ho; exact opx_alloc24 rfl ⟨trivial, hX.alloc 6 (by decide) (by decide) hL _ rfl⟩
      | 7 => intro o L V ho hL hd a' W hX hfr hdp; obtain rfl := Option.some.inj ho; exact opx_alloc36 rfl ⟨trivial, hX.alloc 7 (by decide) (by decide) hL _ rfl⟩
      | 8 => intro o L V ho hL hd a' W hX hfr hdp; obtain rfl := Option.some.inj ho; exact opx_alloc38 rfl ⟨trivial, hX.alloc 8 (by decide) (by decide) hL _ rfl⟩
      | 9 => intro o L V ho hL hd a' W hX hfr hdp; obtain rfl := Option.some.inj ho; exact opx_alloc39 rfl ⟨trivial, hX.alloc 9 (by decide) (by decide) hL _ rfl⟩
      | 10 =>
        intro o L V ho hL hd a' W hX hfr hdp; obtain rfl := Option.some.inj ho
        have kb := hd 6 (by kernel_rfl)
        have ks := hd 1 (by kernel_rfl)
        obtain ⟨B, vs, e1, e2, e3, e4, _⟩ := hX.bl 6 (by decide) (by decide) kb
        obtain ⟨m1, g1, g2, g3⟩ := hX.sh 1 (by decide) ks
        obtain ⟨y0, y1, y2, y3, y4, y5, y6, y7, y8, y9, y10, rfl⟩ := arr11 e4
        exact opx_store24s rfl rfl ((hdp 6 11 (by decide) rfl (by kernel_rfl)).1.trans e1) ((hdp 1 31 (by decide) rfl (by kernel_rfl)).1.trans g1) e3 fun W' hb' hc => ⟨trivial, hX.store 6 (by decide) (by decide) kb ks e1 g1 rfl hb' hc _⟩
      | 11 =>
        intro o L V ho hL hd a' W hX hfr hdp; obtain rfl := Option.some.inj ho
        have kb := hd 7 (by kernel_rfl)
        have ks := hd 3 (by kernel_rfl)
        obtain ⟨B, vs, e1, e2, e3, e4, _⟩ := hX.bl 7 (by decide) (by decide) kb
        obtain ⟨m1, g1, g2, g3⟩ := hX.sh 3 (by decide) ks
        obtain ⟨y0, y1, y2, y3, y4, y5, y6, y7, y8, y9, y10, rfl⟩ := arr11 e4
        exact opx_store36s rfl rfl ((hdp 7 12 (by decide) rfl (by kernel_rfl)).1.trans e1) ((hdp 3 33 (by decide) rfl (by kernel_rfl)).1.trans g1) e3 fun W' hb' hc => ⟨trivial, hX.store 7 (by decide) (by decide) kb ks e1 g1 rfl hb' hc _⟩
      | 12 =>
        intro o L V ho hL hd a' W hX hfr hdp; obtain rfl := Option.some.inj ho
        have kb := hd 8 (by kernel_rfl)
        have ks := hd 4 (by kernel_rfl)
        obtain ⟨B, vs, e1, e2, e3, e4, _⟩ := hX.bl 8 (by decide) (by decide) kb
        obtain ⟨y0, y1, y2, y3, rfl⟩ := arr4 e4
        exact opx_store38s rfl rfl ((hdp 8 13 (by decide) rfl (by kernel_rfl)).1.trans e1) (Dp (hdp 4 34 (by decide) rfl (by kernel_rfl)) id) e3 fun W' hb' hc => ⟨trivial, hX.store 8 (by decide) (by decide) kb ks e1 (hdp 4 34 (by decide) rfl (by kernel_rfl)).2 rfl hb' hc _⟩
      | 13 =>
        intro o L V ho hL hd a' W hX hfr hdp; obtain rfl := Option.some.inj ho
        have kb := hd 9 (by kernel_rfl)
        have ks := hd 5 (by kernel_rfl)
        obtain ⟨B, vs, e1, e2, e3, e4, _⟩ := hX.bl 9 (by decide) (by decide) kb
        obtain ⟨y0, y1, y2, y3, y4, y5, y6, y7, rfl⟩ := arr8 e4
        exact opx_store39s rfl rfl ((hdp 9 14 (by decide) rfl (by kernel_rfl)).1.trans e1) (Dp (hdp 5 35 (by decide) rfl (by kernel_rfl)) id) e3 fun W' hb' hc => ⟨trivial, hX.store 9 (by decide) (by decide) kb ks e1 (hdp 5 35 (by decide) rfl (by kernel_rfl)).2 rfl hb' hc _⟩
      | j + 14 => intro o L V ho; simp at ho
    case fin =>
      intro W1 L V hL hF hI
      obtain ⟨m1, g1, g2, g3⟩ := hI.sh 1 (.inl rfl) (hL 1 (by decide))
      obtain ⟨m2, r1, r2, r3⟩ := hI.sh 3 (.inr rfl) (hL 3 (by decide))
      have i4 : V 4 = .agg (iceV x) := hF 4 (by decide)
      have i5 : V 5 = .agg (cellV lo hi) := hF 5 (by decide)
      obtain ⟨P11, vs1, e1, _, e3, _, e4⟩ := hI.bl 6 (by decide) (by decide) (hL 6 (by decide))
      obtain ⟨P12, vs2, f1, _, f3, _, f4⟩ := hI.bl 7 (by decide) (by decide) (hL 7 (by decide))
      obtain ⟨P13, vs3, a1, _, a3, _, a4⟩ := hI.bl 8 (by decide) (by decide) (hL 8 (by decide))
      obtain ⟨P14, vs4, b1, _, b3, _, b4⟩ := hI.bl 9 (by decide) (by decide) (hL 9 (by decide))
      have e5 := g1.symm.trans (e4 (hL 10 (by decide)))
      have f5 := r1.symm.trans (f4 (hL 11 (by decide)))
      have a5 := i4.symm.trans (a4 (hL 12 (by decide)))
      have b5 := i5.symm.trans (b4 (hL 13 (by decide)))
      rw [← Value.agg.inj e5] at e3
      rw [← Value.agg.inj f5] at f3
      rw [← Value.agg.inj a5] at a3
      rw [← Value.agg.inj b5] at b3
      have HK11 := Lib.hid (show W1.heap[P11]? = some (.cells (shipA s m1) 24 (0, 0)) from e3)
      have HK12 := Lib.hid (show W1.heap[P12]? = some (.cells (shipA s m2) 36 (0, 0)) from f3)
      have HK13 := Lib.hid (show W1.heap[P13]? = some (.cells (iceV x) 38 (0, 0)) from a3)
      have HK14 := Lib.hid (show W1.heap[P14]? = some (.cells (cellV lo hi) 39 (0, 0)) from b3)
      have HTa := Lib.hid g2
      have HTb := Lib.hid r2
      have hb := hI.low
      clear g3 r3
      clear e3 f3 a3 b3 g2 r2 e4 f4 a4 b4 e5 f5 a5 b5 hL hF hI
      clear c0 c1 c2 c3 c4 c5 c6 c7 c8 c9 c10 d0 d1 d2 d3 g0 g1 g2 g3 g4 g5 g6 g7
      replace HK5 := Lib.hid ((hb.block _ (lt_of_block HK5.out)).trans HK5.out)
      replace HK6 := Lib.hid ((hb.block _ (lt_of_block HK6.out)).trans HK6.out)
      replace HK7 := Lib.hid ((hb.block _ (lt_of_block HK7.out)).trans HK7.out)
      replace HS := Lib.hid (HS.out.later hb)
      replace HB := Lib.hid (HB.out.trans (hb.mono HB.out.size))
      clear hb
      simp only [fill, Act.put, List.setIfInBounds_toArray, List.set_cons_zero, List.set_cons_succ, Nat.reduceAdd]
      rw [e1, f1, a1, b1]
      generalize V 0 = v0, V 1 = v1, V 2 = v2, V 3 = v3, V 4 = v4, V 5 = v5, V 10 = v10, V 11 = v11, V 12 = v12, V 13 = v13 at *
      clear e1 f1 a1 b1 g1 r1 i4 i5 V
      obtain ⟨c0, c1, c2, c3, c4, c5, c6, c7, c8, c9, c10⟩ := cells11 HK5.out
      obtain ⟨⟨d0, d1, d2, d3⟩, _⟩ := cells4 HK6.out
      obtain ⟨⟨g0, g1, g2, g3, g4, g5, g6, g7⟩, _⟩ := cells8 HK7.out
      obtain ⟨p0, p1, p2, p3, p4, p5, p6, p7, p8, p9, p10⟩ := cells11 HK11.out
      obtain ⟨q0, q1, q2, q3, q4, q5, q6, q7, q8, q9, q10⟩ := cells11 HK12.out
      obtain ⟨⟨r0, r1, r2, r3⟩, _⟩ := cells4 HK13.out
      obtain ⟨⟨z0, z1, z2, z3, z4, z5, z6, z7⟩, _⟩ := cells8 HK14.out
      go_wp2_with fail
      refine (Resistance_any s m1 x v ch _ HTa.out (HLM.out.below hpos HB.out)).mono ?_
      rw [HR1.out]
      rintro e U1 ⟨rfl, hb⟩
      clear c0 c1 c2 c3 c4 c5 c6 c7 c8 c9 c10 d0 d1 d2 d3 g0 g1 g2 g3 g4 g5 g6 g7 p0 p1 p2 p3 p4 p5 p6 p7 p8 p9 p10 q0 q1 q2 q3 q4 q5 q6 q7 q8 q9 q10 r0 r1 r2 r3 z0 z1 z2 z3 z4 z5 z6 z7
      replace HK5 := Lib.hid ((hb.block _ (lt_of_block HK5.out)).trans HK5.out)
      replace HK6 := Lib.hid ((hb.block _ (lt_of_block HK6.out)).trans HK6.out)
      replace HK7 := Lib.hid ((hb.block _ (lt_of_block HK7.out)).trans HK7.out)
      replace HK11 := Lib.hid ((hb.block _ (lt_of_block HK11.out)).trans HK11.out)
      replace HK12 := Lib.hid ((hb.block _ (lt_of_block HK12.out)).trans HK12.out)
      replace HK13 := Lib.hid ((hb.block _ (lt_of_block HK13.out)).trans HK13.out)
      replace HK14 := Lib.hid ((hb.block _ (lt_of_block HK14.out)).trans HK14.out)
      replace HS := Lib.hid (HS.out.later hb)
      replace HB := Lib.hid (HB.out.trans (hb.mono HB.out.size))
      replace HTa := Lib.hid (HTa.out.later hb)
      replace HTb := Lib.hid (HTb.out.later hb)
      clear hb
      obtain ⟨c0, c1, c2, c3, c4, c5, c6, c7, c8, c9, c10⟩ := cells11 HK5.out
      obtain ⟨⟨d0, d1, d2, d3⟩, _⟩ := cells4 HK6.out
      obtain ⟨⟨g0, g1, g2, g3, g4, g5, g6, g7⟩, _⟩ := cells8 HK7.out
      obtain ⟨p0, p1, p2, p3, p4, p5, p6, p7, p8, p9, p10⟩ := cells11 HK11.out
      obtain ⟨q0, q1, q2, q3, q4, q5, q6, q7, q8, q9, q10⟩ := cells11 HK12.out
      obtain ⟨⟨r0, r1, r2, r3⟩, _⟩ := cells4 HK13.out
      obtain ⟨⟨z0, z1, z2, z3, z4, z5, z6, z7⟩, _⟩ := cells8 HK14.out
      go_wp2_with fail
      refine (rResistance_any s m2 x v ch _ HTb.out).mono ?_
      rw [HR1.out]
      rintro e U2 ⟨rfl, hb⟩
      clear c0 c1 c2 c3 c4 c5 c6 c7 c8 c9 c10 d0 d1 d2 d3 g0 g1 g2 g3 g4 g5 g6 g7 p0 p1 p2 p3 p4 p5 p6 p7 p8 p9 p10 q0 q1 q2 q3 q4 q5 q6 q7 q8 q9 q10 r0 r1 r2 r3 z0 z1 z2 z3 z4 z5 z6 z7
      replace HK5 := Lib.hid ((hb.block _ (lt_of_block HK5.out)).trans HK5.out)
      replace HK6 := Lib.hid ((hb.block _ (lt_of_block HK6.out)).trans HK6.out)
      replace HK7 := Lib.hid ((hb.block _ (lt_of_block HK7.out)).trans HK7.out)
      replace HK11 := Lib.hid ((hb.block _ (lt_of_block HK11.out)).trans HK11.out)
      replace HK12 := Lib.hid ((hb.block _ (lt_of_block HK12.out)).trans HK12.out)
      replace HK13 := Lib.hid ((hb.block _ (lt_of_block HK13.out)).trans HK13.out)
      replace HK14 := Lib.hid ((hb.block _ (lt_of_block HK14.out)).trans HK14.out)
      replace HS := Lib.hid (HS.out.later hb)
      replace HB := Lib.hid (HB.out.trans (hb.mono HB.out.size))
      replace HTa := Lib.hid (HTa.out.later hb)
      replace HTb := Lib.hid (HTb.out.later hb)
      clear hb
      obtain ⟨c0, c1, c2, c3, c4, c5, c6, c7, c8, c9, c10⟩ := cells11 HK5.out
      obtain ⟨⟨d0, d1, d2, d3⟩, _⟩ := cells4 HK6.out
      obtain ⟨⟨g0, g1, g2, g3, g4, g5, g6, g7⟩, _⟩ := cells8 HK7.out
      obtain ⟨p0, p1, p2, p3, p4, p5, p6, p7, p8, p9, p10⟩ := cells11 HK11.out
      obtain ⟨q0, q1, q2, q3, q4, q5, q6, q7, q8, q9, q10⟩ := cells11 HK12.out
      obtain ⟨⟨r0, r1, r2, r3⟩, _⟩ := cells4 HK13.out
      obtain ⟨⟨z0, z1, z2, z3, z4, z5, z6, z7⟩, _⟩ := cells8 HK14.out
      go_wp2_with fail
      refine (Makes_any s m1 x v ch _ HTa.out (HLM.out.below hpos HB.out)).mono ?_
      rw [HR2.out]
      rintro e U3 ⟨rfl, hb⟩
      clear c0 c1 c2 c3 c4 c5 c6 c7 c8 c9 c10 d0 d1 d2 d3 g0 g1 g2 g3 g4 g5 g6 g7 p0 p1 p2 p3 p4 p5 p6 p7 p8 p9 p10 q0 q1 q2 q3 q4 q5 q6 q7 q8 q9 q10 r0 r1 r2 r3 z0 z1 z2 z3 z4 z5 z6 z7
      replace HK5 := Lib.hid ((hb.block _ (lt_of_block HK5.out)).trans HK5.out)
      replace HK6 := Lib.hid ((hb.block _ (lt_of_block HK6.out)).trans HK6.out)
      replace HK7 := Lib.hid ((hb.block _ (lt_of_block HK7.out)).trans HK7.out)
      replace HK11 := Lib.hid ((hb.block _ (lt_of_block HK11.out)).trans HK11.out)
      replace HK12 := Lib.hid ((hb.block _ (lt_of_block HK12.out)).trans HK12.out)
      replace HK13 := Lib.hid ((hb.block _ (lt_of_block HK13.out)).trans HK13.out)
      replace HK14 := Lib.hid ((hb.block _ (lt_of_block HK14.out)).trans HK14.out)
      replace HS := Lib.hid (HS.out.later hb)
      replace HB := Lib.hid (HB.out.trans (hb.mono HB.out.size))
      replace HTa := Lib.hid (HTa.out.later hb)
      replace HTb := Lib.hid (HTb.out.later hb)
      clear hb
      obtain ⟨c0, c1, c2, c3, c4, c5, c6, c7, c8, c9, c10⟩ := cells11 HK5.out
      obtain ⟨⟨d0, d1, d2, d3⟩, _⟩ := cells4 HK6.out
      obtain ⟨⟨g0, g1, g2, g3, g4, g5, g6, g7⟩, _⟩ := cells8 HK7.out
      obtain ⟨p0, p1, p2, p3, p4, p5, p6, p7, p8, p9, p10⟩ := cells11 HK11.out
      obtain ⟨q0, q1, q2, q3, q4, q5, q6, q7, q8, q9, q10⟩ := cells11 HK12.out
      obtain ⟨⟨r0, r1, r2, r3⟩, _⟩ := cells4 HK13.out
      obtain ⟨⟨z0, z1, z2, z3, z4, z5, z6, z7⟩, _⟩ := cells8 HK14.out
      go_wp2_with fail
      refine (rMakes_any s m2 x v ch _ HTb.out).mono ?_
      rw [HR2.out]
      rintro e U4 ⟨rfl, hb⟩
      clear c0 c1 c2 c3 c4 c5 c6 c7 c8 c9 c10 d0 d1 d2 d3 g0 g1 g2 g3 g4 g5 g6 g7 p0 p1 p2 p3 p4 p5 p6 p7 p8 p9 p10 q0 q1 q2 q3 q4 q5 q6 q7 q8 q9 q10 r0 r1 r2 r3 z0 z1 z2 z3 z4 z5 z6 z7
      replace HK5 := Lib.hid ((hb.block _ (lt_of_block HK5.out)).trans HK5.out)
      replace HK6 := Lib.hid ((hb.block _ (lt_of_block HK6.out)).trans HK6.out)
      replace HK7 := Lib.hid ((hb.block _ (lt_of_block HK7.out)).trans HK7.out)
      replace HK11 := Lib.hid ((hb.block _ (lt_of_block HK11.out)).trans HK11.out)
      replace HK12 := Lib.hid ((hb.block _ (lt_of_block HK12.out)).trans HK12.out)
      replace HK13 := Lib.hid ((hb.block _ (lt_of_block HK13.out)).trans HK13.out)
      replace HK14 := Lib.hid ((hb.block _ (lt_of_block HK14.out)).trans HK14.out)
      replace HS := Lib.hid (HS.out.later hb)
      replace HB := Lib.hid (HB.out.trans (hb.mono HB.out.size))
      replace HTa := Lib.hid (HTa.out.later hb)
      replace HTb := Lib.hid (HTb.out.later hb)
      clear hb
      obtain ⟨c0, c1, c2, c3, c4, c5, c6, c7, c8, c9, c10⟩ := cells11 HK5.out
      obtain ⟨⟨d0, d1, d2, d3⟩, _⟩ := cells4 HK6.out
      obtain ⟨⟨g0, g1, g2, g3, g4, g5, g6, g7⟩, _⟩ := cells8 HK7.out
      obtain ⟨p0, p1, p2, p3, p4, p5, p6, p7, p8, p9, p10⟩ := cells11 HK11.out
      obtain ⟨q0, q1, q2, q3, q4, q5, q6, q7, q8, q9, q10⟩ := cells11 HK12.out
      obtain ⟨⟨r0, r1, r2, r3⟩, _⟩ := cells4 HK13.out
      obtain ⟨⟨z0, z1, z2, z3, z4, z5, z6, z7⟩, _⟩ := cells8 HK14.out
      go_wp2_with fail
      refine (Speed_any s m1 x ch _ HTa.out (HLM.out.below hpos HB.out)).mono ?_
      rw [HR3.out]
      rintro e U5 ⟨rfl, hb⟩
      clear c0 c1 c2 c3 c4 c5 c6 c7 c8 c9 c10 d0 d1 d2 d3 g0 g1 g2 g3 g4 g5 g6 g7 p0 p1 p2 p3 p4 p5 p6 p7 p8 p9 p10 q0 q1 q2 q3 q4 q5 q6 q7 q8 q9 q10 r0 r1 r2 r3 z0 z1 z2 z3 z4 z5 z6 z7
      replace HK5 := Lib.hid ((hb.block _ (lt_of_block HK5.out)).trans HK5.out)
      replace HK6 := Lib.hid ((hb.block _ (lt_of_block HK6.out)).trans HK6.out)
      replace HK7 := Lib.hid ((hb.block _ (lt_of_block HK7.out)).trans HK7.out)
      replace HK11 := Lib.hid ((hb.block _ (lt_of_block HK11.out)).trans HK11.out)
      replace HK12 := Lib.hid ((hb.block _ (lt_of_block HK12.out)).trans HK12.out)
      replace HK13 := Lib.hid ((hb.block _ (lt_of_block HK13.out)).trans HK13.out)
      replace HK14 := Lib.hid ((hb.block _ (lt_of_block HK14.out)).trans HK14.out)
      replace HS := Lib.hid (HS.out.later hb)
      replace HB := Lib.hid (HB.out.trans (hb.mono HB.out.size))
      replace HTa := Lib.hid (HTa.out.later hb)
      replace HTb := Lib.hid (HTb.out.later hb)
      clear hb
      obtain ⟨c0, c1, c2, c3, c4, c5, c6, c7, c8, c9, c10⟩ := cells11 HK5.out
      obtain ⟨⟨d0, d1, d2, d3⟩, _⟩ := cells4 HK6.out
      obtain ⟨⟨g0, g1, g2, g3, g4, g5, g6, g7⟩, _⟩ := cells8 HK7.out
      obtain ⟨p0, p1, p2, p3, p4, p5, p6, p7, p8, p9, p10⟩ := cells11 HK11.out
      obtain ⟨q0, q1, q2, q3, q4, q5, q6, q7, q8, q9, q10⟩ := cells11 HK12.out
      obtain ⟨⟨r0, r1, r2, r3⟩, _⟩ := cells4 HK13.out
      obtain ⟨⟨z0, z1, z2, z3, z4, z5, z6, z7⟩, _⟩ := cells8 HK14.out
      go_wp2_with fail
      refine (rSpeed_any s m2 x ch _ HTb.out).mono ?_
      rw [HR3.out]
      rintro e U6 ⟨rfl, hb⟩
      clear c0 c1 c2 c3 c4 c5 c6 c7 c8 c9 c10 d0 d1 d2 d3 g0 g1 g2 g3 g4 g5 g6 g7 p0 p1 p2 p3 p4 p5 p6 p7 p8 p9 p10 q0 q1 q2 q3 q4 q5 q6 q7 q8 q9 q10 r0 r1 r2 r3 z0 z1 z2 z3 z4 z5 z6 z7
      replace HK5 := Lib.hid ((hb.block _ (lt_of_block HK5.out)).trans HK5.out)
      replace HK6 := Lib.hid ((hb.block _ (lt_of_block HK6.out)).trans HK6.out)
      replace HK7 := Lib.hid ((hb.block _ (lt_of_block HK7.out)).trans HK7.out)
      replace HK11 := Lib.hid ((hb.block _ (lt_of_block HK11.out)).trans HK11.out)
      replace HK12 := Lib.hid ((hb.block _ (lt_of_block HK12.out)).trans HK12.out)
      replace HK13 := Lib.hid ((hb.block _ (lt_of_block HK13.out)).trans HK13.out)
      replace HK14 := Lib.hid ((hb.block _ (lt_of_block HK14.out)).trans HK14.out)
      replace HS := Lib.hid (HS.out.later hb)
      replace HB := Lib.hid (HB.out.trans (hb.mono HB.out.size))
      replace HTa := Lib.hid (HTa.out.later hb)
      replace HTb := Lib.hid (HTb.out.later hb)
      clear hb
      obtain ⟨c0, c1, c2, c3, c4, c5, c6, c7, c8, c9, c10⟩ := cells11 HK5.out
      obtain ⟨⟨d0, d1, d2, d3⟩, _⟩ := cells4 HK6.out
      obtain ⟨⟨g0, g1, g2, g3, g4, g5, g6, g7⟩, _⟩ := cells8 HK7.out
      obtain ⟨p0, p1, p2, p3, p4, p5, p6, p7, p8, p9, p10⟩ := cells11 HK11.out
      obtain ⟨q0, q1, q2, q3, q4, q5, q6, q7, q8, q9, q10⟩ := cells11 HK12.out
      obtain ⟨⟨r0, r1, r2, r3⟩, _⟩ := cells4 HK13.out
      obtain ⟨⟨z0, z1, z2, z3, z4, z5, z6, z7⟩, _⟩ := cells8 HK14.out
      go_wp2_with fail
      refine (Load_any x v ch _ (HLM.out.below hpos HB.out)).mono ?_
      rw [HR4.out]
      rintro e U7 ⟨rfl, hb⟩
      clear c0 c1 c2 c3 c4 c5 c6 c7 c8 c9 c10 d0 d1 d2 d3 g0 g1 g2 g3 g4 g5 g6 g7 p0 p1 p2 p3 p4 p5 p6 p7 p8 p9 p10 q0 q1 q2 q3 q4 q5 q6 q7 q8 q9 q10 r0 r1 r2 r3 z0 z1 z2 z3 z4 z5 z6 z7
      replace HK5 := Lib.hid ((hb.block _ (lt_of_block HK5.out)).trans HK5.out)
      replace HK6 := Lib.hid ((hb.block _ (lt_of_block HK6.out)).trans HK6.out)
      replace HK7 := Lib.hid ((hb.block _ (lt_of_block HK7.out)).trans HK7.out)
      replace HK11 := Lib.hid ((hb.block _ (lt_of_block HK11.out)).trans HK11.out)
      replace HK12 := Lib.hid ((hb.block _ (lt_of_block HK12.out)).trans HK12.out)
      replace HK13 := Lib.hid ((hb.block _ (lt_of_block HK13.out)).trans HK13.out)
      replace HK14 := Lib.hid ((hb.block _ (lt_of_block HK14.out)).trans HK14.out)
      replace HS := Lib.hid (HS.out.later hb)
      replace HB := Lib.hid (HB.out.trans (hb.mono HB.out.size))
      replace HTa := Lib.hid (HTa.out.later hb)
      replace HTb := Lib.hid (HTb.out.later hb)
      clear hb
      obtain ⟨c0, c1, c2, c3, c4, c5, c6, c7, c8, c9, c10⟩ := cells11 HK5.out
      obtain ⟨⟨d0, d1, d2, d3⟩, _⟩ := cells4 HK6.out
      obtain ⟨⟨g0, g1, g2, g3, g4, g5, g6, g7⟩, _⟩ := cells8 HK7.out
      obtain ⟨p0, p1, p2, p3, p4, p5, p6, p7, p8, p9, p10⟩ := cells11 HK11.out
      obtain ⟨q0, q1, q2, q3, q4, q5, q6, q7, q8, q9, q10⟩ := cells11 HK12.out
      obtain ⟨⟨r0, r1, r2, r3⟩, _⟩ := cells4 HK13.out
      obtain ⟨⟨z0, z1, z2, z3, z4, z5, z6, z7⟩, _⟩ := cells8 HK14.out
      go_wp2_with fail
      refine (rLoad_any x v ch _).mono ?_
      rw [HR4.out]
      rintro e U8 ⟨rfl, hb⟩
      clear c0 c1 c2 c3 c4 c5 c6 c7 c8 c9 c10 d0 d1 d2 d3 g0 g1 g2 g3 g4 g5 g6 g7 p0 p1 p2 p3 p4 p5 p6 p7 p8 p9 p10 q0 q1 q2 q3 q4 q5 q6 q7 q8 q9 q10 r0 r1 r2 r3 z0 z1 z2 z3 z4 z5 z6 z7
      replace HK5 := Lib.hid ((hb.block _ (lt_of_block HK5.out)).trans HK5.out)
      replace HK6 := Lib.hid ((hb.block _ (lt_of_block HK6.out)).trans HK6.out)
      replace HK7 := Lib.hid ((hb.block _ (lt_of_block HK7.out)).trans HK7.out)
      replace HK11 := Lib.hid ((hb.block _ (lt_of_block HK11.out)).trans HK11.out)
      replace HK12 := Lib.hid ((hb.block _ (lt_of_block HK12.out)).trans HK12.out)
      replace HK13 := Lib.hid ((hb.block _ (lt_of_block HK13.out)).trans HK13.out)
      replace HK14 := Lib.hid ((hb.block _ (lt_of_block HK14.out)).trans HK14.out)
      replace HS := Lib.hid (HS.out.later hb)
      replace HB := Lib.hid (HB.out.trans (hb.mono HB.out.size))
      replace HTa := Lib.hid (HTa.out.later hb)
      replace HTb := Lib.hid (HTb.out.later hb)
      clear hb
      obtain ⟨c0, c1, c2, c3, c4, c5, c6, c7, c8, c9, c10⟩ := cells11 HK5.out
      obtain ⟨⟨d0, d1, d2, d3⟩, _⟩ := cells4 HK6.out
      obtain ⟨⟨g0, g1, g2, g3, g4, g5, g6, g7⟩, _⟩ := cells8 HK7.out
      obtain ⟨p0, p1, p2, p3, p4, p5, p6, p7, p8, p9, p10⟩ := cells11 HK11.out
      obtain ⟨q0, q1, q2, q3, q4, q5, q6, q7, q8, q9, q10⟩ := cells11 HK12.out
      obtain ⟨⟨r0, r1, r2, r3⟩, _⟩ := cells4 HK13.out
      obtain ⟨⟨z0, z1, z2, z3, z4, z5, z6, z7⟩, _⟩ := cells8 HK14.out
      go_wp2_with fail
      refine (Burn_any s m1 x v ch _ HTa.out (HLM.out.below hpos HB.out)).mono ?_
      rw [HR5.out]
      rintro e U9 ⟨rfl, hb⟩
      clear c0 c1 c2 c3 c4 c5 c6 c7 c8 c9 c10 d0 d1 d2 d3 g0 g1 g2 g3 g4 g5 g6 g7 p0 p1 p2 p3 p4 p5 p6 p7 p8 p9 p10 q0 q1 q2 q3 q4 q5 q6 q7 q8 q9 q10 r0 r1 r2 r3 z0 z1 z2 z3 z4 z5 z6 z7
      replace HK5 := Lib.hid ((hb.block _ (lt_of_block HK5.out)).trans HK5.out)
      replace HK6 := Lib.hid ((hb.block _ (lt_of_block HK6.out)).trans HK6.out)
      replace HK7 := Lib.hid ((hb.block _ (lt_of_block HK7.out)).trans HK7.out)
      replace HK11 := Lib.hid ((hb.block _ (lt_of_block HK11.out)).trans HK11.out)
      replace HK12 := Lib.hid ((hb.block _ (lt_of_block HK12.out)).trans HK12.out)
      replace HK13 := Lib.hid ((hb.block _ (lt_of_block HK13.out)).trans HK13.out)
      replace HK14 := Lib.hid ((hb.block _ (lt_of_block HK14.out)).trans HK14.out)
      replace HS := Lib.hid (HS.out.later hb)
      replace HB := Lib.hid (HB.out.trans (hb.mono HB.out.size))
      replace HTa := Lib.hid (HTa.out.later hb)
      replace HTb := Lib.hid (HTb.out.later hb)
      clear hb
      obtain ⟨c0, c1, c2, c3, c4, c5, c6, c7, c8, c9, c10⟩ := cells11 HK5.out
      obtain ⟨⟨d0, d1, d2, d3⟩, _⟩ := cells4 HK6.out
      obtain ⟨⟨g0, g1, g2, g3, g4, g5, g6, g7⟩, _⟩ := cells8 HK7.out
      obtain ⟨p0, p1, p2, p3, p4, p5, p6, p7, p8, p9, p10⟩ := cells11 HK11.out
      obtain ⟨q0, q1, q2, q3, q4, q5, q6, q7, q8, q9, q10⟩ := cells11 HK12.out
      obtain ⟨⟨r0, r1, r2, r3⟩, _⟩ := cells4 HK13.out
      obtain ⟨⟨z0, z1, z2, z3, z4, z5, z6, z7⟩, _⟩ := cells8 HK14.out
      go_wp2_with fail
      refine (rBurn_any s m2 x v ch _ HTb.out).mono ?_
      rw [HR5.out]
      rintro e U10 ⟨rfl, hb⟩
      clear c0 c1 c2 c3 c4 c5 c6 c7 c8 c9 c10 d0 d1 d2 d3 g0 g1 g2 g3 g4 g5 g6 g7 p0 p1 p2 p3 p4 p5 p6 p7 p8 p9 p10 q0 q1 q2 q3 q4 q5 q6 q7 q8 q9 q10 r0 r1 r2 r3 z0 z1 z2 z3 z4 z5 z6 z7
      replace HK5 := Lib.hid ((hb.block _ (lt_of_block HK5.out)).trans HK5.out)
      replace HK6 := Lib.hid ((hb.block _ (lt_of_block HK6.out)).trans HK6.out)
      replace HK7 := Lib.hid ((hb.block _ (lt_of_block HK7.out)).trans HK7.out)
      replace HK11 := Lib.hid ((hb.block _ (lt_of_block HK11.out)).trans HK11.out)
      replace HK12 := Lib.hid ((hb.block _ (lt_of_block HK12.out)).trans HK12.out)
      replace HK13 := Lib.hid ((hb.block _ (lt_of_block HK13.out)).trans HK13.out)
      replace HK14 := Lib.hid ((hb.block _ (lt_of_block HK14.out)).trans HK14.out)
      replace HS := Lib.hid (HS.out.later hb)
      replace HB := Lib.hid (HB.out.trans (hb.mono HB.out.size))
      replace HTa := Lib.hid (HTa.out.later hb)
      replace HTb := Lib.hid (HTb.out.later hb)
      clear hb
      obtain ⟨c0, c1, c2, c3, c4, c5, c6, c7, c8, c9, c10⟩ := cells11 HK5.out
      obtain ⟨⟨d0, d1, d2, d3⟩, _⟩ := cells4 HK6.out
      obtain ⟨⟨g0, g1, g2, g3, g4, g5, g6, g7⟩, _⟩ := cells8 HK7.out
      obtain ⟨p0, p1, p2, p3, p4, p5, p6, p7, p8, p9, p10⟩ := cells11 HK11.out
      obtain ⟨q0, q1, q2, q3, q4, q5, q6, q7, q8, q9, q10⟩ := cells11 HK12.out
      obtain ⟨⟨r0, r1, r2, r3⟩, _⟩ := cells4 HK13.out
      obtain ⟨⟨z0, z1, z2, z3, z4, z5, z6, z7⟩, _⟩ := cells8 HK14.out
      go_wp2_with fail
      refine (Speeds_any s m1 lo hi ch _ HTa.out (HLM.out.below hpos HB.out)).mono ?_
      rw [HR6.out]
      rintro e U11 ⟨rfl, hb⟩
      clear c0 c1 c2 c3 c4 c5 c6 c7 c8 c9 c10 d0 d1 d2 d3 g0 g1 g2 g3 g4 g5 g6 g7 p0 p1 p2 p3 p4 p5 p6 p7 p8 p9 p10 q0 q1 q2 q3 q4 q5 q6 q7 q8 q9 q10 r0 r1 r2 r3 z0 z1 z2 z3 z4 z5 z6 z7
      replace HK5 := Lib.hid ((hb.block _ (lt_of_block HK5.out)).trans HK5.out)
      replace HK6 := Lib.hid ((hb.block _ (lt_of_block HK6.out)).trans HK6.out)
      replace HK7 := Lib.hid ((hb.block _ (lt_of_block HK7.out)).trans HK7.out)
      replace HK11 := Lib.hid ((hb.block _ (lt_of_block HK11.out)).trans HK11.out)
      replace HK12 := Lib.hid ((hb.block _ (lt_of_block HK12.out)).trans HK12.out)
      replace HK13 := Lib.hid ((hb.block _ (lt_of_block HK13.out)).trans HK13.out)
      replace HK14 := Lib.hid ((hb.block _ (lt_of_block HK14.out)).trans HK14.out)
      replace HS := Lib.hid (HS.out.later hb)
      replace HB := Lib.hid (HB.out.trans (hb.mono HB.out.size))
      replace HTa := Lib.hid (HTa.out.later hb)
      replace HTb := Lib.hid (HTb.out.later hb)
      clear hb
      obtain ⟨c0, c1, c2, c3, c4, c5, c6, c7, c8, c9, c10⟩ := cells11 HK5.out
      obtain ⟨⟨d0, d1, d2, d3⟩, _⟩ := cells4 HK6.out
      obtain ⟨⟨g0, g1, g2, g3, g4, g5, g6, g7⟩, _⟩ := cells8 HK7.out
      obtain ⟨p0, p1, p2, p3, p4, p5, p6, p7, p8, p9, p10⟩ := cells11 HK11.out
      obtain ⟨q0, q1, q2, q3, q4, q5, q6, q7, q8, q9, q10⟩ := cells11 HK12.out
      obtain ⟨⟨r0, r1, r2, r3⟩, _⟩ := cells4 HK13.out
      obtain ⟨⟨z0, z1, z2, z3, z4, z5, z6, z7⟩, _⟩ := cells8 HK14.out
      have hb := (Below.refl U11.heap.size U11).alloc (Nat.le_refl _) (.cells #[.int .i64 n6, .int .i64 o6] 28)
      have HK21 := Lib.hid (block_new U11 (.cells #[.int .i64 n6, .int .i64 o6] 28))
      clear c0 c1 c2 c3 c4 c5 c6 c7 c8 c9 c10 d0 d1 d2 d3 g0 g1 g2 g3 g4 g5 g6 g7 p0 p1 p2 p3 p4 p5 p6 p7 p8 p9 p10 q0 q1 q2 q3 q4 q5 q6 q7 q8 q9 q10 r0 r1 r2 r3 z0 z1 z2 z3 z4 z5 z6 z7
      replace HK5 := Lib.hid ((hb.block _ (lt_of_block HK5.out)).trans HK5.out)
      replace HK6 := Lib.hid ((hb.block _ (lt_of_block HK6.out)).trans HK6.out)
      replace HK7 := Lib.hid ((hb.block _ (lt_of_block HK7.out)).trans HK7.out)
      replace HK11 := Lib.hid ((hb.block _ (lt_of_block HK11.out)).trans HK11.out)
      replace HK12 := Lib.hid ((hb.block _ (lt_of_block HK12.out)).trans HK12.out)
      replace HK13 := Lib.hid ((hb.block _ (lt_of_block HK13.out)).trans HK13.out)
      replace HK14 := Lib.hid ((hb.block _ (lt_of_block HK14.out)).trans HK14.out)
      replace HS := Lib.hid (HS.out.later hb)
      replace HB := Lib.hid (HB.out.trans (hb.mono HB.out.size))
      replace HTa := Lib.hid (HTa.out.later hb)
      replace HTb := Lib.hid (HTb.out.later hb)
      clear hb
      obtain ⟨c0, c1, c2, c3, c4, c5, c6, c7, c8, c9, c10⟩ := cells11 HK5.out
      obtain ⟨⟨d0, d1, d2, d3⟩, _⟩ := cells4 HK6.out
      obtain ⟨⟨g0, g1, g2, g3, g4, g5, g6, g7⟩, _⟩ := cells8 HK7.out
      obtain ⟨p0, p1, p2, p3, p4, p5, p6, p7, p8, p9, p10⟩ := cells11 HK11.out
      obtain ⟨q0, q1, q2, q3, q4, q5, q6, q7, q8, q9, q10⟩ := cells11 HK12.out
      obtain ⟨⟨r0, r1, r2, r3⟩, _⟩ := cells4 HK13.out
      obtain ⟨⟨z0, z1, z2, z3, z4, z5, z6, z7⟩, _⟩ := cells8 HK14.out
      obtain ⟨⟨hk210, hk211⟩, _⟩ := cells2 HK21.out
      go_wp2_with fail
      generalize U11.alloc (.cells #[.int .i64 n6, .int .i64 o6] 28) = Y11 at *
      refine (rSpeeds_any s m2 lo hi ch _ HTb.out).mono ?_
      rw [HR6.out]
      rintro e U12 ⟨rfl, hb⟩
      clear c0 c1 c2 c3 c4 c5 c6 c7 c8 c9 c10 d0 d1 d2 d3 g0 g1 g2 g3 g4 g5 g6 g7 p0 p1 p2 p3 p4 p5 p6 p7 p8 p9 p10 q0 q1 q2 q3 q4 q5 q6 q7 q8 q9 q10 r0 r1 r2 r3 z0 z1 z2 z3 z4 z5 z6 z7 hk210 hk211
      replace HK5 := Lib.hid ((hb.block _ (lt_of_block HK5.out)).trans HK5.out)
      replace HK6 := Lib.hid ((hb.block _ (lt_of_block HK6.out)).trans HK6.out)
      replace HK7 := Lib.hid ((hb.block _ (lt_of_block HK7.out)).trans HK7.out)
      replace HK11 := Lib.hid ((hb.block _ (lt_of_block HK11.out)).trans HK11.out)
      replace HK12 := Lib.hid ((hb.block _ (lt_of_block HK12.out)).trans HK12.out)
      replace HK13 := Lib.hid ((hb.block _ (lt_of_block HK13.out)).trans HK13.out)
      replace HK14 := Lib.hid ((hb.block _ (lt_of_block HK14.out)).trans HK14.out)
      replace HK21 := Lib.hid ((hb.block _ (lt_of_block HK21.out)).trans HK21.out)
      replace HS := Lib.hid (HS.out.later hb)
      replace HB := Lib.hid (HB.out.trans (hb.mono HB.out.size))
      replace HTa := Lib.hid (HTa.out.later hb)
      replace HTb := Lib.hid (HTb.out.later hb)
      clear hb
      obtain ⟨c0, c1, c2, c3, c4, c5, c6, c7, c8, c9, c10⟩ := cells11 HK5.out
      obtain ⟨⟨d0, d1, d2, d3⟩, _⟩ := cells4 HK6.out
      obtain ⟨⟨g0, g1, g2, g3, g4, g5, g6, g7⟩, _⟩ := cells8 HK7.out
      obtain ⟨p0, p1, p2, p3, p4, p5, p6, p7, p8, p9, p10⟩ := cells11 HK11.out
      obtain ⟨q0, q1, q2, q3, q4, q5, q6, q7, q8, q9, q10⟩ := cells11 HK12.out
      obtain ⟨⟨r0, r1, r2, r3⟩, _⟩ := cells4 HK13.out
      obtain ⟨⟨z0, z1, z2, z3, z4, z5, z6, z7⟩, _⟩ := cells8 HK14.out
      obtain ⟨⟨hk210, hk211⟩, _⟩ := cells2 HK21.out
      have hb := (Below.refl U12.heap.size U12).alloc (Nat.le_refl _) (.cells #[.int .i64 n6, .int .i64 o6] 28)
      have HK22 := Lib.hid (block_new U12 (.cells #[.int .i64 n6, .int .i64 o6] 28))
      clear c0 c1 c2 c3 c4 c5 c6 c7 c8 c9 c10 d0 d1 d2 d3 g0 g1 g2 g3 g4 g5 g6 g7 p0 p1 p2 p3 p4 p5 p6 p7 p8 p9 p10 q0 q1 q2 q3 q4 q5 q6 q7 q8 q9 q10 r0 r1 r2 r3 z0 z1 z2 z3 z4 z5 z6 z7 hk210 hk211
      replace HK5 := Lib.hid ((hb.block _ (lt_of_block HK5.out)).trans HK5.out)
      replace HK6 := Lib.hid ((hb.block _ (lt_of_block HK6.out)).trans HK6.out)
      replace HK7 := Lib.hid ((hb.block _ (lt_of_block HK7.out)).trans HK7.out)
      replace HK11 := Lib.hid ((hb.block _ (lt_of_block HK11.out)).trans HK11.out)
      replace HK12 := Lib.hid ((hb.block _ (lt_of_block HK12.out)).trans HK12.out)
      replace HK13 := Lib.hid ((hb.block _ (lt_of_block HK13.out)).trans HK13.out)
      replace HK14 := Lib.hid ((hb.block _ (lt_of_block HK14.out)).trans HK14.out)
      replace HK21 := Lib.hid ((hb.block _ (lt_of_block HK21.out)).trans HK21.out)
      replace HS := Lib.hid (HS.out.later hb)
      replace HB := Lib.hid (HB.out.trans (hb.mono HB.out.size))
      replace HTa := Lib.hid (HTa.out.later hb)
      replace HTb := Lib.hid (HTb.out.later hb)
      clear hb
      obtain ⟨c0, c1, c2, c3, c4, c5, c6, c7, c8, c9, c10⟩ := cells11 HK5.out
      obtain ⟨⟨d0, d1, d2, d3⟩, _⟩ := cells4 HK6.out
      obtain ⟨⟨g0, g1, g2, g3, g4, g5, g6, g7⟩, _⟩ := cells8 HK7.out
      obtain ⟨p0, p1, p2, p3, p4, p5, p6, p7, p8, p9, p10⟩ := cells11 HK11.out
      obtain ⟨q0, q1, q2, q3, q4, q5, q6, q7, q8, q9, q10⟩ := cells11 HK12.out
      obtain ⟨⟨r0, r1, r2, r3⟩, _⟩ := cells4 HK13.out
      obtain ⟨⟨z0, z1, z2, z3, z4, z5, z6, z7⟩, _⟩ := cells8 HK14.out
      obtain ⟨⟨hk210, hk211⟩, _⟩ := cells2 HK21.out
      obtain ⟨⟨hk220, hk221⟩, _⟩ := cells2 HK22.out
      go_wp2_with fail
      generalize U12.alloc (.cells #[.int .i64 n6, .int .i64 o6] 28) = Y12 at *
      refine (Beset_any s m1 lo hi ch _ HTa.out (HLM.out.below hpos HB.out)).mono ?_
      rw [HR7.out]
      rintro e U13 ⟨rfl, hb⟩
      clear c0 c1 c2 c3 c4 c5 c6 c7 c8 c9 c10 d0 d1 d2 d3 g0 g1 g2 g3 g4 g5 g6 g7 p0 p1 p2 p3 p4 p5 p6 p7 p8 p9 p10 q0 q1 q2 q3 q4 q5 q6 q7 q8 q9 q10 r0 r1 r2 r3 z0 z1 z2 z3 z4 z5 z6 z7 hk210 hk211 hk220 hk221
      replace HK5 := Lib.hid ((hb.block _ (lt_of_block HK5.out)).trans HK5.out)
      replace HK6 := Lib.hid ((hb.block _ (lt_of_block HK6.out)).trans HK6.out)
      replace HK7 := Lib.hid ((hb.block _ (lt_of_block HK7.out)).trans HK7.out)
      replace HK11 := Lib.hid ((hb.block _ (lt_of_block HK11.out)).trans HK11.out)
      replace HK12 := Lib.hid ((hb.block _ (lt_of_block HK12.out)).trans HK12.out)
      replace HK13 := Lib.hid ((hb.block _ (lt_of_block HK13.out)).trans HK13.out)
      replace HK14 := Lib.hid ((hb.block _ (lt_of_block HK14.out)).trans HK14.out)
      replace HK21 := Lib.hid ((hb.block _ (lt_of_block HK21.out)).trans HK21.out)
      replace HK22 := Lib.hid ((hb.block _ (lt_of_block HK22.out)).trans HK22.out)
      replace HS := Lib.hid (HS.out.later hb)
      replace HB := Lib.hid (HB.out.trans (hb.mono HB.out.size))
      replace HTa := Lib.hid (HTa.out.later hb)
      replace HTb := Lib.hid (HTb.out.later hb)
      clear hb
      obtain ⟨c0, c1, c2, c3, c4, c5, c6, c7, c8, c9, c10⟩ := cells11 HK5.out
      obtain ⟨⟨d0, d1, d2, d3⟩, _⟩ := cells4 HK6.out
      obtain ⟨⟨g0, g1, g2, g3, g4, g5, g6, g7⟩, _⟩ := cells8 HK7.out
      obtain ⟨p0, p1, p2, p3, p4, p5, p6, p7, p8, p9, p10⟩ := cells11 HK11.out
      obtain ⟨q0, q1, q2, q3, q4, q5, q6, q7, q8, q9, q10⟩ := cells11 HK12.out
      obtain ⟨⟨r0, r1, r2, r3⟩, _⟩ := cells4 HK13.out
      obtain ⟨⟨z0, z1, z2, z3, z4, z5, z6, z7⟩, _⟩ := cells8 HK14.out
      obtain ⟨⟨hk210, hk211⟩, _⟩ := cells2 HK21.out
      obtain ⟨⟨hk220, hk221⟩, _⟩ := cells2 HK22.out
      go_wp2_with fail
      refine (rBeset_any s m2 lo hi ch _ HTb.out).mono ?_
      rw [HR7.out]
      rintro e U14 ⟨rfl, hb⟩
      clear c0 c1 c2 c3 c4 c5 c6 c7 c8 c9 c10 d0 d1 d2 d3 g0 g1 g2 g3 g4 g5 g6 g7 p0 p1 p2 p3 p4 p5 p6 p7 p8 p9 p10 q0 q1 q2 q3 q4 q5 q6 q7 q8 q9 q10 r0 r1 r2 r3 z0 z1 z2 z3 z4 z5 z6 z7 hk210 hk211 hk220 hk221
      replace HK5 := Lib.hid ((hb.block _ (lt_of_block HK5.out)).trans HK5.out)
      replace HK6 := Lib.hid ((hb.block _ (lt_of_block HK6.out)).trans HK6.out)
      replace HK7 := Lib.hid ((hb.block _ (lt_of_block HK7.out)).trans HK7.out)
      replace HK11 := Lib.hid ((hb.block _ (lt_of_block HK11.out)).trans HK11.out)
      replace HK12 := Lib.hid ((hb.block _ (lt_of_block HK12.out)).trans HK12.out)
      replace HK13 := Lib.hid ((hb.block _ (lt_of_block HK13.out)).trans HK13.out)
      replace HK14 := Lib.hid ((hb.block _ (lt_of_block HK14.out)).trans HK14.out)
      replace HK21 := Lib.hid ((hb.block _ (lt_of_block HK21.out)).trans HK21.out)
      replace HK22 := Lib.hid ((hb.block _ (lt_of_block HK22.out)).trans HK22.out)
      replace HS := Lib.hid (HS.out.later hb)
      replace HB := Lib.hid (HB.out.trans (hb.mono HB.out.size))
      replace HTa := Lib.hid (HTa.out.later hb)
      replace HTb := Lib.hid (HTb.out.later hb)
      clear hb
      obtain ⟨c0, c1, c2, c3, c4, c5, c6, c7, c8, c9, c10⟩ := cells11 HK5.out
      obtain ⟨⟨d0, d1, d2, d3⟩, _⟩ := cells4 HK6.out
      obtain ⟨⟨g0, g1, g2, g3, g4, g5, g6, g7⟩, _⟩ := cells8 HK7.out
      obtain ⟨p0, p1, p2, p3, p4, p5, p6, p7, p8, p9, p10⟩ := cells11 HK11.out
      obtain ⟨q0, q1, q2, q3, q4, q5, q6, q7, q8, q9, q10⟩ := cells11 HK12.out
      obtain ⟨⟨r0, r1, r2, r3⟩, _⟩ := cells4 HK13.out
      obtain ⟨⟨z0, z1, z2, z3, z4, z5, z6, z7⟩, _⟩ := cells8 HK14.out
      obtain ⟨⟨hk210, hk211⟩, _⟩ := cells2 HK21.out
      obtain ⟨⟨hk220, hk221⟩, _⟩ := cells2 HK22.out
      go_wp2_with fail
      refine (Beyond_any s m1 lo hi v ch _ HTa.out (HLM.out.below hpos HB.out) (HST.out.below hpos1 HB.out)).mono ?_
      rw [HR8.out]
      rintro e U15 ⟨rfl, hb⟩
      clear c0 c1 c2 c3 c4 c5 c6 c7 c8 c9 c10 d0 d1 d2 d3 g0 g1 g2 g3 g4 g5 g6 g7 p0 p1 p2 p3 p4 p5 p6 p7 p8 p9 p10 q0 q1 q2 q3 q4 q5 q6 q7 q8 q9 q10 r0 r1 r2 r3 z0 z1 z2 z3 z4 z5 z6 z7 hk210 hk211 hk220 hk221
      replace HK5 := Lib.hid ((hb.block _ (lt_of_block HK5.out)).trans HK5.out)
      replace HK6 := Lib.hid ((hb.block _ (lt_of_block HK6.out)).trans HK6.out)
      replace HK7 := Lib.hid ((hb.block _ (lt_of_block HK7.out)).trans HK7.out)
      replace HK11 := Lib.hid ((hb.block _ (lt_of_block HK11.out)).trans HK11.out)
      replace HK12 := Lib.hid ((hb.block _ (lt_of_block HK12.out)).trans HK12.out)
      replace HK13 := Lib.hid ((hb.block _ (lt_of_block HK13.out)).trans HK13.out)
      replace HK14 := Lib.hid ((hb.block _ (lt_of_block HK14.out)).trans HK14.out)
      replace HK21 := Lib.hid ((hb.block _ (lt_of_block HK21.out)).trans HK21.out)
      replace HK22 := Lib.hid ((hb.block _ (lt_of_block HK22.out)).trans HK22.out)
      replace HS := Lib.hid (HS.out.later hb)
      replace HB := Lib.hid (HB.out.trans (hb.mono HB.out.size))
      replace HTa := Lib.hid (HTa.out.later hb)
      replace HTb := Lib.hid (HTb.out.later hb)
      clear hb
      obtain ⟨c0, c1, c2, c3, c4, c5, c6, c7, c8, c9, c10⟩ := cells11 HK5.out
      obtain ⟨⟨d0, d1, d2, d3⟩, _⟩ := cells4 HK6.out
      obtain ⟨⟨g0, g1, g2, g3, g4, g5, g6, g7⟩, _⟩ := cells8 HK7.out
      obtain ⟨p0, p1, p2, p3, p4, p5, p6, p7, p8, p9, p10⟩ := cells11 HK11.out
      obtain ⟨q0, q1, q2, q3, q4, q5, q6, q7, q8, q9, q10⟩ := cells11 HK12.out
      obtain ⟨⟨r0, r1, r2, r3⟩, _⟩ := cells4 HK13.out
      obtain ⟨⟨z0, z1, z2, z3, z4, z5, z6, z7⟩, _⟩ := cells8 HK14.out
      obtain ⟨⟨hk210, hk211⟩, _⟩ := cells2 HK21.out
      obtain ⟨⟨hk220, hk221⟩, _⟩ := cells2 HK22.out
      go_wp2_with fail
      refine (rBeyond_any s m2 lo hi v ch _ HTb.out).mono ?_
      rw [HR8.out]
      rintro e U16 ⟨rfl, hb⟩
      clear c0 c1 c2 c3 c4 c5 c6 c7 c8 c9 c10 d0 d1 d2 d3 g0 g1 g2 g3 g4 g5 g6 g7 p0 p1 p2 p3 p4 p5 p6 p7 p8 p9 p10 q0 q1 q2 q3 q4 q5 q6 q7 q8 q9 q10 r0 r1 r2 r3 z0 z1 z2 z3 z4 z5 z6 z7 hk210 hk211 hk220 hk221
      replace HK5 := Lib.hid ((hb.block _ (lt_of_block HK5.out)).trans HK5.out)
      replace HK6 := Lib.hid ((hb.block _ (lt_of_block HK6.out)).trans HK6.out)
      replace HK7 := Lib.hid ((hb.block _ (lt_of_block HK7.out)).trans HK7.out)
      replace HK11 := Lib.hid ((hb.block _ (lt_of_block HK11.out)).trans HK11.out)
      replace HK12 := Lib.hid ((hb.block _ (lt_of_block HK12.out)).trans HK12.out)
      replace HK13 := Lib.hid ((hb.block _ (lt_of_block HK13.out)).trans HK13.out)
      replace HK14 := Lib.hid ((hb.block _ (lt_of_block HK14.out)).trans HK14.out)
      replace HK21 := Lib.hid ((hb.block _ (lt_of_block HK21.out)).trans HK21.out)
      replace HK22 := Lib.hid ((hb.block _ (lt_of_block HK22.out)).trans HK22.out)
      replace HS := Lib.hid (HS.out.later hb)
      replace HB := Lib.hid (HB.out.trans (hb.mono HB.out.size))
      replace HTa := Lib.hid (HTa.out.later hb)
      replace HTb := Lib.hid (HTb.out.later hb)
      clear hb
      obtain ⟨c0, c1, c2, c3, c4, c5, c6, c7, c8, c9, c10⟩ := cells11 HK5.out
      obtain ⟨⟨d0, d1, d2, d3⟩, _⟩ := cells4 HK6.out
      obtain ⟨⟨g0, g1, g2, g3, g4, g5, g6, g7⟩, _⟩ := cells8 HK7.out
      obtain ⟨p0, p1, p2, p3, p4, p5, p6, p7, p8, p9, p10⟩ := cells11 HK11.out
      obtain ⟨q0, q1, q2, q3, q4, q5, q6, q7, q8, q9, q10⟩ := cells11 HK12.out
      obtain ⟨⟨r0, r1, r2, r3⟩, _⟩ := cells4 HK13.out
      obtain ⟨⟨z0, z1, z2, z3, z4, z5, z6, z7⟩, _⟩ := cells8 HK14.out
      obtain ⟨⟨hk210, hk211⟩, _⟩ := cells2 HK21.out
      obtain ⟨⟨hk220, hk221⟩, _⟩ := cells2 HK22.out
      go_wp2_with fail
      refine (Safe_any s m1 lo hi ch _ HTa.out (HLM.out.below hpos HB.out) (HST.out.below hpos1 HB.out)).mono ?_
      rw [HR9.out]
      rintro e U17 ⟨rfl, hb⟩
      clear c0 c1 c2 c3 c4 c5 c6 c7 c8 c9 c10 d0 d1 d2 d3 g0 g1 g2 g3 g4 g5 g6 g7 p0 p1 p2 p3 p4 p5 p6 p7 p8 p9 p10 q0 q1 q2 q3 q4 q5 q6 q7 q8 q9 q10 r0 r1 r2 r3 z0 z1 z2 z3 z4 z5 z6 z7 hk210 hk211 hk220 hk221
      replace HK5 := Lib.hid ((hb.block _ (lt_of_block HK5.out)).trans HK5.out)
      replace HK6 := Lib.hid ((hb.block _ (lt_of_block HK6.out)).trans HK6.out)
      replace HK7 := Lib.hid ((hb.block _ (lt_of_block HK7.out)).trans HK7.out)
      replace HK11 := Lib.hid ((hb.block _ (lt_of_block HK11.out)).trans HK11.out)
      replace HK12 := Lib.hid ((hb.block _ (lt_of_block HK12.out)).trans HK12.out)
      replace HK13 := Lib.hid ((hb.block _ (lt_of_block HK13.out)).trans HK13.out)
      replace HK14 := Lib.hid ((hb.block _ (lt_of_block HK14.out)).trans HK14.out)
      replace HK21 := Lib.hid ((hb.block _ (lt_of_block HK21.out)).trans HK21.out)
      replace HK22 := Lib.hid ((hb.block _ (lt_of_block HK22.out)).trans HK22.out)
      replace HS := Lib.hid (HS.out.later hb)
      replace HB := Lib.hid (HB.out.trans (hb.mono HB.out.size))
      replace HTa := Lib.hid (HTa.out.later hb)
      replace HTb := Lib.hid (HTb.out.later hb)
      clear hb
      obtain ⟨c0, c1, c2, c3, c4, c5, c6, c7, c8, c9, c10⟩ := cells11 HK5.out
      obtain ⟨⟨d0, d1, d2, d3⟩, _⟩ := cells4 HK6.out
      obtain ⟨⟨g0, g1, g2, g3, g4, g5, g6, g7⟩, _⟩ := cells8 HK7.out
      obtain ⟨p0, p1, p2, p3, p4, p5, p6, p7, p8, p9, p10⟩ := cells11 HK11.out
      obtain ⟨q0, q1, q2, q3, q4, q5, q6, q7, q8, q9, q10⟩ := cells11 HK12.out
      obtain ⟨⟨r0, r1, r2, r3⟩, _⟩ := cells4 HK13.out
      obtain ⟨⟨z0, z1, z2, z3, z4, z5, z6, z7⟩, _⟩ := cells8 HK14.out
      obtain ⟨⟨hk210, hk211⟩, _⟩ := cells2 HK21.out
      obtain ⟨⟨hk220, hk221⟩, _⟩ := cells2 HK22.out
      go_wp2_with fail
      refine (rSafe_any s m2 lo hi ch _ HTb.out).mono ?_
      rw [HR9.out]
      rintro e U18 ⟨rfl, hb⟩
      clear c0 c1 c2 c3 c4 c5 c6 c7 c8 c9 c10 d0 d1 d2 d3 g0 g1 g2 g3 g4 g5 g6 g7 p0 p1 p2 p3 p4 p5 p6 p7 p8 p9 p10 q0 q1 q2 q3 q4 q5 q6 q7 q8 q9 q10 r0 r1 r2 r3 z0 z1 z2 z3 z4 z5 z6 z7 hk210 hk211 hk220 hk221
      replace HK5 := Lib.hid ((hb.block _ (lt_of_block HK5.out)).trans HK5.out)
      replace HK6 := Lib.hid ((hb.block _ (lt_of_block HK6.out)).trans HK6.out)
      replace HK7 := Lib.hid ((hb.block _ (lt_of_block HK7.out)).trans HK7.out)
      replace HK11 := Lib.hid ((hb.block _ (lt_of_block HK11.out)).trans HK11.out)
      replace HK12 := Lib.hid ((hb.block _ (lt_of_block HK12.out)).trans HK12.out)
      replace HK13 := Lib.hid ((hb.block _ (lt_of_block HK13.out)).trans HK13.out)
      replace HK14 := Lib.hid ((hb.block _ (lt_of_block HK14.out)).trans HK14.out)
      replace HK21 := Lib.hid ((hb.block _ (lt_of_block HK21.out)).trans HK21.out)
      replace HK22 := Lib.hid ((hb.block _ (lt_of_block HK22.out)).trans HK22.out)
      replace HS := Lib.hid (HS.out.later hb)
      replace HB := Lib.hid (HB.out.trans (hb.mono HB.out.size))
      replace HTa := Lib.hid (HTa.out.later hb)
      replace HTb := Lib.hid (HTb.out.later hb)
      clear hb
      obtain ⟨c0, c1, c2, c3, c4, c5, c6, c7, c8, c9, c10⟩ := cells11 HK5.out
      obtain ⟨⟨d0, d1, d2, d3⟩, _⟩ := cells4 HK6.out
      obtain ⟨⟨g0, g1, g2, g3, g4, g5, g6, g7⟩, _⟩ := cells8 HK7.out
      obtain ⟨p0, p1, p2, p3, p4, p5, p6, p7, p8, p9, p10⟩ := cells11 HK11.out
      obtain ⟨q0, q1, q2, q3, q4, q5, q6, q7, q8, q9, q10⟩ := cells11 HK12.out
      obtain ⟨⟨r0, r1, r2, r3⟩, _⟩ := cells4 HK13.out
      obtain ⟨⟨z0, z1, z2, z3, z4, z5, z6, z7⟩, _⟩ := cells8 HK14.out
      obtain ⟨⟨hk210, hk211⟩, _⟩ := cells2 HK21.out
      obtain ⟨⟨hk220, hk221⟩, _⟩ := cells2 HK22.out
      go_wp2_with fail
      refine (sameShip_any s m m1 _ HS.out HTa.out).mono ?_
      rintro e V9 ⟨rfl, hb⟩
      clear c0 c1 c2 c3 c4 c5 c6 c7 c8 c9 c10 d0 d1 d2 d3 g0 g1 g2 g3 g4 g5 g6 g7 p0 p1 p2 p3 p4 p5 p6 p7 p8 p9 p10 q0 q1 q2 q3 q4 q5 q6 q7 q8 q9 q10 r0 r1 r2 r3 z0 z1 z2 z3 z4 z5 z6 z7 hk210 hk211 hk220 hk221
      replace HK5 := Lib.hid ((hb.block _ (lt_of_block HK5.out)).trans HK5.out)
      replace HK6 := Lib.hid ((hb.block _ (lt_of_block HK6.out)).trans HK6.out)
      replace HK7 := Lib.hid ((hb.block _ (lt_of_block HK7.out)).trans HK7.out)
      replace HK11 := Lib.hid ((hb.block _ (lt_of_block HK11.out)).trans HK11.out)
      replace HK12 := Lib.hid ((hb.block _ (lt_of_block HK12.out)).trans HK12.out)
      replace HK13 := Lib.hid ((hb.block _ (lt_of_block HK13.out)).trans HK13.out)
      replace HK14 := Lib.hid ((hb.block _ (lt_of_block HK14.out)).trans HK14.out)
      replace HK21 := Lib.hid ((hb.block _ (lt_of_block HK21.out)).trans HK21.out)
      replace HK22 := Lib.hid ((hb.block _ (lt_of_block HK22.out)).trans HK22.out)
      replace HS := Lib.hid (HS.out.later hb)
      replace HB := Lib.hid (HB.out.trans (hb.mono HB.out.size))
      replace HTa := Lib.hid (HTa.out.later hb)
      replace HTb := Lib.hid (HTb.out.later hb)
      clear hb
      obtain ⟨c0, c1, c2, c3, c4, c5, c6, c7, c8, c9, c10⟩ := cells11 HK5.out
      obtain ⟨⟨d0, d1, d2, d3⟩, _⟩ := cells4 HK6.out
      obtain ⟨⟨g0, g1, g2, g3, g4, g5, g6, g7⟩, _⟩ := cells8 HK7.out
      obtain ⟨p0, p1, p2, p3, p4, p5, p6, p7, p8, p9, p10⟩ := cells11 HK11.out
      obtain ⟨q0, q1, q2, q3, q4, q5, q6, q7, q8, q9, q10⟩ := cells11 HK12.out
      obtain ⟨⟨r0, r1, r2, r3⟩, _⟩ := cells4 HK13.out
      obtain ⟨⟨z0, z1, z2, z3, z4, z5, z6, z7⟩, _⟩ := cells8 HK14.out
      obtain ⟨⟨hk210, hk211⟩, _⟩ := cells2 HK21.out
      obtain ⟨⟨hk220, hk221⟩, _⟩ := cells2 HK22.out
      go_wp2_with fail
      refine (awake_any V9 (HLM.out.below hpos HB.out) (HST.out.below hpos1 HB.out)).mono ?_
      rintro e We ⟨rfl, hb⟩
      have HBE := Lib.hid (HB.out.trans (hb.mono HB.out.size))
      clear hb
      go_wp2_with fail
      go_ret
      exact ⟨rfl, HBE.out⟩
end Go.Proofs.YtcoiklolgilhaaaGreatDoor
namespace Go.Proofs.YtcoiklolgilhaaaGreatDoor
open Go.ChangeShapes Go.WideShapes Go.ChangeAt Go.WideMaps Go.WideElems Go.RowKit Go.Deep
set_option maxRecDepth 100000
theorem cells26 : Tryz.prog.cellsOf 26 = 4 := by kernel_rfl
theorem cells28c : Tryz.prog.cellsOf 28 = 2 := by kernel_rfl
theorem cells30c : Tryz.prog.cellsOf 30 = 8 := by kernel_rfl
section
variable {H : Type} {enc : TypeId × Value → H} {W : World} {fuel : Nat} {cs : List Value} {x : DataW H × List MemPlace}
theorem trod_struct2 {P : Program} {base : Nat} {spare : Nat → Bool} {held : Bool} {t : TypeId} {f0 f1 : Field} (ht : P.underlying t = some (.struct #[f0, f1])) (h : DataW.trod enc P W base spare held fuel t cs = some x) :
    ∃ y0 y1 n, cs.length = P.cellsOf t ∧ DataW.trod enc P W base spare held n f0.type ((cs.drop f0.offset).take (P.cellsOf f0.type)) = some y0 ∧ DataW.trod enc P W base spare held n f1.type ((cs.drop f1.offset).take (P.cellsOf f1.type)) = some y1 := by
  obtain ⟨xs, n, _, rfl, hl, hlen, hf⟩ := DataW.trod_struct ht h
  match xs, hlen with
  | [y0, y1], _ => exact ⟨y0, y1, n, hl, by simpa using hf 0 f0 rfl, by simpa using hf 1 f1 rfl⟩
theorem trod_struct4 {P : Program} {base : Nat} {spare : Nat → Bool} {held : Bool} {t : TypeId} {f0 f1 f2 f3 : Field} (ht : P.underlying t = some (.struct #[f0, f1, f2, f3])) (h : DataW.trod enc P W base spare held fuel t cs = some x) :
    ∃ y0 y1 y2 y3 n, cs.length = P.cellsOf t ∧ DataW.trod enc P W base spare held n f0.type ((cs.drop f0.offset).take (P.cellsOf f0.type)) = some y0 ∧ DataW.trod enc P W base spare held n f1.type ((cs.drop f1.offset).take (P.cellsOf f1.type)) = some y1 ∧ DataW.trod enc P W base spare held n f2.type ((cs.drop f2.offset).take (P.cellsOf f2.type)) = some y2 ∧ DataW.trod enc P W base spare held n f3.type ((cs.drop f3.offset).take (P.cellsOf f3.type)) = some y3 := by
  obtain ⟨xs, n, _, rfl, hl, hlen, hf⟩ := DataW.trod_struct ht h
  match xs, hlen with
  | [y0, y1, y2, y3], _ => exact ⟨y0, y1, y2, y3, n, hl, by simpa using hf 0 f0 rfl, by simpa using hf 1 f1 rfl, by simpa using hf 2 f2 rfl, by simpa using hf 3 f3 rfl⟩
theorem ice26 (h : DataW.trod enc Tryz.prog W 0 (fun _ => true) true fuel 26 cs = some x) : ∃ i : Ic, cs = (iceV i).toList := by
  obtain ⟨_, _, _, _, _, hl, u0, u1, u2, u3⟩ := trod_struct4 Tryz.underlying26 h
  rw [cells26] at hl
  match cs, hl with
  | [v0, v1, v2, v3], _ =>
      simp only [cells3, List.drop_zero, List.drop_succ_cons, List.take_succ_cons, List.take_zero] at u0 u1 u2 u3
      obtain ⟨n0, k0, _, _⟩ := DataW.trod_int Tryz.underlying3 u0
      obtain ⟨n1, k1, _, _⟩ := DataW.trod_int Tryz.underlying3 u1
      obtain ⟨n2, k2, _, _⟩ := DataW.trod_int Tryz.underlying3 u2
      obtain ⟨n3, k3, _, _⟩ := DataW.trod_int Tryz.underlying3 u3
      simp only [List.cons.injEq, and_true] at k0 k1 k2 k3
      subst k0 k1 k2 k3
      exact ⟨⟨n0, n1, n2, n3⟩, rfl⟩
theorem span28 (h : DataW.trod enc Tryz.prog W 0 (fun _ => true) true fuel 28 cs = some x) : ∃ a b : Int, cs = [.int .i64 a, .int .i64 b] := by
  obtain ⟨_, _, _, hl, u0, u1⟩ := trod_struct2 Tryz.underlying28 h
  rw [cells28c] at hl
  match cs, hl with
  | [v0, v1], _ =>
      simp only [cells3, List.drop_zero, List.drop_succ_cons, List.take_succ_cons, List.take_zero] at u0 u1
      obtain ⟨n0, k0, _, _⟩ := DataW.trod_int Tryz.underlying3 u0
      obtain ⟨n1, k1, _, _⟩ := DataW.trod_int Tryz.underlying3 u1
      simp only [List.cons.injEq, and_true] at k0 k1
      subst k0 k1
      exact ⟨n0, n1, rfl⟩
theorem cell30 (h : DataW.trod enc Tryz.prog W 0 (fun _ => true) true fuel 30 cs = some x) : ∃ lo hi : Ic, cs = (cellV lo hi).toList := by
  obtain ⟨_, _, _, _, _, hl, u0, u1, u2, u3⟩ := trod_struct4 Tryz.underlying30 h
  rw [cells30c] at hl
  match cs, hl with
  | [v0, v1, v2, v3, v4, v5, v6, v7], _ =>
      simp only [cells28c, List.drop_zero, List.drop_succ_cons, List.take_succ_cons, List.take_zero] at u0 u1 u2 u3
      obtain ⟨a0, b0, k0⟩ := span28 u0
      obtain ⟨a1, b1, k1⟩ := span28 u1
      obtain ⟨a2, b2, k2⟩ := span28 u2
      obtain ⟨a3, b3, k3⟩ := span28 u3
      simp only [List.cons.injEq, and_true] at k0 k1 k2 k3
      obtain ⟨rfl, rfl⟩ := k0
      obtain ⟨rfl, rfl⟩ := k1
      obtain ⟨rfl, rfl⟩ := k2
      obtain ⟨rfl, rfl⟩ := k3
      exact ⟨⟨a0, a1, a2, a3⟩, ⟨b0, b1, b2, b3⟩, rfl⟩
end
theorem open_ice {H : Type} {enc : TypeId × Value → H} {W : World} {r : Reach} {b0 : Nat} {v : Value} {d : DataW H} {ps : List MemPlace} (hval : Value.okWide Tryz.prog W r b0 26 v) (h : DataW.Trod enc Tryz.prog W 0 (fun _ => true) true 26 v d ps) :
    ∃ i, v = .agg (iceV i) := by
  obtain ⟨cs, rfl, _⟩ := okWide_struct Tryz.underlying26 hval
  obtain ⟨fuel, hf⟩ := h
  have e : (Value.agg cs).cells.toList = cs.toList := rfl
  rw [e] at hf
  obtain ⟨i, e1⟩ := ice26 hf
  exact ⟨i, by rw [← Array.toArray_toList (xs := cs), e1]⟩
theorem open_cell {H : Type} {enc : TypeId × Value → H} {W : World} {r : Reach} {b0 : Nat} {v : Value} {d : DataW H} {ps : List MemPlace} (hval : Value.okWide Tryz.prog W r b0 30 v) (h : DataW.Trod enc Tryz.prog W 0 (fun _ => true) true 30 v d ps) :
    ∃ lo hi, v = .agg (cellV lo hi) := by
  obtain ⟨cs, rfl, _⟩ := okWide_struct Tryz.underlying30 hval
  obtain ⟨fuel, hf⟩ := h
  have e : (Value.agg cs).cells.toList = cs.toList := rfl
  rw [e] at hf
  obtain ⟨lo, hi, e1⟩ := cell30 hf
  exact ⟨lo, hi, by rw [← Array.toArray_toList (xs := cs), e1]⟩
end Go.Proofs.YtcoiklolgilhaaaGreatDoor
