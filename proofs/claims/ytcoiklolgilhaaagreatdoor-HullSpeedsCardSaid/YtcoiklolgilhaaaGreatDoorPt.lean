/- The contracts of hull.Load and Thrust. The table of limits holds its numbers. -/
import Derived.Test.YtcoiklolgilhaaaGreatDoorPs
namespace Go.Proofs.YtcoiklolgilhaaaGreatDoor
open Go.RowKit
set_option maxRecDepth 100000
def LoadRes (x : Ic) (v : Int) (ch : Bool) : Value := if orL [iceE x, errS v] = 0 then .tuple #[.int .i64 (loadP x v ch), .int .i64 0] else .tuple #[.int .i64 0, .int .i64 (orL [iceE x, errS v])]
set_option maxHeartbeats 1000000 in
theorem Load_any (x : Ic) (v : Int) (ch : Bool) (w : World) (hl : Lim w) :
    Calls Tryz.prog 19 #[.agg (iceV x), .int .i64 v, .bool ch] w fun e w' => e = .returned (LoadRes x v ch) ∧ Below w.heap.size w w' := by
  have HLM := Lib.hid hl
  have hpos := hl.pos
  clear hl
  obtain ⟨t0, hz, hbl⟩ := one_alloc w (.cells (iceV x) 26)
  have HB0 := Lib.hid hbl
  have HK0 := Lib.hid t0
  have HC1 := Lib.hid (show Calls Tryz.prog 68 #[.agg (iceV x)] (w.alloc (.cells (iceV x) 26)) (fun e w' => e = .returned (.int .i64 (iceE x)) ∧ Below (w.alloc (.cells (iceV x) 26)).heap.size (w.alloc (.cells (iceV x) 26)) w') from CheckIce_any (icF x) (w.alloc (.cells (iceV x) 26)) (HLM.out.below hpos hbl))
  clear t0 hbl
  go_enter Tryz.func19, Tryz.ntmps19
  go_wp2_with fail
  refine HC1.out.mono ?_
  rintro e W1 ⟨rfl, hb1⟩
  have HB1 := Lib.hid (HB0.out.trans (hb1.mono HB0.out.size))
  have K0 := Lib.hid ((hb1.block w.heap.size (by simp)).trans HK0.out)
  have hz1 : w.heap.size < W1.heap.size := lt_of_block K0.out
  clear hb1
  go_wp2_with fail
  refine (checkSpeed_any v _).mono ?_
  rintro e W2 ⟨rfl, rfl⟩
  go_wp2_with fail
  refine (or_any W1.heap.size [iceE x, errS v] _ (fun i hi => ?_) (by simp)).mono ?_
  · have hnew := block_new W1 (.cells #[.int .i64 (iceE x), .int .i64 (errS v)] 40)
    match i, hi with
    | 0, _ => exact (cell_of_block hnew 0).trans rfl
    | 1, _ => exact (cell_of_block hnew 1).trans rfl
  rintro e W2 ⟨rfl, rfl⟩
  have hba := (Below.refl W1.heap.size W1).alloc (Nat.le_refl _) (.cells #[.int .i64 (iceE x), .int .i64 (errS v)] 40)
  have HB2 := Lib.hid (HB1.out.trans (hba.mono HB1.out.size))
  have L0 := Lib.hid ((hba.block _ hz1).trans K0.out)
  clear hba
  generalize W1.alloc (.cells #[.int .i64 (iceE x), .int .i64 (errS v)] 40) = X at *
  clear HK0 HB0 HB1 K0 hz1 hz HC1
  by_cases hE : orL [iceE x, errS v] = 0
  · have HR := Lib.hid (show LoadRes x v ch = .tuple #[.int .i64 (loadP x v ch), .int .i64 0] by unfold LoadRes; rw [if_pos hE])
    obtain ⟨o1, o2⟩ := orL1 hE
    obtain ⟨o2, _⟩ := orL1 o2
    have gi := iceE_ok o1
    have hv := errS_ok o2
    clear o1 o2
    have HC := Lib.hid (load_any x gi v hv.1 hv.2 ch X)
    obtain ⟨⟨d0, d1, d2, d3⟩, _⟩ := cells4 L0.out
    generalize hO : orL [iceE x, errS v] = E at *
    subst hE
    clear hO
    generalize loadP x v ch = R at *
    go_wp2_with fail
    refine HC.out.mono ?_
    rintro e W3 ⟨rfl, hb3⟩
    have HB3 := Lib.hid (HB2.out.trans (hb3.mono HB2.out.size))
    clear hb3
    go_wp2_with fail
    refine bodyPost_ret (v := .tuple #[.int .i64 R, .int .i64 0]) (by simp [results, Tryz.results19, go_sem]) rfl ⟨by rw [HR.out], HB3.out⟩
  · have HR := Lib.hid (show LoadRes x v ch = .tuple #[.int .i64 0, .int .i64 (orL [iceE x, errS v])] by unfold LoadRes; rw [if_neg hE])
    generalize orL [iceE x, errS v] = E at *
    go_wp2_with fail
    refine bodyPost_ret (v := .tuple #[.int .i64 0, .int .i64 E]) (by simp [results, Tryz.results19, go_sem]) rfl ⟨by rw [HR.out], HB2.out⟩
def ThrustRes (s : Sh) (v : Int) : Value := if orL [chkP s, errS v] = 0 then .tuple #[.int .i64 (thrP s v), .int .i64 0] else .tuple #[.int .i64 0, .int .i64 (orL [chkP s, errS v])]
set_option maxHeartbeats 1000000 in
theorem Thrust_any (s : Sh) (m : Mem3) (v : Int) (w : World) (h : ShipIn w s m) :
    Calls Tryz.prog 108 #[.agg (shipA s m), .int .i64 v] w fun e w' => e = .returned (ThrustRes s v) ∧ Below w.heap.size w w' := by
  have HS := Lib.hid h
  obtain ⟨t0, hz, hbl⟩ := one_alloc w (.cells (shipA s m) 24)
  have HB0 := Lib.hid hbl
  have HK0 := Lib.hid t0
  have HC1 := Lib.hid (Check_any s m (w.alloc (.cells (shipA s m) 24)) (h.later hbl))
  obtain ⟨c0, c1, c2, c3, c4, c5, c6, c7, c8, c9, c10⟩ := cells11 t0
  clear t0 hbl h
  go_enter Tryz.func108, Tryz.ntmps108
  go_wp2_with fail
  refine HC1.out.mono ?_
  rintro e W1 ⟨rfl, hb1⟩
  have HB1 := Lib.hid (HB0.out.trans (hb1.mono HB0.out.size))
  have K0 := Lib.hid ((hb1.block w.heap.size (by simp)).trans HK0.out)
  have hz1 : w.heap.size < W1.heap.size := lt_of_block K0.out
  clear hb1 c0 c1 c2 c3 c4 c5 c6 c7 c8 c9 c10
  go_wp2_with fail
  refine (checkSpeed_any v _).mono ?_
  rintro e W2 ⟨rfl, rfl⟩
  go_wp2_with fail
  refine (or_any W1.heap.size [chkP s, errS v] _ (fun i hi => ?_) (by simp)).mono ?_
  · have hnew := block_new W1 (.cells #[.int .i64 (chkP s), .int .i64 (errS v)] 40)
    match i, hi with
    | 0, _ => exact (cell_of_block hnew 0).trans rfl
    | 1, _ => exact (cell_of_block hnew 1).trans rfl
  rintro e W2 ⟨rfl, rfl⟩
  have hba := (Below.refl W1.heap.size W1).alloc (Nat.le_refl _) (.cells #[.int .i64 (chkP s), .int .i64 (errS v)] 40)
  have HB2 := Lib.hid (HB1.out.trans (hba.mono HB1.out.size))
  have L0 := Lib.hid ((hba.block _ hz1).trans K0.out)
  clear hba
  generalize W1.alloc (.cells #[.int .i64 (chkP s), .int .i64 (errS v)] 40) = X at *
  clear HK0 HB0 HB1 K0 hz1 hz HC1
  by_cases hE : orL [chkP s, errS v] = 0
  · have HR := Lib.hid (show ThrustRes s v = .tuple #[.int .i64 (thrP s v), .int .i64 0] by unfold ThrustRes; rw [if_pos hE])
    obtain ⟨o1, o2⟩ := orL1 hE
    obtain ⟨o2, _⟩ := orL1 o2
    have g := good_of o1
    have hv := errS_ok o2
    clear o1 o2
    have HC := Lib.hid (thrust_any s m g.th v hv.1 X (HS.out.later HB2.out))
    obtain ⟨c0, c1, c2, c3, c4, c5, c6, c7, c8, c9, c10⟩ := cells11 L0.out
    generalize hO : orL [chkP s, errS v] = E at *
    subst hE
    clear hO
    generalize thrP s v = R at *
    go_wp2_with fail
    refine HC.out.mono ?_
    rintro e W3 ⟨rfl, hb3⟩
    have HB3 := Lib.hid (HB2.out.trans (hb3.mono HB2.out.size))
    clear hb3
    go_wp2_with fail
    refine bodyPost_ret (v := .tuple #[.int .i64 R, .int .i64 0]) (by simp [results, Tryz.results108, go_sem]) rfl ⟨by rw [HR.out], HB3.out⟩
  · have HR := Lib.hid (show ThrustRes s v = .tuple #[.int .i64 0, .int .i64 (orL [chkP s, errS v])] by unfold ThrustRes; rw [if_neg hE])
    generalize orL [chkP s, errS v] = E at *
    go_wp2_with fail
    refine bodyPost_ret (v := .tuple #[.int .i64 0, .int .i64 E]) (by simp [results, Tryz.results108, go_sem]) rfl ⟨by rw [HR.out], HB2.out⟩
end Go.Proofs.YtcoiklolgilhaaaGreatDoor
