/- Contracts of hull's calls for right ships, ices and speeds, with their numbers named; the code that begins with a region. The contracts of hull.Speeds, Beset, Beyond, Safe. The table of limits and the one of strengths hold their numbers. Pure facts for the law HullCells: what is so at the ends of a right cell, and at its safe speed. A right ship, a right cell. The contracts of the law's Some, of its closure, and of Just: an ice of a right cell, whatever the bytes are. Contracts with their answers named, for the law HullCells. -/
import Derived.Test.YtcoiklolgilhaaaGreatDoorQd
import Derived.Test.YtcoiklolgilhaaaGreatDoorRb
import Derived.Test.YtcoiklolgilhaaaGreatDoorPs
import Derived.Test.YtcoiklolgilhaaaGreatDoorPq
import Derived.Test.YtcoiklolgilhaaaGreatDoorPp
namespace Go.Proofs.YtcoiklolgilhaaaGreatDoor
open Go.RowKit
set_option maxRecDepth 100000
/-- The code that begins with a region. -/
def findReg (id : Nat) : Code → Option Code
  | .seq (.region i ops d) b => if i = id then some (.seq (.region i ops d) b) else findReg id b
  | .seq a b => match findReg id a with
    | some c => some c
    | none => findReg id b
  | .block _ c => findReg id c
  | .loop c => findReg id c
  | .scope c => findReg id c
  | .cond _ a b => match findReg id a with
    | some c => some c
    | none => findReg id b
  | _ => none
theorem errS_of {v : Int} (h0 : 0 ≤ v) (h1 : v ≤ 250) : errS v = 0 := by unfold errS; rw [if_pos ⟨h0, h1⟩]
theorem Speed_ok (s : Sh) (ms : Mem3) (x : Ic) (ch : Bool) (w : World) (hs : ShipIn w s ms) (hl : Lim w) (hc : chkP s = 0) (gi : GoodI x) :
    Calls Tryz.prog 17 #[.agg (shipA s ms), .agg (iceV x), .bool ch] w fun e w' => ∃ A : Int, e = .returned (.tuple #[.int .i64 A, .int .i64 0]) ∧ A = (speedP s x ch : Int) ∧ Below w.heap.size w w' := by
  refine (Speed_any s ms x ch w hs hl).mono ?_
  rintro e w' ⟨rfl, hb⟩
  refine ⟨_, ?_, rfl, hb⟩
  unfold SpeedRes
  rw [if_pos (by rw [hc, iceE_of gi]; rfl)]
theorem Resistance_ok (s : Sh) (ms : Mem3) (x : Ic) (v : Int) (ch : Bool) (w : World) (hs : ShipIn w s ms) (hl : Lim w) (hc : chkP s = 0) (gi : GoodI x) (h0 : 0 ≤ v) (h1 : v ≤ 250) :
    Calls Tryz.prog 13 #[.agg (shipA s ms), .agg (iceV x), .int .i64 v, .bool ch] w fun e w' => ∃ A : Int, e = .returned (.tuple #[.int .i64 A, .int .i64 0]) ∧ A = resP s x v ch ∧ Below w.heap.size w w' := by
  refine (Resistance_any s ms x v ch w hs hl).mono ?_
  rintro e w' ⟨rfl, hb⟩
  refine ⟨_, ?_, rfl, hb⟩
  unfold ResistanceRes
  rw [if_pos (by rw [hc, iceE_of gi, errS_of h0 h1]; rfl)]
theorem Load_ok (x : Ic) (v : Int) (ch : Bool) (w : World) (hl : Lim w) (gi : GoodI x) (h0 : 0 ≤ v) (h1 : v ≤ 250) :
    Calls Tryz.prog 19 #[.agg (iceV x), .int .i64 v, .bool ch] w fun e w' => ∃ A : Int, e = .returned (.tuple #[.int .i64 A, .int .i64 0]) ∧ A = loadP x v ch ∧ Below w.heap.size w w' := by
  refine (Load_any x v ch w hl).mono ?_
  rintro e w' ⟨rfl, hb⟩
  refine ⟨_, ?_, rfl, hb⟩
  unfold LoadRes
  rw [if_pos (by rw [iceE_of gi, errS_of h0 h1]; rfl)]
end Go.Proofs.YtcoiklolgilhaaaGreatDoor
namespace Go.Proofs.YtcoiklolgilhaaaGreatDoor
open Go.RowKit
set_option maxRecDepth 100000
def BesetRes (s : Sh) (xlo xhi : Ic) (ch : Bool) : Value := if orL [chkP s, cellE xlo xhi] = 0 then .tuple #[.bool (besP s xhi ch || besP s xlo ch), .bool (besP s xhi ch && besP s xlo ch), .int .i64 0] else .tuple #[.bool false, .bool false, .int .i64 (orL [chkP s, cellE xlo xhi])]
set_option maxHeartbeats 2000000 in
theorem Beset_any (s : Sh) (ms : Mem3) (xlo xhi : Ic) (ch : Bool) (w : World) (hs : ShipIn w s ms) (hl : Lim w) :
    Calls Tryz.prog 25 #[.agg (shipA s ms), .agg (cellV xlo xhi), .bool ch] w fun e w' => e = .returned (BesetRes s xlo xhi ch) ∧ Below w.heap.size w w' := by
  have HLM := Lib.hid hl
  have hpos := hl.pos
  have HSs := Lib.hid hs
  clear hs
  clear hl
  have hall := two_allocs w (.cells (shipA s ms) 24) (.cells (cellV xlo xhi) 30)
  go_enter Tryz.func25, Tryz.ntmps25
  go_wp2_with fail
  generalize ((w.alloc (.cells (shipA s ms) 24)).alloc (.cells (cellV xlo xhi) 30)) = V at *
  obtain ⟨t0, t1, hz, hbl⟩ := hall
  have HB0 := Lib.hid hbl
  have HK0 := Lib.hid t0
  have HK1 := Lib.hid t1
  clear hbl t0 t1
  refine wp_region_multi 4 [12, 13, 14, 15] (fun _ => false) (fun i => ([(.agg (shipA s ms)), (.int .i64 (chkP s)), (.agg (cellV xlo xhi)), (.int .i64 (cellE xlo xhi))] : List Value).getD i undef) (fun _ => .cells #[] 0) (by kernel_rfl) (by kernel_rfl) (fun s hs => by simp at hs ⊢; omega) ?val ?al ?fin
  case val =>
    intro i
    match i with
    | 0 => intro o hlt hal ho a' W hb hfr hdp; obtain rfl := Option.some.inj ho; exact op_load11 rfl (hfr 3 (by decide)) ((hb.block _ (by omega)).trans HK0.out)
    | 1 => intro o hlt hal ho a' W hb hfr hdp; obtain rfl := Option.some.inj ho; exact op_call rfl (hdp 0 12 (by decide) rfl rfl (by kernel_rfl)) eg17 (Check_any s ms W (HSs.out.later (HB0.out.trans (hb.mono HB0.out.size))))
    | 2 => intro o hlt hal ho a' W hb hfr hdp; obtain rfl := Option.some.inj ho; exact op_load8 rfl (hfr 4 (by decide)) ((hb.block _ (by omega)).trans HK1.out)
    | 3 => intro o hlt hal ho a' W hb hfr hdp; obtain rfl := Option.some.inj ho; exact op_call rfl (hdp 2 14 (by decide) rfl rfl (by kernel_rfl)) eg63 (CheckCell_any (icF xlo) (icF xhi) W (HLM.out.below hpos (HB0.out.trans (hb.mono HB0.out.size))))
    | j + 4 => intro o hlt; omega
  case al => intro i o hlt hal; cases hal
  case fin =>
    intro W B' hb hB' hne
    clear hB' hne
    simp only [List.drop_succ_cons, List.drop_zero, fill, uAll, Act.put, List.setIfInBounds_toArray, List.set_cons_zero, List.set_cons_succ, Nat.reduceAdd, if_false, Bool.false_eq_true, List.getD_cons_zero, List.getD_cons_succ]
    have HB1 := Lib.hid (HB0.out.trans (hb.mono HB0.out.size))
    have K0 := Lib.hid ((hb.block _ (by omega)).trans HK0.out)
    have K1 := Lib.hid ((hb.block _ (by omega)).trans HK1.out)
    have hz1 := hb.size
    clear hb
    go_wp2_with fail
    refine (or_any W.heap.size [chkP s, cellE xlo xhi] _ (fun i hi => ?_) (by simp)).mono ?_
    · have hnew := block_new W (.cells #[.int .i64 (chkP s), .int .i64 (cellE xlo xhi)] 40)
      match i, hi with
      | 0, _ => exact (cell_of_block hnew 0).trans rfl
      | 1, _ => exact (cell_of_block hnew 1).trans rfl
    rintro e W2 ⟨rfl, rfl⟩
    have hba := (Below.refl W.heap.size W).alloc (Nat.le_refl _) (.cells #[.int .i64 (chkP s), .int .i64 (cellE xlo xhi)] 40)
    have HB2 := Lib.hid (HB1.out.trans (hba.mono HB1.out.size))
    have L0 := Lib.hid ((hba.block _ (by omega)).trans K0.out)
    have L1 := Lib.hid ((hba.block _ (by omega)).trans K1.out)
    have hz2 : V.heap.size ≤ (W.alloc (.cells #[.int .i64 (chkP s), .int .i64 (cellE xlo xhi)] 40)).heap.size := Nat.le_trans hz1 hba.size
    clear hba
    generalize W.alloc (.cells #[.int .i64 (chkP s), .int .i64 (cellE xlo xhi)] 40) = X at *
    clear hz1 K0 HK0 K1 HK1 HB0 HB1
    by_cases hE : orL [chkP s, cellE xlo xhi] = 0
    · have HR := Lib.hid (show BesetRes s xlo xhi ch = .tuple #[.bool (besP s xhi ch || besP s xlo ch), .bool (besP s xhi ch && besP s xlo ch), .int .i64 0] by unfold BesetRes; rw [if_pos hE])
      obtain ⟨o1, o2⟩ := orL1 hE
      obtain ⟨o2, _⟩ := orL1 o2
      have g := good_of o1
      have gc := cellE_ok o2
      clear o1 o2
      have HC := Lib.hid (beset_any s ms xlo xhi ch g gc X (HSs.out.later HB2.out))
      obtain ⟨cs0, cs1, cs2, cs3, cs4, cs5, cs6, cs7, cs8, cs9, cs10⟩ := cells11 L0.out
      obtain ⟨⟨ex0, ex1, ex2, ex3, ex4, ex5, ex6, ex7⟩, _⟩ := cells8 L1.out
      generalize hO : orL [chkP s, cellE xlo xhi] = E at *
      subst hE
      clear hO
      generalize (besP s xhi ch || besP s xlo ch) = R1 at *
      generalize (besP s xhi ch && besP s xlo ch) = R2 at *
      go_wp2_with fail
      refine HC.out.mono ?_
      rintro e W3 ⟨rfl, hb3⟩
      have HB3 := Lib.hid (HB2.out.trans (hb3.mono HB2.out.size))
      clear hb3
      go_wp2_with fail
      refine bodyPost_ret (v := .tuple #[.bool R1, .bool R2, .int .i64 0]) (by simp [results, Tryz.results25, go_sem]) rfl ⟨by rw [HR.out], HB3.out⟩
    · have HR := Lib.hid (show BesetRes s xlo xhi ch = .tuple #[.bool false, .bool false, .int .i64 (orL [chkP s, cellE xlo xhi])] by unfold BesetRes; rw [if_neg hE])
      generalize orL [chkP s, cellE xlo xhi] = E at *
      go_wp2_with fail
      refine bodyPost_ret (v := .tuple #[.bool false, .bool false, .int .i64 (E)]) (by simp [results, Tryz.results25, go_sem]) rfl ⟨by rw [HR.out], HB2.out⟩
def BeyondRes (s : Sh) (xlo xhi : Ic) (v : Int) (ch : Bool) : Value := if orL [chkP s, cellE xlo xhi, errS v] = 0 then .tuple #[.bool (beyP s xhi ch v || beyP s xlo ch v), .bool (beyP s xhi ch v && beyP s xlo ch v), .int .i64 0] else .tuple #[.bool false, .bool false, .int .i64 (orL [chkP s, cellE xlo xhi, errS v])]
set_option maxHeartbeats 2000000 in
theorem Beyond_any (s : Sh) (ms : Mem3) (xlo xhi : Ic) (v : Int) (ch : Bool) (w : World) (hs : ShipIn w s ms) (hl : Lim w) (hst : Str w) :
    Calls Tryz.prog 27 #[.agg (shipA s ms), .agg (cellV xlo xhi), .int .i64 v, .bool ch] w fun e w' => e = .returned (BeyondRes s xlo xhi v ch) ∧ Below w.heap.size w w' := by
  have HLM := Lib.hid hl
  have hpos := hl.pos
  have HST := Lib.hid hst
  have HSs := Lib.hid hs
  clear hs
  clear hl
  clear hst
  have hall := two_allocs w (.cells (shipA s ms) 24) (.cells (cellV xlo xhi) 30)
  go_enter Tryz.func27, Tryz.ntmps27
  go_wp2_with fail
  generalize ((w.alloc (.cells (shipA s ms) 24)).alloc (.cells (cellV xlo xhi) 30)) = V at *
  obtain ⟨t0, t1, hz, hbl⟩ := hall
  have HB0 := Lib.hid hbl
  have HK0 := Lib.hid t0
  have HK1 := Lib.hid t1
  clear hbl t0 t1
  refine wp_region_multi 6 [14, 15, 16, 17, 18, 19] (fun _ => false) (fun i => ([(.agg (shipA s ms)), (.int .i64 (chkP s)), (.agg (cellV xlo xhi)), (.int .i64 (cellE xlo xhi)), (.int .i64 v), (.int .i64 (errS v))] : List Value).getD i undef) (fun _ => .cells #[] 0) (by kernel_rfl) (by kernel_rfl) (fun s hs => by simp at hs ⊢; omega) ?val ?al ?fin
  case val =>
    intro i
    match i with
    | 0 => intro o hlt hal ho a' W hb hfr hdp; obtain rfl := Option.some.inj ho; exact op_load11 rfl (hfr 4 (by decide)) ((hb.block _ (by omega)).trans HK0.out)
    | 1 => intro o hlt hal ho a' W hb hfr hdp; obtain rfl := Option.some.inj ho; exact op_call rfl (hdp 0 14 (by decide) rfl rfl (by kernel_rfl)) eg17 (Check_any s ms W (HSs.out.later (HB0.out.trans (hb.mono HB0.out.size))))
    | 2 => intro o hlt hal ho a' W hb hfr hdp; obtain rfl := Option.some.inj ho; exact op_load8 rfl (hfr 5 (by decide)) ((hb.block _ (by omega)).trans HK1.out)
    | 3 => intro o hlt hal ho a' W hb hfr hdp; obtain rfl := Option.some.inj ho; exact op_call rfl (hdp 2 16 (by decide) rfl rfl (by kernel_rfl)) eg63 (CheckCell_any (icF xlo) (icF xhi) W (HLM.out.below hpos (HB0.out.trans (hb.mono HB0.out.size))))
    | 4 => intro o hlt hal ho a' W hb hfr hdp; obtain rfl := Option.some.inj ho; exact op_move rfl (hfr 2 (by decide))
    | 5 => intro o hlt hal ho a' W hb hfr hdp; obtain rfl := Option.some.inj ho; exact op_call rfl (hdp 4 18 (by decide) rfl rfl (by kernel_rfl)) eg54 (by refine (checkSpeed_any v W).mono ?_; rintro e w' ⟨rfl, rfl⟩; exact ⟨rfl, Below.refl _ _⟩)
    | j + 6 => intro o hlt; omega
  case al => intro i o hlt hal; cases hal
  case fin =>
    intro W B' hb hB' hne
    clear hB' hne
    simp only [List.drop_succ_cons, List.drop_zero, fill, uAll, Act.put, List.setIfInBounds_toArray, List.set_cons_zero, List.set_cons_succ, Nat.reduceAdd, if_false, Bool.false_eq_true, List.getD_cons_zero, List.getD_cons_succ]
    have HB1 := Lib.hid (HB0.out.trans (hb.mono HB0.out.size))
    have K0 := Lib.hid ((hb.block _ (by omega)).trans HK0.out)
    have K1 := Lib.hid ((hb.block _ (by omega)).trans HK1.out)
    have hz1 := hb.size
    clear hb
    go_wp2_with fail
    refine (or_any W.heap.size [chkP s, cellE xlo xhi, errS v] _ (fun i hi => ?_) (by simp)).mono ?_
    · have hnew := block_new W (.cells #[.int .i64 (chkP s), .int .i64 (cellE xlo xhi), .int .i64 (errS v)] 40)
      match i, hi with
      | 0, _ => exact (cell_of_block hnew 0).trans rfl
      | 1, _ => exact (cell_of_block hnew 1).trans rfl
      | 2, _ => exact (cell_of_block hnew 2).trans rfl
    rintro e W2 ⟨rfl, rfl⟩
    have hba := (Below.refl W.heap.size W).alloc (Nat.le_refl _) (.cells #[.int .i64 (chkP s), .int .i64 (cellE xlo xhi), .int .i64 (errS v)] 40)
    have HB2 := Lib.hid (HB1.out.trans (hba.mono HB1.out.size))
    have L0 := Lib.hid ((hba.block _ (by omega)).trans K0.out)
    have L1 := Lib.hid ((hba.block _ (by omega)).trans K1.out)
    have hz2 : V.heap.size ≤ (W.alloc (.cells #[.int .i64 (chkP s), .int .i64 (cellE xlo xhi), .int .i64 (errS v)] 40)).heap.size := Nat.le_trans hz1 hba.size
    clear hba
    generalize W.alloc (.cells #[.int .i64 (chkP s), .int .i64 (cellE xlo xhi), .int .i64 (errS v)] 40) = X at *
    clear hz1 K0 HK0 K1 HK1 HB0 HB1
    by_cases hE : orL [chkP s, cellE xlo xhi, errS v] = 0
    · have HR := Lib.hid (show BeyondRes s xlo xhi v ch = .tuple #[.bool (beyP s xhi ch v || beyP s xlo ch v), .bool (beyP s xhi ch v && beyP s xlo ch v), .int .i64 0] by unfold BeyondRes; rw [if_pos hE])
      obtain ⟨o1, o2⟩ := orL1 hE
      obtain ⟨o2, o3⟩ := orL1 o2
      obtain ⟨o3, _⟩ := orL1 o3
      have g := good_of o1
      have gc := cellE_ok o2
      have hv := errS_ok o3
      clear o1 o2 o3
      have HC := Lib.hid (beyond_any s ms xlo xhi v hv.1 hv.2 ch g gc X (HSs.out.later HB2.out) (HST.out.later HB2.out))
      obtain ⟨cs0, cs1, cs2, cs3, cs4, cs5, cs6, cs7, cs8, cs9, cs10⟩ := cells11 L0.out
      obtain ⟨⟨ex0, ex1, ex2, ex3, ex4, ex5, ex6, ex7⟩, _⟩ := cells8 L1.out
      generalize hO : orL [chkP s, cellE xlo xhi, errS v] = E at *
      subst hE
      clear hO
      generalize (beyP s xhi ch v || beyP s xlo ch v) = R1 at *
      generalize (beyP s xhi ch v && beyP s xlo ch v) = R2 at *
      go_wp2_with fail
      refine HC.out.mono ?_
      rintro e W3 ⟨rfl, hb3⟩
      have HB3 := Lib.hid (HB2.out.trans (hb3.mono HB2.out.size))
      clear hb3
      go_wp2_with fail
      refine bodyPost_ret (v := .tuple #[.bool R1, .bool R2, .int .i64 0]) (by simp [results, Tryz.results27, go_sem]) rfl ⟨by rw [HR.out], HB3.out⟩
    · have HR := Lib.hid (show BeyondRes s xlo xhi v ch = .tuple #[.bool false, .bool false, .int .i64 (orL [chkP s, cellE xlo xhi, errS v])] by unfold BeyondRes; rw [if_neg hE])
      generalize orL [chkP s, cellE xlo xhi, errS v] = E at *
      go_wp2_with fail
      refine bodyPost_ret (v := .tuple #[.bool false, .bool false, .int .i64 (E)]) (by simp [results, Tryz.results27, go_sem]) rfl ⟨by rw [HR.out], HB2.out⟩
def SafeRes (s : Sh) (xlo xhi : Ic) (ch : Bool) : Value := if orL [chkP s, cellE xlo xhi] = 0 then .tuple #[.int .i64 (ssLo s xlo xhi ch), .int .i64 (ssE s xlo xhi ch)] else .tuple #[.int .i64 0, .int .i64 (orL [chkP s, cellE xlo xhi])]
set_option maxHeartbeats 2000000 in
theorem Safe_any (s : Sh) (ms : Mem3) (xlo xhi : Ic) (ch : Bool) (w : World) (hs : ShipIn w s ms) (hl : Lim w) (hst : Str w) :
    Calls Tryz.prog 29 #[.agg (shipA s ms), .agg (cellV xlo xhi), .bool ch] w fun e w' => e = .returned (SafeRes s xlo xhi ch) ∧ Below w.heap.size w w' := by
  have HLM := Lib.hid hl
  have hpos := hl.pos
  have HST := Lib.hid hst
  have HSs := Lib.hid hs
  clear hs
  clear hl
  clear hst
  have hall := two_allocs w (.cells (shipA s ms) 24) (.cells (cellV xlo xhi) 30)
  go_enter Tryz.func29, Tryz.ntmps29
  go_wp2_with fail
  generalize ((w.alloc (.cells (shipA s ms) 24)).alloc (.cells (cellV xlo xhi) 30)) = V at *
  obtain ⟨t0, t1, hz, hbl⟩ := hall
  have HB0 := Lib.hid hbl
  have HK0 := Lib.hid t0
  have HK1 := Lib.hid t1
  clear hbl t0 t1
  refine wp_region_multi 4 [11, 12, 13, 14] (fun _ => false) (fun i => ([(.agg (shipA s ms)), (.int .i64 (chkP s)), (.agg (cellV xlo xhi)), (.int .i64 (cellE xlo xhi))] : List Value).getD i undef) (fun _ => .cells #[] 0) (by kernel_rfl) (by kernel_rfl) (fun s hs => by simp at hs ⊢; omega) ?val ?al ?fin
  case val =>
    intro i
    match i with
    | 0 => intro o hlt hal ho a' W hb hfr hdp; obtain rfl := Option.some.inj ho; exact op_load11 rfl (hfr 3 (by decide)) ((hb.block _ (by omega)).trans HK0.out)
    | 1 => intro o hlt hal ho a' W hb hfr hdp; obtain rfl := Option.some.inj ho; exact op_call rfl (hdp 0 11 (by decide) rfl rfl (by kernel_rfl)) eg17 (Check_any s ms W (HSs.out.later (HB0.out.trans (hb.mono HB0.out.size))))
    | 2 => intro o hlt hal ho a' W hb hfr hdp; obtain rfl := Option.some.inj ho; exact op_load8 rfl (hfr 4 (by decide)) ((hb.block _ (by omega)).trans HK1.out)
    | 3 => intro o hlt hal ho a' W hb hfr hdp; obtain rfl := Option.some.inj ho; exact op_call rfl (hdp 2 13 (by decide) rfl rfl (by kernel_rfl)) eg63 (CheckCell_any (icF xlo) (icF xhi) W (HLM.out.below hpos (HB0.out.trans (hb.mono HB0.out.size))))
    | j + 4 => intro o hlt; omega
  case al => intro i o hlt hal; cases hal
  case fin =>
    intro W B' hb hB' hne
    clear hB' hne
    simp only [List.drop_succ_cons, List.drop_zero, fill, uAll, Act.put, List.setIfInBounds_toArray, List.set_cons_zero, List.set_cons_succ, Nat.reduceAdd, if_false, Bool.false_eq_true, List.getD_cons_zero, List.getD_cons_succ]
    have HB1 := Lib.hid (HB0.out.trans (hb.mono HB0.out.size))
    have K0 := Lib.hid ((hb.block _ (by omega)).trans HK0.out)
    have K1 := Lib.hid ((hb.block _ (by omega)).trans HK1.out)
    have hz1 := hb.size
    clear hb
    go_wp2_with fail
    refine (or_any W.heap.size [chkP s, cellE xlo xhi] _ (fun i hi => ?_) (by simp)).mono ?_
    · have hnew := block_new W (.cells #[.int .i64 (chkP s), .int .i64 (cellE xlo xhi)] 40)
      match i, hi with
      | 0, _ => exact (cell_of_block hnew 0).trans rfl
      | 1, _ => exact (cell_of_block hnew 1).trans rfl
    rintro e W2 ⟨rfl, rfl⟩
    have hba := (Below.refl W.heap.size W).alloc (Nat.le_refl _) (.cells #[.int .i64 (chkP s), .int .i64 (cellE xlo xhi)] 40)
    have HB2 := Lib.hid (HB1.out.trans (hba.mono HB1.out.size))
    have L0 := Lib.hid ((hba.block _ (by omega)).trans K0.out)
    have L1 := Lib.hid ((hba.block _ (by omega)).trans K1.out)
    have hz2 : V.heap.size ≤ (W.alloc (.cells #[.int .i64 (chkP s), .int .i64 (cellE xlo xhi)] 40)).heap.size := Nat.le_trans hz1 hba.size
    clear hba
    generalize W.alloc (.cells #[.int .i64 (chkP s), .int .i64 (cellE xlo xhi)] 40) = X at *
    clear hz1 K0 HK0 K1 HK1 HB0 HB1
    by_cases hE : orL [chkP s, cellE xlo xhi] = 0
    · have HR := Lib.hid (show SafeRes s xlo xhi ch = .tuple #[.int .i64 (ssLo s xlo xhi ch), .int .i64 (ssE s xlo xhi ch)] by unfold SafeRes; rw [if_pos hE])
      obtain ⟨o1, o2⟩ := orL1 hE
      obtain ⟨o2, _⟩ := orL1 o2
      have g := good_of o1
      have gc := cellE_ok o2
      clear o1 o2
      have HC := Lib.hid (safeSpeeds_any s ms xlo xhi ch g gc X (HSs.out.later HB2.out) (HST.out.later HB2.out))
      obtain ⟨cs0, cs1, cs2, cs3, cs4, cs5, cs6, cs7, cs8, cs9, cs10⟩ := cells11 L0.out
      obtain ⟨⟨ex0, ex1, ex2, ex3, ex4, ex5, ex6, ex7⟩, _⟩ := cells8 L1.out
      generalize hO : orL [chkP s, cellE xlo xhi] = E at *
      subst hE
      clear hO
      
      go_wp2_with fail
      refine HC.out.mono ?_
      rintro e W3 ⟨rfl, hb3⟩
      have HB3 := Lib.hid (HB2.out.trans (hb3.mono HB2.out.size))
      have hba := (Below.refl W3.heap.size W3).alloc (Nat.le_refl _) (.cells #[.int .i64 0, .int .i64 0] 28)
      have HZ := Lib.hid (block_new W3 (.cells #[.int .i64 0, .int .i64 0] 28))
      go_wp2_with (refine list_store2 rfl rfl rfl (.inr (.inr rfl)) rfl rfl HZ.out ?_; intro V5 hz5 hc5; have HB4 := Lib.hid (HB3.out.trans ((hba.trans (hc5.below (Nat.le_refl _))).mono HB3.out.size)); obtain ⟨⟨k0, k1⟩, _⟩ := cells2 hz5; clear hz5 hc5 hba)
      refine bodyPost_ret (v := .tuple #[.int .i64 (ssLo s xlo xhi ch), .int .i64 (ssE s xlo xhi ch)]) (by simp [results, Tryz.results29, go_sem]) rfl ⟨by rw [HR.out], HB4.out⟩
    · have HR := Lib.hid (show SafeRes s xlo xhi ch = .tuple #[.int .i64 0, .int .i64 (orL [chkP s, cellE xlo xhi])] by unfold SafeRes; rw [if_neg hE])
      generalize orL [chkP s, cellE xlo xhi] = E at *
      go_wp2_with fail
      refine bodyPost_ret (v := .tuple #[.int .i64 0, .int .i64 (E)]) (by simp [results, Tryz.results29, go_sem]) rfl ⟨by rw [HR.out], HB2.out⟩
def SpeedsRes (s : Sh) (xlo xhi : Ic) (ch : Bool) : Value := if orL [chkP s, cellE xlo xhi] = 0 then .tuple #[.agg #[.int .i64 (spanLo (fun y => (speedP s y ch : Int)) xlo xhi), .int .i64 (spanHi (fun y => (speedP s y ch : Int)) xlo xhi)], .int .i64 0] else .tuple #[.agg #[.int .i64 0, .int .i64 0], .int .i64 (orL [chkP s, cellE xlo xhi])]
set_option maxHeartbeats 2000000 in
theorem Speeds_any (s : Sh) (ms : Mem3) (xlo xhi : Ic) (ch : Bool) (w : World) (hs : ShipIn w s ms) (hl : Lim w) :
    Calls Tryz.prog 23 #[.agg (shipA s ms), .agg (cellV xlo xhi), .bool ch] w fun e w' => e = .returned (SpeedsRes s xlo xhi ch) ∧ Below w.heap.size w w' := by
  have HLM := Lib.hid hl
  have hpos := hl.pos
  have HSs := Lib.hid hs
  clear hs
  clear hl
  have hall := four_allocs w (.cells (shipA s ms) 24) (.cells (cellV xlo xhi) 30) (.cells #[.bool ch] 4) (.cells #[.int .i64 0, .int .i64 0] 28)
  go_enter Tryz.func23, Tryz.ntmps23
  go_wp2_with fail
  generalize ((((w.alloc (.cells (shipA s ms) 24)).alloc (.cells (cellV xlo xhi) 30)).alloc (.cells #[.bool ch] 4)).alloc (.cells #[.int .i64 0, .int .i64 0] 28)) = V at *
  obtain ⟨t0, t1, t2, t3, hz, hbl⟩ := hall
  have HB0 := Lib.hid hbl
  have HK0 := Lib.hid t0
  have HK1 := Lib.hid t1
  have HK2 := Lib.hid t2
  have HK3 := Lib.hid t3
  clear hbl t0 t1 t2 t3
  refine wp_region_multi 4 [9, 10, 11, 12] (fun _ => false) (fun i => ([(.agg (shipA s ms)), (.int .i64 (chkP s)), (.agg (cellV xlo xhi)), (.int .i64 (cellE xlo xhi))] : List Value).getD i undef) (fun _ => .cells #[] 0) (by kernel_rfl) (by kernel_rfl) (fun s hs => by simp at hs ⊢; omega) ?val ?al ?fin
  case val =>
    intro i
    match i with
    | 0 => intro o hlt hal ho a' W hb hfr hdp; obtain rfl := Option.some.inj ho; exact op_load11 rfl (hfr 3 (by decide)) ((hb.block _ (by omega)).trans HK0.out)
    | 1 => intro o hlt hal ho a' W hb hfr hdp; obtain rfl := Option.some.inj ho; exact op_call rfl (hdp 0 9 (by decide) rfl rfl (by kernel_rfl)) eg17 (Check_any s ms W (HSs.out.later (HB0.out.trans (hb.mono HB0.out.size))))
    | 2 => intro o hlt hal ho a' W hb hfr hdp; obtain rfl := Option.some.inj ho; exact op_load8 rfl (hfr 4 (by decide)) ((hb.block _ (by omega)).trans HK1.out)
    | 3 => intro o hlt hal ho a' W hb hfr hdp; obtain rfl := Option.some.inj ho; exact op_call rfl (hdp 2 11 (by decide) rfl rfl (by kernel_rfl)) eg63 (CheckCell_any (icF xlo) (icF xhi) W (HLM.out.below hpos (HB0.out.trans (hb.mono HB0.out.size))))
    | j + 4 => intro o hlt; omega
  case al => intro i o hlt hal; cases hal
  case fin =>
    intro W B' hb hB' hne
    clear hB' hne
    simp only [List.drop_succ_cons, List.drop_zero, fill, uAll, Act.put, List.setIfInBounds_toArray, List.set_cons_zero, List.set_cons_succ, Nat.reduceAdd, if_false, Bool.false_eq_true, List.getD_cons_zero, List.getD_cons_succ]
    have HB1 := Lib.hid (HB0.out.trans (hb.mono HB0.out.size))
    have K0 := Lib.hid ((hb.block _ (by omega)).trans HK0.out)
    have K1 := Lib.hid ((hb.block _ (by omega)).trans HK1.out)
    have K2 := Lib.hid ((hb.block _ (by omega)).trans HK2.out)
    have K3 := Lib.hid ((hb.block _ (by omega)).trans HK3.out)
    have hz1 := hb.size
    clear hb
    go_wp2_with fail
    refine (or_any W.heap.size [chkP s, cellE xlo xhi] _ (fun i hi => ?_) (by simp)).mono ?_
    · have hnew := block_new W (.cells #[.int .i64 (chkP s), .int .i64 (cellE xlo xhi)] 40)
      match i, hi with
      | 0, _ => exact (cell_of_block hnew 0).trans rfl
      | 1, _ => exact (cell_of_block hnew 1).trans rfl
    rintro e W2 ⟨rfl, rfl⟩
    have hba := (Below.refl W.heap.size W).alloc (Nat.le_refl _) (.cells #[.int .i64 (chkP s), .int .i64 (cellE xlo xhi)] 40)
    have HB2 := Lib.hid (HB1.out.trans (hba.mono HB1.out.size))
    have L0 := Lib.hid ((hba.block _ (by omega)).trans K0.out)
    have L1 := Lib.hid ((hba.block _ (by omega)).trans K1.out)
    have L2 := Lib.hid ((hba.block _ (by omega)).trans K2.out)
    have L3 := Lib.hid ((hba.block _ (by omega)).trans K3.out)
    have hz2 : V.heap.size ≤ (W.alloc (.cells #[.int .i64 (chkP s), .int .i64 (cellE xlo xhi)] 40)).heap.size := Nat.le_trans hz1 hba.size
    clear hba
    generalize W.alloc (.cells #[.int .i64 (chkP s), .int .i64 (cellE xlo xhi)] 40) = X at *
    clear hz1 K0 HK0 K1 HK1 K2 HK2 K3 HK3 HB0 HB1
    by_cases hE : orL [chkP s, cellE xlo xhi] = 0
    · have HR := Lib.hid (show SpeedsRes s xlo xhi ch = .tuple #[.agg #[.int .i64 (spanLo (fun y => (speedP s y ch : Int)) xlo xhi), .int .i64 (spanHi (fun y => (speedP s y ch : Int)) xlo xhi)], .int .i64 0] by unfold SpeedsRes; rw [if_pos hE])
      obtain ⟨o1, o2⟩ := orL1 hE
      obtain ⟨o2, _⟩ := orL1 o2
      have g := good_of o1
      have gc := cellE_ok o2
      clear o1 o2
      have HC := Lib.hid (show Calls Tryz.prog 83 #[.agg (cellV xlo xhi), .func (.func 84) #[] #[.pointer (some ⟨w.heap.size, 0, none⟩), .pointer (some ⟨w.heap.size + 1 + 1, 0, none⟩)]] X fun e w' => e = .returned (.agg #[.int .i64 (spanLo (fun y => (speedP s y ch : Int)) xlo xhi), .int .i64 (spanHi (fun y => (speedP s y ch : Int)) xlo xhi)]) ∧ Below X.heap.size X w' from slowFast_any 84 #[.pointer (some ⟨w.heap.size, 0, none⟩), .pointer (some ⟨w.heap.size + 1 + 1, 0, none⟩)] eg65 (fun y => (speedP s y ch : Int)) xlo xhi X (fun y W' hW' => Speeds1_any s ms y.1 ch g (gc.at y) w.heap.size (w.heap.size + 1 + 1) W' (HSs.out.later (HB2.out.trans (hW'.mono HB2.out.size))) ((hW'.block _ (lt_of_block L0.out)).trans L0.out) ((hW'.block _ (lt_of_block L2.out)).trans L2.out)))
      obtain ⟨cs0, cs1, cs2, cs3, cs4, cs5, cs6, cs7, cs8, cs9, cs10⟩ := cells11 L0.out
      obtain ⟨⟨ex0, ex1, ex2, ex3, ex4, ex5, ex6, ex7⟩, _⟩ := cells8 L1.out
      have qch0 := (cell_of_block L2.out 0).trans rfl
      simp only [List.getElem?_toArray, List.getElem?_cons_zero] at qch0
      generalize hO : orL [chkP s, cellE xlo xhi] = E at *
      subst hE
      clear hO
      generalize spanLo (fun y => (speedP s y ch : Int)) xlo xhi = R1 at *
      generalize spanHi (fun y => (speedP s y ch : Int)) xlo xhi = R2 at *
      go_wp2_with fail
      refine HC.out.mono ?_
      rintro e W3 ⟨rfl, hb3⟩
      have HB3 := Lib.hid (HB2.out.trans (hb3.mono HB2.out.size))
      have M3 := Lib.hid ((hb3.block _ (lt_of_block L3.out)).trans L3.out)
      go_wp2_with (refine list_store2 rfl rfl rfl (.inr (.inr rfl)) rfl rfl M3.out ?_; intro V5 hz5 hc5; have HB4 := Lib.hid (HB3.out.trans (hc5.below (by omega))); obtain ⟨⟨k0, k1⟩, _⟩ := cells2 hz5; clear hz5 hc5 hb3)
      refine bodyPost_ret (v := .tuple #[.agg #[.int .i64 R1, .int .i64 R2], .int .i64 0]) (by simp [results, Tryz.results23, go_sem, k0, k1]) rfl ⟨by rw [HR.out], HB4.out⟩
    · have HR := Lib.hid (show SpeedsRes s xlo xhi ch = .tuple #[.agg #[.int .i64 0, .int .i64 0], .int .i64 (orL [chkP s, cellE xlo xhi])] by unfold SpeedsRes; rw [if_neg hE])
      generalize orL [chkP s, cellE xlo xhi] = E at *
      go_wp2_with (refine list_store2 rfl rfl rfl (.inr (.inr rfl)) rfl rfl L3.out ?_; intro V5 hz5 hc5; have HB4 := Lib.hid (HB2.out.trans (hc5.below (by omega))); obtain ⟨⟨k0, k1⟩, _⟩ := cells2 hz5; clear hz5 hc5)
      refine bodyPost_ret (v := .tuple #[.agg #[.int .i64 0, .int .i64 0], .int .i64 E]) (by simp [results, Tryz.results23, go_sem, k0, k1]) rfl ⟨by rw [HR.out], HB4.out⟩
end Go.Proofs.YtcoiklolgilhaaaGreatDoor
namespace Go.Proofs.YtcoiklolgilhaaaGreatDoor
open Go.RowKit
set_option maxRecDepth 100000
section
variable {s : Sh} {lo hi : Ic} {ch : Bool}
theorem sp_le (g : Good s) (gc : GoodC lo hi) : speedP s hi ch ≤ speedP s lo ch := speed_le g gc.gl gc.gh gc.le (fun h => h)
theorem sp_top (g : Good s) {i : Ic} (gi : GoodI i) : (speedP s i ch : Int) ≤ lastXP s.th ∧ speedP s i ch ≤ 250 := by
  have h := (great_spec (makes_anti g gi ch (lastXP s.th).toNat)).1
  have := g.top
  unfold speedP
  omega
theorem bes_one (g : Good s) (gc : GoodC lo hi) : (besP s hi ch || besP s lo ch) = decide ((speedP s hi ch : Int) < 10) ∧ (besP s hi ch && besP s lo ch) = decide ((speedP s lo ch : Int) < 10) := by
  have h := sp_le (ch := ch) g gc
  unfold besP
  by_cases h1 : (speedP s lo ch : Int) < 10
  · have h2 : (speedP s hi ch : Int) < 10 := by omega
    simp [h1, h2]
  · by_cases h2 : (speedP s hi ch : Int) < 10 <;> simp [h1, h2]
theorem bey_one (gc : GoodC lo hi) {v : Int} (hv : 0 ≤ v) : (beyP s hi ch v || beyP s lo ch v) = beyP s hi ch v ∧ (beyP s hi ch v && beyP s lo ch v) = beyP s lo ch v := by
  cases h1 : beyP s lo ch v with
  | true => rw [bey_le gc.gl gc.gh gc.le hv (Int.le_refl _) (fun h => h) h1]; simp
  | false => simp
theorem span_sp (g : Good s) (gc : GoodC lo hi) : spanLo (fun y => (speedP s y ch : Int)) lo hi = (speedP s hi ch : Int) ∧ spanHi (fun y => (speedP s y ch : Int)) lo hi = (speedP s lo ch : Int) := by
  have h := sp_le (ch := ch) g gc
  have h1 := (sp_top (ch := ch) g gc.gl).2
  simp only [spanLo, spanHi, mn, mx]
  omega
theorem in_cell (g : Good s) (gc : GoodC lo hi) {i : Ic} (gi : GoodI i) (h1 : LeI lo i) (h2 : LeI i hi) : speedP s hi ch ≤ speedP s i ch ∧ speedP s i ch ≤ speedP s lo ch :=
  ⟨speed_le g gi gc.gh h2 (fun h => h), speed_le g gc.gl gi h1 (fun h => h)⟩
theorem ss_beset (g : Good s) (gc : GoodC lo hi) (h : (speedP s hi ch : Int) < 10) : ssE s lo hi ch = 4 := by
  unfold ssE
  rw [(bes_one g gc).1, if_pos (by simpa using h)]
theorem ss_class (g : Good s) (gc : GoodC lo hi) (h : ¬ (speedP s hi ch : Int) < 10) (hb : beyP s hi ch 10 = true) : ssE s lo hi ch = 41 := by
  unfold ssE
  rw [(bes_one g gc).1, if_neg (by simpa using h), (bey_one gc (by decide)).1, if_pos hb]
theorem sa_le (g : Good s) (gc : GoodC lo hi) : safeP s hi ch ≤ safeP s lo ch := safe_le g gc.gl gc.gh gc.le (fun h => h)
theorem sa_top (g : Good s) {i : Ic} (gi : GoodI i) : (safeP s i ch : Int) ≤ lastXP s.th ∧ safeP s i ch ≤ 250 := by
  have h := (great_spec (safeB_anti g gi ch (lastXP s.th).toNat)).1
  have := g.top
  unfold safeP
  omega
theorem ss_ok (g : Good s) (gc : GoodC lo hi) (h : ¬ (speedP s hi ch : Int) < 10) (hb : beyP s hi ch 10 = false) : ssE s lo hi ch = 0 ∧ ssLo s lo hi ch = (safeP s hi ch : Int) ∧ ssHi s lo hi ch = (safeP s lo ch : Int) := by
  have e : ssE s lo hi ch = 0 := by
    unfold ssE
    rw [(bes_one g gc).1, if_neg (by simpa using h), (bey_one gc (by decide)).1, if_neg (by simp [hb])]
  have h0 := sa_le (ch := ch) g gc
  have h1 := (sa_top (ch := ch) g gc.gl).2
  refine ⟨e, ?_, ?_⟩
  · unfold ssLo
    rw [if_pos e]
    simp only [spanLo, mn]
    omega
  · unfold ssHi
    rw [if_pos e]
    simp only [spanHi, mx]
    omega
theorem sa_facts (g : Good s) {i : Ic} (gi : GoodI i) (h : ¬ (speedP s i ch : Int) < 10) (hb : beyP s i ch 10 = false) :
    10 ≤ safeP s i ch ∧ safeP s i ch ≤ speedP s i ch ∧ makesP s i ch (safeP s i ch) = true ∧ beyP s i ch (safeP s i ch) = false ∧ (makesP s i ch ((safeP s i ch : Int) + 1) && !beyP s i ch ((safeP s i ch : Int) + 1)) = false := by
  have t := g.top
  have sp := great_spec (makes_anti g gi ch (lastXP s.th).toNat)
  have sa := great_spec (safeB_anti g gi ch (lastXP s.th).toNat)
  have hz : makesP s i ch ((0 : Nat) : Int) = true := by
    cases hz : makesP s i ch ((0 : Nat) : Int) with
    | true => rfl
    | false =>
      exfalso
      apply h
      have : speedP s i ch = 0 := by unfold speedP greatP; rw [if_neg (by show ¬ makesP s i ch ((0 : Nat) : Int) = true; rw [hz]; simp)]
      omega
  have hm := sp.2.1 hz
  have h10 : makesP s i ch ((10 : Nat) : Int) = true := makes_anti g gi ch _ 10 (greatP (fun v => makesP s i ch v) (lastXP s.th).toNat) (by unfold speedP at h; omega) sp.1 hm
  have s10 : safeB s i ch 10 = true := by unfold safeB; rw [h10]; simp [hb]
  have h1 : 10 ≤ safeP s i ch := by
    rcases Nat.lt_or_ge (safeP s i ch) 10 with hl | hl
    · have := sa.2.2 10 hl (by omega)
      rw [s10] at this
      cases this
    · exact hl
  have s0 : safeB s i ch 0 = true := safeB_anti g gi ch _ 0 10 (by omega) (by omega : 10 ≤ (lastXP s.th).toNat) s10
  have hs : safeB s i ch (safeP s i ch) = true := sa.2.1 s0
  have hs' := hs
  unfold safeB at hs'
  simp only [Bool.and_eq_true, Bool.not_eq_true'] at hs'
  refine ⟨h1, ?_, hs'.1, hs'.2, ?_⟩
  · rcases Nat.lt_or_ge (speedP s i ch) (safeP s i ch) with hl | hl
    · have : makesP s i ch (safeP s i ch) = false := sp.2.2 (safeP s i ch) hl sa.1
      rw [hs'.1] at this
      cases this
    · exact hl
  · by_cases hl : safeP s i ch + 1 ≤ (lastXP s.th).toNat
    · have := sa.2.2 (safeP s i ch + 1) (Nat.lt_succ_self _) hl
      unfold safeB at this
      exact_mod_cast this
    · have : makesP s i ch ((safeP s i ch : Int) + 1) = false := by
        unfold makesP
        rw [decide_eq_false (show ¬ ((safeP s i ch : Int) + 1 ≤ lastXP s.th) by omega)]
        rfl
      rw [this]
      rfl
end
section
variable (s : Sh) (ms : Mem3) (lo hi : Ic) (ch : Bool) (w : World)
theorem Beset_ok (hs : ShipIn w s ms) (hl : Lim w) (hc : chkP s = 0) (gc : GoodC lo hi) :
    Calls Tryz.prog 25 #[.agg (shipA s ms), .agg (cellV lo hi), .bool ch] w fun e w' => e = .returned (.tuple #[.bool (decide ((speedP s hi ch : Int) < 10)), .bool (decide ((speedP s lo ch : Int) < 10)), .int .i64 0]) ∧ Below w.heap.size w w' := by
  refine (Beset_any s ms lo hi ch w hs hl).mono ?_
  rintro e w' ⟨rfl, hb⟩
  refine ⟨?_, hb⟩
  unfold BesetRes
  rw [if_pos (by rw [hc, cellE_of gc]; rfl), (bes_one (good_of hc) gc).1, (bes_one (good_of hc) gc).2]
theorem Beyond_ok (v : Int) (hs : ShipIn w s ms) (hl : Lim w) (hst : Str w) (hc : chkP s = 0) (gc : GoodC lo hi) (h0 : 0 ≤ v) (h1 : v ≤ 250) :
    Calls Tryz.prog 27 #[.agg (shipA s ms), .agg (cellV lo hi), .int .i64 v, .bool ch] w fun e w' => e = .returned (.tuple #[.bool (beyP s hi ch v), .bool (beyP s lo ch v), .int .i64 0]) ∧ Below w.heap.size w w' := by
  refine (Beyond_any s ms lo hi v ch w hs hl hst).mono ?_
  rintro e w' ⟨rfl, hb⟩
  refine ⟨?_, hb⟩
  unfold BeyondRes
  rw [if_pos (by rw [hc, cellE_of gc, errS_of h0 h1]; rfl), (bey_one gc h0).1, (bey_one gc h0).2]
theorem Safe_ok (hs : ShipIn w s ms) (hl : Lim w) (hst : Str w) (hc : chkP s = 0) (gc : GoodC lo hi) :
    Calls Tryz.prog 29 #[.agg (shipA s ms), .agg (cellV lo hi), .bool ch] w fun e w' => e = .returned (.tuple #[.int .i64 (ssLo s lo hi ch), .int .i64 (ssE s lo hi ch)]) ∧ Below w.heap.size w w' := by
  refine (Safe_any s ms lo hi ch w hs hl hst).mono ?_
  rintro e w' ⟨rfl, hb⟩
  refine ⟨?_, hb⟩
  unfold SafeRes
  rw [if_pos (by rw [hc, cellE_of gc]; rfl)]
theorem Speeds_ok (hs : ShipIn w s ms) (hl : Lim w) (hc : chkP s = 0) (gc : GoodC lo hi) :
    Calls Tryz.prog 23 #[.agg (shipA s ms), .agg (cellV lo hi), .bool ch] w fun e w' => e = .returned (.tuple #[.agg #[.int .i64 (speedP s hi ch : Int), .int .i64 (speedP s lo ch : Int)], .int .i64 0]) ∧ Below w.heap.size w w' := by
  refine (Speeds_any s ms lo hi ch w hs hl).mono ?_
  rintro e w' ⟨rfl, hb⟩
  refine ⟨?_, hb⟩
  unfold SpeedsRes
  rw [if_pos (by rw [hc, cellE_of gc]; rfl), (span_sp (good_of hc) gc).1, (span_sp (good_of hc) gc).2]
theorem Makes_ok (x : Ic) (v : Int) (hs : ShipIn w s ms) (hl : Lim w) (hc : chkP s = 0) (gi : GoodI x) (h0 : 0 ≤ v) (h1 : v ≤ 250) :
    Calls Tryz.prog 15 #[.agg (shipA s ms), .agg (iceV x), .int .i64 v, .bool ch] w fun e w' => e = .returned (.tuple #[.bool (makesP s x ch v), .int .i64 0]) ∧ Below w.heap.size w w' := by
  refine (Makes_any s ms x v ch w hs hl).mono ?_
  rintro e w' ⟨rfl, hb⟩
  refine ⟨?_, hb⟩
  unfold MakesRes
  rw [if_pos (by rw [hc, iceE_of gi, errS_of h0 h1]; rfl)]
end
end Go.Proofs.YtcoiklolgilhaaaGreatDoor
namespace Go.Proofs.YtcoiklolgilhaaaGreatDoor
open Go.RowKit
set_option maxRecDepth 100000
/-- All blocks that were there are as they were, but one. -/
def Kep (b : Nat) (W W' : World) : Prop := W.heap.size ≤ W'.heap.size ∧ ∀ k, k < W.heap.size → k ≠ b → W'.heap[k]? = W.heap[k]?
theorem Kep.refl (b : Nat) (W : World) : Kep b W W := ⟨Nat.le_refl _, fun _ _ _ => rfl⟩
theorem Kep.trans {b : Nat} {A B C : World} (h : Kep b A B) (k : Kep b B C) : Kep b A C := ⟨Nat.le_trans h.1 k.1, fun i hi hb => (k.2 i (Nat.lt_of_lt_of_le hi h.1) hb).trans (h.2 i hi hb)⟩
theorem Kep.of {b : Nat} {W W' : World} (h : Below W.heap.size W W') : Kep b W W' := ⟨h.size, fun i hi _ => h.block i hi⟩
theorem Kep.chg {b : Nat} {W W' : World} (h : Chg b W W') : Kep b W W' := ⟨Nat.le_of_eq h.1.symm, fun i _ hb => h.2.1 i hb⟩
theorem Kep.at {b c : Nat} {W W' : World} (h : Kep b W W') {o : Obj} (hc : c ≠ b) (hb : W.heap[c]? = some o) : W'.heap[c]? = some o := (h.2 c (lt_of_block hb) hc).trans hb
section
variable {Q : Exit → Act → World → Prop} {o : Oper} {a' : Act} {W : World}
theorem op_remt {s t : Nat} {x y : Int} (hop : o.op = Op.binOp .rem 3 (.tmp s) (.tmp t) 3) (he : a'.eval (.tmp s) = .int .i64 x) (ht : a'.eval (.tmp t) = .int .i64 y) (hx : 0 ≤ x) (hy : 0 < y) (hy' : y ≤ 9223372036854775807) :
    o.wp Tryz.prog a' W (fun a'' W' => a'' = a'.put o.dst (.int .i64 (x % y)) ∧ Below W.heap.size W W') Q := by
  have hr := Below.refl W.heap.size W
  have he' : a'.tmps[s]?.getD undef = .int .i64 x := by simpa [Act.eval] using he
  have ht' : a'.tmps[t]?.getD undef = .int .i64 y := by simpa [Act.eval] using ht
  have m0 := Int.emod_nonneg x (show y ≠ 0 by omega)
  have m1 := Int.emod_lt_of_pos x hy
  have hz : y ≠ 0 := by omega
  have ht2 : x.tmod y = x % y := Int.tmod_eq_emod_of_nonneg hx
  unfold Oper.wp execOp
  rw [hop]
  simp [go_sem, he', ht', hz, ht2, hr]
theorem op_load2o {s b off : Nat} {x y : Value} (hop : o.op = Op.load 28 (.tmp s)) (he : a'.eval (.tmp s) = .pointer (some ⟨b, off, none⟩)) (hx : W.cell? ⟨b, off, none⟩ = some x) (hy : W.cell? ⟨b, off + 1, none⟩ = some y) :
    o.wp Tryz.prog a' W (fun a'' W' => a'' = a'.put o.dst (.agg #[x, y]) ∧ Below W.heap.size W W') Q := by
  have hr := Below.refl W.heap.size W
  have he' : a'.tmps[s]?.getD undef = .pointer (some ⟨b, off, none⟩) := by simpa [Act.eval] using he
  unfold Oper.wp execOp
  rw [hop]
  simp [go_sem, he', hx, hy, hr]
end
def so1F (lo hi : Int) (fv : Value) (B : Nat) : Nat → Value → Prop
  | 0, v => v = .pointer (some ⟨B, 0 + 0, none⟩)
  | 1, v => v = .int .i64 lo
  | 2, v => v = fv
  | 3, v => ∃ r : Int, v = .int .i64 r ∧ 0 ≤ r ∧ r < 256
  | 4, v => v = fv
  | 5, v => ∃ r : Int, v = .int .i64 r ∧ 0 ≤ r ∧ r < 2
  | 6, v => ∃ r : Int, v = .int .i64 r ∧ 0 ≤ r ∧ r ≤ 256
  | 7, v => ∃ r : Int, v = .int .i64 r ∧ 0 ≤ r ∧ r ≤ 511
  | 8, v => v = .pointer (some ⟨B, 0 + 1, none⟩)
  | 9, v => v = .int .i64 hi
  | 10, v => v = .pointer (some ⟨B, 0 + 0, none⟩)
  | 11, v => v = .int .i64 lo
  | 12, v => v = .int .i64 (hi - lo)
  | 13, v => v = .int .i64 (hi - lo + 1)
  | 14, v => ∃ r : Int, v = .int .i64 r ∧ 0 ≤ r ∧ r ≤ hi - lo
  | 15, v => ∃ r : Int, v = .int .i64 r ∧ lo ≤ r ∧ r ≤ hi
  | 16, v => ∃ r : Int, v = .int .i64 r ∧ lo ≤ r ∧ r ≤ hi
  | _, _ => True
structure InC (lo hi x : Ic) : Prop where
  l : LeI lo x
  h : LeI x hi
theorem InC.good {lo hi x : Ic} (h : InC lo hi x) (g : GoodC lo hi) : GoodI x :=
  ⟨⟨Int.le_trans g.gl.conc.1 h.l.conc, Int.le_trans h.h.conc g.gh.conc.2⟩, ⟨Int.le_trans g.gl.thick.1 h.l.thick, Int.le_trans h.h.thick g.gh.thick.2⟩, ⟨Int.le_trans g.gl.ridge.1 h.l.ridge, Int.le_trans h.h.ridge g.gh.ridge.2⟩, ⟨Int.le_trans g.gl.press.1 h.l.press, Int.le_trans h.h.press g.gh.press.2⟩⟩
structure So3 (w0 : World) (p : Option Addr) (k cap Bi Bl Bn B2 B4 : Nat) (lo hi : Ic) (L : Nat → Bool) (W : World) : Prop where
  nx : NxIn w0 p k cap Bi Bl W
  n : W.heap[Bn]? = some (.cells #[.func (.func 115) #[] #[.pointer (some ⟨Bi, 0, none⟩), .pointer (some ⟨Bl, 0, none⟩)]] 101 (0, 0))
  c : W.heap[B2]? = some (.cells (cellV lo hi) 30 (0, 0))
  r : ∃ x : Ic, W.heap[B4]? = some (.cells (iceV x) 26 (0, 0)) ∧ (L 17 = true → InC lo hi x)
theorem So3.later {w0 W W' : World} {p : Option Addr} {k cap Bi Bl Bn B2 B4 : Nat} {lo hi : Ic} {L : Nat → Bool} (h : So3 w0 p k cap Bi Bl Bn B2 B4 lo hi L W) (hb : Below W.heap.size W W') : So3 w0 p k cap Bi Bl Bn B2 B4 lo hi L W' := by
  obtain ⟨x, hx, hy⟩ := h.r
  exact ⟨h.nx.later hb, (hb.block _ (lt_of_block h.n)).trans h.n, (hb.block _ (lt_of_block h.c)).trans h.c, x, (hb.block _ (lt_of_block hx)).trans hx, hy⟩
theorem So3.keep {w0 W W' : World} {p : Option Addr} {k cap Bi Bl Bn B2 B4 : Nat} {lo hi : Ic} {L : Nat → Bool} (h : So3 w0 p k cap Bi Bl Bn B2 B4 lo hi L W) (hn : NxIn w0 p k cap Bi Bl W') (hk : Kep Bi W W') (h1 : Bn ≠ Bi) (h2 : B2 ≠ Bi) (h3 : B4 ≠ Bi) : So3 w0 p k cap Bi Bl Bn B2 B4 lo hi L W' := by
  obtain ⟨x, hx, hy⟩ := h.r
  exact ⟨hn, hk.at h1 h.n, hk.at h2 h.c, x, hk.at h3 hx, hy⟩
theorem So3.set {w0 W : World} {p : Option Addr} {k cap Bi Bl Bn B2 B4 : Nat} {lo hi : Ic} {L : Nat → Bool} (h : So3 w0 p k cap Bi Bl Bn B2 B4 lo hi L W) (i : Nat) (hi' : i ≠ 17) : So3 w0 p k cap Bi Bl Bn B2 B4 lo hi (fun j => if j = i then true else L j) W := by
  refine ⟨h.nx, h.n, h.c, ?_⟩
  simp only [if_neg (Ne.symm hi')]
  exact h.r
def so3F (lo hi : Ic) (B2 : Nat) (cv : Value) : Nat → Value → Prop
  | 0, v => v = cv
  | 1, v => v = .pointer (some ⟨B2, 2 * 0, none⟩)
  | 2, v => v = .agg #[.int .i64 lo.conc, .int .i64 hi.conc]
  | 3, v => ∃ r : Int, v = .int .i64 r ∧ lo.conc ≤ r ∧ r ≤ hi.conc
  | 4, v => v = cv
  | 5, v => v = .pointer (some ⟨B2, 2 * 1, none⟩)
  | 6, v => v = .agg #[.int .i64 lo.thick, .int .i64 hi.thick]
  | 7, v => ∃ r : Int, v = .int .i64 r ∧ lo.thick ≤ r ∧ r ≤ hi.thick
  | 8, v => v = cv
  | 9, v => v = .pointer (some ⟨B2, 2 * 2, none⟩)
  | 10, v => v = .agg #[.int .i64 lo.ridge, .int .i64 hi.ridge]
  | 11, v => ∃ r : Int, v = .int .i64 r ∧ lo.ridge ≤ r ∧ r ≤ hi.ridge
  | 12, v => v = cv
  | 13, v => v = .pointer (some ⟨B2, 2 * 3, none⟩)
  | 14, v => v = .agg #[.int .i64 lo.press, .int .i64 hi.press]
  | 15, v => ∃ r : Int, v = .int .i64 r ∧ lo.press ≤ r ∧ r ≤ hi.press
  | 16, v => ∃ x : Ic, v = .agg (iceV x) ∧ InC lo hi x
  | _, _ => True
set_option maxHeartbeats 2000000 in
theorem Just_any (x : Ic) (w : World) : Calls Tryz.prog 62 #[.agg (iceV x)] w fun e w' => e = .returned (.agg (cellV x x)) ∧ Below w.heap.size w w' := by
  obtain ⟨t1, t2, tz, tb⟩ := two_allocs w (.cells (iceV x) 26) (.cells #[.int .i64 0, .int .i64 0, .int .i64 0, .int .i64 0, .int .i64 0, .int .i64 0, .int .i64 0, .int .i64 0] 30)
  have H2 := Lib.hid t2
  have HB := Lib.hid tb
  obtain ⟨⟨d0, d1, d2, d3⟩, _⟩ := cells4 t1
  clear t1 t2 tb
  go_enter Tryz.func62, Tryz.ntmps62
  go_wp2_with (refine list_store8 rfl rfl rfl (.inl rfl) rfl rfl H2.out ?_; intro V hz hc; have HBE := Lib.hid (HB.out.trans (hc.below (by omega))); obtain ⟨⟨g0, g1, g2, g3, g4, g5, g6, g7⟩, _⟩ := cells8 hz; clear hz hc)
  refine bodyPost_ret (v := .agg (cellV x x)) (by simp [results, Tryz.results62, go_sem, g0, g1, g2, g3, g4, g5, g6, g7, cellV]) rfl ⟨rfl, HBE.out⟩
end Go.Proofs.YtcoiklolgilhaaaGreatDoor
namespace Go.Proofs.YtcoiklolgilhaaaGreatDoor
open Go.RowKit
set_option maxRecDepth 100000
section
variable (s : Sh) (ms : Mem3) (lo hi : Ic) (ch : Bool) (w : World)
theorem Safe_ex (hs : ShipIn w s ms) (hl : Lim w) (hst : Str w) (hc : chkP s = 0) (gc : GoodC lo hi) :
    Calls Tryz.prog 29 #[.agg (shipA s ms), .agg (cellV lo hi), .bool ch] w fun e w' => ∃ L E : Int, e = .returned (.tuple #[.int .i64 L, .int .i64 E]) ∧ L = ssLo s lo hi ch ∧ E = ssE s lo hi ch ∧ Below w.heap.size w w' := by
  refine (Safe_ok s ms lo hi ch w hs hl hst hc gc).mono ?_
  rintro e w' ⟨rfl, hb⟩
  exact ⟨_, _, rfl, rfl, rfl, hb⟩
theorem Beyond_ex (v : Int) (hs : ShipIn w s ms) (hl : Lim w) (hst : Str w) (hc : chkP s = 0) (gc : GoodC lo hi) (h0 : 0 ≤ v) (h1 : v ≤ 250) :
    Calls Tryz.prog 27 #[.agg (shipA s ms), .agg (cellV lo hi), .int .i64 v, .bool ch] w fun e w' => ∃ a b : Bool, e = .returned (.tuple #[.bool a, .bool b, .int .i64 0]) ∧ a = beyP s hi ch v ∧ b = beyP s lo ch v ∧ Below w.heap.size w w' := by
  refine (Beyond_ok s ms lo hi ch w v hs hl hst hc gc h0 h1).mono ?_
  rintro e w' ⟨rfl, hb⟩
  exact ⟨_, _, rfl, rfl, rfl, hb⟩
theorem Makes_na (x : Ic) (v : Int) (hs : ShipIn w s ms) (hl : Lim w) (hc : chkP s = 0) (gi : GoodI x) (h0 : 0 ≤ v) (h1 : v ≤ 250) :
    Calls Tryz.prog 15 #[.agg (shipA s ms), .agg (iceV x), .int .i64 v, .bool ch] w fun e w' => ∃ a : Bool, e = .returned (.tuple #[.bool a, .int .i64 0]) ∧ a = makesP s x ch v ∧ Below w.heap.size w w' := by
  refine (Makes_ok s ms ch w x v hs hl hc gi h0 h1).mono ?_
  rintro e w' ⟨rfl, hb⟩
  exact ⟨_, rfl, rfl, hb⟩
theorem Beset_ex (hs : ShipIn w s ms) (hl : Lim w) (hc : chkP s = 0) (gc : GoodC lo hi) :
    Calls Tryz.prog 25 #[.agg (shipA s ms), .agg (cellV lo hi), .bool ch] w fun e w' => ∃ a b : Bool, e = .returned (.tuple #[.bool a, .bool b, .int .i64 0]) ∧ a = decide ((speedP s hi ch : Int) < 10) ∧ b = decide ((speedP s lo ch : Int) < 10) ∧ Below w.heap.size w w' := by
  refine (Beset_ok s ms lo hi ch w hs hl hc gc).mono ?_
  rintro e w' ⟨rfl, hb⟩
  exact ⟨_, _, rfl, rfl, rfl, hb⟩
theorem Speeds_ex (hs : ShipIn w s ms) (hl : Lim w) (hc : chkP s = 0) (gc : GoodC lo hi) :
    Calls Tryz.prog 23 #[.agg (shipA s ms), .agg (cellV lo hi), .bool ch] w fun e w' => ∃ a b : Int, e = .returned (.tuple #[.agg #[.int .i64 a, .int .i64 b], .int .i64 0]) ∧ a = (speedP s hi ch : Int) ∧ b = (speedP s lo ch : Int) ∧ Below w.heap.size w w' := by
  refine (Speeds_ok s ms lo hi ch w hs hl hc gc).mono ?_
  rintro e w' ⟨rfl, hb⟩
  exact ⟨_, _, rfl, rfl, rfl, hb⟩
end
section
variable {Q : Exit → Act → World → Prop} {o : Oper} {a' : Act} {W : World}
theorem opx_call4g {f s t r0 r1 : Nat} {v u z y : Value} {ts : Array TypeId} {Rq : Value → World → Prop} (hop : o.op = Op.call { callee := .value (.func f), args := #[.tmp s, .tmp t, .tmp r0, .tmp r1], argTypes := ts })
    (he : a'.eval (.tmp s) = v) (ht : a'.eval (.tmp t) = u) (hz : a'.eval (.tmp r0) = z) (hy : a'.eval (.tmp r1) = y) (eg : ∀ args w, (callFunc f args).run Tryz.prog w = .ok (.enter f args) w) (hc : Calls Tryz.prog f #[v, u, z, y] W fun e W' => ∃ r, e = .returned r ∧ Rq r W') :
    o.wp Tryz.prog a' W (fun a'' W' => ∃ x, a'' = a'.put o.dst x ∧ Rq x W') Q := by
  have he' : a'.tmps[s]?.getD undef = v := by simpa [Act.eval] using he
  have ht' : a'.tmps[t]?.getD undef = u := by simpa [Act.eval] using ht
  have hz' : a'.tmps[r0]?.getD undef = z := by simpa [Act.eval] using hz
  have hy' : a'.tmps[r1]?.getD undef = y := by simpa [Act.eval] using hy
  unfold Oper.wp execOp
  rw [hop]
  simp [go_sem, he', ht', hz', hy', eg]
  refine hc.mono ?_
  rintro e w' ⟨r, rfl, hb⟩
  exact ⟨r, rfl, hb⟩
end
theorem egf33 : ∀ args w, (callFunc 27 args).run Tryz.prog w = .ok (.enter 27 args) w := Go.Proofs.enters_of Tryz.func27 (by kernel_rfl) rfl
theorem egf34 : ∀ args w, (callFunc 62 args).run Tryz.prog w = .ok (.enter 62 args) w := Go.Proofs.enters_of Tryz.func62 (by kernel_rfl) rfl
end Go.Proofs.YtcoiklolgilhaaaGreatDoor
