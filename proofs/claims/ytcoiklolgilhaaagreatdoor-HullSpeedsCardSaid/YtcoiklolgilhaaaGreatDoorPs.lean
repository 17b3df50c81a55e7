/- The contracts of hull.Speed, Resistance, Makes. The table of limits and the one of strengths hold their numbers. -/
import Derived.Test.YtcoiklolgilhaaaGreatDoorPg
import Derived.Test.YtcoiklolgilhaaaGreatDoorPr
namespace Go.Proofs.YtcoiklolgilhaaaGreatDoor
open Go.RowKit
set_option maxRecDepth 100000
def icF (i : Ic) : Nat → Int
  | 0 => i.conc
  | 1 => i.thick
  | 2 => i.ridge
  | _ => i.press
def iceE (i : Ic) : Int := errB (okIce (icF i)) 20
def cellE (lo hi : Ic) : Int := errB (okCell (icF lo) (icF hi)) 20
theorem iceE_ok {i : Ic} (h : iceE i = 0) : GoodI i := by
  unfold iceE errB at h
  by_cases hk : okIce (icF i) = true
  · simp [okIce, allB, icF, inB, lim] at hk
    exact ⟨⟨hk.1.1.1.1, hk.1.1.1.2⟩, ⟨hk.1.1.2.1, hk.1.1.2.2⟩, ⟨hk.1.2.1, hk.1.2.2⟩, ⟨hk.2.1, hk.2.2⟩⟩
  · rw [if_neg hk] at h; cases h
theorem iceE_of {i : Ic} (g : GoodI i) : iceE i = 0 := by
  obtain ⟨⟨a, b⟩, ⟨c, d⟩, ⟨e, f⟩, ⟨p, q⟩⟩ := g
  unfold iceE errB
  rw [if_pos]
  simp [okIce, allB, icF, inB, lim, a, b, c, d, e, f, p, q]
theorem cellE_ok {lo hi : Ic} (h : cellE lo hi = 0) : GoodC lo hi := by
  unfold cellE errB at h
  by_cases hk : okCell (icF lo) (icF hi) = true
  · simp [okCell, allB, icF, okSpan, lim] at hk
    obtain ⟨⟨⟨⟨a, b, c⟩, d, e, f⟩, p, q, r⟩, x, y, z⟩ := hk
    exact ⟨⟨⟨a, by omega⟩, ⟨d, by omega⟩, ⟨p, by omega⟩, ⟨x, by omega⟩⟩, ⟨⟨by omega, c⟩, ⟨by omega, f⟩, ⟨by omega, r⟩, ⟨by omega, z⟩⟩, ⟨b, e, q, y⟩⟩
  · rw [if_neg hk] at h; cases h
theorem cellE_of {lo hi : Ic} (g : GoodC lo hi) : cellE lo hi = 0 := by
  obtain ⟨⟨⟨a, b⟩, ⟨c, d⟩, ⟨e, f⟩, ⟨p, q⟩⟩, ⟨⟨a', b'⟩, ⟨c', d'⟩, ⟨e', f'⟩, ⟨p', q'⟩⟩, ⟨l1, l2, l3, l4⟩⟩ := g
  unfold cellE errB
  rw [if_pos]
  simp [okCell, allB, icF, okSpan, lim, *]
theorem errS_ok {v : Int} (h : errS v = 0) : 0 ≤ v ∧ v ≤ 250 := by
  unfold errS at h
  split at h
  · assumption
  · cases h
theorem orL1 {a : Int} {l : List Int} (h : orL (a :: l) = 0) : a = 0 ∧ orL l = 0 := by
  unfold orL at h ⊢
  by_cases ha : a = 0
  · subst ha; simpa using h
  · have : (a != 0) = true := by simpa using ha
    simp [this] at h
    exact absurd h ha
theorem one_alloc (w : World) (o : Obj) : (w.alloc o).heap[w.heap.size]? = some o ∧ (w.alloc o).heap.size = w.heap.size + 1 ∧ Below w.heap.size w (w.alloc o) :=
  ⟨block_new w o, by simp, (Below.refl _ _).alloc (Nat.le_refl _) _⟩
section
variable {Q : Exit → Act → World → Prop} {o : Oper} {a' : Act} {W : World}
theorem op_load11 {s b : Nat} {t : TypeId} {x0 x1 x2 x3 x4 x5 x6 x7 x8 x9 x10 : Value} (hop : o.op = Op.load 24 (.tmp s)) (he : a'.eval (.tmp s) = ptr b) (hb : W.heap[b]? = some (.cells #[x0, x1, x2, x3, x4, x5, x6, x7, x8, x9, x10] t (0, 0))) :
    o.wp Tryz.prog a' W (fun a'' W' => a'' = a'.put o.dst (.agg #[x0, x1, x2, x3, x4, x5, x6, x7, x8, x9, x10]) ∧ Below W.heap.size W W') Q := by
  obtain ⟨c0, c1, c2, c3, c4, c5, c6, c7, c8, c9, c10⟩ := cells11 hb
  have hr := Below.refl W.heap.size W
  unfold ptr at he
  have he' : a'.tmps[s]?.getD undef = .pointer (some ⟨b, 0, none⟩) := by simpa [Act.eval] using he
  unfold Oper.wp execOp
  rw [hop]
  simp [go_sem, he', c0, c1, c2, c3, c4, c5, c6, c7, c8, c9, c10, hr]
theorem op_load1c {s b : Nat} {ty : TypeId} {v : Value} (hop : o.op = Op.load ty (.tmp s)) (hty : ty = 3 ∨ ty = 4) (he : a'.eval (.tmp s) = ptr b) (hc : W.cell? ⟨b, 0, none⟩ = some v) :
    o.wp Tryz.prog a' W (fun a'' W' => a'' = a'.put o.dst v ∧ Below W.heap.size W W') Q := by
  have hr := Below.refl W.heap.size W
  unfold ptr at he
  have he' : a'.tmps[s]?.getD undef = .pointer (some ⟨b, 0, none⟩) := by simpa [Act.eval] using he
  unfold Oper.wp execOp
  rw [hop]
  rcases hty with rfl | rfl <;> simp [go_sem, he', hc, hr]
end
theorem eg17 : ∀ args w, (callFunc 67 args).run Tryz.prog w = .ok (.enter 67 args) w := Go.Proofs.enters_of Tryz.func67 (by kernel_rfl) rfl
theorem eg58 : ∀ args w, (callFunc 68 args).run Tryz.prog w = .ok (.enter 68 args) w := Go.Proofs.enters_of Tryz.func68 (by kernel_rfl) rfl
theorem eg63 : ∀ args w, (callFunc 82 args).run Tryz.prog w = .ok (.enter 82 args) w := Go.Proofs.enters_of Tryz.func82 (by kernel_rfl) rfl
theorem eg54 : ∀ args w, (callFunc 69 args).run Tryz.prog w = .ok (.enter 69 args) w := Go.Proofs.enters_of Tryz.func69 (by kernel_rfl) rfl
def SpeedRes (s : Sh) (x : Ic) (ch : Bool) : Value := if orL [chkP s, iceE x] = 0 then .tuple #[.int .i64 ((speedP s x ch : Int)), .int .i64 0] else .tuple #[.int .i64 0, .int .i64 (orL [chkP s, iceE x])]
set_option maxHeartbeats 2000000 in
theorem Speed_any (s : Sh) (ms : Mem3) (x : Ic) (ch : Bool) (w : World) (hs : ShipIn w s ms) (hl : Lim w) :
    Calls Tryz.prog 17 #[.agg (shipA s ms), .agg (iceV x), .bool ch] w fun e w' => e = .returned (SpeedRes s x ch) ∧ Below w.heap.size w w' := by
  have HLM := Lib.hid hl
  have hpos := hl.pos
  have HSs := Lib.hid hs
  clear hs
  clear hl
  have hall := two_allocs w (.cells (shipA s ms) 24) (.cells (iceV x) 26)
  go_enter Tryz.func17, Tryz.ntmps17
  go_wp2_with fail
  generalize ((w.alloc (.cells (shipA s ms) 24)).alloc (.cells (iceV x) 26)) = V at *
  obtain ⟨t0, t1, hz, hbl⟩ := hall
  have HB0 := Lib.hid hbl
  have HK0 := Lib.hid t0
  have HK1 := Lib.hid t1
  clear hbl t0 t1
  refine wp_region_multi 4 [9, 10, 11, 12] (fun _ => false) (fun i => ([(.agg (shipA s ms)), (.int .i64 (chkP s)), (.agg (iceV x)), (.int .i64 (iceE x))] : List Value).getD i undef) (fun _ => .cells #[] 0) (by kernel_rfl) (by kernel_rfl) (fun s hs => by simp at hs ⊢; omega) ?val ?al ?fin
  case val =>
    intro i
    match i with
    | 0 => intro o hlt hal ho a' W hb hfr hdp; obtain rfl := Option.some.inj ho; exact op_load11 rfl (hfr 3 (by decide)) ((hb.block _ (by omega)).trans HK0.out)
    | 1 => intro o hlt hal ho a' W hb hfr hdp; obtain rfl := Option.some.inj ho; exact op_call rfl (hdp 0 9 (by decide) rfl rfl (by kernel_rfl)) eg17 (Check_any s ms W (HSs.out.later (HB0.out.trans (hb.mono HB0.out.size))))
    | 2 => intro o hlt hal ho a' W hb hfr hdp; obtain rfl := Option.some.inj ho; exact op_load4b rfl (hfr 4 (by decide)) ((hb.block _ (by omega)).trans HK1.out)
    | 3 => intro o hlt hal ho a' W hb hfr hdp; obtain rfl := Option.some.inj ho; exact op_call rfl (hdp 2 11 (by decide) rfl rfl (by kernel_rfl)) eg58 (CheckIce_any (icF x) W (HLM.out.below hpos (HB0.out.trans (hb.mono HB0.out.size))))
    | j + 4 => intro o hlt; omega
  case al => intro i o hlt hal; cases hal
  case fin =>
    intro W B' hb hB' hne
    clear hB' hne
    simp only [List.drop_succ_cons, List.drop_zero, fill, uAll, Act.put, List.setIfInBounds_toArray, List.set_cons_zero, List.set_cons_succ, Nat.reduceAdd, if_false, Bool.false_eq_true, List.getD_cons_zero, List.getD_cons_succ]
    have HB1 := Lib.hid (HB0.out.trans (hb.mono HB0.out.size))
    have K0 := Lib.hid ((hb.block _ (by omega)).trans HK0.out)
    have K1 := Lib.hid ((hb.block _ (by omega)).trans HK1.out)
    have hz1 := hb.size
    clear hb
    go_wp2_with fail
    refine (or_any W.heap.size [chkP s, iceE x] _ (fun i hi => ?_) (by simp)).mono ?_
    · have hnew := block_new W (.cells #[.int .i64 (chkP s), .int .i64 (iceE x)] 40)
      match i, hi with
      | 0, _ => exact (cell_of_block hnew 0).trans rfl
      | 1, _ => exact (cell_of_block hnew 1).trans rfl
    rintro e W2 ⟨rfl, rfl⟩
    have hba := (Below.refl W.heap.size W).alloc (Nat.le_refl _) (.cells #[.int .i64 (chkP s), .int .i64 (iceE x)] 40)
    have HB2 := Lib.hid (HB1.out.trans (hba.mono HB1.out.size))
    have L0 := Lib.hid ((hba.block _ (by omega)).trans K0.out)
    have L1 := Lib.hid ((hba.block _ (by omega)).trans K1.out)
    have hz2 : V.heap.size ≤ (W.alloc (.cells #[.int .i64 (chkP s), .int .i64 (iceE x)] 40)).heap.size := Nat.le_trans hz1 hba.size
    clear hba
    generalize W.alloc (.cells #[.int .i64 (chkP s), .int .i64 (iceE x)] 40) = X at *
    clear hz1 K0 HK0 K1 HK1 HB0 HB1
    by_cases hE : orL [chkP s, iceE x] = 0
    · have HR := Lib.hid (show SpeedRes s x ch = .tuple #[.int .i64 ((speedP s x ch : Int)), .int .i64 0] by unfold SpeedRes; rw [if_pos hE])
      obtain ⟨o1, o2⟩ := orL1 hE
      obtain ⟨o2, _⟩ := orL1 o2
      have g := good_of o1
      have gi := iceE_ok o2
      clear o1 o2
      have HC := Lib.hid (speed_any s ms x ch g gi X (HSs.out.later HB2.out))
      obtain ⟨cs0, cs1, cs2, cs3, cs4, cs5, cs6, cs7, cs8, cs9, cs10⟩ := cells11 L0.out
      obtain ⟨⟨dx0, dx1, dx2, dx3⟩, _⟩ := cells4 L1.out
      generalize hO : orL [chkP s, iceE x] = E at *
      subst hE
      clear hO
      generalize (speedP s x ch : Int) = R at *
      go_wp2_with fail
      refine HC.out.mono ?_
      rintro e W3 ⟨rfl, hb3⟩
      have HB3 := Lib.hid (HB2.out.trans (hb3.mono HB2.out.size))
      clear hb3
      go_wp2_with fail
      refine bodyPost_ret (v := .tuple #[.int .i64 R, .int .i64 0]) (by simp [results, Tryz.results17, go_sem]) rfl ⟨by rw [HR.out], HB3.out⟩
    · have HR := Lib.hid (show SpeedRes s x ch = .tuple #[.int .i64 0, .int .i64 (orL [chkP s, iceE x])] by unfold SpeedRes; rw [if_neg hE])
      generalize orL [chkP s, iceE x] = E at *
      go_wp2_with fail
      refine bodyPost_ret (v := .tuple #[.int .i64 0, .int .i64 (E)]) (by simp [results, Tryz.results17, go_sem]) rfl ⟨by rw [HR.out], HB2.out⟩
def ResistanceRes (s : Sh) (x : Ic) (v : Int) (ch : Bool) : Value := if orL [chkP s, iceE x, errS v] = 0 then .tuple #[.int .i64 (resP s x v ch), .int .i64 0] else .tuple #[.int .i64 0, .int .i64 (orL [chkP s, iceE x, errS v])]
set_option maxHeartbeats 2000000 in
theorem Resistance_any (s : Sh) (ms : Mem3) (x : Ic) (v : Int) (ch : Bool) (w : World) (hs : ShipIn w s ms) (hl : Lim w) :
    Calls Tryz.prog 13 #[.agg (shipA s ms), .agg (iceV x), .int .i64 v, .bool ch] w fun e w' => e = .returned (ResistanceRes s x v ch) ∧ Below w.heap.size w w' := by
  have HLM := Lib.hid hl
  have hpos := hl.pos
  have HSs := Lib.hid hs
  clear hs
  clear hl
  have hall := two_allocs w (.cells (shipA s ms) 24) (.cells (iceV x) 26)
  go_enter Tryz.func13, Tryz.ntmps13
  go_wp2_with fail
  generalize ((w.alloc (.cells (shipA s ms) 24)).alloc (.cells (iceV x) 26)) = V at *
  obtain ⟨t0, t1, hz, hbl⟩ := hall
  have HB0 := Lib.hid hbl
  have HK0 := Lib.hid t0
  have HK1 := Lib.hid t1
  clear hbl t0 t1
  refine wp_region_multi 6 [11, 12, 13, 14, 15, 16] (fun _ => false) (fun i => ([(.agg (shipA s ms)), (.int .i64 (chkP s)), (.agg (iceV x)), (.int .i64 (iceE x)), (.int .i64 v), (.int .i64 (errS v))] : List Value).getD i undef) (fun _ => .cells #[] 0) (by kernel_rfl) (by kernel_rfl) (fun s hs => by simp at hs ⊢; omega) ?val ?al ?fin
  case val =>
    intro i
    match i with
    | 0 => intro o hlt hal ho a' W hb hfr hdp; obtain rfl := Option.some.inj ho; exact op_load11 rfl (hfr 4 (by decide)) ((hb.block _ (by omega)).trans HK0.out)
    | 1 => intro o hlt hal ho a' W hb hfr hdp; obtain rfl := Option.some.inj ho; exact op_call rfl (hdp 0 11 (by decide) rfl rfl (by kernel_rfl)) eg17 (Check_any s ms W (HSs.out.later (HB0.out.trans (hb.mono HB0.out.size))))
    | 2 => intro o hlt hal ho a' W hb hfr hdp; obtain rfl := Option.some.inj ho; exact op_load4b rfl (hfr 5 (by decide)) ((hb.block _ (by omega)).trans HK1.out)
    | 3 => intro o hlt hal ho a' W hb hfr hdp; obtain rfl := Option.some.inj ho; exact op_call rfl (hdp 2 13 (by decide) rfl rfl (by kernel_rfl)) eg58 (CheckIce_any (icF x) W (HLM.out.below hpos (HB0.out.trans (hb.mono HB0.out.size))))
    | 4 => intro o hlt hal ho a' W hb hfr hdp; obtain rfl := Option.some.inj ho; exact op_move rfl (hfr 2 (by decide))
    | 5 => intro o hlt hal ho a' W hb hfr hdp; obtain rfl := Option.some.inj ho; exact op_call rfl (hdp 4 15 (by decide) rfl rfl (by kernel_rfl)) eg54 (by refine (checkSpeed_any v W).mono ?_; rintro e w' ⟨rfl, rfl⟩; exact ⟨rfl, Below.refl _ _⟩)
    | j + 6 => intro o hlt; omega
  case al => intro i o hlt hal; cases hal
  case fin =>
    intro W B' hb hB' hne
    clear hB' hne
    simp only [List.drop_succ_cons, List.drop_zero, fill, uAll, Act.put, List.setIfInBounds_toArray, List.set_cons_zero, List.set_cons_succ, Nat.reduceAdd, if_false, Bool.false_eq_true, List.getD_cons_zero, List.getD_cons_succ]
    have HB1 := Lib.hid (HB0.out.trans (hb.mono HB0.out.size))
    have K0 := Lib.hid ((hb.block _ (by omega)).trans HK0.out)
    have K1 := Lib.hid ((hb.block _ (by omega)).trans HK1.out)
    have hz1 := hb.size
    clear hb
    go_wp2_with fail
    refine (or_any W.heap.size [chkP s, iceE x, errS v] _ (fun i hi => ?_) (by simp)).mono ?_
    · have hnew := block_new W (.cells #[.int .i64 (chkP s), .int .i64 (iceE x), .int .i64 (errS v)] 40)
      match i, hi with
      | 0, _ => exact (cell_of_block hnew 0).trans rfl
      | 1, _ => exact (cell_of_block hnew 1).trans rfl
      | 2, _ => exact (cell_of_block hnew 2).trans rfl
    rintro e W2 ⟨rfl, rfl⟩
    have hba := (Below.refl W.heap.size W).alloc (Nat.le_refl _) (.cells #[.int .i64 (chkP s), .int .i64 (iceE x), .int .i64 (errS v)] 40)
    have HB2 := Lib.hid (HB1.out.trans (hba.mono HB1.out.size))
    have L0 := Lib.hid ((hba.block _ (by omega)).trans K0.out)
    have L1 := Lib.hid ((hba.block _ (by omega)).trans K1.out)
    have hz2 : V.heap.size ≤ (W.alloc (.cells #[.int .i64 (chkP s), .int .i64 (iceE x), .int .i64 (errS v)] 40)).heap.size := Nat.le_trans hz1 hba.size
    clear hba
    generalize W.alloc (.cells #[.int .i64 (chkP s), .int .i64 (iceE x), .int .i64 (errS v)] 40) = X at *
    clear hz1 K0 HK0 K1 HK1 HB0 HB1
    by_cases hE : orL [chkP s, iceE x, errS v] = 0
    · have HR := Lib.hid (show ResistanceRes s x v ch = .tuple #[.int .i64 (resP s x v ch), .int .i64 0] by unfold ResistanceRes; rw [if_pos hE])
      obtain ⟨o1, o2⟩ := orL1 hE
      obtain ⟨o2, o3⟩ := orL1 o2
      obtain ⟨o3, _⟩ := orL1 o3
      have g := good_of o1
      have gi := iceE_ok o2
      have hv := errS_ok o3
      clear o1 o2 o3
      have HC := Lib.hid (resistance_any s ms x ch g gi v hv.1 hv.2 X (HSs.out.later HB2.out))
      obtain ⟨cs0, cs1, cs2, cs3, cs4, cs5, cs6, cs7, cs8, cs9, cs10⟩ := cells11 L0.out
      obtain ⟨⟨dx0, dx1, dx2, dx3⟩, _⟩ := cells4 L1.out
      generalize hO : orL [chkP s, iceE x, errS v] = E at *
      subst hE
      clear hO
      generalize resP s x v ch = R at *
      go_wp2_with fail
      refine HC.out.mono ?_
      rintro e W3 ⟨rfl, hb3⟩
      have HB3 := Lib.hid (HB2.out.trans (hb3.mono HB2.out.size))
      clear hb3
      go_wp2_with fail
      refine bodyPost_ret (v := .tuple #[.int .i64 R, .int .i64 0]) (by simp [results, Tryz.results13, go_sem]) rfl ⟨by rw [HR.out], HB3.out⟩
    · have HR := Lib.hid (show ResistanceRes s x v ch = .tuple #[.int .i64 0, .int .i64 (orL [chkP s, iceE x, errS v])] by unfold ResistanceRes; rw [if_neg hE])
      generalize orL [chkP s, iceE x, errS v] = E at *
      go_wp2_with fail
      refine bodyPost_ret (v := .tuple #[.int .i64 0, .int .i64 (E)]) (by simp [results, Tryz.results13, go_sem]) rfl ⟨by rw [HR.out], HB2.out⟩
def MakesRes (s : Sh) (x : Ic) (v : Int) (ch : Bool) : Value := if orL [chkP s, iceE x, errS v] = 0 then .tuple #[.bool (makesP s x ch v), .int .i64 0] else .tuple #[.bool false, .int .i64 (orL [chkP s, iceE x, errS v])]
set_option maxHeartbeats 2000000 in
theorem Makes_any (s : Sh) (ms : Mem3) (x : Ic) (v : Int) (ch : Bool) (w : World) (hs : ShipIn w s ms) (hl : Lim w) :
    Calls Tryz.prog 15 #[.agg (shipA s ms), .agg (iceV x), .int .i64 v, .bool ch] w fun e w' => e = .returned (MakesRes s x v ch) ∧ Below w.heap.size w w' := by
  have HLM := Lib.hid hl
  have hpos := hl.pos
  have HSs := Lib.hid hs
  clear hs
  clear hl
  have hall := two_allocs w (.cells (shipA s ms) 24) (.cells (iceV x) 26)
  go_enter Tryz.func15, Tryz.ntmps15
  go_wp2_with fail
  generalize ((w.alloc (.cells (shipA s ms) 24)).alloc (.cells (iceV x) 26)) = V at *
  obtain ⟨t0, t1, hz, hbl⟩ := hall
  have HB0 := Lib.hid hbl
  have HK0 := Lib.hid t0
  have HK1 := Lib.hid t1
  clear hbl t0 t1
  refine wp_region_multi 6 [11, 12, 13, 14, 15, 16] (fun _ => false) (fun i => ([(.agg (shipA s ms)), (.int .i64 (chkP s)), (.agg (iceV x)), (.int .i64 (iceE x)), (.int .i64 v), (.int .i64 (errS v))] : List Value).getD i undef) (fun _ => .cells #[] 0) (by kernel_rfl) (by kernel_rfl) (fun s hs => by simp at hs ⊢; omega) ?val ?al ?fin
  case val =>
    intro i
    match i with
    | 0 => intro o hlt hal ho a' W hb hfr hdp; obtain rfl := Option.some.inj ho; exact op_load11 rfl (hfr 4 (by decide)) ((hb.block _ (by omega)).trans HK0.out)
    | 1 => intro o hlt hal ho a' W hb hfr hdp; obtain rfl := Option.some.inj ho; exact op_call rfl (hdp 0 11 (by decide) rfl rfl (by kernel_rfl)) eg17 (Check_any s ms W (HSs.out.later (HB0.out.trans (hb.mono HB0.out.size))))
    | 2 => intro o hlt hal ho a' W hb hfr hdp; obtain rfl := Option.some.inj ho; exact op_load4b rfl (hfr 5 (by decide)) ((hb.block _ (by omega)).trans HK1.out)
    | 3 => intro o hlt hal ho a' W hb hfr hdp; obtain rfl := Option.some.inj ho; exact op_call rfl (hdp 2 13 (by decide) rfl rfl (by kernel_rfl)) eg58 (CheckIce_any (icF x) W (HLM.out.below hpos (HB0.out.trans (hb.mono HB0.out.size))))
    | 4 => intro o hlt hal ho a' W hb hfr hdp; obtain rfl := Option.some.inj ho; exact op_move rfl (hfr 2 (by decide))
    | 5 => intro o hlt hal ho a' W hb hfr hdp; obtain rfl := Option.some.inj ho; exact op_call rfl (hdp 4 15 (by decide) rfl rfl (by kernel_rfl)) eg54 (by refine (checkSpeed_any v W).mono ?_; rintro e w' ⟨rfl, rfl⟩; exact ⟨rfl, Below.refl _ _⟩)
    | j + 6 => intro o hlt; omega
  case al => intro i o hlt hal; cases hal
  case fin =>
    intro W B' hb hB' hne
    clear hB' hne
    simp only [List.drop_succ_cons, List.drop_zero, fill, uAll, Act.put, List.setIfInBounds_toArray, List.set_cons_zero, List.set_cons_succ, Nat.reduceAdd, if_false, Bool.false_eq_true, List.getD_cons_zero, List.getD_cons_succ]
    have HB1 := Lib.hid (HB0.out.trans (hb.mono HB0.out.size))
    have K0 := Lib.hid ((hb.block _ (by omega)).trans HK0.out)
    have K1 := Lib.hid ((hb.block _ (by omega)).trans HK1.out)
    have hz1 := hb.size
    clear hb
    go_wp2_with fail
    refine (or_any W.heap.size [chkP s, iceE x, errS v] _ (fun i hi => ?_) (by simp)).mono ?_
    · have hnew := block_new W (.cells #[.int .i64 (chkP s), .int .i64 (iceE x), .int .i64 (errS v)] 40)
      match i, hi with
      | 0, _ => exact (cell_of_block hnew 0).trans rfl
      | 1, _ => exact (cell_of_block hnew 1).trans rfl
      | 2, _ => exact (cell_of_block hnew 2).trans rfl
    rintro e W2 ⟨rfl, rfl⟩
    have hba := (Below.refl W.heap.size W).alloc (Nat.le_refl _) (.cells #[.int .i64 (chkP s), .int .i64 (iceE x), .int .i64 (errS v)] 40)
    have HB2 := Lib.hid (HB1.out.trans (hba.mono HB1.out.size))
    have L0 := Lib.hid ((hba.block _ (by omega)).trans K0.out)
    have L1 := Lib.hid ((hba.block _ (by omega)).trans K1.out)
    have hz2 : V.heap.size ≤ (W.alloc (.cells #[.int .i64 (chkP s), .int .i64 (iceE x), .int .i64 (errS v)] 40)).heap.size := Nat.le_trans hz1 hba.size
    clear hba
    generalize W.alloc (.cells #[.int .i64 (chkP s), .int .i64 (iceE x), .int .i64 (errS v)] 40) = X at *
    clear hz1 K0 HK0 K1 HK1 HB0 HB1
    by_cases hE : orL [chkP s, iceE x, errS v] = 0
    · have HR := Lib.hid (show MakesRes s x v ch = .tuple #[.bool (makesP s x ch v), .int .i64 0] by unfold MakesRes; rw [if_pos hE])
      obtain ⟨o1, o2⟩ := orL1 hE
      obtain ⟨o2, o3⟩ := orL1 o2
      obtain ⟨o3, _⟩ := orL1 o3
      have g := good_of o1
      have gi := iceE_ok o2
      have hv := errS_ok o3
      clear o1 o2 o3
      have HC := Lib.hid (makes_any s ms x ch g gi v hv.1 hv.2 X (HSs.out.later HB2.out))
      obtain ⟨cs0, cs1, cs2, cs3, cs4, cs5, cs6, cs7, cs8, cs9, cs10⟩ := cells11 L0.out
      obtain ⟨⟨dx0, dx1, dx2, dx3⟩, _⟩ := cells4 L1.out
      generalize hO : orL [chkP s, iceE x, errS v] = E at *
      subst hE
      clear hO
      generalize makesP s x ch v = R at *
      go_wp2_with fail
      refine HC.out.mono ?_
      rintro e W3 ⟨rfl, hb3⟩
      have HB3 := Lib.hid (HB2.out.trans (hb3.mono HB2.out.size))
      clear hb3
      go_wp2_with fail
      refine bodyPost_ret (v := .tuple #[.bool R, .int .i64 0]) (by simp [results, Tryz.results15, go_sem]) rfl ⟨by rw [HR.out], HB3.out⟩
    · have HR := Lib.hid (show MakesRes s x v ch = .tuple #[.bool false, .int .i64 (orL [chkP s, iceE x, errS v])] by unfold MakesRes; rw [if_neg hE])
      generalize orL [chkP s, iceE x, errS v] = E at *
      go_wp2_with fail
      refine bodyPost_ret (v := .tuple #[.bool false, .int .i64 (E)]) (by simp [results, Tryz.results15, go_sem]) rfl ⟨by rw [HR.out], HB2.out⟩
end Go.Proofs.YtcoiklolgilhaaaGreatDoor
