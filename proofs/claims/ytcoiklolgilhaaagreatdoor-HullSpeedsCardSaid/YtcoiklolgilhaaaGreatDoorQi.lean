/- The contracts of hull.Limit$1 and of hull.Limit. No condition but that the ship lies in memory. -/
import Derived.Test.YtcoiklolgilhaaaGreatDoorPs
import Derived.Test.YtcoiklolgilhaaaGreatDoorPj
namespace Go.Proofs.YtcoiklolgilhaaaGreatDoor
open Go.RowKit
set_option maxRecDepth 100000
section
variable {Q : Exit → Act → World → Prop} {o : Oper} {a' : Act} {W : World}
theorem op_b116 {s t r : Nat} {sh : Sh} {m : Mem3} {i : Ic} {ch : Bool} (hop : o.op = Op.build 127 #[(0, .tmp s), (1, .tmp t), (2, .tmp r)]) (hs : a'.eval (.tmp s) = .agg (shipA sh m)) (ht : a'.eval (.tmp t) = .agg (iceV i)) (hr : a'.eval (.tmp r) = .bool ch) :
    o.wp Tryz.prog a' W (fun a'' W' => a'' = a'.put o.dst (.agg (sailA sh m i ch)) ∧ Below W.heap.size W W') Q := by
  have hs' : a'.tmps[s]?.getD undef = .agg (shipA sh m) := by simpa [Act.eval] using hs
  have ht' : a'.tmps[t]?.getD undef = .agg (iceV i) := by simpa [Act.eval] using ht
  have hr' : a'.tmps[r]?.getD undef = .bool ch := by simpa [Act.eval] using hr
  have hb := Below.refl W.heap.size W
  unfold Oper.wp execOp
  rw [hop]
  simp [go_sem, hs', ht', hr', hb]
end
theorem eg72 : ∀ args w, (callFunc 106 args).run Tryz.prog w = .ok (.enter 106 args) w := Go.Proofs.enters_of Tryz.func106 (by kernel_rfl) rfl
theorem eg69 : ∀ args w, (callFunc 73 args).run Tryz.prog w = .ok (.enter 73 args) w := Go.Proofs.enters_of Tryz.func73 (by kernel_rfl) rfl
theorem eg71 : ∀ args w, (callFunc 105 args).run Tryz.prog w = .ok (.enter 105 args) w := Go.Proofs.enters_of Tryz.func105 (by kernel_rfl) rfl
def lvl (t : Int) : Ic := ⟨100, t, 0, 0⟩
theorem good_lvl {t : Int} (h0 : 0 ≤ t) (h1 : t ≤ 400) : GoodI (lvl t) := ⟨⟨by simp [lvl], by simp [lvl]⟩, ⟨h0, h1⟩, ⟨by simp [lvl], by simp [lvl]⟩, ⟨by simp [lvl], by simp [lvl]⟩⟩
set_option maxHeartbeats 2000000 in
theorem Limit1_any (s : Sh) (m : Mem3) (g : Good s) (t v : Int) (ch : Bool) (ht : 0 ≤ t) (ht' : t ≤ 400) (hv : 0 ≤ v) (hv' : v ≤ 250) (bs bc bv : Nat) (w : World) (h : ShipIn w s m) (hs : w.heap[bs]? = some (.cells (shipA s m) 24 (0, 0))) (hc : w.heap[bc]? = some (.cells #[.bool ch] 4 (0, 0))) (hi : w.heap[bv]? = some (.cells #[.int .i64 v] 3 (0, 0))) :
    Calls Tryz.prog 105 #[.int .i64 t, .pointer (some ⟨bs, 0, none⟩), .pointer (some ⟨bc, 0, none⟩), .pointer (some ⟨bv, 0, none⟩)] w fun e w' => e = .returned (.bool (makesP s (lvl t) ch v)) ∧ Below w.heap.size w w' := by
  have HS := Lib.hid h
  have H0 := Lib.hid hs
  have H1 := Lib.hid hc
  have H2 := Lib.hid hi
  have gi := good_lvl ht ht'
  clear h hs hc hi
  go_enter Tryz.func105, Tryz.ntmps105
  go_wp2_with fail
  refine wp_region_multi 7 [6, 7, 8, 9, 10, 11, 12] (fun _ => false) (fun i => ([(.agg (shipA s m)), (.int .i64 t), (.agg (iceV (lvl t))), (.bool ch), (.agg (sailA s m (lvl t) ch)), (.int .i64 v), (.bool (makesP s (lvl t) ch v))] : List Value).getD i undef) (fun _ => .cells #[] 0) (by kernel_rfl) (by kernel_rfl) (fun s hs => by simp at hs ⊢; omega) ?val ?al ?fin
  case val =>
    intro i
    match i with
    | 0 => intro o hlt hal ho a' W hb hfr hdp; obtain rfl := Option.some.inj ho; exact op_load11 rfl (hfr 1 (by decide)) ((hb.block _ (lt_of_block H0.out)).trans H0.out)
    | 1 => intro o hlt hal ho a' W hb hfr hdp; obtain rfl := Option.some.inj ho; exact op_move rfl (hfr 0 (by decide))
    | 2 => intro o hlt hal ho a' W hb hfr hdp; obtain rfl := Option.some.inj ho; exact op_call rfl (hdp 1 7 (by decide) rfl rfl (by kernel_rfl)) eg72 (level_any t W)
    | 3 => intro o hlt hal ho a' W hb hfr hdp; obtain rfl := Option.some.inj ho; exact op_load1c rfl (.inr rfl) (hfr 2 (by decide)) (((cell_of_block ((hb.block _ (lt_of_block H1.out)).trans H1.out) 0)).trans rfl)
    | 4 => intro o hlt hal ho a' W hb hfr hdp; obtain rfl := Option.some.inj ho; exact op_b116 rfl (hdp 0 6 (by decide) rfl rfl (by kernel_rfl)) (hdp 2 8 (by decide) rfl rfl (by kernel_rfl)) (hdp 3 9 (by decide) rfl rfl (by kernel_rfl))
    | 5 => intro o hlt hal ho a' W hb hfr hdp; obtain rfl := Option.some.inj ho; exact op_load1c rfl (.inl rfl) (hfr 3 (by decide)) (((cell_of_block ((hb.block _ (lt_of_block H2.out)).trans H2.out) 0)).trans rfl)
    | 6 => intro o hlt hal ho a' W hb hfr hdp; obtain rfl := Option.some.inj ho; exact op_call2 rfl (hdp 4 10 (by decide) rfl rfl (by kernel_rfl)) (hdp 5 11 (by decide) rfl rfl (by kernel_rfl)) eg69 (makes_any s m (lvl t) ch g gi v hv hv' W (HS.out.later hb))
    | j + 7 => intro o hlt; omega
  case al => intro i o hlt hal; cases hal
  case fin =>
    intro W B' hb hB' hne
    clear hB' hne
    simp only [List.drop_succ_cons, List.drop_zero, fill, uAll, Act.put, List.setIfInBounds_toArray, List.set_cons_zero, List.set_cons_succ, Nat.reduceAdd, if_false, Bool.false_eq_true, List.getD_cons_zero, List.getD_cons_succ]
    generalize hR : makesP s (lvl t) ch v = R at *
    have HB := Lib.hid hb
    clear hb
    go_wp2_with fail
    go_ret
    exact ⟨by rw [hR]; rfl, HB.out⟩
def limG (s : Sh) (v : Int) (ch : Bool) : Nat → Bool := fun t => makesP s (lvl (t : Int)) ch v
def LimitRes (s : Sh) (v : Int) (ch : Bool) : Value := if orL [chkP s, errS v] = 0 then (if limG s v ch 0 = true then .tuple #[.int .i64 (greatP (limG s v ch) 400), .int .i64 0] else .tuple #[.int .i64 0, .int .i64 4]) else .tuple #[.int .i64 0, .int .i64 (orL [chkP s, errS v])]
set_option maxHeartbeats 2000000 in
theorem Limit_any (s : Sh) (ms : Mem3) (v : Int) (ch : Bool) (w : World) (hs : ShipIn w s ms) :
    Calls Tryz.prog 42 #[.agg (shipA s ms), .int .i64 v, .bool ch] w fun e w' => e = .returned (LimitRes s v ch) ∧ Below w.heap.size w w' := by
  have HSs := Lib.hid hs
  clear hs
  have hall := three_allocs w (.cells (shipA s ms) 24) (.cells #[.int .i64 v] 3) (.cells #[.bool ch] 4)
  go_enter Tryz.func42, Tryz.ntmps42
  go_wp2_with fail
  generalize (((w.alloc (.cells (shipA s ms) 24)).alloc (.cells #[.int .i64 v] 3)).alloc (.cells #[.bool ch] 4)) = V at *
  obtain ⟨t0, t1, t2, hz, hbl⟩ := hall
  have HB0 := Lib.hid hbl
  have HK0 := Lib.hid t0
  have HK1 := Lib.hid t1
  have HK2 := Lib.hid t2
  clear hbl t0 t1 t2
  refine wp_region_multi 4 [11, 12, 13, 14] (fun _ => false) (fun i => ([(.agg (shipA s ms)), (.int .i64 (chkP s)), (.int .i64 v), (.int .i64 (errS v))] : List Value).getD i undef) (fun _ => .cells #[] 0) (by kernel_rfl) (by kernel_rfl) (fun s hs => by simp at hs ⊢; omega) ?val ?al ?fin
  case val =>
    intro i
    match i with
    | 0 => intro o hlt hal ho a' W hb hfr hdp; obtain rfl := Option.some.inj ho; exact op_load11 rfl (hfr 3 (by decide)) ((hb.block _ (by omega)).trans HK0.out)
    | 1 => intro o hlt hal ho a' W hb hfr hdp; obtain rfl := Option.some.inj ho; exact op_call rfl (hdp 0 11 (by decide) rfl rfl (by kernel_rfl)) eg17 (Check_any s ms W (HSs.out.later (HB0.out.trans (hb.mono HB0.out.size))))
    | 2 => intro o hlt hal ho a' W hb hfr hdp; obtain rfl := Option.some.inj ho; exact op_load1c rfl (.inl rfl) (hfr 4 (by decide)) (((cell_of_block ((hb.block _ (by omega)).trans HK1.out) 0)).trans rfl)
    | 3 => intro o hlt hal ho a' W hb hfr hdp; obtain rfl := Option.some.inj ho; exact op_call rfl (hdp 2 13 (by decide) rfl rfl (by kernel_rfl)) eg54 (by refine (checkSpeed_any v W).mono ?_; rintro e w' ⟨rfl, rfl⟩; exact ⟨rfl, Below.refl _ _⟩)
    | j + 4 => intro o hlt; omega
  case al => intro i o hlt hal; cases hal
  case fin =>
    intro W B' hb hB' hne
    clear hB' hne
    simp only [List.drop_succ_cons, List.drop_zero, fill, uAll, Act.put, List.setIfInBounds_toArray, List.set_cons_zero, List.set_cons_succ, Nat.reduceAdd, if_false, Bool.false_eq_true, List.getD_cons_zero, List.getD_cons_succ]
    have HB1 := Lib.hid (HB0.out.trans (hb.mono HB0.out.size))
    have K0 := Lib.hid ((hb.block _ (by omega)).trans HK0.out)
    have K1 := Lib.hid ((hb.block _ (by omega)).trans HK1.out)
    have K2 := Lib.hid ((hb.block _ (by omega)).trans HK2.out)
    have hz1 := hb.size
    clear hb
    go_wp2_with fail
    refine (or_any W.heap.size [chkP s, errS v] _ (fun i hi => ?_) (by simp)).mono ?_
    · have hnew := block_new W (.cells #[.int .i64 (chkP s), .int .i64 (errS v)] 40)
      match i, hi with
      | 0, _ => exact (cell_of_block hnew 0).trans rfl
      | 1, _ => exact (cell_of_block hnew 1).trans rfl
    rintro e W2 ⟨rfl, rfl⟩
    have hba := (Below.refl W.heap.size W).alloc (Nat.le_refl _) (.cells #[.int .i64 (chkP s), .int .i64 (errS v)] 40)
    have HB2 := Lib.hid (HB1.out.trans (hba.mono HB1.out.size))
    have L0 := Lib.hid ((hba.block _ (by omega)).trans K0.out)
    have L1 := Lib.hid ((hba.block _ (by omega)).trans K1.out)
    have L2 := Lib.hid ((hba.block _ (by omega)).trans K2.out)
    clear hba
    generalize W.alloc (.cells #[.int .i64 (chkP s), .int .i64 (errS v)] 40) = X at *
    clear hz1 K0 HK0 K1 HK1 K2 HK2 HB0 HB1
    by_cases hE : orL [chkP s, errS v] = 0
    · obtain ⟨o1, o2⟩ := orL1 hE
      obtain ⟨o2, _⟩ := orL1 o2
      have g := good_of o1
      have hv := errS_ok o2
      clear o1 o2
      have HC := Lib.hid (greatest_any 105 #[] #[.pointer (some ⟨w.heap.size, 0, none⟩), .pointer (some ⟨w.heap.size + 1 + 1, 0, none⟩), .pointer (some ⟨w.heap.size + 1, 0, none⟩)] eg71 (limG s v ch) 400 (by decide) X (fun t W ht hW => by
        have hb := HB2.out.trans (hW.mono HB2.out.size)
        exact Limit1_any s ms g (t : Int) v ch (by omega) (by omega) hv.1 hv.2 w.heap.size (w.heap.size + 1 + 1) (w.heap.size + 1) W (HSs.out.later hb) ((hW.block _ (lt_of_block L0.out)).trans L0.out) ((hW.block _ (lt_of_block L2.out)).trans L2.out) ((hW.block _ (lt_of_block L1.out)).trans L1.out)))
      have HR := Lib.hid (show LimitRes s v ch = if limG s v ch 0 = true then .tuple #[.int .i64 (greatP (limG s v ch) 400), .int .i64 0] else .tuple #[.int .i64 0, .int .i64 4] by unfold LimitRes; rw [if_pos hE])
      generalize hO : orL [chkP s, errS v] = E at *
      subst hE
      clear hO g hv
      generalize greatP (limG s v ch) 400 = G at *
      cases hl0 : limG s v ch 0 with
      | true =>
        rw [hl0] at HR HC
        go_wp2_with fail
        refine HC.out.mono ?_
        rintro e W3 ⟨rfl, hb3⟩
        have HB3 := Lib.hid (HB2.out.trans (hb3.mono HB2.out.size))
        clear hb3
        go_wp2_with fail
        refine bodyPost_ret (v := .tuple #[.int .i64 G, .int .i64 0]) (by simp [results, Tryz.results42, go_sem]) rfl ⟨by rw [HR.out]; rfl, HB3.out⟩
      | false =>
        rw [hl0] at HR HC
        go_wp2_with fail
        refine HC.out.mono ?_
        rintro e W3 ⟨rfl, hb3⟩
        have HB3 := Lib.hid (HB2.out.trans (hb3.mono HB2.out.size))
        clear hb3
        go_wp2_with fail
        refine bodyPost_ret (v := .tuple #[.int .i64 0, .int .i64 4]) (by simp [results, Tryz.results42, go_sem]) rfl ⟨by rw [HR.out]; rfl, HB3.out⟩
    · have HR := Lib.hid (show LimitRes s v ch = .tuple #[.int .i64 0, .int .i64 (orL [chkP s, errS v])] by unfold LimitRes; rw [if_neg hE])
      generalize orL [chkP s, errS v] = E at *
      go_wp2_with fail
      refine bodyPost_ret (v := .tuple #[.int .i64 0, .int .i64 (E)]) (by simp [results, Tryz.results42, go_sem]) rfl ⟨by rw [HR.out], HB2.out⟩
end Go.Proofs.YtcoiklolgilhaaaGreatDoor
