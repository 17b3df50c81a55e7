/- The contract of hull.Free: at most a million hours. The table of limits holds its numbers. -/
import Derived.Test.YtcoiklolgilhaaaGreatDoorPx
namespace Go.Proofs.YtcoiklolgilhaaaGreatDoor
open Go.RowKit
set_option maxRecDepth 100000
theorem eg77 : ∀ args w, (callFunc 98 args).run Tryz.prog w = .ok (.enter 98 args) w := Go.Proofs.enters_of Tryz.func98 (by kernel_rfl) rfl
theorem eg78 : ∀ args w, (callFunc 99 args).run Tryz.prog w = .ok (.enter 99 args) w := Go.Proofs.enters_of Tryz.func99 (by kernel_rfl) rfl
theorem eg80 : ∀ args w, (callFunc 101 args).run Tryz.prog w = .ok (.enter 101 args) w := Go.Proofs.enters_of Tryz.func101 (by kernel_rfl) rfl
theorem eg81 : ∀ args w, (callFunc 102 args).run Tryz.prog w = .ok (.enter 102 args) w := Go.Proofs.enters_of Tryz.func102 (by kernel_rfl) rfl
def oneF (s : Sh) (lo hi : Ic) (q : Cv) (i : Nat) : Bool := !(besP s (setP hi (q.y i)) false || besP s (setP lo (q.x i)) false)
def allF' (s : Sh) (lo hi : Ic) (q : Cv) (i : Nat) : Bool := !(besP s (setP hi (q.y i)) false && besP s (setP lo (q.x i)) false)
set_option maxHeartbeats 1000000 in
theorem Free2_any (s : Sh) (m : Mem3) (lo hi : Ic) (g : Good s) (gc : GoodC lo hi) (a b : Int) (h0 : 0 ≤ a) (h1 : a ≤ b) (h2 : b ≤ 3) (B9 : Nat) (w W : World) (hs : ShipIn w s m) (hI : FreeIv w s m lo hi B9 W) :
    Calls Tryz.prog 101 #[.agg #[.int .i64 a, .int .i64 b], .pointer (some ⟨B9, 0, none⟩)] W fun e W' => e = .returned (.bool (!(besP s (setP hi b) false || besP s (setP lo a) false))) ∧ FreeIv w s m lo hi B9 W' := by
  have ha := (Below.refl W.heap.size W).alloc (Nat.le_refl _) (.cells #[.int .i64 a, .int .i64 b] 28)
  have HI := Lib.hid (hI.later ha)
  have HC := Lib.hid (Free1_any s m lo hi g gc a b h0 h1 h2 B9 w _ hs HI.out)
  have h9 := lt_of_block hI.fn
  have q9 := (cell_of_block hI.fn 0).trans rfl
  simp only [List.getElem?_toArray, List.getElem?_cons_zero] at q9
  clear hs ha hI
  generalize besP s (setP hi b) false = bh at *
  generalize besP s (setP lo a) false = bl at *
  go_enter Tryz.func101, Tryz.ntmps101
  go_wp2_with fail
  refine HC.out.mono ?_
  rintro e V1 ⟨rfl, hI1⟩
  have HV1 := Lib.hid hI1
  clear hI1
  go_wp2_with fail
  go_ret
  exact ⟨by simp, HV1.out⟩
set_option maxHeartbeats 1000000 in
theorem Free3_any (s : Sh) (m : Mem3) (lo hi : Ic) (g : Good s) (gc : GoodC lo hi) (a b : Int) (h0 : 0 ≤ a) (h1 : a ≤ b) (h2 : b ≤ 3) (B9 : Nat) (w W : World) (hs : ShipIn w s m) (hI : FreeIv w s m lo hi B9 W) :
    Calls Tryz.prog 102 #[.agg #[.int .i64 a, .int .i64 b], .pointer (some ⟨B9, 0, none⟩)] W fun e W' => e = .returned (.bool (!(besP s (setP hi b) false && besP s (setP lo a) false))) ∧ FreeIv w s m lo hi B9 W' := by
  have ha := (Below.refl W.heap.size W).alloc (Nat.le_refl _) (.cells #[.int .i64 a, .int .i64 b] 28)
  have HI := Lib.hid (hI.later ha)
  have HC := Lib.hid (Free1_any s m lo hi g gc a b h0 h1 h2 B9 w _ hs HI.out)
  have h9 := lt_of_block hI.fn
  have q9 := (cell_of_block hI.fn 0).trans rfl
  simp only [List.getElem?_toArray, List.getElem?_cons_zero] at q9
  clear hs ha hI
  generalize besP s (setP hi b) false = bh at *
  generalize besP s (setP lo a) false = bl at *
  go_enter Tryz.func102, Tryz.ntmps102
  go_wp2_with fail
  refine HC.out.mono ?_
  rintro e V1 ⟨rfl, hI1⟩
  have HV1 := Lib.hid hI1
  clear hI1
  go_wp2_with fail
  go_ret
  exact ⟨by simp, HV1.out⟩
def FreeRes (s : Sh) (clo chi : Ic) (q : Cv) : Value :=
  if orL [chkP s, cellE clo chi, prE q] = 0 then
    (if fstN (oneF s clo chi q) q.n 0 < 0 then .tuple #[.agg #[.int .i64 0, .int .i64 0], .int .i64 4]
     else .tuple #[.agg #[.int .i64 (fstN (allF' s clo chi q) q.n 0), .int .i64 (fstN (oneF s clo chi q) q.n 0)], .int .i64 0])
  else .tuple #[.agg #[.int .i64 0, .int .i64 0], .int .i64 (orL [chkP s, cellE clo chi, prE q])]
theorem prE_ok {c : Cv} (h : prE c = 0) : ∀ i, i < c.n → 0 ≤ c.x i ∧ c.x i ≤ c.y i ∧ c.y i ≤ 3 := by
  unfold prE at h
  by_cases hn : c.n ≤ 240
  · rw [if_pos hn] at h
    by_cases ha : allN c.n (prOk c) = true
    · exact fun i hi => of_decide_eq_true (allN_iff.1 ha i hi)
    · rw [if_neg ha] at h; cases h
  · rw [if_neg hn] at h; cases h
theorem store_func78 (W : World) (b : Nat) : (store ⟨W.heap.size, 0, none⟩ (.func (.func 99) #[] #[.pointer (some ⟨b + 1, 0, none⟩), .pointer (some ⟨b, 0, none⟩)])).run Tryz.prog (W.alloc (.cells #[.nilFunc] 155)) = .ok () (W.alloc (.cells #[.func (.func 99) #[] #[.pointer (some ⟨b + 1, 0, none⟩), .pointer (some ⟨b, 0, none⟩)]] 155)) := by
  rw [run_store _ _ _ _ _ rfl]
  simp [go_sem]
set_option maxHeartbeats 4000000 in
theorem Free_any (s : Sh) (ms : Mem3) (clo chi : Ic) (pq : Option Addr) (nq capq : Nat) (q : Cv) (w : World) (hs : ShipIn w s ms) (hl : Lim w) (hcq : q.n = nq) (hmq : nq ≤ 1000000) (hPq : Pts w pq q) :
    Calls Tryz.prog 38 #[.agg (shipA s ms), .agg (cellV clo chi), .slice pq nq capq] w fun e w' => e = .returned (FreeRes s clo chi q) ∧ Below w.heap.size w w' := by
  have HLM := Lib.hid hl
  have hpos := hl.pos
  have HSs := Lib.hid hs
  clear hs
  clear hl
  have HPq := Lib.hid hPq
  clear hPq
  have hall := three_allocs w (.cells (shipA s ms) 24) (.cells (cellV clo chi) 30) (.cells #[.int .i64 0, .int .i64 0] 28)
  go_enter Tryz.func38, Tryz.ntmps38
  go_wp2_with fail
  generalize (((w.alloc (.cells (shipA s ms) 24)).alloc (.cells (cellV clo chi) 30)).alloc (.cells #[.int .i64 0, .int .i64 0] 28)) = V at *
  obtain ⟨t0, t1, t2, hz, hbl⟩ := hall
  have HB0 := Lib.hid hbl
  have HK0 := Lib.hid t0
  have HK1 := Lib.hid t1
  have HK2 := Lib.hid t2
  clear hbl t0 t1 t2
  refine wp_region_multi 6 [12, 13, 14, 15, 16, 17] (fun _ => false) (fun i => ([(.agg (shipA s ms)), (.int .i64 (chkP s)), (.agg (cellV clo chi)), (.int .i64 (cellE clo chi)), (.slice pq nq capq), (.int .i64 (prE q))] : List Value).getD i undef) (fun _ => .cells #[] 0) (by kernel_rfl) (by kernel_rfl) (fun s hs => by simp at hs ⊢; omega) ?val ?al ?fin
  case val =>
    intro i
    match i with
    | 0 => intro o hlt hal ho a' W hb hfr hdp; obtain rfl := Option.some.inj ho; exact op_load11 rfl (hfr 3 (by decide)) ((hb.block _ (by omega)).trans HK0.out)
    | 1 => intro o hlt hal ho a' W hb hfr hdp; obtain rfl := Option.some.inj ho; exact op_call rfl (hdp 0 12 (by decide) rfl rfl (by kernel_rfl)) eg17 (Check_any s ms W (HSs.out.later (HB0.out.trans (hb.mono HB0.out.size))))
    | 2 => intro o hlt hal ho a' W hb hfr hdp; obtain rfl := Option.some.inj ho; exact op_load8 rfl (hfr 4 (by decide)) ((hb.block _ (by omega)).trans HK1.out)
    | 3 => intro o hlt hal ho a' W hb hfr hdp; obtain rfl := Option.some.inj ho; exact op_call rfl (hdp 2 14 (by decide) rfl rfl (by kernel_rfl)) eg63 (CheckCell_any (icF clo) (icF chi) W (HLM.out.below hpos (HB0.out.trans (hb.mono HB0.out.size))))
    | 4 => intro o hlt hal ho a' W hb hfr hdp; obtain rfl := Option.some.inj ho; exact op_move rfl (hfr 2 (by decide))
    | 5 => intro o hlt hal ho a' W hb hfr hdp; obtain rfl := Option.some.inj ho; exact op_call rfl (hdp 4 16 (by decide) rfl rfl (by kernel_rfl)) eg77 (checkPressures_any pq nq capq q hcq hmq W (HPq.out.later (HB0.out.trans (hb.mono HB0.out.size))))
    | j + 6 => intro o hlt; omega
  case al => intro i o hlt hal; cases hal
  case fin =>
    intro W B' hb hB' hne
    clear hB' hne
    simp only [List.drop_succ_cons, List.drop_zero, fill, uAll, Act.put, List.setIfInBounds_toArray, List.set_cons_zero, List.set_cons_succ, Nat.reduceAdd, if_false, Bool.false_eq_true, List.getD_cons_zero, List.getD_cons_succ]
    have HB1 := Lib.hid (HB0.out.trans (hb.mono HB0.out.size))
    have K0 := Lib.hid ((hb.block _ (by omega)).trans HK0.out)
    have K1 := Lib.hid ((hb.block _ (by omega)).trans HK1.out)
    have K2 := Lib.hid ((hb.block _ (by omega)).trans HK2.out)
    have hz1 := hb.size
    clear hb
    go_wp2_with fail
    refine (or_any W.heap.size [chkP s, cellE clo chi, prE q] _ (fun i hi => ?_) (by simp)).mono ?_
    · have hnew := block_new W (.cells #[.int .i64 (chkP s), .int .i64 (cellE clo chi), .int .i64 (prE q)] 40)
      match i, hi with
      | 0, _ => exact (cell_of_block hnew 0).trans rfl
      | 1, _ => exact (cell_of_block hnew 1).trans rfl
      | 2, _ => exact (cell_of_block hnew 2).trans rfl
    rintro e W2 ⟨rfl, rfl⟩
    have hba := (Below.refl W.heap.size W).alloc (Nat.le_refl _) (.cells #[.int .i64 (chkP s), .int .i64 (cellE clo chi), .int .i64 (prE q)] 40)
    have HB2 := Lib.hid (HB1.out.trans (hba.mono HB1.out.size))
    have L0 := Lib.hid ((hba.block _ (by omega)).trans K0.out)
    have L1 := Lib.hid ((hba.block _ (by omega)).trans K1.out)
    have L2 := Lib.hid ((hba.block _ (by omega)).trans K2.out)
    have hz2 : V.heap.size ≤ (W.alloc (.cells #[.int .i64 (chkP s), .int .i64 (cellE clo chi), .int .i64 (prE q)] 40)).heap.size := Nat.le_trans hz1 hba.size
    clear hba
    generalize W.alloc (.cells #[.int .i64 (chkP s), .int .i64 (cellE clo chi), .int .i64 (prE q)] 40) = X at *
    clear hz1 K0 HK0 K1 HK1 K2 HK2 HB0 HB1
    by_cases hE : orL [chkP s, cellE clo chi, prE q] = 0
    · obtain ⟨o1, o2⟩ := orL1 hE
      obtain ⟨o2, o3⟩ := orL1 o2
      obtain ⟨o3, _⟩ := orL1 o3
      have g := good_of o1
      have gc := cellE_ok o2
      have hq := prE_ok o3
      clear o1 o2 o3
      have HZ := Lib.hid hE
      have hx9 := block_new X (.cells #[.func (.func 99) #[] #[.pointer (some ⟨w.heap.size + 1, 0, none⟩), .pointer (some ⟨w.heap.size, 0, none⟩)]] 155)
      have hb9 := (Below.refl X.heap.size X).alloc (Nat.le_refl _) (.cells #[.func (.func 99) #[] #[.pointer (some ⟨w.heap.size + 1, 0, none⟩), .pointer (some ⟨w.heap.size, 0, none⟩)]] 155)
      have hzX := lt_of_block L2.out
      have HIV := Lib.hid (show FreeIv w s ms clo chi X.heap.size (X.alloc (.cells #[.func (.func 99) #[] #[.pointer (some ⟨w.heap.size + 1, 0, none⟩), .pointer (some ⟨w.heap.size, 0, none⟩)]] 155)) from
        ⟨HB2.out.trans (hb9.mono HB2.out.size), (hb9.block _ (lt_of_block L0.out)).trans L0.out, ⟨clo.press, chi.press, (hb9.block _ (lt_of_block L1.out)).trans L1.out⟩, (hb9.block _ (lt_of_block L2.out)).trans L2.out, hx9, hzX⟩)
      have HC2 := Lib.hid (fun (W : World) (hW : FreeIv w s ms clo chi X.heap.size W) => IndexFunc_any 101 #[.pointer (some ⟨X.heap.size, 0, none⟩)] eg80 (oneF s clo chi q) pq nq capq q hcq hmq W (FreeIv w s ms clo chi X.heap.size) (fun V hV => HPq.out.later hV.low)
        (fun i V hi hV => Free2_any s ms clo chi g gc (q.x i) (q.y i) (hq i (by omega)).1 (hq i (by omega)).2.1 (hq i (by omega)).2.2 X.heap.size w V HSs.out hV) hW)
      have HC3 := Lib.hid (fun (W : World) (hW : FreeIv w s ms clo chi X.heap.size W) => IndexFunc_any 102 #[.pointer (some ⟨X.heap.size, 0, none⟩)] eg81 (allF' s clo chi q) pq nq capq q hcq hmq W (FreeIv w s ms clo chi X.heap.size) (fun V hV => HPq.out.later hV.low)
        (fun i V hi hV => Free3_any s ms clo chi g gc (q.x i) (q.y i) (hq i (by omega)).1 (hq i (by omega)).2.1 (hq i (by omega)).2.2 X.heap.size w V HSs.out hV) hW)
      have HCQ := Lib.hid hcq
      have hst1 := store_func78 X w.heap.size
      clear hx9 hb9 hcq hq
      by_cases hneg : fstN (oneF s clo chi q) nq 0 < 0
      · have HR := Lib.hid (show FreeRes s clo chi q = .tuple #[.agg #[.int .i64 0, .int .i64 0], .int .i64 4] by unfold FreeRes; rw [if_pos HZ.out, HCQ.out, if_pos hneg])
        generalize hO : orL [chkP s, cellE clo chi, prE q] = E at hE ⊢
        subst hE
        clear hO
        generalize fstN (oneF s clo chi q) nq 0 = fi at *
        go_wp2_with fail
        refine (HC2.out _ HIV.out).mono ?_
        rintro e V ⟨rfl, hV⟩
        have HV := Lib.hid hV
        clear hV
        go_wp2_with (refine list_store2 rfl rfl rfl (.inr (.inr rfl)) rfl rfl HV.out.res ?_; intro V2 h2 hc2)
        obtain ⟨⟨r0, r1⟩, _⟩ := cells2 h2
        refine bodyPost_ret (v := .tuple #[.agg #[.int .i64 0, .int .i64 0], .int .i64 4]) (by simp [results, Tryz.results38, go_sem, r0, r1]) rfl ⟨by rw [HR.out], HV.out.low.trans (hc2.below (by omega))⟩
      · have HR := Lib.hid (show FreeRes s clo chi q = .tuple #[.agg #[.int .i64 (fstN (allF' s clo chi q) nq 0), .int .i64 (fstN (oneF s clo chi q) nq 0)], .int .i64 0] by unfold FreeRes; rw [if_pos HZ.out, HCQ.out, if_neg hneg])
        generalize hO : orL [chkP s, cellE clo chi, prE q] = E at hE ⊢
        subst hE
        clear hO
        have hneg' : 0 ≤ fstN (oneF s clo chi q) nq 0 := by omega
        generalize fstN (oneF s clo chi q) nq 0 = fi at *
        generalize fstN (allF' s clo chi q) nq 0 = fl at *
        go_wp2_with fail
        refine (HC2.out _ HIV.out).mono ?_
        rintro e V ⟨rfl, hV⟩
        have HV := Lib.hid hV
        clear hV
        go_wp2_with fail
        refine (HC3.out _ HV.out).mono ?_
        rintro e V1 ⟨rfl, hV1⟩
        have HV1 := Lib.hid hV1
        clear hV1
        go_wp2_with (refine list_store2 rfl rfl rfl (.inr (.inr rfl)) rfl rfl HV1.out.res ?_; intro V2 h2 hc2)
        obtain ⟨⟨r0, r1⟩, _⟩ := cells2 h2
        refine bodyPost_ret (v := .tuple #[.agg #[.int .i64 fl, .int .i64 fi], .int .i64 0]) (by simp [results, Tryz.results38, go_sem, r0, r1]) rfl ⟨by rw [HR.out], HV1.out.low.trans (hc2.below (by omega))⟩
    · have HR := Lib.hid (show FreeRes s clo chi q = .tuple #[.agg #[.int .i64 0, .int .i64 0], .int .i64 (orL [chkP s, cellE clo chi, prE q])] by unfold FreeRes; rw [if_neg hE])
      generalize orL [chkP s, cellE clo chi, prE q] = E at *
      go_wp2_with (refine list_store2 rfl rfl rfl (.inr (.inr rfl)) rfl rfl L2.out ?_; intro V2 h2 hc2)
      obtain ⟨⟨r0, r1⟩, _⟩ := cells2 h2
      refine bodyPost_ret (v := .tuple #[.agg #[.int .i64 0, .int .i64 0], .int .i64 E]) (by simp [results, Tryz.results38, go_sem, r0, r1]) rfl ⟨by rw [HR.out], HB2.out.trans (hc2.below (by omega))⟩
end Go.Proofs.YtcoiklolgilhaaaGreatDoor
