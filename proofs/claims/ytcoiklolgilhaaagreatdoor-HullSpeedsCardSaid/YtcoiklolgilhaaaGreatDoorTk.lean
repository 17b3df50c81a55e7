/- The contract of hull.Slower. The contracts of slices.Clone over points and of the law's CopyShip: a copy in new memory. A right ship. Pure facts for the law HullBetter: a ship that is nowhere worse is never slower; what Slower says. Pure facts for the law HullBetter: the ship that is made better is right, and nowhere worse. A right ship whose thrust is at most 5300. -/
import Derived.Test.YtcoiklolgilhaaaGreatDoorPs
import Derived.Test.YtcoiklolgilhaaaGreatDoorQi
import Derived.Test.YtcoiklolgilhaaaGreatDoorRi
import Derived.Test.YtcoiklolgilhaaaGreatDoorRb
import Derived.Test.YtcoiklolgilhaaaGreatDoorSg
import Derived.Test.YtcoiklolgilhaaaGreatDoorQf
import Derived.Deep.AppendLies
import Derived.Shelf.Slices.In.Clone
namespace Go.Proofs.YtcoiklolgilhaaaGreatDoor
open Go.RowKit
set_option maxRecDepth 100000
section
variable {Q : Exit → Act → World → Prop} {o : Oper} {a' : Act} {W : World}
theorem op_b116c {s t : Nat} {sh : Sh} {m : Mem3} {i : Ic} {ch : Bool} (hop : o.op = Op.build 127 #[(0, .tmp s), (1, .tmp t), (2, .const (.bool ch))]) (hs : a'.eval (.tmp s) = .agg (shipA sh m)) (ht : a'.eval (.tmp t) = .agg (iceV i)) :
    o.wp Tryz.prog a' W (fun a'' W' => a'' = a'.put o.dst (.agg (sailA sh m i ch)) ∧ Below W.heap.size W W') Q := by
  have hs' : a'.tmps[s]?.getD undef = .agg (shipA sh m) := by simpa [Act.eval] using hs
  have ht' : a'.tmps[t]?.getD undef = .agg (iceV i) := by simpa [Act.eval] using ht
  have hb := Below.refl W.heap.size W
  unfold Oper.wp execOp
  rw [hop]
  simp [go_sem, hs', ht', hb]
theorem op_lsst {s t : Nat} {x y : Int} (hop : o.op = Op.binOp .lss 3 (.tmp s) (.tmp t) 3) (he : a'.eval (.tmp s) = .int .i64 x) (ht : a'.eval (.tmp t) = .int .i64 y) :
    o.wp Tryz.prog a' W (fun a'' W' => a'' = a'.put o.dst (.bool (decide (x < y))) ∧ Below W.heap.size W W') Q := by
  have hr := Below.refl W.heap.size W
  have he' : a'.tmps[s]?.getD undef = .int .i64 x := by simpa [Act.eval] using he
  have ht' : a'.tmps[t]?.getD undef = .int .i64 y := by simpa [Act.eval] using ht
  unfold Oper.wp execOp
  rw [hop]
  simp [go_sem, he', ht', hr]
end
theorem eg59 : ∀ args w, (callFunc 75 args).run Tryz.prog w = .ok (.enter 75 args) w := Go.Proofs.enters_of Tryz.func75 (by kernel_rfl) rfl
def slowG (a b : Sh) : Nat → Bool := fun t => decide ((speedP a (lvl (t : Int)) false : Int) < (speedP b (lvl (t : Int)) false : Int))
theorem fstN_at {f : Nat → Bool} {n i : Nat} (hi : i < n) (h : f i = true) (hb : ∀ j, j < i → f j = false) : fstN f n 0 = (i : Int) := by
  rcases fstN_spec f n 0 with ⟨_, h2⟩ | ⟨r, e, _, h3, h4, h5⟩
  · rw [h2 i (Nat.zero_le _) (by omega)] at h; cases h
  · rcases Nat.lt_trichotomy r i with hl | hl | hl
    · rw [hb r hl] at h4; cases h4
    · rw [e, hl]
    · rw [h5 i (Nat.zero_le _) hl] at h; cases h
theorem fstN_no {f : Nat → Bool} {n : Nat} (hb : ∀ j, j < n → f j = false) : fstN f n 0 = -1 := by
  rcases fstN_spec f n 0 with ⟨e, _⟩ | ⟨r, e, _, h3, h4, h5⟩
  · exact e
  · rw [hb r (by omega)] at h4; cases h4
def slF (a b : Sh) (ma mb : Mem3) (t : Int) : Nat → Value → Prop
  | 0, v => v = .agg (shipA a ma)
  | 1, v => v = .agg (iceV (lvl t))
  | 2, v => v = .agg (sailA a ma (lvl t) false)
  | 3, v => v = .int .i64 (speedP a (lvl t) false : Int)
  | 4, v => v = .agg (shipA b mb)
  | 5, v => v = .agg (iceV (lvl t))
  | 6, v => v = .agg (sailA b mb (lvl t) false)
  | 7, v => v = .int .i64 (speedP b (lvl t) false : Int)
  | 8, v => v = .bool (decide ((speedP a (lvl t) false : Int) < (speedP b (lvl t) false : Int)))
  | _, _ => True
def SlowerRes (a b : Sh) : Value := if orL [chkP a, chkP b] = 0 then (if fstN (slowG a b) 401 0 < 0 then .tuple #[.int .i64 0, .int .i64 4] else .tuple #[.int .i64 (fstN (slowG a b) 401 0), .int .i64 0]) else .tuple #[.int .i64 0, .int .i64 (orL [chkP a, chkP b])]
set_option maxHeartbeats 8000000 in
theorem Slower_any (a : Sh) (ma : Mem3) (b : Sh) (mb : Mem3) (w : World) (ha : ShipIn w a ma) (hb : ShipIn w b mb) :
    Calls Tryz.prog 44 #[.agg (shipA a ma), .agg (shipA b mb)] w fun e w' => e = .returned (SlowerRes a b) ∧ Below w.heap.size w w' := by
  have HSa := Lib.hid ha
  clear ha
  have HSb := Lib.hid hb
  clear hb
  have hall := two_allocs w (.cells (shipA a ma) 24) (.cells (shipA b mb) 24)
  go_enter Tryz.func44, Tryz.ntmps44
  go_wp2_with fail
  generalize ((w.alloc (.cells (shipA a ma) 24)).alloc (.cells (shipA b mb) 24)) = V at *
  obtain ⟨t0, t1, hz, hbl⟩ := hall
  have HB0 := Lib.hid hbl
  have HK0 := Lib.hid t0
  have HK1 := Lib.hid t1
  clear hbl t0 t1
  refine wp_region_multi 4 [9, 10, 11, 12] (fun _ => false) (fun i => ([(.agg (shipA a ma)), (.int .i64 (chkP a)), (.agg (shipA b mb)), (.int .i64 (chkP b))] : List Value).getD i undef) (fun _ => .cells #[] 0) (by kernel_rfl) (by kernel_rfl) (fun s hs => by simp at hs ⊢; omega) ?val ?al ?fin
  case val =>
    intro i
    match i with
    | 0 => intro o hlt hal ho a' W hb hfr hdp; obtain rfl := Option.some.inj ho; exact op_load11 rfl (hfr 2 (by decide)) ((hb.block _ (by omega)).trans HK0.out)
    | 1 => intro o hlt hal ho a' W hb hfr hdp; obtain rfl := Option.some.inj ho; exact op_call rfl (hdp 0 9 (by decide) rfl rfl (by kernel_rfl)) eg17 (Check_any a ma W (HSa.out.later (HB0.out.trans (hb.mono HB0.out.size))))
    | 2 => intro o hlt hal ho a' W hb hfr hdp; obtain rfl := Option.some.inj ho; exact op_load11 rfl (hfr 3 (by decide)) ((hb.block _ (by omega)).trans HK1.out)
    | 3 => intro o hlt hal ho a' W hb hfr hdp; obtain rfl := Option.some.inj ho; exact op_call rfl (hdp 2 11 (by decide) rfl rfl (by kernel_rfl)) eg17 (Check_any b mb W (HSb.out.later (HB0.out.trans (hb.mono HB0.out.size))))
    | j + 4 => intro o hlt; omega
  case al => intro i o hlt hal; cases hal
  case fin =>
    intro W B' hb hB' hne
    clear hB' hne
    simp only [List.drop_succ_cons, List.drop_zero, fill, uAll, Act.put, List.setIfInBounds_toArray, List.set_cons_zero, List.set_cons_succ, Nat.reduceAdd, if_false, Bool.false_eq_true, List.getD_cons_zero, List.getD_cons_succ]
    have HB1 := Lib.hid (HB0.out.trans (hb.mono HB0.out.size))
    have K0 := Lib.hid ((hb.block _ (by omega)).trans HK0.out)
    have K1 := Lib.hid ((hb.block _ (by omega)).trans HK1.out)
    have hz1 := hb.size
    clear hb
    go_wp2_with fail
    refine (or_any W.heap.size [chkP a, chkP b] _ (fun i hi => ?_) (by simp)).mono ?_
    · have hnew := block_new W (.cells #[.int .i64 (chkP a), .int .i64 (chkP b)] 40)
      match i, hi with
      | 0, _ => exact (cell_of_block hnew 0).trans rfl
      | 1, _ => exact (cell_of_block hnew 1).trans rfl
    rintro e W2 ⟨rfl, rfl⟩
    have hba := (Below.refl W.heap.size W).alloc (Nat.le_refl _) (.cells #[.int .i64 (chkP a), .int .i64 (chkP b)] 40)
    have HB2 := Lib.hid (HB1.out.trans (hba.mono HB1.out.size))
    have L0 := Lib.hid ((hba.block _ (by omega)).trans K0.out)
    have L1 := Lib.hid ((hba.block _ (by omega)).trans K1.out)
    have hz2 : V.heap.size ≤ (W.alloc (.cells #[.int .i64 (chkP a), .int .i64 (chkP b)] 40)).heap.size := Nat.le_trans hz1 hba.size
    clear hba
    generalize W.alloc (.cells #[.int .i64 (chkP a), .int .i64 (chkP b)] 40) = X at *
    clear hz1 K0 HK0 K1 HK1 HB0 HB1
    by_cases hE : orL [chkP a, chkP b] = 0
    · have HR := Lib.hid (show SlowerRes a b = if fstN (slowG a b) 401 0 < 0 then .tuple #[.int .i64 0, .int .i64 4] else .tuple #[.int .i64 (fstN (slowG a b) 401 0), .int .i64 0] by unfold SlowerRes; rw [if_pos hE])
      obtain ⟨o1, o2⟩ := orL1 hE
      obtain ⟨o2, _⟩ := orL1 o2
      have HGA := Lib.hid (good_of o1)
      have HGB := Lib.hid (good_of o2)
      clear o1 o2
      generalize hO : orL [chkP a, chkP b] = E at *
      subst hE
      clear hO
      go_wp2_with fail
      rename_i K hK
      have HKT := Lib.hid hK
      clear hK
      go_loopw [18] (fun i wr => ∃ j : Nat, i = .int .i64 j ∧ j ≤ 401 ∧ Hid (Below X.heap.size X wr) ∧ Hid (∀ k, k < j → slowG a b k = false)) (fun i _ => 401 - (intOf i).toNat)
      case atStart => exact ⟨0, rfl, Nat.zero_le _, Lib.hid (Below.refl _ _), Lib.hid (fun k hk => absurd hk (Nat.not_lt_zero _))⟩
      case round =>
        obtain ⟨j, rfl, hj, hb0, hsl⟩ := hrel
        have HB3 := Lib.hid (HB2.out.trans (hb0.out.mono HB2.out.size))
        have N0 := Lib.hid ((hb0.out.block _ (lt_of_block L0.out)).trans L0.out)
        have N1 := Lib.hid ((hb0.out.block _ (lt_of_block L1.out)).trans L1.out)
        have HX := Lib.hid hb0.out
        have HSL := Lib.hid hsl.out
        clear hb0 hsl
        by_cases hlt : j < 401
        · have hjn : (j : Int) < 401 := by omega
          have HGL := Lib.hid (good_lvl (t := (j : Int)) (by omega) (by omega))
          go_wp2_with fail
          refine (level_any (j : Int) wr).mono ?_
          rintro e U1 ⟨rfl, hb⟩
          have hba := (Below.refl U1.heap.size U1).alloc (Nat.le_refl _) Z53
          have HZ := Lib.hid (block_new U1 Z53)
          have hbs := hb.size
          go_wp2_with (refine list_store4 rfl rfl rfl (.inl rfl) rfl rfl HZ.out ?_; intro U2 hz hc; have hb2 := hb.trans ((hba.trans (hc.below (Nat.le_refl _))).mono hbs); have M8 := Lib.hid hz; have M0 := Lib.hid ((hb2.block _ (lt_of_block N0.out)).trans N0.out); have M1 := Lib.hid ((hb2.block _ (lt_of_block N1.out)).trans N1.out); have HB4 := Lib.hid (HB3.out.trans (hb2.mono HB3.out.size)); have HX2 := Lib.hid (HX.out.trans (hb2.mono HX.out.size)); clear hz hc hb2 hba HZ hb)
          refine wp_region_fi [23, 24, 25, 26, 27, 28, 29, 30, 31] (slF a b ma mb (j : Int)) (fun _ _ W' => Below U2.heap.size U2 W') (by kernel_rfl) (by kernel_rfl) ?sz ?ts ?z ?val ?fin
          case sz => intro s hs h; simp at hs ⊢; omega
          case ts => simp
          case z => exact below_drawn U2
          case val =>
            intro jj
            match jj with
              | 0 => intro o L V ho hL hd a' W hX hfr hdp; obtain rfl := Option.some.inj ho; exact opx_of (op_load11 rfl (hfr 2 (by decide)) ((hX.block _ (lt_of_block M0.out)).trans M0.out)) fun W' hb => ⟨rfl, hX.trans (hb.mono hX.size)⟩
              | 1 => intro o L V ho hL hd a' W hX hfr hdp; obtain rfl := Option.some.inj ho; exact opx_of (op_load4b rfl (hfr 8 (by decide)) ((hX.block _ (lt_of_block M8.out)).trans M8.out)) fun W' hb => ⟨rfl, hX.trans (hb.mono hX.size)⟩
              | 2 => intro o L V ho hL hd a' W hX hfr hdp; obtain rfl := Option.some.inj ho; exact opx_of (op_b116c rfl (Dp (hdp 0 23 (by decide) rfl (by kernel_rfl)) id) (Dp (hdp 1 24 (by decide) rfl (by kernel_rfl)) id)) fun W' hb => ⟨rfl, hX.trans (hb.mono hX.size)⟩
              | 3 => intro o L V ho hL hd a' W hX hfr hdp; obtain rfl := Option.some.inj ho; exact opx_of (op_call rfl (Dp (hdp 2 25 (by decide) rfl (by kernel_rfl)) id) eg59 (speed_any a ma (lvl (j : Int)) false HGA.out HGL.out W (HSa.out.later (HB4.out.trans (hX.mono HB4.out.size))))) fun W' hb => ⟨rfl, hX.trans (hb.mono hX.size)⟩
              | 4 => intro o L V ho hL hd a' W hX hfr hdp; obtain rfl := Option.some.inj ho; exact opx_of (op_load11 rfl (hfr 3 (by decide)) ((hX.block _ (lt_of_block M1.out)).trans M1.out)) fun W' hb => ⟨rfl, hX.trans (hb.mono hX.size)⟩
              | 5 => intro o L V ho hL hd a' W hX hfr hdp; obtain rfl := Option.some.inj ho; exact opx_of (op_load4b rfl (hfr 8 (by decide)) ((hX.block _ (lt_of_block M8.out)).trans M8.out)) fun W' hb => ⟨rfl, hX.trans (hb.mono hX.size)⟩
              | 6 => intro o L V ho hL hd a' W hX hfr hdp; obtain rfl := Option.some.inj ho; exact opx_of (op_b116c rfl (Dp (hdp 4 27 (by decide) rfl (by kernel_rfl)) id) (Dp (hdp 5 28 (by decide) rfl (by kernel_rfl)) id)) fun W' hb => ⟨rfl, hX.trans (hb.mono hX.size)⟩
              | 7 => intro o L V ho hL hd a' W hX hfr hdp; obtain rfl := Option.some.inj ho; exact opx_of (op_call rfl (Dp (hdp 6 29 (by decide) rfl (by kernel_rfl)) id) eg59 (speed_any b mb (lvl (j : Int)) false HGB.out HGL.out W (HSb.out.later (HB4.out.trans (hX.mono HB4.out.size))))) fun W' hb => ⟨rfl, hX.trans (hb.mono hX.size)⟩
              | 8 => intro o L V ho hL hd a' W hX hfr hdp; obtain rfl := Option.some.inj ho; exact opx_of (op_lsst rfl (Dp (hdp 3 26 (by decide) rfl (by kernel_rfl)) id) (Dp (hdp 7 30 (by decide) rfl (by kernel_rfl)) id)) fun W' hb => ⟨rfl, hX.trans (hb.mono hX.size)⟩
              | j + 9 => intro o L V ho; simp at ho
          case fin =>
            intro U3 L V hL hF hI
            have e8 : V 8 = .bool (slowG a b j) := hF 8 (by decide)
            have HX3 := Lib.hid (HX2.out.trans (hI.mono HX2.out.size))
            have HB5 := Lib.hid (HB4.out.trans (hI.mono HB4.out.size))
            clear hI hF hL
            simp only [fill, Act.put, List.setIfInBounds_toArray, List.set_cons_zero, List.set_cons_succ, Nat.reduceAdd, e8]
            clear e8
            generalize V 0 = z0, V 1 = z1, V 2 = z2, V 3 = z3, V 4 = z4, V 5 = z5, V 6 = z6, V 7 = z7
            clear V
            obtain ⟨sg, hsg⟩ : ∃ v, v = slowG a b j := ⟨_, rfl⟩
            rw [← hsg]
            have HSG := Lib.hid hsg
            clear hsg
            cases sg with
            | true =>
              have HF := Lib.hid (fstN_at hlt HSG.out.symm HSL.out)
              go_wp2_with fail
              refine bodyPost_ret (v := .tuple #[.int .i64 (j : Int), .int .i64 0]) (by simp [results, Tryz.results44, go_sem]) rfl ⟨by rw [HR.out, HF.out, if_neg (by omega)], HB5.out⟩
            | false =>
              go_wp2_with fail
              refine ⟨⟨j + 1, by go_num, by omega, HX3, Lib.hid (fun k hk => ?_)⟩, by simp only [intOf]; omega⟩
              by_cases e : k = j
              · rw [e]; exact HSG.out.symm
              · exact HSL.out k (by omega)
        · obtain rfl : j = 401 := by omega
          have HF := Lib.hid (fstN_no HSL.out)
          go_wp2_with fail
          refine HKT.out _ _ ?_
          go_wp2_with fail
          refine bodyPost_ret (v := .tuple #[.int .i64 0, .int .i64 4]) (by simp [results, Tryz.results44, go_sem]) rfl ⟨by rw [HR.out, HF.out, if_pos (by decide)], HB3.out⟩
    · have HR := Lib.hid (show SlowerRes a b = .tuple #[.int .i64 0, .int .i64 (orL [chkP a, chkP b])] by unfold SlowerRes; rw [if_neg hE])
      generalize orL [chkP a, chkP b] = E at *
      go_wp2_with fail
      refine bodyPost_ret (v := .tuple #[.int .i64 0, .int .i64 (E)]) (by simp [results, Tryz.results44, go_sem]) rfl ⟨by rw [HR.out], HB2.out⟩
end Go.Proofs.YtcoiklolgilhaaaGreatDoor
namespace Go.Proofs.YtcoiklolgilhaaaGreatDoor
open Go.RowKit
set_option maxRecDepth 100000
/-- the points of a curve, as a list -/
def ptsL (c : Cv) : List (Int × Int) := (List.range c.n).map fun i => (c.x i, c.y i)
theorem ptsL_len (c : Cv) : (ptsL c).length = c.n := by simp [ptsL]
theorem ptsL_get (c : Cv) {i : Nat} (h : i < c.n) : (cvOf (ptsL c)).x i = c.x i ∧ (cvOf (ptsL c)).y i = c.y i := by
  simp [cvOf, ptsL, h]
theorem flat_news {w : World} {b o : Nat} {c : Cv} (hP : Pts w (some ⟨b, o, none⟩) c) (j : Nat) (u : Value) (hj : (flatP (ptsL c))[j]? = some u) : w.cell? ⟨b, o + j, none⟩ = some u := by
  have hlen : (flatP (ptsL c)).length = c.n * 2 := by rw [flatP_len, ptsL_len]
  have hlt : j < c.n * 2 := by rw [← hlen]; exact (List.getElem?_eq_some_iff.1 hj).1
  have hi : j / 2 < c.n := by omega
  obtain ⟨b', o', e, _, h1, h2⟩ := hP (j / 2) hi
  simp only [Option.some.injEq, Addr.mk.injEq, and_true] at e
  obtain ⟨rfl, rfl⟩ := e
  obtain ⟨g1, g2⟩ := flatP_get (ptsL c) (j / 2) (by rw [ptsL_len]; exact hi)
  rw [(ptsL_get c hi).1] at g1
  rw [(ptsL_get c hi).2] at g2
  rcases Nat.mod_two_eq_zero_or_one j with hm | hm
  · have ej : j / 2 * 2 = j := by omega
    rw [ej] at g1 h1
    rw [g1] at hj
    rw [h1]; exact hj
  · have ej : j / 2 * 2 + 1 = j := by omega
    rw [ej] at g2
    rw [g2] at hj
    rw [show b = b from rfl, ← hj, ← h2, show o + j / 2 * 2 + 1 = o + j by omega]
set_option maxHeartbeats 2000000 in
theorem Clone_any (p : Option Addr) (n cap : Nat) (c : Cv) (hc : c.n = n) (h1 : 1 ≤ n) (h8 : n ≤ 1000) (w : World) (hP : Pts w p c) :
    Calls Tryz.prog 64 #[.slice p n cap] w fun e w' => ∃ v', e = .returned v' ∧ PRow w' w.heap.size v' (ptsL c) ∧ v'.ownBlock ≠ none ∧ Below w.heap.size w w' := by
  obtain ⟨i0, hi, hz0, hz1, hz2⟩ := info_parts info30
  obtain ⟨b, o, e, hb, _⟩ := hP 0 (by omega)
  subst e
  have HP := Lib.hid hP
  clear hP
  have q22 : ∀ W, (binOp .eql 22 (.slice (some ⟨b, o, none⟩) n cap) (.slice none 0 0)).run Tryz.prog W = .ok (.bool false) W := fun W => (Lib.run_eql_slice_nil W _ _ (some ⟨b, o, none⟩) n cap 0 0 und22).trans rfl
  go_enter Tryz.func64, Tryz.ntmps64
  go_wp2_with (at_builtin; refine Hid.out ?_)
  refine Lib.hid ?_
  refine wpList_append_own _ rfl (.tmp 5) (.tmp 6) 22 rfl w.heap.size 89 i0 (.agg #[.int .i64 0, .int .i64 0]) 2 16 und22 hi hz0 hz1 hz2 rfl (by decide) _ 0 [] rfl (World.ownsRow_made w #[] 0 (Nat.le_refl _) (Nat.zero_le _) rfl) ⟨b, o, none⟩ n cap (flatP (ptsL c)) rfl ?qc1 ?qc2 ?qc3 ?qc4 ?qc5 ?qc6 ?_
  case qc1 => rw [flatP_len, ptsL_len, hc]
  case qc2 =>
    intro j u hj
    rw [Addr.add_lit]
    exact Lib.cell?_alloc_some _ (flat_news HP.out j u hj)
  case qc3 =>
    intro u hu
    obtain ⟨x, _, hx⟩ := List.mem_flatMap.1 hu
    simp at hx
    rcases hx with rfl | rfl <;> rfl
  case qc4 => unfold maxLen; omega
  case qc5 => omega
  case qc6 => simp
  intro v' w1 hown hgrow hnil
  have hfin := ((Below.refl _ w).alloc (Nat.le_refl _) (.cells #[] 89)).grown hgrow (by simp) (by intro k hk; have hk' := Option.some.inj ((show some w.heap.size = some k from hk)); omega)
  have hr : PRow w1 w.heap.size v' (ptsL c) := by
    have : (ptsL c).length = 0 + n := by rw [ptsL_len, hc, Nat.zero_add]
    unfold PRow
    rw [this]
    simpa using hown
  have hne : v'.ownBlock ≠ none := by
    rcases hr.2 with ⟨rfl, e2⟩ | ⟨g, cap', cur, rfl, _⟩
    · rw [ptsL_len] at e2; omega
    · simp [Value.ownBlock]
  clear hown hgrow hnil
  go_wp2_with fail
  go_ret
  exact ⟨v', rfl, hr, hne, hfin⟩
section
variable {Q : Exit → Act → World → Prop} {o : Oper} {a' : Act} {W : World}
theorem op_fa24k {s b k : Nat} (hop : o.op = Op.fieldAddr 24 (.tmp s) k) (he : a'.eval (.tmp s) = .pointer (some ⟨b, 0, none⟩)) (hk : k < 11) :
    o.wp Tryz.prog a' W (fun a'' W' => a'' = a'.put o.dst (.pointer (some ⟨b, k, none⟩)) ∧ Below W.heap.size W W') Q := by
  have hr := Below.refl W.heap.size W
  have he' : a'.tmps[s]?.getD undef = .pointer (some ⟨b, 0, none⟩) := by simpa [Act.eval] using he
  unfold Oper.wp execOp
  rw [hop]
  have : k = 0 ∨ k = 1 ∨ k = 2 ∨ k = 3 ∨ k = 4 ∨ k = 5 ∨ k = 6 ∨ k = 7 ∨ k = 8 ∨ k = 9 ∨ k = 10 := by omega
  rcases this with rfl | rfl | rfl | rfl | rfl | rfl | rfl | rfl | rfl | rfl | rfl <;> simp [go_sem, he', hr]
theorem opx_callu {f s : Nat} {v : Value} {ts : Array TypeId} {Rq : Value → World → Prop} (hop : o.op = Op.call { callee := .value (.func f), args := #[.tmp s], argTypes := ts })
    (he : a'.eval (.tmp s) = v) (eg : ∀ args w, (callFunc f args).run Tryz.prog w = .ok (.enter f args) w) (hc : Calls Tryz.prog f #[v] W fun e W' => ∃ r, e = .returned r ∧ Rq r W') :
    o.wp Tryz.prog a' W (fun a'' W' => ∃ x, a'' = a'.put o.dst x ∧ Rq x W') Q := by
  have he' : a'.tmps[s]?.getD undef = v := by simpa [Act.eval] using he
  unfold Oper.wp execOp
  rw [hop]
  simp [go_sem, he', eg]
  refine hc.mono ?_
  rintro e w' ⟨r, rfl, hb⟩
  exact ⟨r, rfl, hb⟩
end
theorem eg13 : ∀ args w, (callFunc 64 args).run Tryz.prog w = .ok (.enter 64 args) w := Go.Proofs.enters_of Tryz.func64 (by kernel_rfl) rfl
theorem prow_shape {W : World} {base : Nat} {v : Value} {l : List (Int × Int)} (h : PRow W base v l) : ∃ q c, v = .slice q l.length c := by
  rcases h.2 with ⟨rfl, e2⟩ | ⟨g, cap, cur, rfl, _⟩
  · exact ⟨none, 0, by rw [e2]⟩
  · exact ⟨_, _, rfl⟩
theorem prow_sto {W W' : World} {base b : Nat} {v : Value} {l : List (Int × Int)} (h : PRow W base v l) (hc : Chg b W W') (hne : v.ownBlock ≠ some b) : PRow W' base v l :=
  h.kept (row := some b) ⟨hc.2.2.1, hc.2.2.2.1, hc.2.2.2.2, Nat.le_of_eq hc.1.symm, fun k _ hk => hc.2.1 k (fun e => hk (by rw [e]))⟩ (.inr hne)
theorem prow_weak {W : World} {base base' : Nat} {v : Value} {l : List (Int × Int)} (h : PRow W base v l) (hb : base' ≤ base) : PRow W base' v l := by
  refine ⟨h.1, ?_⟩
  rcases h.2 with h2 | ⟨g, cap, cur, e, hbg, hrest⟩
  · exact .inl h2
  · exact .inr ⟨g, cap, cur, e, Nat.le_trans hb hbg, hrest⟩
/-- what lies in CopyShip's memory while it copies -/
structure Cp (w : World) (s : Sh) (m : Mem3) (L : Nat → Bool) (V : Nat → Value) (W : World) : Prop where
  low : Below w.heap.size w W
  z : W.heap[w.heap.size + 1]? = some (.cells #[.int .i64 0, .int .i64 0, .int .i64 0, .int .i64 0, .slice none 0 0, .slice none 0 0, .slice none 0 0, .int .i64 0, .int .i64 0, .int .i64 0, .int .i64 0] 24 (0, 0))
  c : W.heap[w.heap.size]? = some (.cells #[.int .i64 s.cls, .int .i64 s.pow, .int .i64 s.dra, .int .i64 s.ton, if L 10 = true then V 2 else .slice m.pt s.th.n m.ct, if L 12 = true then V 5 else .slice m.pw s.wa.n m.cw, if L 14 = true then V 8 else .slice m.pi s.ic.n m.ci, .int .i64 s.slow, .int .i64 s.brash, .int .i64 s.ridge, .int .i64 s.press] 24 (0, 0))
  r2 : L 2 = true → PRow W (w.heap.size + 2) (V 2) (ptsL s.th) ∧ (V 2).ownBlock ≠ none
  r5 : L 5 = true → PRow W (w.heap.size + 2) (V 5) (ptsL s.wa) ∧ (V 5).ownBlock ≠ none
  r8 : L 8 = true → PRow W (w.heap.size + 2) (V 8) (ptsL s.ic) ∧ (V 8).ownBlock ≠ none
  d25 : L 2 = true → L 5 = true → (V 2).ownBlock ≠ (V 5).ownBlock
  d28 : L 2 = true → L 8 = true → (V 2).ownBlock ≠ (V 8).ownBlock
  d58 : L 5 = true → L 8 = true → (V 5).ownBlock ≠ (V 8).ownBlock
  n10 : L 10 = true → L 1 = true ∧ L 4 = true ∧ L 7 = true ∧ L 2 = true
  n12 : L 12 = true → L 1 = true ∧ L 4 = true ∧ L 7 = true ∧ L 5 = true
  n14 : L 14 = true → L 1 = true ∧ L 4 = true ∧ L 7 = true ∧ L 8 = true
section
variable {w : World} {s : Sh} {m : Mem3} {L : Nat → Bool} {V : Nat → Value} {W W' : World}
theorem Cp.sz (h : Cp w s m L V W) : w.heap.size + 2 ≤ W.heap.size := lt_of_block h.z
theorem Cp.later (h : Cp w s m L V W) (hb : Below W.heap.size W W') : Cp w s m L V W' :=
  ⟨h.low.trans (hb.mono h.low.size), (hb.block _ (lt_of_block h.z)).trans h.z, (hb.block _ (lt_of_block h.c)).trans h.c, fun e => ⟨row_later (h.r2 e).1 hb, (h.r2 e).2⟩, fun e => ⟨row_later (h.r5 e).1 hb, (h.r5 e).2⟩, fun e => ⟨row_later (h.r8 e).1 hb, (h.r8 e).2⟩, h.d25, h.d28, h.d58, h.n10, h.n12, h.n14⟩
/-- an operation that yields no row and writes nothing -/
theorem Cp.set (h : Cp w s m L V W) (i : Nat) (hi : i ∉ [2, 5, 8, 10, 12, 14]) (x : Value) : Cp w s m (fun j => if j = i then true else L j) (fun j => if j = i then x else V j) W := by
  simp only [List.mem_cons, List.not_mem_nil, or_false, not_or] at hi
  obtain ⟨h2, h5, h8, h10, h12, h14⟩ := hi
  have up : ∀ j, L j = true → (if j = i then true else L j) = true := fun j hj => by by_cases e : j = i <;> simp [e, hj]
  refine ⟨h.low, h.z, ?_, ?_, ?_, ?_, ?_, ?_, ?_, ?_, ?_, ?_⟩
  · simp only [if_neg (Ne.symm h2), if_neg (Ne.symm h5), if_neg (Ne.symm h8), if_neg (Ne.symm h10), if_neg (Ne.symm h12), if_neg (Ne.symm h14)]; exact h.c
  · simp only [if_neg (Ne.symm h2)]; exact h.r2
  · simp only [if_neg (Ne.symm h5)]; exact h.r5
  · simp only [if_neg (Ne.symm h8)]; exact h.r8
  · simp only [if_neg (Ne.symm h2), if_neg (Ne.symm h5)]; exact h.d25
  · simp only [if_neg (Ne.symm h2), if_neg (Ne.symm h8)]; exact h.d28
  · simp only [if_neg (Ne.symm h5), if_neg (Ne.symm h8)]; exact h.d58
  · simp only [if_neg (Ne.symm h10)]; exact fun e => ⟨up _ (h.n10 e).1, up _ (h.n10 e).2.1, up _ (h.n10 e).2.2.1, up _ (h.n10 e).2.2.2⟩
  · simp only [if_neg (Ne.symm h12)]; exact fun e => ⟨up _ (h.n12 e).1, up _ (h.n12 e).2.1, up _ (h.n12 e).2.2.1, up _ (h.n12 e).2.2.2⟩
  · simp only [if_neg (Ne.symm h14)]; exact fun e => ⟨up _ (h.n14 e).1, up _ (h.n14 e).2.1, up _ (h.n14 e).2.2.1, up _ (h.n14 e).2.2.2⟩
theorem Cp.off (h : Cp w s m L V W) {i : Nat} (hi : i = 1 ∨ i = 4 ∨ i = 7) (hL : L i = false) : L 10 = false ∧ L 12 = false ∧ L 14 = false := by
  refine ⟨?_, ?_, ?_⟩
  · cases e : L 10 with
    | false => rfl
    | true => obtain ⟨a, b, c, _⟩ := h.n10 e; rcases hi with rfl | rfl | rfl <;> simp_all
  · cases e : L 12 with
    | false => rfl
    | true => obtain ⟨a, b, c, _⟩ := h.n12 e; rcases hi with rfl | rfl | rfl <;> simp_all
  · cases e : L 14 with
    | false => rfl
    | true => obtain ⟨a, b, c, _⟩ := h.n14 e; rcases hi with rfl | rfl | rfl <;> simp_all
end

theorem own_fresh {W : World} {n : Nat} {v v' : Value} {l l' : List (Int × Int)} {W' : World} (h : PRow W n v l) (h' : PRow W' W.heap.size v' l') (hn : v'.ownBlock ≠ none) : v.ownBlock ≠ v'.ownBlock := by
  cases e : v'.ownBlock with
  | none => exact absurd e hn
  | some j =>
    intro e2
    have h1 := pown_lt h j e2
    have h2 := pown_base h' j e
    omega

def cpF (s : Sh) (m : Mem3) (B : Nat) : Nat → Value → Prop
  | 0, v => v = .pointer (some ⟨B, 4, none⟩)
  | 1, v => v = .slice m.pt s.th.n m.ct
  | 3, v => v = .pointer (some ⟨B, 5, none⟩)
  | 4, v => v = .slice m.pw s.wa.n m.cw
  | 6, v => v = .pointer (some ⟨B, 6, none⟩)
  | 7, v => v = .slice m.pi s.ic.n m.ci
  | 9, v => v = .pointer (some ⟨B, 4, none⟩)
  | 11, v => v = .pointer (some ⟨B, 5, none⟩)
  | 13, v => v = .pointer (some ⟨B, 6, none⟩)
  | _, _ => True
set_option maxHeartbeats 4000000 in
theorem CopyShip_any (s : Sh) (m : Mem3) (g : Good s) (w : World) (hs : ShipIn w s m) :
    Calls Tryz.prog 11 #[.agg (shipA s m)] w fun e w' => ∃ m' : Mem3, e = .returned (.agg (shipA s m')) ∧ PRow w' (w.heap.size + 2) (.slice m'.pt s.th.n m'.ct) (ptsL s.th) ∧ PRow w' (w.heap.size + 2) (.slice m'.pw s.wa.n m'.cw) (ptsL s.wa) ∧ PRow w' (w.heap.size + 2) (.slice m'.pi s.ic.n m'.ci) (ptsL s.ic) ∧
      (Value.slice m'.pt s.th.n m'.ct).ownBlock ≠ (Value.slice m'.pw s.wa.n m'.cw).ownBlock ∧ (Value.slice m'.pt s.th.n m'.ct).ownBlock ≠ (Value.slice m'.pi s.ic.n m'.ci).ownBlock ∧ (Value.slice m'.pw s.wa.n m'.cw).ownBlock ≠ (Value.slice m'.pi s.ic.n m'.ci).ownBlock ∧ Below w.heap.size w w' := by
  have HS := Lib.hid hs
  have n1 := g.th.two
  have n2 := g.th.eight
  have n3 := g.wa.two
  have n4 := g.wa.eight
  have n5 := g.ic.two
  have n6 := g.ic.eight
  obtain ⟨t1, t2, tz, tb⟩ := two_allocs w (.cells (shipA s m) 24) (.cells #[.int .i64 0, .int .i64 0, .int .i64 0, .int .i64 0, .slice none 0 0, .slice none 0 0, .slice none 0 0, .int .i64 0, .int .i64 0, .int .i64 0, .int .i64 0] 24)
  have H1 := Lib.hid t1
  have H2 := Lib.hid t2
  have HB := Lib.hid tb
  clear t1 t2 tb hs g
  go_enter Tryz.func11, Tryz.ntmps11
  go_wp2_with fail
  generalize (w.alloc (.cells (shipA s m) 24)).alloc (.cells #[.int .i64 0, .int .i64 0, .int .i64 0, .int .i64 0, .slice none 0 0, .slice none 0 0, .slice none 0 0, .int .i64 0, .int .i64 0, .int .i64 0, .int .i64 0] 24) = X at *
  refine wp_region_fi [3, 4, 5, 6, 7, 8, 9, 10, 11, 12, 1000, 13, 1001, 14, 1002] (cpF s m w.heap.size) (Cp w s m) (by kernel_rfl) (by kernel_rfl) ?sz ?ts ?z ?val ?fin
  case sz => intro s hs h; simp at hs ⊢; omega
  case ts => simp
  case z => exact Cp.later ⟨HB.out, H2.out, H1.out, (fun e => by cases e), (fun e => by cases e), (fun e => by cases e), (fun e => by cases e), (fun e => by cases e), (fun e => by cases e), (fun e => by cases e), (fun e => by cases e), (fun e => by cases e)⟩ (below_drawn X)
  case val =>
    intro jj
    match jj with
    | 0 => intro o L V ho hL hd a' W hX hfr hdp; obtain rfl := Option.some.inj ho; exact opx_of (op_fa24k rfl (hfr 1 (by decide)) (by decide)) fun W' hb => ⟨rfl, (hX.later hb).set 0 (by decide) _⟩
    | 1 =>
      intro o L V ho hL hd a' W hX hfr hdp; obtain rfl := Option.some.inj ho
      obtain ⟨u0, u1, u2⟩ := hX.off (i := 1) (by decide) hL
      have hc := hX.c
      rw [u0, u1, u2] at hc
      simp only [if_neg (show ¬ false = true by simp)] at hc
      exact opx_of (op_load22 rfl (Dp (hdp 0 3 (by decide) rfl (by kernel_rfl)) id) ((cell_of_block hc 4).trans rfl)) fun W' hb => ⟨rfl, (hX.later hb).set 1 (by decide) _⟩
    | 2 =>
      intro o L V ho hL hd a' W hX hfr hdp; obtain rfl := Option.some.inj ho
      have hf : L 10 = false := by
        cases e : L 10 with
        | false => rfl
        | true => have := (hX.n10 e).2.2.2; rw [hL] at this; cases this
      refine opx_callu rfl (Dp (hdp 1 4 (by decide) rfl (by kernel_rfl)) id) eg13 ((Clone_any m.pt s.th.n _ s.th rfl (by omega) (by omega) W ((by have := HS.out.t; exact this.later hX.low))).mono ?_)
      rintro e W' ⟨v', rfl, hr, hne, hb⟩
      have hc := (hb.block _ (lt_of_block hX.c)).trans hX.c
      refine ⟨v', rfl, trivial, hX.low.trans (hb.mono hX.low.size), (hb.block _ (lt_of_block hX.z)).trans hX.z, ?_, fun _ => ⟨prow_weak (by simpa using hr) (by have := hX.sz; omega), by simpa using hne⟩, by simpa using fun e => ⟨row_later (hX.r5 e).1 hb, (hX.r5 e).2⟩, by simpa using fun e => ⟨row_later (hX.r8 e).1 hb, (hX.r8 e).2⟩, by simp; exact fun e => (own_fresh (hX.r5 e).1 hr hne).symm, by simp; exact fun e => (own_fresh (hX.r8 e).1 hr hne).symm, by simpa using hX.d58, ?_, ?_, ?_⟩
      · rw [hc]; simp [hf]
      · intro e; have := hX.n10 (by simpa using e); simp [this]
      · intro e; have := hX.n12 (by simpa using e); simp [this]
      · intro e; have := hX.n14 (by simpa using e); simp [this]
    | 3 => intro o L V ho hL hd a' W hX hfr hdp; obtain rfl := Option.some.inj ho; exact opx_of (op_fa24k rfl (hfr 1 (by decide)) (by decide)) fun W' hb => ⟨rfl, (hX.later hb).set 3 (by decide) _⟩
    | 4 =>
      intro o L V ho hL hd a' W hX hfr hdp; obtain rfl := Option.some.inj ho
      obtain ⟨u0, u1, u2⟩ := hX.off (i := 4) (by decide) hL
      have hc := hX.c
      rw [u0, u1, u2] at hc
      simp only [if_neg (show ¬ false = true by simp)] at hc
      exact opx_of (op_load22 rfl (Dp (hdp 3 6 (by decide) rfl (by kernel_rfl)) id) ((cell_of_block hc 5).trans rfl)) fun W' hb => ⟨rfl, (hX.later hb).set 4 (by decide) _⟩
    | 5 =>
      intro o L V ho hL hd a' W hX hfr hdp; obtain rfl := Option.some.inj ho
      have hf : L 12 = false := by
        cases e : L 12 with
        | false => rfl
        | true => have := (hX.n12 e).2.2.2; rw [hL] at this; cases this
      refine opx_callu rfl (Dp (hdp 4 7 (by decide) rfl (by kernel_rfl)) id) eg13 ((Clone_any m.pw s.wa.n _ s.wa rfl (by omega) (by omega) W ((by have := HS.out.w; exact this.later hX.low))).mono ?_)
      rintro e W' ⟨v', rfl, hr, hne, hb⟩
      have hc := (hb.block _ (lt_of_block hX.c)).trans hX.c
      refine ⟨v', rfl, trivial, hX.low.trans (hb.mono hX.low.size), (hb.block _ (lt_of_block hX.z)).trans hX.z, ?_, by simpa using fun e => ⟨row_later (hX.r2 e).1 hb, (hX.r2 e).2⟩, fun _ => ⟨prow_weak (by simpa using hr) (by have := hX.sz; omega), by simpa using hne⟩, by simpa using fun e => ⟨row_later (hX.r8 e).1 hb, (hX.r8 e).2⟩, by simp; exact fun e => own_fresh (hX.r2 e).1 hr hne, by simpa using hX.d28, by simp; exact fun e => (own_fresh (hX.r8 e).1 hr hne).symm, ?_, ?_, ?_⟩
      · rw [hc]; simp [hf]
      · intro e; have := hX.n10 (by simpa using e); simp [this]
      · intro e; have := hX.n12 (by simpa using e); simp [this]
      · intro e; have := hX.n14 (by simpa using e); simp [this]
    | 6 => intro o L V ho hL hd a' W hX hfr hdp; obtain rfl := Option.some.inj ho; exact opx_of (op_fa24k rfl (hfr 1 (by decide)) (by decide)) fun W' hb => ⟨rfl, (hX.later hb).set 6 (by decide) _⟩
    | 7 =>
      intro o L V ho hL hd a' W hX hfr hdp; obtain rfl := Option.some.inj ho
      obtain ⟨u0, u1, u2⟩ := hX.off (i := 7) (by decide) hL
      have hc := hX.c
      rw [u0, u1, u2] at hc
      simp only [if_neg (show ¬ false = true by simp)] at hc
      exact opx_of (op_load22 rfl (Dp (hdp 6 9 (by decide) rfl (by kernel_rfl)) id) ((cell_of_block hc 6).trans rfl)) fun W' hb => ⟨rfl, (hX.later hb).set 7 (by decide) _⟩
    | 8 =>
      intro o L V ho hL hd a' W hX hfr hdp; obtain rfl := Option.some.inj ho
      have hf : L 14 = false := by
        cases e : L 14 with
        | false => rfl
        | true => have := (hX.n14 e).2.2.2; rw [hL] at this; cases this
      refine opx_callu rfl (Dp (hdp 7 10 (by decide) rfl (by kernel_rfl)) id) eg13 ((Clone_any m.pi s.ic.n _ s.ic rfl (by omega) (by omega) W ((by have := HS.out.i; exact this.later hX.low))).mono ?_)
      rintro e W' ⟨v', rfl, hr, hne, hb⟩
      have hc := (hb.block _ (lt_of_block hX.c)).trans hX.c
      refine ⟨v', rfl, trivial, hX.low.trans (hb.mono hX.low.size), (hb.block _ (lt_of_block hX.z)).trans hX.z, ?_, by simpa using fun e => ⟨row_later (hX.r2 e).1 hb, (hX.r2 e).2⟩, by simpa using fun e => ⟨row_later (hX.r5 e).1 hb, (hX.r5 e).2⟩, fun _ => ⟨prow_weak (by simpa using hr) (by have := hX.sz; omega), by simpa using hne⟩, by simpa using hX.d25, by simp; exact fun e => own_fresh (hX.r2 e).1 hr hne, by simp; exact fun e => own_fresh (hX.r5 e).1 hr hne, ?_, ?_, ?_⟩
      · rw [hc]; simp [hf]
      · intro e; have := hX.n10 (by simpa using e); simp [this]
      · intro e; have := hX.n12 (by simpa using e); simp [this]
      · intro e; have := hX.n14 (by simpa using e); simp [this]
    | 9 => intro o L V ho hL hd a' W hX hfr hdp; obtain rfl := Option.some.inj ho; exact opx_of (op_fa24k rfl (hfr 1 (by decide)) (by decide)) fun W' hb => ⟨rfl, (hX.later hb).set 9 (by decide) _⟩
    | 10 =>
      intro o L V ho hL hd a' W hX hfr hdp; obtain rfl := Option.some.inj ho
      have hv := (hdp 2 5 (by decide) rfl (by kernel_rfl)).1
      obtain ⟨hr, hne⟩ := hX.r2 (hd 2 (by kernel_rfl))
      obtain ⟨q, c, e0⟩ := prow_shape hr
      rw [e0] at hv
      have k1 := hd 1 (by kernel_rfl)
      have k4 := hd 4 (by kernel_rfl)
      have k7 := hd 7 (by kernel_rfl)
      have k2 := hd 2 (by kernel_rfl)
      have hs2 := hX.sz
      have own : ∀ {v : Value} {l : List (Int × Int)}, PRow W (w.heap.size + 2) v l → v.ownBlock ≠ some w.heap.size := fun h e => by have := pown_base h _ e; omega
      refine opx_store22 rfl rfl (Dp (hdp 9 12 (by decide) rfl (by kernel_rfl)) id) hv hX.c (by simp) fun W' hb hc => ⟨trivial, hX.low.trans (hc.below (Nat.le_refl _)), (hc.2.1 _ (by omega)).trans hX.z, ?_, ?_, ?_, ?_, ?_, ?_, ?_, ?_, ?_, ?_⟩
      · rw [hb, ← e0]; simp
      · simpa using fun e => ⟨prow_sto (hX.r2 e).1 hc (own (hX.r2 e).1), (hX.r2 e).2⟩
      · simpa using fun e => ⟨prow_sto (hX.r5 e).1 hc (own (hX.r5 e).1), (hX.r5 e).2⟩
      · simpa using fun e => ⟨prow_sto (hX.r8 e).1 hc (own (hX.r8 e).1), (hX.r8 e).2⟩
      · simpa using hX.d25
      · simpa using hX.d28
      · simpa using hX.d58
      · simp [k1, k4, k7, k2]
      · simpa using hX.n12
      · simpa using hX.n14
    | 11 => intro o L V ho hL hd a' W hX hfr hdp; obtain rfl := Option.some.inj ho; exact opx_of (op_fa24k rfl (hfr 1 (by decide)) (by decide)) fun W' hb => ⟨rfl, (hX.later hb).set 11 (by decide) _⟩
    | 12 =>
      intro o L V ho hL hd a' W hX hfr hdp; obtain rfl := Option.some.inj ho
      have hv := (hdp 5 8 (by decide) rfl (by kernel_rfl)).1
      obtain ⟨hr, hne⟩ := hX.r5 (hd 5 (by kernel_rfl))
      obtain ⟨q, c, e0⟩ := prow_shape hr
      rw [e0] at hv
      have k1 := hd 1 (by kernel_rfl)
      have k4 := hd 4 (by kernel_rfl)
      have k7 := hd 7 (by kernel_rfl)
      have k2 := hd 5 (by kernel_rfl)
      have hs2 := hX.sz
      have own : ∀ {v : Value} {l : List (Int × Int)}, PRow W (w.heap.size + 2) v l → v.ownBlock ≠ some w.heap.size := fun h e => by have := pown_base h _ e; omega
      refine opx_store22 rfl rfl (Dp (hdp 11 13 (by decide) rfl (by kernel_rfl)) id) hv hX.c (by simp) fun W' hb hc => ⟨trivial, hX.low.trans (hc.below (Nat.le_refl _)), (hc.2.1 _ (by omega)).trans hX.z, ?_, ?_, ?_, ?_, ?_, ?_, ?_, ?_, ?_, ?_⟩
      · rw [hb, ← e0]; simp
      · simpa using fun e => ⟨prow_sto (hX.r2 e).1 hc (own (hX.r2 e).1), (hX.r2 e).2⟩
      · simpa using fun e => ⟨prow_sto (hX.r5 e).1 hc (own (hX.r5 e).1), (hX.r5 e).2⟩
      · simpa using fun e => ⟨prow_sto (hX.r8 e).1 hc (own (hX.r8 e).1), (hX.r8 e).2⟩
      · simpa using hX.d25
      · simpa using hX.d28
      · simpa using hX.d58
      · simpa using hX.n10
      · simp [k1, k4, k7, k2]
      · simpa using hX.n14
    | 13 => intro o L V ho hL hd a' W hX hfr hdp; obtain rfl := Option.some.inj ho; exact opx_of (op_fa24k rfl (hfr 1 (by decide)) (by decide)) fun W' hb => ⟨rfl, (hX.later hb).set 13 (by decide) _⟩
    | 14 =>
      intro o L V ho hL hd a' W hX hfr hdp; obtain rfl := Option.some.inj ho
      have hv := (hdp 8 11 (by decide) rfl (by kernel_rfl)).1
      obtain ⟨hr, hne⟩ := hX.r8 (hd 8 (by kernel_rfl))
      obtain ⟨q, c, e0⟩ := prow_shape hr
      rw [e0] at hv
      have k1 := hd 1 (by kernel_rfl)
      have k4 := hd 4 (by kernel_rfl)
      have k7 := hd 7 (by kernel_rfl)
      have k2 := hd 8 (by kernel_rfl)
      have hs2 := hX.sz
      have own : ∀ {v : Value} {l : List (Int × Int)}, PRow W (w.heap.size + 2) v l → v.ownBlock ≠ some w.heap.size := fun h e => by have := pown_base h _ e; omega
      refine opx_store22 rfl rfl (Dp (hdp 13 14 (by decide) rfl (by kernel_rfl)) id) hv hX.c (by simp) fun W' hb hc => ⟨trivial, hX.low.trans (hc.below (Nat.le_refl _)), (hc.2.1 _ (by omega)).trans hX.z, ?_, ?_, ?_, ?_, ?_, ?_, ?_, ?_, ?_, ?_⟩
      · rw [hb, ← e0]; simp
      · simpa using fun e => ⟨prow_sto (hX.r2 e).1 hc (own (hX.r2 e).1), (hX.r2 e).2⟩
      · simpa using fun e => ⟨prow_sto (hX.r5 e).1 hc (own (hX.r5 e).1), (hX.r5 e).2⟩
      · simpa using fun e => ⟨prow_sto (hX.r8 e).1 hc (own (hX.r8 e).1), (hX.r8 e).2⟩
      · simpa using hX.d25
      · simpa using hX.d28
      · simpa using hX.d58
      · simpa using hX.n10
      · simpa using hX.n12
      · simp [k1, k4, k7, k2]
    | j + 15 => intro o L V ho; simp at ho
  case fin =>
    intro W1 L V hL hF hI
    obtain ⟨r2, e2⟩ := hI.r2 (hL 2 (by decide))
    obtain ⟨r5, e5⟩ := hI.r5 (hL 5 (by decide))
    obtain ⟨r8, e8⟩ := hI.r8 (hL 8 (by decide))
    have d25 := hI.d25 (hL 2 (by decide)) (hL 5 (by decide))
    have d28 := hI.d28 (hL 2 (by decide)) (hL 8 (by decide))
    have d58 := hI.d58 (hL 5 (by decide)) (hL 8 (by decide))
    have hc := hI.c
    rw [hL 10 (by decide), hL 12 (by decide), hL 14 (by decide)] at hc
    simp only [if_true] at hc
    have hz := hI.z
    have HL := Lib.hid hI.low
    obtain ⟨q4, c4, f4⟩ := prow_shape r2
    obtain ⟨q5, c5, f5⟩ := prow_shape r5
    obtain ⟨q6, c6, f6⟩ := prow_shape r8
    rw [ptsL_len] at f4 f5 f6
    rw [f4, f5, f6] at hc
    rw [f4] at r2 d25 d28
    rw [f5] at r5 d25 d58
    rw [f6] at r8 d28 d58
    have HR2 := Lib.hid r2
    have HR5 := Lib.hid r5
    have HR8 := Lib.hid r8
    have HD1 := Lib.hid d25
    have HD2 := Lib.hid d28
    have HD3 := Lib.hid d58
    have HC := Lib.hid hc
    have HZ := Lib.hid hz
    clear hI hF hL hc hz r2 r5 r8 d25 d28 d58 e2 e5 e8 H1 H2 HB
    simp only [fill, Act.put, List.setIfInBounds_toArray, List.set_cons_zero, List.set_cons_succ, List.set_nil, Nat.reduceAdd]
    generalize V 0 = v0, V 1 = v1, V 2 = v2, V 3 = v3, V 4 = v4, V 5 = v5, V 6 = v6, V 7 = v7, V 8 = v8, V 9 = v9, V 10 = v10, V 11 = v11, V 12 = v12, V 13 = v13, V 14 = v14 at *
    clear V f4 f5 f6
    obtain ⟨k0, k1, k2, k3, k4, k5, k6, k7, k8, k9, k10⟩ := cells11 HC.out
    go_wp2_with (refine list_store24 rfl rfl rfl rfl rfl HZ.out ?_; intro V9 hz hc; have HLE := Lib.hid (HL.out.trans (hc.below (by omega))); have HQ2 := Lib.hid (prow_sto HR2.out hc (fun h => by have := pown_base HR2.out _ h; omega)); have HQ5 := Lib.hid (prow_sto HR5.out hc (fun h => by have := pown_base HR5.out _ h; omega)); have HQ8 := Lib.hid (prow_sto HR8.out hc (fun h => by have := pown_base HR8.out _ h; omega)); obtain ⟨m0, m1, m2, m3, m4, m5, m6, m7, m8, m9, m10⟩ := cells11 hz; clear hz hc HC HZ HL HR2 HR5 HR8)
    refine bodyPost_ret (v := .agg (shipA s ⟨q4, q5, q6, c4, c5, c6⟩)) (by simp [results, Tryz.results11, go_sem, m0, m1, m2, m3, m4, m5, m6, m7, m8, m9, m10]) rfl ⟨⟨q4, q5, q6, c4, c5, c6⟩, rfl, HQ2.out, HQ5.out, HQ8.out, HD1.out, HD2.out, HD3.out, HLE.out⟩
end Go.Proofs.YtcoiklolgilhaaaGreatDoor
namespace Go.Proofs.YtcoiklolgilhaaaGreatDoor
open Go.RowKit
set_option maxRecDepth 100000
/-- t is nowhere worse than s -/
structure Btr (s t : Sh) : Prop where
  top : lastXP s.th ≤ lastXP t.th
  thr : ∀ v, 0 ≤ v → v ≤ lastXP s.th → FLe (valP s.th v).1 (valP s.th v).2 (valP t.th v).1 (valP t.th v).2
  wa : ∀ v, 0 ≤ v → FLe (valP t.wa v).1 (valP t.wa v).2 (valP s.wa v).1 (valP s.wa v).2
  ic : ∀ v, 0 ≤ v → FLe (valP t.ic v).1 (valP t.ic v).2 (valP s.ic v).1 (valP s.ic v).2
  slow : t.slow ≤ s.slow
  brash : t.brash ≤ s.brash
  ridge : t.ridge ≤ s.ridge
  press : t.press ≤ s.press
theorem btr_res {s t : Sh} (gs : Good s) (gt : Good t) (b : Btr s t) {i : Ic} (gi : GoodI i) {v : Int} (hv : 0 ≤ v) (ch : Bool) : resP t i v ch ≤ resP s i v ch := by
  have a1 := (valP_at gt.wa hv).bd gt.wa
  have a2 := (valP_at gs.wa hv).bd gs.wa
  have a3 := (valP_at gt.ic gi.thick.1).bd gt.ic
  have a4 := (valP_at gs.ic gi.thick.1).bd gs.ic
  have e1 : brP t ch ≤ brP s ch := by
    have := b.brash
    cases ch <;> simp [brP]; omega
  have e0 : 0 ≤ brP t ch := by have := gt.brash; cases ch <;> simp [brP]; omega
  have e3 : 0 ≤ riP i ch := by have := gi.ridge; cases ch <;> simp [riP]; omega
  have s1 := Int.mul_nonneg gt.slow.1 hv
  have s2 := Int.mul_le_mul_of_nonneg_right b.slow hv
  unfold resP
  refine cdiv_mono (allF_pos a1.2.2.1 a3.2.2.1) (allF_pos a2.2.2.1 a4.2.2.1) (allF_le a1.2.2.1 a2.2.2.1 a3.1 a3.2.2.1 a4.2.2.1 (Int.mul_nonneg e0 (by omega)) (Int.mul_nonneg gt.ridge.1 e3) gi.conc.1 (b.wa v hv) (b.ic _ gi.thick.1) ?_ (Int.mul_le_mul_of_nonneg_right b.ridge e3) (Int.le_refl _) (Int.mul_le_mul_of_nonneg_right b.press gi.press.1))
  exact Int.mul_le_mul e1 (by omega) (by omega) (Int.le_trans e0 e1)
theorem btr_speed {s t : Sh} (gs : Good s) (gt : Good t) (b : Btr s t) {i : Ic} (gi : GoodI i) (ch : Bool) : speedP s i ch ≤ speedP t i ch := by
  have h1 := b.top
  have h2 := gs.top
  refine great_mono (makes_anti gt gi ch _) (makes_anti gs gi ch _) (by omega) fun k hk hm => ?_
  simp only [makesP, Bool.and_eq_true, decide_eq_true_eq] at hm ⊢
  have hr := btr_res gs gt b gi (v := (k : Int)) (by omega) ch
  have v1 := (valP_at gs.th (a := (k : Int)) (by omega)).bd gs.th
  have v2 := (valP_at gt.th (a := (k : Int)) (by omega)).bd gt.th
  have ht : thrP s (k : Int) ≤ thrP t (k : Int) := ediv_le_fr v1.2.2.1 v2.2.2.1 (b.thr k (by omega) hm.1)
  omega
theorem Slower_ex (a b : Sh) (ma mb : Mem3) (w : World) (ha : ShipIn w a ma) (hb : ShipIn w b mb) (ca : chkP a = 0) (cb : chkP b = 0) :
    Calls Tryz.prog 44 #[.agg (shipA a ma), .agg (shipA b mb)] w fun e w' => ∃ N E : Int, e = .returned (.tuple #[.int .i64 N, .int .i64 E]) ∧ ((E = 4 ∧ ∀ t : Nat, t ≤ 400 → speedP b (lvl (t : Int)) false ≤ speedP a (lvl (t : Int)) false) ∨ (E = 0 ∧ ∃ n : Nat, N = n ∧ n ≤ 400 ∧ speedP a (lvl (n : Int)) false < speedP b (lvl (n : Int)) false ∧ ∀ t : Nat, t < n → speedP b (lvl (t : Int)) false ≤ speedP a (lvl (t : Int)) false)) ∧ Below w.heap.size w w' := by
  refine (Slower_any a ma b mb w ha hb).mono ?_
  rintro e w' ⟨rfl, hB⟩
  have hz : orL [chkP a, chkP b] = 0 := by rw [ca, cb]; rfl
  unfold SlowerRes
  rw [if_pos hz]
  rcases fstN_spec (slowG a b) 401 0 with ⟨e, h⟩ | ⟨n, e, _, h2, h3, h4⟩
  · rw [if_pos (by rw [e]; decide)]
    refine ⟨_, _, rfl, .inl ⟨rfl, fun t ht => ?_⟩, hB⟩
    have := h t (Nat.zero_le _) (by omega)
    unfold slowG at this
    simp only [decide_eq_false_iff_not] at this
    omega
  · rw [if_neg (by rw [e]; omega)]
    refine ⟨_, _, rfl, .inr ⟨rfl, n, e, by omega, ?_, fun t ht => ?_⟩, hB⟩
    · unfold slowG at h3
      simp only [decide_eq_true_eq] at h3
      omega
    · have := h4 t (Nat.zero_le _) ht
      unfold slowG at this
      simp only [decide_eq_false_iff_not] at this
      omega
end Go.Proofs.YtcoiklolgilhaaaGreatDoor
namespace Go.Proofs.YtcoiklolgilhaaaGreatDoor
open Go.RowKit
set_option maxRecDepth 100000
theorem num_eq {y0 y1 x0 x1 a : Int} : y0 * (x1 - x0) + (y1 - y0) * (a - x0) = y0 * (x1 - a) + y1 * (a - x0) := by grind
/-- a curve with the same X and lesser Y has lesser values -/
theorem val_leP {c c' : Cv} (h : IsCv c) (h' : IsCv c') (hn : c'.n = c.n) (hx : ∀ i, i < c.n → c'.x i = c.x i) (hy : ∀ i, i < c.n → c'.y i ≤ c.y i) {a : Int} {p p' : Int × Int} (k : At c a p) (k' : At c' a p') : FLe p'.1 p'.2 p.1 p.2 := by
  have b' := k'.bd h'
  cases k with
  | mid i hi h1 h2 =>
    have m := At.mid (c := c') (a := a) i (by omega) (by rw [hx i (by omega)]; exact h1) (by rw [hx (i + 1) hi]; exact h2)
    have e := At.uniq h' k' m
    rw [hx i (by omega), hx (i + 1) hi] at e
    have s1 := h.step i hi
    simp only at e ⊢
    refine FLe.trans (c := c'.y i * (c.x (i + 1) - c.x i) + (c'.y (i + 1) - c'.y i) * (a - c.x i)) (d := c.x (i + 1) - c.x i) b'.2.2.1 (by omega) (by omega) e.le ?_
    unfold FLe
    refine Int.mul_le_mul_of_nonneg_right ?_ (by omega)
    rw [num_eq, num_eq]
    have p1 := Int.mul_le_mul_of_nonneg_right (hy i (by omega)) (show 0 ≤ c.x (i + 1) - a by omega)
    have p2 := Int.mul_le_mul_of_nonneg_right (hy (i + 1) hi) (show 0 ≤ a - c.x i by omega)
    omega
  | far hf =>
    have h2 := h.two
    have m := At.far (c := c') (a := a) (by rw [hn, hx (c.n - 1) (by omega)]; exact hf)
    have e := At.uniq h' k' m
    rw [hn] at e
    simp only at e ⊢
    refine FLe.trans (c := c'.y (c.n - 1)) (d := 1) b'.2.2.1 (by omega) (by omega) e.le ?_
    unfold FLe
    have := hy (c.n - 1) (by omega)
    omega
theorem val_le {c c' : Cv} (h : IsCv c) (h' : IsCv c') (hn : c'.n = c.n) (hx : ∀ i, i < c.n → c'.x i = c.x i) (hy : ∀ i, i < c.n → c'.y i ≤ c.y i) {a : Int} (ha : 0 ≤ a) : FLe (valP c' a).1 (valP c' a).2 (valP c a).1 (valP c a).2 :=
  val_leP h h' hn hx hy (valP_at h ha) (valP_at h' ha)
/-- one more point behind the last one -/
def moreC (c : Cv) (x y : Int) : Cv := ⟨c.n + 1, fun i => if i < c.n then c.x i else x, fun i => if i < c.n then c.y i else y⟩
theorem more_cv {c : Cv} (h : IsCv c) (h7 : c.n ≤ 7) {x y : Int} (hx : lastXP c < x) (hx' : x ≤ 400) (hy : 0 ≤ y) (hy' : y ≤ 20000) : IsCv (moreC c x y) := by
  have h2 := h.two
  refine ⟨by show 2 ≤ c.n + 1; omega, by show c.n + 1 ≤ 8; omega, ?_, ?_, ?_, ?_, ?_⟩
  · show (if 0 < c.n then c.x 0 else x) = 0
    rw [if_pos (by omega)]; exact h.zero
  · intro i hi
    show (if i < c.n then c.x i else x) ≤ 400
    split
    · rename_i hh; exact h.most i hh
    · exact hx'
  · intro i hi
    show 0 ≤ (if i < c.n then c.y i else y)
    split
    · rename_i hh; exact h.low i hh
    · exact hy
  · intro i hi
    show (if i < c.n then c.y i else y) ≤ 20000
    split
    · rename_i hh; exact h.high i hh
    · exact hy'
  · intro i hi
    have hi' : i + 1 < c.n + 1 := hi
    show (if i < c.n then c.x i else x) < (if i + 1 < c.n then c.x (i + 1) else x)
    rw [if_pos (show i < c.n by omega)]
    split
    · rename_i hh; exact h.step i hh
    · unfold lastXP at hx
      rw [show i = c.n - 1 by omega]
      exact hx
theorem more_valP {c : Cv} {x y : Int} (hm : IsCv (moreC c x y)) {a : Int} {p p' : Int × Int} (hl : a ≤ lastXP c) (k : At c a p) (k' : At (moreC c x y) a p') : FEq p'.1 p'.2 p.1 p.2 := by
  cases k with
  | mid i hi h1 h2 =>
    have m := At.mid (c := moreC c x y) (a := a) i (by show i + 1 < c.n + 1; omega) (by show (if i < c.n then c.x i else x) ≤ a; rw [if_pos (by omega)]; exact h1) (by show a ≤ (if i + 1 < c.n then c.x (i + 1) else x); rw [if_pos hi]; exact h2)
    have e := At.uniq hm k' m
    simp only [moreC, if_pos hi, if_pos (show i < c.n by omega)] at e
    exact e
  | far hf => unfold lastXP at hl; omega
theorem more_val {c : Cv} (h : IsCv c) {x y : Int} (hm : IsCv (moreC c x y)) {a : Int} (ha : 0 ≤ a) (hl : a ≤ lastXP c) : FEq (valP (moreC c x y) a).1 (valP (moreC c x y) a).2 (valP c a).1 (valP c a).2 :=
  more_valP hm hl (valP_at h ha) (valP_at hm ha)
/-- Y of all points, or of the first ones, changed -/
def modC (c : Cv) (f : Nat → Int → Int) (j : Nat) : Cv := ⟨c.n, c.x, fun i => if i < j then f i (c.y i) else c.y i⟩
theorem mod_cv {c : Cv} (h : IsCv c) {f : Nat → Int → Int} (hf : ∀ i, i < c.n → 0 ≤ f i (c.y i) ∧ f i (c.y i) ≤ 20000) : IsCv (modC c f c.n) := by
  refine ⟨h.two, h.eight, h.zero, h.most, fun i hi => ?_, fun i hi => ?_, h.step⟩
  · show 0 ≤ (if i < c.n then f i (c.y i) else c.y i)
    rw [if_pos (show i < c.n from hi)]; exact (hf i hi).1
  · show (if i < c.n then f i (c.y i) else c.y i) ≤ 20000
    rw [if_pos (show i < c.n from hi)]; exact (hf i hi).2
theorem mod_y {c : Cv} {f : Nat → Int → Int} {i : Nat} (hi : i < c.n) : (modC c f c.n).y i = f i (c.y i) := by
  show (if i < c.n then f i (c.y i) else c.y i) = _
  rw [if_pos hi]
def fTh (n : Nat) (i : Nat) (y : Int) : Int := y + 50 * ((n : Int) - (i : Int))
def fWa (_ : Nat) (y : Int) : Int := y * 3 / 4
def fIc (_ : Nat) (y : Int) : Int := y / 2
/-- the better ship -/
structure Made2 (s t : Sh) : Prop where
  th : (t.th = modC s.th (fTh s.th.n) s.th.n ∧ ¬ (s.th.n < 8 ∧ lastXP s.th < 240)) ∨ (s.th.n < 8 ∧ lastXP s.th < 240 ∧ ∃ r : Int, 0 ≤ r ∧ r < 10 ∧ t.th = moreC (modC s.th (fTh s.th.n) s.th.n) (lastXP s.th + 1 + r) ((modC s.th (fTh s.th.n) s.th.n).y (s.th.n - 1)))
  wa : t.wa = modC s.wa fWa s.wa.n
  ic : t.ic = modC s.ic fIc s.ic.n
  cls : t.cls = s.cls
  pow : t.pow = s.pow
  dra : t.dra = s.dra
  ton : t.ton = s.ton
  slow : 0 ≤ t.slow ∧ t.slow ≤ s.slow
  brash : 0 ≤ t.brash ∧ t.brash ≤ s.brash
  ridge : 0 ≤ t.ridge ∧ t.ridge ≤ s.ridge
  press : 0 ≤ t.press ∧ t.press ≤ s.press
theorem incB_of {c : Cv} (h : ∀ i, i + 1 < c.n → c.y i ≤ c.y (i + 1)) : incB c = true := allN_iff.2 fun i hi => decide_eq_true (h i (by omega))
theorem decB_of {c : Cv} (h : ∀ i, i + 1 < c.n → c.y (i + 1) ≤ c.y i) : decB c = true := allN_iff.2 fun i hi => decide_eq_true (h i (by omega))
theorem made2 {s t : Sh} (hc : chkP s = 0) (h53 : s.th.y 0 ≤ 5300) (m : Made2 s t) : chkP t = 0 ∧ Btr s t := by
  have g := good_of hc
  have hd : 10 ≤ s.dra ∧ s.dra ≤ 2000 ∧ 10 ≤ s.ton ∧ s.ton ≤ 500000 := by
    unfold chkP at hc
    rw [if_pos g.cls] at hc
    cases ho : okHull s with
    | false => rw [ho] at hc; simp at hc
    | true =>
      simp only [okHull, Bool.and_eq_true, decide_eq_true_eq] at ho
      omega
  have t2 := g.th.two
  have t8 := g.th.eight
  have decall : ∀ i, i < s.th.n → s.th.y i ≤ 5300 := by
    intro i
    induction i with
    | zero => intro _; exact h53
    | succ i ih => intro hi; have := ih (by omega); have := g.dec i hi; omega
  have c1 : IsCv (modC s.th (fTh s.th.n) s.th.n) := mod_cv g.th fun i hi => by
    have := decall i hi
    have := g.th.low i hi
    unfold fTh
    omega
  have d1 : ∀ i, i + 1 < (modC s.th (fTh s.th.n) s.th.n).n → (modC s.th (fTh s.th.n) s.th.n).y (i + 1) ≤ (modC s.th (fTh s.th.n) s.th.n).y i := by
    intro i hi
    have hi' : i + 1 < s.th.n := hi
    rw [mod_y hi', mod_y (show i < s.th.n by omega)]
    have := g.dec i hi'
    unfold fTh
    omega
  have c2 : IsCv (modC s.wa fWa s.wa.n) := mod_cv g.wa fun i hi => by
    have := g.wa.low i hi
    have := g.wa.high i hi
    unfold fWa
    omega
  have c3 : IsCv (modC s.ic fIc s.ic.n) := mod_cv g.ic fun i hi => by
    have := g.ic.low i hi
    have := g.ic.high i hi
    unfold fIc
    omega
  have i2 : ∀ i, i + 1 < (modC s.wa fWa s.wa.n).n → (modC s.wa fWa s.wa.n).y i ≤ (modC s.wa fWa s.wa.n).y (i + 1) := by
    intro i hi
    have hi' : i + 1 < s.wa.n := hi
    rw [mod_y hi', mod_y (show i < s.wa.n by omega)]
    have := g.incw i hi'
    unfold fWa
    omega
  have i3 : ∀ i, i + 1 < (modC s.ic fIc s.ic.n).n → (modC s.ic fIc s.ic.n).y i ≤ (modC s.ic fIc s.ic.n).y (i + 1) := by
    intro i hi
    have hi' : i + 1 < s.ic.n := hi
    rw [mod_y hi', mod_y (show i < s.ic.n by omega)]
    have := g.inci i hi'
    unfold fIc
    omega
  have z3 : (modC s.ic fIc s.ic.n).y 0 = 0 := by
    rw [mod_y (by have := g.ic.two; omega), g.y0]
    rfl
  have v1 : ∀ v, 0 ≤ v → FLe (valP s.th v).1 (valP s.th v).2 (valP (modC s.th (fTh s.th.n) s.th.n) v).1 (valP (modC s.th (fTh s.th.n) s.th.n) v).2 := fun v hv =>
    val_le c1 g.th rfl (fun _ _ => rfl) (fun i hi => by
      have hi' : i < s.th.n := hi
      rw [mod_y hi']
      unfold fTh
      omega) hv
  have v2 : ∀ v, 0 ≤ v → FLe (valP (modC s.wa fWa s.wa.n) v).1 (valP (modC s.wa fWa s.wa.n) v).2 (valP s.wa v).1 (valP s.wa v).2 := fun v hv =>
    val_le g.wa c2 rfl (fun _ _ => rfl) (fun i hi => by
      rw [mod_y hi]
      have := g.wa.low i hi
      unfold fWa
      omega) hv
  have v3 : ∀ v, 0 ≤ v → FLe (valP (modC s.ic fIc s.ic.n) v).1 (valP (modC s.ic fIc s.ic.n) v).2 (valP s.ic v).1 (valP s.ic v).2 := fun v hv =>
    val_le g.ic c3 rfl (fun _ _ => rfl) (fun i hi => by
      rw [mod_y hi]
      have := g.ic.low i hi
      unfold fIc
      omega) hv
  have th : IsCv t.th ∧ (∀ i, i + 1 < t.th.n → t.th.y (i + 1) ≤ t.th.y i) ∧ lastXP s.th ≤ lastXP t.th ∧ lastXP t.th ≤ 250 ∧ ∀ v, 0 ≤ v → v ≤ lastXP s.th → FLe (valP s.th v).1 (valP s.th v).2 (valP t.th v).1 (valP t.th v).2 := by
    rcases m.th with ⟨e, _⟩ | ⟨e7, e240, r, r0, r1, e⟩
    · rw [e]
      exact ⟨c1, d1, Int.le_refl _, g.top.2, fun v hv _ => v1 v hv⟩
    · have hy0 := c1.low (s.th.n - 1) (by show s.th.n - 1 < s.th.n; omega)
      have hy1 := c1.high (s.th.n - 1) (by show s.th.n - 1 < s.th.n; omega)
      have hlx : lastXP (modC s.th (fTh s.th.n) s.th.n) = lastXP s.th := rfl
      have cm := more_cv c1 (show s.th.n ≤ 7 by omega) (x := lastXP s.th + 1 + r) (y := (modC s.th (fTh s.th.n) s.th.n).y (s.th.n - 1)) (by rw [hlx]; omega) (by omega) hy0 hy1
      have lx : lastXP (moreC (modC s.th (fTh s.th.n) s.th.n) (lastXP s.th + 1 + r) ((modC s.th (fTh s.th.n) s.th.n).y (s.th.n - 1))) = lastXP s.th + 1 + r := by
        show (if s.th.n + 1 - 1 < s.th.n then s.th.x (s.th.n + 1 - 1) else _) = _
        rw [if_neg (by omega)]
      rw [e, lx]
      refine ⟨cm, fun i hi => ?_, by omega, by omega, fun v hv hv' => ?_⟩
      · have hi' : i + 1 < s.th.n + 1 := hi
        show (if i + 1 < s.th.n then (modC s.th (fTh s.th.n) s.th.n).y (i + 1) else _) ≤ (if i < s.th.n then (modC s.th (fTh s.th.n) s.th.n).y i else _)
        rw [if_pos (show i < s.th.n by omega)]
        split
        · rename_i hh; exact d1 i hh
        · rw [show i = s.th.n - 1 by omega]; exact Int.le_refl _
      · have q := more_val c1 cm hv (by rw [hlx]; exact hv')
        have b1 := (valP_at c1 hv).bd c1
        have b2 := (valP_at g.th hv).bd g.th
        have b3 := (valP_at cm hv).bd cm
        exact FLe.trans b2.2.2.1 b1.2.2.1 b3.2.2.1 (v1 v hv) q.ge
  obtain ⟨th1, th2, th3, th4, th5⟩ := th
  refine ⟨?_, th3, th5, by rw [m.wa]; exact v2, by rw [m.ic]; exact v3, m.slow.2, m.brash.2, m.ridge.2, m.press.2⟩
  have top := g.top
  have e1 : okCv t.th = true := okCv_iff.2 th1
  have e2 : decB t.th = true := decB_of th2
  have e3 : okCv t.wa = true := by rw [m.wa]; exact okCv_iff.2 c2
  have e4 : incB t.wa = true := by rw [m.wa]; exact incB_of i2
  have e5 : okCv t.ic = true := by rw [m.ic]; exact okCv_iff.2 c3
  have e6 : incB t.ic = true := by rw [m.ic]; exact incB_of i3
  have e7 : lastXP t.wa ≤ 250 := by rw [m.wa]; exact g.wtop
  have e8 : t.ic.y 0 = 0 := by rw [m.ic]; exact z3
  have e9 : lastXP t.ic = 400 := by rw [m.ic]; exact g.itop
  have p1 := g.pow
  have p2 := g.slow
  have p3 := g.brash
  have p4 := g.ridge
  have p5 := g.press
  have m1 := m.slow
  have m2 := m.brash
  have m3 := m.ridge
  have m4 := m.press
  unfold chkP
  rw [m.cls, if_pos g.cls, if_pos]
  simp only [okHull, Bool.and_eq_true, decide_eq_true_eq]
  rw [m.pow, m.dra, m.ton]
  exact ⟨⟨⟨⟨⟨⟨⟨⟨⟨⟨⟨⟨p1, by omega⟩, by omega⟩, e1, e2⟩, by omega⟩, e3, e4⟩, e7⟩, e5, e6⟩, e8, e9⟩, by omega⟩, by omega⟩, by omega⟩, by omega⟩
end Go.Proofs.YtcoiklolgilhaaaGreatDoor
