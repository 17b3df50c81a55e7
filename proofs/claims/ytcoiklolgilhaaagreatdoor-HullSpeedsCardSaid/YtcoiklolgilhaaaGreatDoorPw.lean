/- The contract of hull.Leg: at most a million parts. The tables of limits and of strengths hold their numbers. -/
import Derived.Test.YtcoiklolgilhaaaGreatDoorPv
import Derived.Deep.AppendLies
namespace Go.Proofs.YtcoiklolgilhaaaGreatDoor
open Go.RowKit
set_option maxRecDepth 100000
theorem und87 : Tryz.prog.underlying 69 = some (.slice 3) := by kernel_rfl
theorem info3 : (Tryz.prog.info? 3).map (fun i => (i.zero, i.size, i.bytes)) = some (some (.int .i64 0), 1, 8) := by kernel_rfl
/-- what Leg answers: the error of the arguments; of the first part that has no safe speed; or the speeds and the times -/
def LegPost (s : Sh) (P : Nat → Prt) (n : Nat) (base : Nat) (e : Ending) (W : World) : Prop :=
  (orL [chkP s, partsE P n] ≠ 0 ∧ e = .returned (.tuple #[.slice none 0 0, .agg #[.int .i64 0, .int .i64 0], .int .i64 (orL [chkP s, partsE P n])])) ∨
  (orL [chkP s, partsE P n] = 0 ∧ ∃ k, k < n ∧ LegTo s P k ∧ pE s (P k) ≠ 0 ∧ e = .returned (.tuple #[.slice none 0 0, .agg #[.int .i64 (k : Int), .int .i64 0], .int .i64 (pE s (P k))])) ∨
  (orL [chkP s, partsE P n] = 0 ∧ LegTo s P n ∧ ∃ v, W.ownsRow base 3 1 v n (spdL s P n) ∧ e = .returned (.tuple #[v, .agg #[.int .i64 (legLo s P n), .int .i64 (legHi s P n)], .int .i64 0]))
theorem own_ne {W : World} {base : Nat} {e : TypeId} {v : Value} {k : Nat} {xs : List Value} (h : W.ownsRow base e 1 v k xs) {b : Nat} (hb : b < base ∨ W.heap.size ≤ b) : some b ≠ v.ownBlock := by
  rcases h.2 with ⟨rfl, _⟩ | ⟨g, cap, cur, rfl, hbg, hg, _⟩
  · simp [Value.ownBlock]
  · intro e
    obtain rfl : b = g := by simpa [Value.ownBlock] using e
    have := (Array.getElem?_eq_some_iff.1 hg).1
    omega
theorem own_base {W : World} {base : Nat} {e : TypeId} {v : Value} {k : Nat} {xs : List Value} (h : W.ownsRow base e 1 v k xs) : ∀ j, v.ownBlock = some j → base ≤ j := fun j e => by
  rcases h.2 with ⟨rfl, _⟩ | ⟨g, cap, cur, rfl, hbg, hg, _⟩
  · simp [Value.ownBlock] at e
  · obtain rfl : g = j := by simpa [Value.ownBlock] using e
    exact hbg
theorem op_assign {Q : Exit → Act → World → Prop} {o : Oper} {a' : Act} {W : World} {s : Nat} {v : Value} (hop : o.op = Op.assign (.tmp s)) (he : a'.eval (.tmp s) = v) : o.wp Tryz.prog a' W (fun a'' W' => a'' = a'.put o.dst v ∧ Below W.heap.size W W') Q := by
  have hr := Below.refl W.heap.size W
  have he' : a'.tmps[s]?.getD undef = v := by simpa [Act.eval] using he
  unfold Oper.wp execOp
  rw [hop]
  simp [go_sem, he', hr]
theorem own_weak {W : World} {base base' n : Nat} {e : TypeId} {v : Value} {xs : List Value} (h : W.ownsRow base e 1 v n xs) (hb : base' ≤ base) : W.ownsRow base' e 1 v n xs := by
  refine ⟨h.1, ?_⟩
  rcases h.2 with hn | ⟨g, cap, cur, h1, h2, h3⟩
  · exact .inl hn
  · exact .inr ⟨g, cap, cur, h1, Nat.le_trans hb h2, h3⟩
theorem grown_below {W W' : World} (hb : Below W.heap.size W W') : W.grownBy W' none := ⟨hb.os, hb.tape, hb.output, hb.size, fun b hlt _ => hb.block b hlt⟩
theorem row_later {W W' : World} {base size n : Nat} {e : TypeId} {v : Value} {xs : List Value} (h : W.ownsRow base e size v n xs) (hb : Below W.heap.size W W') : W'.ownsRow base e size v n xs := h.kept (grown_below hb) (by cases h : v.ownBlock <;> simp)
theorem row_chg {W W' : World} {base n b : Nat} {e : TypeId} {v : Value} {xs : List Value} (h : W.ownsRow base e 1 v n xs) (hc : Chg b W W') (hb : b < base) : W'.ownsRow base e 1 v n xs := by
  refine h.kept (row := some b) ⟨hc.2.2.1, hc.2.2.2.1, hc.2.2.2.2, Nat.le_of_eq hc.1.symm, fun k _ hk => hc.2.1 k (fun e => hk (by rw [e]))⟩ ?_
  right
  intro e
  have := own_base h b e
  omega
set_option maxHeartbeats 4000000 in
theorem Leg_any (s : Sh) (m : Mem3) (p : Option Addr) (n cap : Nat) (P : Nat → Prt) (hm : n ≤ 1000000) (w : World) (h : ShipIn w s m) (hp : PartsIn w p n P) (hl : Lim w) (hst : Str w) :
    Calls Tryz.prog 34 #[.agg (shipA s m), .slice p n cap] w fun e w' => LegPost s P n w.heap.size e w' ∧ Below w.heap.size w w' := by
  have HS := Lib.hid h
  have HP := Lib.hid hp
  have HLM := Lib.hid hl
  have HST := Lib.hid hst
  have hpos := hl.pos
  obtain ⟨t0, t1, hz, hbl⟩ := two_allocs w (.cells (shipA s m) 24) (.cells #[.int .i64 0, .int .i64 0] 28)
  have HB0 := Lib.hid hbl
  have HK0 := Lib.hid t0
  have HK1 := Lib.hid t1
  have HC1 := Lib.hid (Check_any s m _ (h.later hbl))
  have HC2 := Lib.hid (fun (W : World) (hW : Below w.heap.size w W) => checkParts_any p n cap P hm W (hp.later hW) (hl.below hpos hW))
  obtain ⟨c0, c1, c2, c3, c4, c5, c6, c7, c8, c9, c10⟩ := cells11 t0
  obtain ⟨i0, hi, hz0, hz1', hz2'⟩ := info_parts info3
  clear t0 t1 hbl h hp hl hst
  go_enter Tryz.func34, Tryz.ntmps34
  go_wp2_with fail
  refine HC1.out.mono ?_
  rintro e W1 ⟨rfl, hb1⟩
  have HB1 := Lib.hid (HB0.out.trans (hb1.mono HB0.out.size))
  have K0 := Lib.hid ((hb1.block w.heap.size (by simp; omega)).trans HK0.out)
  have K1 := Lib.hid ((hb1.block (w.heap.size + 1) (by simp)).trans HK1.out)
  clear hb1 c0 c1 c2 c3 c4 c5 c6 c7 c8 c9 c10
  go_wp2_with fail
  refine (HC2.out _ HB1.out).mono ?_
  rintro e W2 ⟨rfl, hb2⟩
  have HB2 := Lib.hid (HB1.out.trans (hb2.mono HB1.out.size))
  have L0 := Lib.hid ((hb2.block w.heap.size (lt_of_block K0.out)).trans K0.out)
  have L1 := Lib.hid ((hb2.block (w.heap.size + 1) (lt_of_block K1.out)).trans K1.out)
  clear hb2
  go_wp2_with fail
  refine (or_any W2.heap.size [chkP s, partsE P n] _ (fun i hi => ?_) (by simp)).mono ?_
  · have hnew := block_new W2 (.cells #[.int .i64 (chkP s), .int .i64 (partsE P n)] 40)
    match i, hi with
    | 0, _ => exact (cell_of_block hnew 0).trans rfl
    | 1, _ => exact (cell_of_block hnew 1).trans rfl
  rintro e W3 ⟨rfl, rfl⟩
  have hba := (Below.refl W2.heap.size W2).alloc (Nat.le_refl _) (.cells #[.int .i64 (chkP s), .int .i64 (partsE P n)] 40)
  have HB3 := Lib.hid (HB2.out.trans (hba.mono HB2.out.size))
  have M0 := Lib.hid ((hba.block _ (lt_of_block L0.out)).trans L0.out)
  have M1 := Lib.hid ((hba.block _ (lt_of_block L1.out)).trans L1.out)
  clear hba
  generalize W2.alloc (.cells #[.int .i64 (chkP s), .int .i64 (partsE P n)] 40) = X at *
  clear HK0 HK1 HB0 HB1 HB2 K0 K1 L0 L1 hz HC1 HC2
  by_cases hE : orL [chkP s, partsE P n] = 0
  · obtain ⟨o1, o2⟩ := orL1 hE
    obtain ⟨o2, _⟩ := orL1 o2
    have HOE := Lib.hid hE
    have g := good_of o1
    have HGD := Lib.hid g
    obtain ⟨hn100, hpp⟩ := partsE_ok o2
    have HPP := Lib.hid hpp
    clear o1 o2 hpp
    generalize hO : orL [chkP s, partsE P n] = E at hE ⊢
    subst hE
    clear hO
    have HX0 := Lib.hid ((Below.refl X.heap.size X).alloc (Nat.le_refl _) (.cells #[.int .i64 0, .int .i64 0] 28))
    have N9 := Lib.hid (block_new X (.cells #[.int .i64 0, .int .i64 0] 28))
    have hzX : w.heap.size + 1 < X.heap.size := lt_of_block M1.out
    go_wp2_with fail
    go_loopw [8, 27] (fun v i wr => ∃ k : Nat, k ≤ n ∧ i = .int .i64 k ∧ Hid (LegTo s P k) ∧ Hid (wr.ownsRow (X.heap.size + 1) 3 1 v k (spdL s P k)) ∧ Hid (wr.heap[w.heap.size]? = some (.cells (shipA s m) 24 (0, 0))) ∧ Hid (wr.heap[w.heap.size + 1]? = some (.cells #[.int .i64 0, .int .i64 0] 28 (0, 0))) ∧ Hid (wr.heap[X.heap.size]? = some (.cells #[.int .i64 (legLo s P k), .int .i64 (legHi s P k)] 28 (0, 0))) ∧ Hid (Below w.heap.size w wr)) (fun _ i _ => n - (intOf i).toNat)
    case atStart => exact ⟨0, by omega, rfl, fun j hj => by omega, World.ownsRow_nil _ _ _ _, (HX0.out.block _ (by omega)).trans M0.out, (HX0.out.block _ hzX).trans M1.out, N9.out, HB3.out.trans (HX0.out.mono HB3.out.size)⟩
    case round =>
      obtain ⟨k, hk, rfl, hu, hrow, k0, k1, k9, hI⟩ := hrel
      by_cases hlt2 : k < n
      · obtain ⟨b, o, rfl, hltk, h0, h1, h2, h3, h4, h5, h6, h7, h8, h9⟩ := (HP.out.later hI.out) k hlt2
        have hkn : (k : Int) < (n : Int) := by omega
        have hk0 : (0 : Int) ≤ (k : Int) := by omega
        obtain ⟨q1, q2, q3⟩ := HPP.out k hlt2
        have HQ1 := Lib.hid q1
        have HQ2 := Lib.hid q2
        have HQ3 := Lib.hid q3
        clear q1 q2 q3
        obtain ⟨c0, c1, c2, c3, c4, c5, c6, c7, c8, c9, c10⟩ := cells11 k0.out
        have ha0 := (Below.refl wr.heap.size wr).alloc (Nat.le_refl _) (.cells (partV (P k)) 67)
        have HA0 := Lib.hid ha0
        have HSS := Lib.hid (safeSpeeds_any s m (P k).lo (P k).hi (P k).ch HGD.out HQ3.out (wr.alloc (.cells (partV (P k)) 67)) ((HS.out.later hI.out).later ha0) ((HST.out.later hI.out).later ha0))
        have HU := Lib.hid hu.out
        have HROW := Lib.hid hrow.out
        have H0 := Lib.hid k0.out
        have H1 := Lib.hid k1.out
        have H9 := Lib.hid k9.out
        have HI := Lib.hid hI.out
        have hzr : X.heap.size < wr.heap.size := lt_of_block k9.out
        have hzw : w.heap.size < wr.heap.size := by omega
        have hzw1 : w.heap.size + 1 < wr.heap.size := by omega
        clear hu hrow k0 k1 k9 hI ha0
        by_cases hs : pE s (P k) = 0
        · have HSE := Lib.hid hs
          have HBD := Lib.hid (ss_bounds HGD.out HQ3.out hs)
          have HLB := Lib.hid (leg_bd HGD.out HPP.out k (by omega) HU.out)
          have HSS' := Lib.hid (show Calls Tryz.prog 90 #[.agg (shipA s m), .agg (cellV (P k).lo (P k).hi), .bool (P k).ch] (wr.alloc (.cells (partV (P k)) 67)) (fun e w' => e = .returned (.tuple #[.agg #[.int .i64 (ssLo s (P k).lo (P k).hi (P k).ch), .int .i64 (ssHi s (P k).lo (P k).hi (P k).ch)], .int .i64 0]) ∧ Below (wr.alloc (.cells (partV (P k)) 67)).heap.size (wr.alloc (.cells (partV (P k)) 67)) w') from by
            have := HSS.out
            have he : ssE s (P k).lo (P k).hi (P k).ch = 0 := hs
            unfold ssRes at this
            rw [he] at this; exact this)
          clear HSS hs
          go_wp2_with fail
          refine HSS'.out.mono ?_
          rintro e W4 ⟨rfl, hb4⟩
          have hc4 := HA0.out.trans (hb4.mono HA0.out.size)
          have HC4 := Lib.hid hc4
          have P11 := Lib.hid ((hb4.block wr.heap.size (by simp)).trans (block_new wr (.cells (partV (P k)) 67)))
          have hz4 : wr.heap.size < W4.heap.size := lt_of_block P11.out
          have hsl := HBD.out
          have hmx : k + 1 ≤ maxLen := by simp only [maxLen]; omega
          clear hb4 hc4 c0 c1 c2 c3 c4 c5 c6 c7 c8 c9 c10 h0 h1 h2 h3 h4 h5 h6 h7 h8 h9
          generalize hsL : ssLo s (P k).lo (P k).hi (P k).ch = sl at *
          generalize hsH : ssHi s (P k).lo (P k).hi (P k).ch = sh at *
          obtain ⟨hs1, hs2, hs3, hs4⟩ := hsl
          go_wp2_with (at_builtin; refine Hid.out ?_)
          refine Lib.hid ?_
          obtain ⟨y1, y2, ysz, yb⟩ := two_allocs W4 (.cells #[.int .i64 sl, .int .i64 sh] 28) (.cells #[.int .i64 sl] 3)
          have YR := Lib.hid (row_later HROW.out (HC4.out.trans (yb.mono HC4.out.size)))
          have YB := Lib.hid (HI.out.trans ((HC4.out.trans (yb.mono HC4.out.size)).mono HI.out.size))
          have Y0 := Lib.hid ((yb.block _ (by omega)).trans ((HC4.out.block _ hzw).trans H0.out))
          have Y1 := Lib.hid ((yb.block _ (by omega)).trans ((HC4.out.block _ hzw1).trans H1.out))
          have Y9 := Lib.hid ((yb.block _ (by omega)).trans ((HC4.out.block _ hzr).trans H9.out))
          have Y11 := Lib.hid ((yb.block _ hz4).trans P11.out)
          have Y12 := Lib.hid y1
          have YN := Lib.hid y2
          have R4 := Lib.hid (row_later HROW.out HC4.out)
          have own11 : some wr.heap.size ≠ u8.ownBlock := own_ne HROW.out (.inr (Nat.le_refl _))
          clear y1 y2 yb HROW H0 H1 H9 P11
          generalize (W4.alloc (.cells #[.int .i64 sl, .int .i64 sh] 28)).alloc (.cells #[.int .i64 sl] 3) = Y at *
          refine wpList_append_own _ rfl (.tmp 47) (.tmp 50) 69 rfl (X.heap.size + 1) 3 i0 (.int .i64 0) 1 8 und87 hi hz0 hz1' hz2' rfl (by decide) u8 k (spdL s P k) rfl YR.out ⟨W4.heap.size + 1, 0, none⟩ 1 1 [.int .i64 sl] rfl rfl (World.news_of_block YN.out) (by simp [Value.oneCell']) hmx (by omega) (by omega) ?_
          intro v' Z hown' hgrow _
          have zb := (Below.refl (X.heap.size + 1) Y).grown hgrow (by omega) (own_base YR.out)
          have ZB := Lib.hid (YB.out.trans (zb.mono (by omega)))
          have Z0 := Lib.hid ((zb.block _ (by omega)).trans Y0.out)
          have Z1 := Lib.hid ((zb.block _ (by omega)).trans Y1.out)
          have Z9 := Lib.hid ((zb.block _ (by omega)).trans Y9.out)
          have own12 : some W4.heap.size ≠ u8.ownBlock := own_ne R4.out (.inr (Nat.le_refl _))
          have Z11 := Lib.hid ((hgrow.block wr.heap.size (by omega) own11).trans Y11.out)
          have Z12 := Lib.hid ((hgrow.block W4.heap.size (by omega) own12).trans Y12.out)
          have ZR := Lib.hid (show Z.ownsRow (X.heap.size + 1) 3 1 v' (k + 1) (spdL s P (k + 1)) from by simpa [spdL, hsL] using hown')
          clear hown' hgrow zb own11 own12 YR YB Y0 Y1 Y9 Y11 Y12 YN R4
          obtain ⟨lb1, lb2, lb3, lb4⟩ := HLB.out
          have tk1 := takes_bd HQ1.out HQ2.out hs1
          have tk2 := takes_bd HQ1.out HQ2.out hs3
          obtain ⟨tk1a, tk1b⟩ := tk1
          obtain ⟨tk2a, tk2b⟩ := tk2
          have hk100 : 60000 * (k : Int) ≤ 6000000 := by omega
          go_wp2_with fail
          refine wp_region_multi 8 [52, 53, 54, 55, 56, 57, 58, 59] (fun _ => false) (fun i => ([(.pointer (some ⟨X.heap.size, 0, none⟩)), (.int .i64 (legLo s P k)), (.func (.func 94) #[] #[.pointer (some ⟨wr.heap.size, 0, none⟩)]), (.pointer (some ⟨W4.heap.size, 1, none⟩)), (.int .i64 sh), (.int .i64 (takesP (P k) sh)), (.int .i64 ((legLo s P k) + takesP (P k) sh)), (.pointer (some ⟨X.heap.size, 0, none⟩))] : List Value).getD i undef) (fun _ => .cells #[] 0) (by kernel_rfl) (by kernel_rfl) (fun s hs => by simp at hs ⊢; omega) ?vala ?ala ?fina
          case vala =>
            intro i
            match i with
            | 0 => intro o hlt hal ho a' W hb hfr hdp; obtain rfl := Option.some.inj ho; exact op_fa57 rfl (hfr 9 (by decide)) (by decide)
            | 1 => intro o hlt hal ho a' W hb hfr hdp; obtain rfl := Option.some.inj ho; exact op_load3 rfl (hdp 0 52 (by decide) rfl rfl (by kernel_rfl)) ((cell_of_block ((hb.block _ (lt_of_block Z9.out)).trans Z9.out) 0).trans rfl)
            | 2 => intro o hlt hal ho a' W hb hfr hdp; obtain rfl := Option.some.inj ho; exact op_move rfl (hfr 14 (by decide))
            | 3 => intro o hlt hal ho a' W hb hfr hdp; obtain rfl := Option.some.inj ho; exact op_fa57 rfl (hfr 12 (by decide)) (by decide)
            | 4 => intro o hlt hal ho a' W hb hfr hdp; obtain rfl := Option.some.inj ho; exact op_load3 rfl (hdp 3 55 (by decide) rfl rfl (by kernel_rfl)) ((cell_of_block ((hb.block _ (lt_of_block Z12.out)).trans Z12.out) 1).trans rfl)
            | 5 => intro o hlt hal ho a' W hb hfr hdp; obtain rfl := Option.some.inj ho; exact op_callv rfl (hdp 2 54 (by decide) rfl rfl (by kernel_rfl)) (hdp 4 56 (by decide) rfl rfl (by kernel_rfl)) eg75 (Leg1_any (P k) HQ1.out HQ2.out sh (by omega) (by omega) wr.heap.size W ((hb.block _ (lt_of_block Z11.out)).trans Z11.out))
            | 6 => intro o hlt hal ho a' W hb hfr hdp; obtain rfl := Option.some.inj ho; exact op_addt rfl (hdp 1 53 (by decide) rfl rfl (by kernel_rfl)) (hdp 5 57 (by decide) rfl rfl (by kernel_rfl)) (by omega)
            | 7 => intro o hlt hal ho a' W hb hfr hdp; obtain rfl := Option.some.inj ho; exact op_fa57 rfl (hfr 9 (by decide)) (by decide)
            | j + 8 => intro o hlt; omega
          case ala => intro i o hlt hal; cases hal
          case fina =>
            intro V B' hb hB' hne
            clear hB' hne
            simp only [List.drop_succ_cons, List.drop_zero, fill, uAll, Act.put, List.setIfInBounds_toArray, List.set_cons_zero, List.set_cons_succ, Nat.reduceAdd, if_false, Bool.false_eq_true, List.getD_cons_zero, List.getD_cons_succ]
            refine list_store3 rfl rfl rfl rfl rfl ((hb.block _ (lt_of_block Z9.out)).trans Z9.out) (by simp) ?_
            intro V2 g9 hc2
            have vb := hb
            have U9 := Lib.hid (show V2.heap[X.heap.size]? = some (.cells #[.int .i64 (legLo s P k + takesP (P k) sh), .int .i64 (legHi s P k)] 28 (0, 0)) from g9)
            have U0 := Lib.hid ((hc2.2.1 _ (by omega)).trans ((vb.block _ (lt_of_block Z0.out)).trans Z0.out))
            have U1 := Lib.hid ((hc2.2.1 _ (by omega)).trans ((vb.block _ (lt_of_block Z1.out)).trans Z1.out))
            have U11 := Lib.hid ((hc2.2.1 _ (by omega)).trans ((vb.block _ (lt_of_block Z11.out)).trans Z11.out))
            have U12 := Lib.hid ((hc2.2.1 _ (by omega)).trans ((vb.block _ (lt_of_block Z12.out)).trans Z12.out))
            have UB := Lib.hid ((ZB.out.trans (vb.mono ZB.out.size)).trans (hc2.below (by omega)))
            have UR := Lib.hid (row_chg (row_later ZR.out vb) hc2 (by omega))
            clear hb vb g9 hc2 Z0 Z1 Z9 Z11 Z12 ZB ZR
            go_wp2_with fail
            refine wp_region_multi 8 [60, 61, 62, 63, 64, 65, 66, 67] (fun _ => false) (fun i => ([(.pointer (some ⟨X.heap.size, 1, none⟩)), (.int .i64 (legHi s P k)), (.func (.func 94) #[] #[.pointer (some ⟨wr.heap.size, 0, none⟩)]), (.pointer (some ⟨W4.heap.size, 0, none⟩)), (.int .i64 sl), (.int .i64 (takesP (P k) sl)), (.int .i64 ((legHi s P k) + takesP (P k) sl)), (.pointer (some ⟨X.heap.size, 1, none⟩))] : List Value).getD i undef) (fun _ => .cells #[] 0) (by kernel_rfl) (by kernel_rfl) (fun s hs => by simp at hs ⊢; omega) ?valb ?alb ?finb
            case valb =>
              intro i
              match i with
              | 0 => intro o hlt hal ho a' W hb hfr hdp; obtain rfl := Option.some.inj ho; exact op_fa57 rfl (hfr 9 (by decide)) (by decide)
              | 1 => intro o hlt hal ho a' W hb hfr hdp; obtain rfl := Option.some.inj ho; exact op_load3 rfl (hdp 0 60 (by decide) rfl rfl (by kernel_rfl)) ((cell_of_block ((hb.block _ (lt_of_block U9.out)).trans U9.out) 1).trans rfl)
              | 2 => intro o hlt hal ho a' W hb hfr hdp; obtain rfl := Option.some.inj ho; exact op_move rfl (hfr 14 (by decide))
              | 3 => intro o hlt hal ho a' W hb hfr hdp; obtain rfl := Option.some.inj ho; exact op_fa57 rfl (hfr 12 (by decide)) (by decide)
              | 4 => intro o hlt hal ho a' W hb hfr hdp; obtain rfl := Option.some.inj ho; exact op_load3 rfl (hdp 3 63 (by decide) rfl rfl (by kernel_rfl)) ((cell_of_block ((hb.block _ (lt_of_block U12.out)).trans U12.out) 0).trans rfl)
              | 5 => intro o hlt hal ho a' W hb hfr hdp; obtain rfl := Option.some.inj ho; exact op_callv rfl (hdp 2 62 (by decide) rfl rfl (by kernel_rfl)) (hdp 4 64 (by decide) rfl rfl (by kernel_rfl)) eg75 (Leg1_any (P k) HQ1.out HQ2.out sl (by omega) (by omega) wr.heap.size W ((hb.block _ (lt_of_block U11.out)).trans U11.out))
              | 6 => intro o hlt hal ho a' W hb hfr hdp; obtain rfl := Option.some.inj ho; exact op_addt rfl (hdp 1 61 (by decide) rfl rfl (by kernel_rfl)) (hdp 5 65 (by decide) rfl rfl (by kernel_rfl)) (by omega)
              | 7 => intro o hlt hal ho a' W hb hfr hdp; obtain rfl := Option.some.inj ho; exact op_fa57 rfl (hfr 9 (by decide)) (by decide)
              | j + 8 => intro o hlt; omega
            case alb => intro i o hlt hal; cases hal
            case finb =>
              intro V B' hb hB' hne
              clear hB' hne
              simp only [List.drop_succ_cons, List.drop_zero, fill, uAll, Act.put, List.setIfInBounds_toArray, List.set_cons_zero, List.set_cons_succ, Nat.reduceAdd, if_false, Bool.false_eq_true, List.getD_cons_zero, List.getD_cons_succ]
              refine list_store3 rfl rfl rfl rfl rfl ((hb.block _ (lt_of_block U9.out)).trans U9.out) (by simp) ?_
              intro V3 g9 hc2
              have vb := hb
              have T9 := Lib.hid (show V3.heap[X.heap.size]? = some (.cells #[.int .i64 (legLo s P (k + 1)), .int .i64 (legHi s P (k + 1))] 28 (0, 0)) from by simp only [legLo, legHi, hsL, hsH]; exact g9)
              have T0 := Lib.hid ((hc2.2.1 _ (by omega)).trans ((vb.block _ (lt_of_block U0.out)).trans U0.out))
              have T1 := Lib.hid ((hc2.2.1 _ (by omega)).trans ((vb.block _ (lt_of_block U1.out)).trans U1.out))
              have TB := Lib.hid ((UB.out.trans (vb.mono UB.out.size)).trans (hc2.below (by omega)))
              have TR := Lib.hid (row_chg (row_later UR.out vb) hc2 (by omega))
              have HU2 := Lib.hid (show LegTo s P (k + 1) from fun j hj => by
                by_cases e : j = k
                · rw [e]; exact HSE.out
                · exact HU.out j (by omega))
              clear hb vb g9 hc2 U0 U1 U9 U11 U12 UB UR
              go_wp2_with fail
              go_roundw
              case rel => exact ⟨k + 1, by omega, by go_num, HU2.out, TR.out, T0.out, T1.out, T9.out, TB.out⟩
              case measure => simp [intOf]; omega
        · have HF := Lib.hid (show LegPost s P n w.heap.size (.returned (.tuple #[.slice none 0 0, .agg #[.int .i64 (k : Int), .int .i64 0], .int .i64 (pE s (P k))])) = LegPost s P n w.heap.size (.returned (.tuple #[.slice none 0 0, .agg #[.int .i64 (k : Int), .int .i64 0], .int .i64 (pE s (P k))])) from rfl)
          have HSE := Lib.hid hs
          have hne : (pE s (P k) != 0) = true := by simpa using hs
          have HSS' := Lib.hid (show Calls Tryz.prog 90 #[.agg (shipA s m), .agg (cellV (P k).lo (P k).hi), .bool (P k).ch] (wr.alloc (.cells (partV (P k)) 67)) (fun e w' => e = .returned (.tuple #[.agg #[.int .i64 (ssLo s (P k).lo (P k).hi (P k).ch), .int .i64 (ssHi s (P k).lo (P k).hi (P k).ch)], .int .i64 (pE s (P k))]) ∧ Below (wr.alloc (.cells (partV (P k)) 67)).heap.size (wr.alloc (.cells (partV (P k)) 67)) w') from HSS.out)
          have HPO := Lib.hid (fun (W : World) => (show LegPost s P n w.heap.size (.returned (.tuple #[.slice none 0 0, .agg #[.int .i64 (k : Int), .int .i64 0], .int .i64 (pE s (P k))])) W from .inr (.inl ⟨HOE.out, k, hlt2, HU.out, HSE.out, rfl⟩)))
          clear HSS hs HF
          generalize pE s (P k) = E2 at *
          go_wp2_with fail
          refine HSS'.out.mono ?_
          rintro e W4 ⟨rfl, hb4⟩
          have hc4 := HA0.out.trans (hb4.mono HA0.out.size)
          have HB5 := Lib.hid (HI.out.trans (hc4.mono HI.out.size))
          have Q1 := Lib.hid ((hc4.block _ hzw1).trans H1.out)
          have hz4 := lt_of_block Q1.out
          clear hb4 hc4 c0 c1 c2 c3 c4 c5 c6 c7 c8 c9 c10 h0 h1 h2 h3 h4 h5 h6 h7 h8 h9
          generalize ssLo s (P k).lo (P k).hi (P k).ch = sl at *
          generalize ssHi s (P k).lo (P k).hi (P k).ch = sh at *
          have hn5 := (Below.refl W4.heap.size W4).alloc (Nat.le_refl _) (.cells #[.int .i64 sl, .int .i64 sh] 28)
          have Q2 := Lib.hid ((hn5.block _ hz4).trans Q1.out)
          have HB6 := Lib.hid (HB5.out.trans (hn5.mono HB5.out.size))
          clear hn5
          go_wp2_with (refine list_store2 rfl rfl rfl (.inr (.inr rfl)) rfl rfl Q2.out ?_; intro V2 h2 hc2)
          obtain ⟨⟨r0, r1⟩, _⟩ := cells2 h2
          refine bodyPost_ret (v := .tuple #[.slice none 0 0, .agg #[.int .i64 (k : Int), .int .i64 0], .int .i64 E2]) (by simp [results, Tryz.results34, go_sem, r0, r1]) rfl ⟨HPO.out _, HB6.out.trans (hc2.below (by omega))⟩
      · obtain rfl : k = n := by omega
        have HF := Lib.hid hu.out
        have H1 := Lib.hid k1.out
        have H9 := Lib.hid k9.out
        have HR := Lib.hid hrow.out
        have HI := Lib.hid hI.out
        clear hu hrow k0 k1 k9 hI
        have HPO := Lib.hid (fun (W : World) v (hv : W.ownsRow w.heap.size 3 1 v k (spdL s P k)) => (show LegPost s P k w.heap.size (.returned (.tuple #[v, .agg #[.int .i64 (legLo s P k), .int .i64 (legHi s P k)], .int .i64 0])) W from .inr (.inr ⟨HOE.out, HF.out, v, hv, rfl⟩)))
        generalize legLo s P k = tl at *
        generalize legHi s P k = th at *
        go_wp2_with fail
        refine wp_region_multi 3 [69, 70, 4] (fun _ => false) (fun i => ([u8, (.agg #[.int .i64 tl, .int .i64 th]), u8] : List Value).getD i undef) (fun _ => .cells #[] 0) (by kernel_rfl) (by kernel_rfl) (fun s hs => by simp at hs ⊢; omega) ?valz ?alz ?finz
        case valz =>
          intro i
          match i with
          | 0 => intro o hlt hal ho a' W hb hfr hdp; obtain rfl := Option.some.inj ho; exact op_move rfl (hfr 8 (by decide))
          | 1 => intro o hlt hal ho a' W hb hfr hdp; obtain rfl := Option.some.inj ho; exact op_load2 rfl (.inr (.inr rfl)) (hfr 9 (by decide)) ((hb.block _ (lt_of_block H9.out)).trans H9.out)
          | 2 => intro o hlt hal ho a' W hb hfr hdp; obtain rfl := Option.some.inj ho; exact op_assign rfl (hdp 0 69 (by decide) rfl rfl (by kernel_rfl))
          | j + 3 => intro o hlt; omega
        case alz => intro i o hlt hal; cases hal
        case finz =>
          intro V B' hb hB' hne
          clear hB' hne
          simp only [List.drop_succ_cons, List.drop_zero, fill, uAll, Act.put, List.setIfInBounds_toArray, List.set_cons_zero, List.set_cons_succ, Nat.reduceAdd, if_false, Bool.false_eq_true, List.getD_cons_zero, List.getD_cons_succ]
          have Q1 := Lib.hid ((hb.block _ (lt_of_block H1.out)).trans H1.out)
          have QR := Lib.hid (row_later HR.out hb)
          have QB := Lib.hid (HI.out.trans (hb.mono HI.out.size))
          clear hb H1 H9 HR HI
          go_wp2_with (refine list_store2 rfl rfl rfl (.inr (.inr rfl)) rfl rfl Q1.out ?_; intro V2 h2 hc2)
          obtain ⟨⟨r0, r1⟩, _⟩ := cells2 h2
          refine bodyPost_ret (v := .tuple #[u8, .agg #[.int .i64 tl, .int .i64 th], .int .i64 0]) (by simp [results, Tryz.results34, go_sem, r0, r1]) rfl ⟨HPO.out _ _ (own_weak (row_chg QR.out hc2 (by omega)) (by omega)), QB.out.trans (hc2.below (by omega))⟩
  · have HPO := Lib.hid (fun (W : World) => (show LegPost s P n w.heap.size (.returned (.tuple #[.slice none 0 0, .agg #[.int .i64 0, .int .i64 0], .int .i64 (orL [chkP s, partsE P n])])) W from .inl ⟨hE, rfl⟩))
    generalize orL [chkP s, partsE P n] = E at *
    go_wp2_with (refine list_store2 rfl rfl rfl (.inr (.inr rfl)) rfl rfl M1.out ?_; intro V2 h2 hc2)
    obtain ⟨⟨r0, r1⟩, _⟩ := cells2 h2
    refine bodyPost_ret (v := .tuple #[.slice none 0 0, .agg #[.int .i64 0, .int .i64 0], .int .i64 E]) (by simp [results, Tryz.results34, go_sem, r0, r1]) rfl ⟨HPO.out _, HB3.out.trans (hc2.below (by omega))⟩
end Go.Proofs.YtcoiklolgilhaaaGreatDoor
