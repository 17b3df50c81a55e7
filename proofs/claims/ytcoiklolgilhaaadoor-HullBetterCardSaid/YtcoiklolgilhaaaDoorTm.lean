/- The contract of the law's Made once more, with a bound of the thrust. The law HullBetter over memory: any bytes, any numbers. The table of limits and the one of strengths hold their numbers. -/
import Derived.Test.YtcoiklolgilhaaaDoorQg
import Derived.Test.YtcoiklolgilhaaaDoorQc
import Derived.Test.YtcoiklolgilhaaaDoorQa
import Derived.Deep.AppendLies
import Derived.Test.YtcoiklolgilhaaaDoorTl
namespace Go.Proofs.YtcoiklolgilhaaaDoor
open Go.RowKit
set_option maxRecDepth 100000
set_option maxHeartbeats 8000000 in
theorem Made53_any (p : Option Addr) (k cap : Nat) (hk : k ≤ 9223372036854775807) (w : World) (hB : BytesIn w p k) :
    Calls Tryd.prog 24 #[.slice p k cap] w fun e w' => ∃ s m, e = .returned (.agg (shipA s m)) ∧ chkP s = 0 ∧ (s.th.n ≤ 7 ∧ s.th.y 0 ≤ 5300) ∧ ShipIn w' s m ∧ Below w.heap.size w w' := by
  have HNEXT := Lib.hid (fun (n : Int) (hn : 1 ≤ n) (hn' : n ≤ 1000000) (W : World) (hW : NxIn w p k cap (w.heap.size + 1 + 1) (w.heap.size + 1) W) => next_any w p k cap hk hB (w.heap.size + 1 + 1) (w.heap.size + 1) (by omega) n hn hn' W hW)
  obtain ⟨i0, hi, hz0, hz1, hz2⟩ := info_parts info30
  obtain ⟨t1, t2, t3, tz, tb⟩ := three_allocs w (.cells #[.int .i64 0, .int .i64 0, .int .i64 0, .int .i64 0, .slice none 0 0, .slice none 0 0, .slice none 0 0, .int .i64 0, .int .i64 0, .int .i64 0, .int .i64 0] 24) (.cells #[.slice p k cap] 50) (.cells #[.int .i64 0] 3)
  have HNX := Lib.hid (show NxIn w p k cap (w.heap.size + 1 + 1) (w.heap.size + 1) _ from ⟨tb, ⟨0, Nat.zero_le _, t3⟩, t2⟩)
  have HZ := Lib.hid t1
  clear t1 t2 t3 tb
  go_enter Tryd.func24, Tryd.ntmps24
  go_wp2_with fail
  refine (Drawn_any p k cap _).mono ?_
  rintro e w' ⟨rfl, rfl⟩
  go_wp2_with fail
  generalize ((w.alloc (.cells #[.int .i64 0, .int .i64 0, .int .i64 0, .int .i64 0, .slice none 0 0, .slice none 0 0, .slice none 0 0, .int .i64 0, .int .i64 0, .int .i64 0, .int .i64 0] 24)).alloc (.cells #[.slice p k cap] 50)).alloc (.cells #[.int .i64 0] 3) = X0 at *
  refine (HNEXT.out 6 (by decide) (by decide) _ HNX.out).mono ?_
  rintro e X1 ⟨r0, rfl, r00, r01, hN, hC⟩
  replace HNX := Lib.hid hN
  replace HZ := Lib.hid ((hC.2.1 _ (by omega)).trans HZ.out)
  have hs1 := Nat.le_of_eq hC.1
  have ht1 := Nat.le_of_eq hC.1.symm
  clear hN hC
  go_wp2_with fail
  refine (HNEXT.out 256 (by decide) (by decide) _ HNX.out).mono ?_
  rintro e X2 ⟨r1, rfl, r10, r11, hN, hC⟩
  replace HNX := Lib.hid hN
  replace HZ := Lib.hid ((hC.2.1 _ (by omega)).trans HZ.out)
  have hs2 := Nat.le_of_eq hC.1
  have ht2 := Nat.le_of_eq hC.1.symm
  clear hN hC
  go_wp2_with fail
  refine (HNEXT.out 256 (by decide) (by decide) _ HNX.out).mono ?_
  rintro e X3 ⟨r2, rfl, r20, r21, hN, hC⟩
  replace HNX := Lib.hid hN
  replace HZ := Lib.hid ((hC.2.1 _ (by omega)).trans HZ.out)
  have hs3 := Nat.le_of_eq hC.1
  have ht3 := Nat.le_of_eq hC.1.symm
  clear hN hC
  go_wp2_with fail
  refine (HNEXT.out 256 (by decide) (by decide) _ HNX.out).mono ?_
  rintro e X4 ⟨r3, rfl, r30, r31, hN, hC⟩
  replace HNX := Lib.hid hN
  replace HZ := Lib.hid ((hC.2.1 _ (by omega)).trans HZ.out)
  have hs4 := Nat.le_of_eq hC.1
  have ht4 := Nat.le_of_eq hC.1.symm
  clear hN hC
  go_wp2_with fail
  refine (HNEXT.out 21 (by decide) (by decide) _ HNX.out).mono ?_
  rintro e X5 ⟨r4, rfl, r40, r41, hN, hC⟩
  replace HNX := Lib.hid hN
  replace HZ := Lib.hid ((hC.2.1 _ (by omega)).trans HZ.out)
  have hs5 := Nat.le_of_eq hC.1
  have ht5 := Nat.le_of_eq hC.1.symm
  clear hN hC
  go_wp2_with fail
  refine (HNEXT.out 101 (by decide) (by decide) _ HNX.out).mono ?_
  rintro e X6 ⟨r5, rfl, r50, r51, hN, hC⟩
  replace HNX := Lib.hid hN
  replace HZ := Lib.hid ((hC.2.1 _ (by omega)).trans HZ.out)
  have hs6 := Nat.le_of_eq hC.1
  have ht6 := Nat.le_of_eq hC.1.symm
  clear hN hC
  go_wp2_with fail
  refine (HNEXT.out 240 (by decide) (by decide) _ HNX.out).mono ?_
  rintro e X7 ⟨r6, rfl, r60, r61, hN, hC⟩
  replace HNX := Lib.hid hN
  replace HZ := Lib.hid ((hC.2.1 _ (by omega)).trans HZ.out)
  have hs7 := Nat.le_of_eq hC.1
  have ht7 := Nat.le_of_eq hC.1.symm
  clear hN hC
  go_wp2_with fail
  refine (HNEXT.out 256 (by decide) (by decide) _ HNX.out).mono ?_
  rintro e X8 ⟨r7, rfl, r70, r71, hN, hC⟩
  replace HNX := Lib.hid hN
  replace HZ := Lib.hid ((hC.2.1 _ (by omega)).trans HZ.out)
  have hs8 := Nat.le_of_eq hC.1
  have ht8 := Nat.le_of_eq hC.1.symm
  clear hN hC
  have hsz : X8.heap.size = w.heap.size + 1 + 1 + 1 := by omega
  clear hs1 hs2 hs3 hs4 hs5 hs6 hs7 hs8 ht1 ht2 ht3 ht4 ht5 ht6 ht7 ht8
  have hb8 := (Below.refl X8.heap.size X8).alloc (Nat.le_refl _) (.cells #[.int .i64 (1 + r0), .int .i64 (100 + 390 * r1), .int .i64 (10 + 7 * r2), .int .i64 (10 + 1900 * r3), .slice none 0 0, .slice none 0 0, .slice none 0 0, .int .i64 r4, .int .i64 r5, .int .i64 (2 * r6), .int .i64 (4 * r7)] 24)
  replace HNX := Lib.hid (HNX.out.later hb8)
  replace HZ := Lib.hid ((hb8.block _ (lt_of_block HZ.out)).trans HZ.out)
  have HS := Lib.hid (block_new X8 (.cells #[.int .i64 (1 + r0), .int .i64 (100 + 390 * r1), .int .i64 (10 + 7 * r2), .int .i64 (10 + 1900 * r3), .slice none 0 0, .slice none 0 0, .slice none 0 0, .int .i64 r4, .int .i64 r5, .int .i64 (2 * r6), .int .i64 (4 * r7)] 24))
  rw [hsz] at HS
  have hzY := lt_of_block HS.out
  clear hb8
  go_wp2_with fail
  generalize X8.alloc (.cells #[.int .i64 (1 + r0), .int .i64 (100 + 390 * r1), .int .i64 (10 + 7 * r2), .int .i64 (10 + 1900 * r3), .slice none 0 0, .slice none 0 0, .slice none 0 0, .int .i64 r4, .int .i64 r5, .int .i64 (2 * r6), .int .i64 (4 * r7)] 24) = Y0 at *
  refine (HNEXT.out 256 (by decide) (by decide) _ HNX.out).mono ?_
  rintro e X9 ⟨r8, rfl, r80, r81, hN, hC⟩
  replace HNX := Lib.hid hN
  replace HZ := Lib.hid ((hC.2.1 _ (by omega)).trans HZ.out)
  replace HS := Lib.hid ((hC.2.1 _ (by omega)).trans HS.out)
  have hs9 := Nat.le_of_eq hC.1
  have ht9 := Nat.le_of_eq hC.1.symm
  clear hN hC
  have hbA := (Below.refl X9.heap.size X9).alloc (Nat.le_refl _) (.cells #[.int .i64 0, .int .i64 (200 + 20 * r8)] 30)
  have HR1 := Lib.hid (prow_one X9 (w.heap.size + 1 + 1 + 1 + 1) 0 (200 + 20 * r8) (by omega))
  replace HNX := Lib.hid (HNX.out.later hbA)
  replace HZ := Lib.hid ((hbA.block _ (lt_of_block HZ.out)).trans HZ.out)
  replace HS := Lib.hid ((hbA.block _ (lt_of_block HS.out)).trans HS.out)
  have hsA1 := hbA.size
  clear hbA
  go_wp2_with (refine list_store22 rfl rfl rfl rfl rfl HS.out (by simp) ?_; intro Z1 hz hc; have HS2 := Lib.hid (show Z1.heap[(w.heap.size + 1 + 1 + 1)]? = some (.cells #[.int .i64 (1 + r0), .int .i64 (100 + 390 * r1), .int .i64 (10 + 7 * r2), .int .i64 (10 + 1900 * r3), .slice (some ⟨X9.heap.size, 0, none⟩) 1 1, .slice none 0 0, .slice none 0 0, .int .i64 r4, .int .i64 r5, .int .i64 (2 * r6), .int .i64 (4 * r7)] 24 (0, 0)) from hz); clear HS; have HS := HS2; clear HS2; replace HNX := Lib.hid (HNX.out.keep (HNX.out.low.trans (hc.below (by omega))) (hc.2.1 _ (by omega)) (hc.2.1 _ (by omega))); replace HZ := Lib.hid ((hc.2.1 _ (by omega)).trans HZ.out); replace HR1 := Lib.hid (prow_chg HR1.out hc (by omega)); have hsZ1 := Nat.le_of_eq hc.1; have htZ1 := Nat.le_of_eq hc.1.symm; clear hz hc)
  refine (HNEXT.out 4 (by decide) (by decide) _ HNX.out).mono ?_
  rintro e X10 ⟨r9, rfl, r90, r91, hN, hC⟩
  replace HNX := Lib.hid hN
  replace HZ := Lib.hid ((hC.2.1 _ (by omega)).trans HZ.out)
  replace HS := Lib.hid ((hC.2.1 _ (by omega)).trans HS.out)
  replace HR1 := Lib.hid (prow_chg HR1.out hC (by omega))
  have hs10 := Nat.le_of_eq hC.1
  have ht10 := Nat.le_of_eq hC.1.symm
  clear hN hC
  have hm1 : (w.heap.size + 1 + 1 + 1) + 1 ≤ X10.heap.size := by omega
  go_wp2_with fail
  go_loopw [5, 6, 46] (fun x y i wr => ∃ (j : Nat) (l : List (Int × Int)) (X Y : Int) (v : Value), i = .int .i64 j ∧ (j : Int) ≤ (1 + r9) ∧ x = .int .i64 X ∧ y = .int .i64 Y ∧ Hid (l.length = j + 1) ∧ Hid (Pl l 10 49 5300 0 (200 + 20 * r8) false X Y) ∧ Hid (PRow wr (w.heap.size + 1 + 1 + 1 + 1) v l) ∧ Hid (wr.heap[(w.heap.size + 1 + 1 + 1)]? = some (.cells #[.int .i64 (1 + r0), .int .i64 (100 + 390 * r1), .int .i64 (10 + 7 * r2), .int .i64 (10 + 1900 * r3), v, .slice none 0 0, .slice none 0 0, .int .i64 r4, .int .i64 r5, .int .i64 (2 * r6), .int .i64 (4 * r7)] 24 (0, 0))) ∧ Hid (wr.heap[w.heap.size]? = some (.cells #[.int .i64 0, .int .i64 0, .int .i64 0, .int .i64 0, .slice none 0 0, .slice none 0 0, .slice none 0 0, .int .i64 0, .int .i64 0, .int .i64 0, .int .i64 0] 24 (0, 0))) ∧ Hid (NxIn w p k cap (w.heap.size + 1 + 1) (w.heap.size + 1) wr) ∧ (w.heap.size + 1 + 1 + 1 + 1) ≤ wr.heap.size) (fun _ _ i _ => ((1 + r9)).toNat - (intOf i).toNat)
  case atStart => exact ⟨0, [(0, 200 + 20 * r8)], 0, 200 + 20 * r8, _, rfl, by omega, rfl, rfl, rfl, Pl.one (by omega) (by omega), HR1.out, HS.out, HZ.out, HNX.out, by omega⟩
  case round =>
    clear HNX HZ HS HR1
    obtain ⟨j, l, X, Y, v, rfl, hj, rfl, rfl, hlen, hpl, hrow, hs, hz, hnx, hmw⟩ := hrel
    have HLEN := Lib.hid hlen.out
    have HPL := Lib.hid hpl.out
    have HR := Lib.hid hrow.out
    have HS := Lib.hid hs.out
    have HZ := Lib.hid hz.out
    have HNX := Lib.hid hnx.out
    have xb0 := hpl.out.x_low (by decide)
    have xb := hpl.out.x_bd
    rw [hlen.out] at xb
    simp only [Nat.add_sub_cancel] at xb
    obtain ⟨xb1, xb2, xb3⟩ := xb
    clear hlen hpl hrow hs hz hnx
    by_cases hlt : (j : Int) < (1 + r9)
    · skip
      go_wp2_with fail
      refine (HNEXT.out 40 (by decide) (by decide) _ HNX.out).mono ?_
      rintro e X11 ⟨a1, rfl, a10, a11, hN, hC⟩
      replace HNX := Lib.hid hN
      replace HZ := Lib.hid ((hC.2.1 _ (by omega)).trans HZ.out)
      replace HS := Lib.hid ((hC.2.1 _ (by omega)).trans HS.out)
      replace HR := Lib.hid (prow_chg HR.out hC (by omega))
      have hs11 := Nat.le_of_eq hC.1
      have ht11 := Nat.le_of_eq hC.1.symm
      clear hN hC
      go_wp2_with fail
      refine (HNEXT.out 101 (by decide) (by decide) _ HNX.out).mono ?_
      rintro e X12 ⟨a2, rfl, a20, a21, hN, hC⟩
      replace HNX := Lib.hid hN
      replace HZ := Lib.hid ((hC.2.1 _ (by omega)).trans HZ.out)
      replace HS := Lib.hid ((hC.2.1 _ (by omega)).trans HS.out)
      replace HR := Lib.hid (prow_chg HR.out hC (by omega))
      have hs12 := Nat.le_of_eq hC.1
      have ht12 := Nat.le_of_eq hC.1.symm
      clear hN hC
      obtain ⟨pm0, pm1⟩ := mulbd xb3 (show Y ≤ 5300 by omega) a20 (show a2 ≤ 100 by omega)
      have pm2 := Int.mul_le_mul_of_nonneg_left (show a2 ≤ 100 by omega) xb3
      have cS := (cell_of_block HS.out 4).trans rfl
      simp only [List.getElem?_toArray, List.getElem?_cons_zero, List.getElem?_cons_succ] at cS
      have hbT := (Below.refl X12.heap.size X12).alloc (Nat.le_refl _) (.cells #[.int .i64 (X + 10 + a1), .int .i64 (Y * a2 / 100)] 30)
      have hnb := block_new X12 (.cells #[.int .i64 (X + 10 + a1), .int .i64 (Y * a2 / 100)] 30)
      replace HNX := Lib.hid (HNX.out.later hbT)
      replace HZ := Lib.hid ((hbT.block _ (lt_of_block HZ.out)).trans HZ.out)
      replace HS := Lib.hid ((hbT.block _ (lt_of_block HS.out)).trans HS.out)
      replace HR := Lib.hid (row_later HR.out hbT)
      have hbTs := hbT.size
      clear hbT
      have hmx : l.length + 1 ≤ maxLen := by rw [HLEN.out]; simp only [maxLen]; omega
      have hby : (l.length + 1) * 16 ≤ 140737488355328 := by rw [HLEN.out]; omega
      have hltW := lt_of_block HS.out
      go_wp2_with (at_builtin; refine Hid.out ?_)
      refine Lib.hid ?_
      generalize X12.alloc (.cells #[.int .i64 (X + 10 + a1), .int .i64 (Y * a2 / 100)] 30) = Y1 at *
      refine wpList_append_own _ rfl (.tmp 59) (.tmp 63) 22 rfl (w.heap.size + 1 + 1 + 1 + 1) 30 i0 (.agg #[.int .i64 0, .int .i64 0]) 2 16 und22 hi hz0 hz1 hz2 rfl (by decide) v l.length (flatP l) rfl HR.out ⟨X12.heap.size, 0, none⟩ 1 1 [.int .i64 (X + 10 + a1), .int .i64 (Y * a2 / 100)] rfl rfl (World.news_of_block hnb) (by simp [Value.oneCell']) hmx hby (by omega) ?_
      intro v2 Zg hown hgrow _
      obtain ⟨g2, cap2, rfl⟩ := ownsRow_succ hown
      have zb := (Below.refl (w.heap.size + 1 + 1 + 1 + 1) Y1).grown hgrow (by omega) (pown_base HR.out)
      have HRN := Lib.hid (show PRow Zg (w.heap.size + 1 + 1 + 1 + 1) (.slice (some ⟨g2, 0, none⟩) (l.length + 1) cap2) (l ++ [(X + 10 + a1, Y * a2 / 100)]) from by simpa [PRow, flatP_snoc] using hown)
      replace HNX := Lib.hid (HNX.out.keep (HNX.out.low.trans (zb.mono (by omega))) (zb.block _ (by omega)) (zb.block _ (by omega)))
      replace HZ := Lib.hid ((zb.block _ (by omega)).trans HZ.out)
      replace HS := Lib.hid ((zb.block _ (by omega)).trans HS.out)
      have hzs := zb.size
      clear hown hgrow zb cS HR
      clear hnb
      go_wp2_with (refine list_store22 rfl rfl rfl rfl rfl HS.out (by simp) ?_; intro Zs hz hc; have HS2 := Lib.hid (show Zs.heap[(w.heap.size + 1 + 1 + 1)]? = some (.cells #[.int .i64 (1 + r0), .int .i64 (100 + 390 * r1), .int .i64 (10 + 7 * r2), .int .i64 (10 + 1900 * r3), .slice (some ⟨g2, 0, none⟩) (l.length + 1) cap2, .slice none 0 0, .slice none 0 0, .int .i64 r4, .int .i64 r5, .int .i64 (2 * r6), .int .i64 (4 * r7)] 24 (0, 0)) from hz); clear HS; have HS := HS2; clear HS2; replace HNX := Lib.hid (HNX.out.keep (HNX.out.low.trans (hc.below (by omega))) (hc.2.1 _ (by omega)) (hc.2.1 _ (by omega))); replace HZ := Lib.hid ((hc.2.1 _ (by omega)).trans HZ.out); replace HRN := Lib.hid (prow_chg HRN.out hc (by omega)); have hsZs := Nat.le_of_eq hc.1; have htZs := Nat.le_of_eq hc.1.symm; clear hz hc)
      go_roundw
      case rel => exact ⟨j + 1, l ++ [(X + 10 + a1, Y * a2 / 100)], X + 10 + a1, Y * a2 / 100, _, by go_num, by omega, by go_num, by go_num, by rw [List.length_append, HLEN.out]; rfl, HPL.out.snoc (by omega) (by rw [HLEN.out]; omega) (by omega) (by rw [HLEN.out]; omega) (by first | (simp; omega) | simp | (show Y ≤ _; omega) | (show _ ≤ Y; omega)), HRN.out, HS.out, HZ.out, HNX.out, by omega⟩
      case measure => simp [intOf]; omega
    · have hjc : (j : Int) = (1 + r9) := by omega
      obtain ⟨V1, hV1⟩ : ∃ V1, V1 = wr := ⟨_, rfl⟩
      subst hV1
      obtain ⟨l1, hl1⟩ : ∃ l1, l1 = l := ⟨_, rfl⟩
      subst hl1
      obtain ⟨v1, hv1⟩ : ∃ v1, v1 = v := ⟨_, rfl⟩
      subst hv1
      obtain ⟨j1, hj1⟩ : ∃ j1, j1 = j := ⟨_, rfl⟩
      subst hj1
      have HPL1 := Lib.hid HPL.out
      have HLEN1 := Lib.hid HLEN.out
      have HR1 := Lib.hid HR.out
      have hjc1 := hjc
      have hmw1 := hmw
      have HOL0 := Lib.hid (pown_lt HR1.out)
      have hltV := lt_of_block HS.out
      clear HPL HLEN HR hjc hmw hlt hj xb0 xb1 xb2 xb3
      go_wp2_with fail
      refine (HNEXT.out 50 (by decide) (by decide) _ HNX.out).mono ?_
      rintro e X13 ⟨r10, rfl, r100, r101, hN, hC⟩
      replace HNX := Lib.hid hN
      replace HZ := Lib.hid ((hC.2.1 _ (by omega)).trans HZ.out)
      replace HS := Lib.hid ((hC.2.1 _ (by omega)).trans HS.out)
      replace HR1 := Lib.hid (prow_chg HR1.out hC (by omega))
      have hs13 := Nat.le_of_eq hC.1
      have ht13 := Nat.le_of_eq hC.1.symm
      clear hN hC
      skip
      have hbA := (Below.refl X13.heap.size X13).alloc (Nat.le_refl _) (.cells #[.int .i64 0, .int .i64 (r10)] 30)
      have HR2 := Lib.hid (prow_one X13 (V1.heap.size) 0 (r10) (by omega))
      replace HNX := Lib.hid (HNX.out.later hbA)
      replace HZ := Lib.hid ((hbA.block _ (lt_of_block HZ.out)).trans HZ.out)
      replace HS := Lib.hid ((hbA.block _ (lt_of_block HS.out)).trans HS.out)
      replace HR1 := Lib.hid (row_later HR1.out hbA)
      have hsA2 := hbA.size
      clear hbA
      go_wp2_with (refine list_store22 rfl rfl rfl rfl rfl HS.out (by simp) ?_; intro Z2 hz hc; have HS2 := Lib.hid (show Z2.heap[(w.heap.size + 1 + 1 + 1)]? = some (.cells #[.int .i64 (1 + r0), .int .i64 (100 + 390 * r1), .int .i64 (10 + 7 * r2), .int .i64 (10 + 1900 * r3), v1, .slice (some ⟨X13.heap.size, 0, none⟩) 1 1, .slice none 0 0, .int .i64 r4, .int .i64 r5, .int .i64 (2 * r6), .int .i64 (4 * r7)] 24 (0, 0)) from hz); clear HS; have HS := HS2; clear HS2; replace HNX := Lib.hid (HNX.out.keep (HNX.out.low.trans (hc.below (by omega))) (hc.2.1 _ (by omega)) (hc.2.1 _ (by omega))); replace HZ := Lib.hid ((hc.2.1 _ (by omega)).trans HZ.out); replace HR1 := Lib.hid (prow_chg HR1.out hc (by omega)); replace HR2 := Lib.hid (prow_chg HR2.out hc (by omega)); have hsZ2 := Nat.le_of_eq hc.1; have htZ2 := Nat.le_of_eq hc.1.symm; clear hz hc)
      refine (HNEXT.out 3 (by decide) (by decide) _ HNX.out).mono ?_
      rintro e X14 ⟨r11, rfl, r110, r111, hN, hC⟩
      replace HNX := Lib.hid hN
      replace HZ := Lib.hid ((hC.2.1 _ (by omega)).trans HZ.out)
      replace HS := Lib.hid ((hC.2.1 _ (by omega)).trans HS.out)
      replace HR1 := Lib.hid (prow_chg HR1.out hC (by omega))
      replace HR2 := Lib.hid (prow_chg HR2.out hC (by omega))
      have hs14 := Nat.le_of_eq hC.1
      have ht14 := Nat.le_of_eq hC.1.symm
      clear hN hC
      have hm2 : V1.heap.size ≤ X14.heap.size := by omega
      go_wp2_with fail
      go_loopw [5, 6, 76] (fun x y i wr => ∃ (j : Nat) (l : List (Int × Int)) (X Y : Int) (v : Value), i = .int .i64 j ∧ (j : Int) ≤ (1 + r11) ∧ x = .int .i64 X ∧ y = .int .i64 Y ∧ Hid (l.length = j + 1) ∧ Hid (Pl l 1 80 49 765 r10 true X Y) ∧ Hid (PRow wr (V1.heap.size) v l) ∧ Hid (wr.heap[(w.heap.size + 1 + 1 + 1)]? = some (.cells #[.int .i64 (1 + r0), .int .i64 (100 + 390 * r1), .int .i64 (10 + 7 * r2), .int .i64 (10 + 1900 * r3), v1, v, .slice none 0 0, .int .i64 r4, .int .i64 r5, .int .i64 (2 * r6), .int .i64 (4 * r7)] 24 (0, 0))) ∧ Hid (wr.heap[w.heap.size]? = some (.cells #[.int .i64 0, .int .i64 0, .int .i64 0, .int .i64 0, .slice none 0 0, .slice none 0 0, .slice none 0 0, .int .i64 0, .int .i64 0, .int .i64 0, .int .i64 0] 24 (0, 0))) ∧ Hid (NxIn w p k cap (w.heap.size + 1 + 1) (w.heap.size + 1) wr) ∧ (V1.heap.size) ≤ wr.heap.size ∧ Hid (PRow wr (w.heap.size + 1 + 1 + 1 + 1) v1 l1)) (fun _ _ i _ => ((1 + r11)).toNat - (intOf i).toNat)
      case atStart => exact ⟨0, [(0, r10)], 0, r10, _, rfl, by omega, rfl, rfl, rfl, Pl.one (by omega) (by omega), HR2.out, HS.out, HZ.out, HNX.out, by omega, HR1.out⟩
      case round =>
        clear HNX HZ HS HR1 HR2
        obtain ⟨j, l, X, Y, v, rfl, hj, rfl, rfl, hlen, hpl, hrow, hs, hz, hnx, hmw, ho0⟩ := hrel
        have HLEN := Lib.hid hlen.out
        have HPL := Lib.hid hpl.out
        have HR := Lib.hid hrow.out
        have HS := Lib.hid hs.out
        have HZ := Lib.hid hz.out
        have HNX := Lib.hid hnx.out
        have HO0 := Lib.hid ho0.out
        have xb0 := hpl.out.x_low (by decide)
        have xb := hpl.out.x_bd
        rw [hlen.out] at xb
        simp only [Nat.add_sub_cancel] at xb
        obtain ⟨xb1, xb2, xb3⟩ := xb
        clear hlen hpl hrow hs hz hnx ho0
        by_cases hlt : (j : Int) < (1 + r11)
        · skip
          go_wp2_with fail
          refine (HNEXT.out 80 (by decide) (by decide) _ HNX.out).mono ?_
          rintro e X15 ⟨a1, rfl, a10, a11, hN, hC⟩
          replace HNX := Lib.hid hN
          replace HZ := Lib.hid ((hC.2.1 _ (by omega)).trans HZ.out)
          replace HS := Lib.hid ((hC.2.1 _ (by omega)).trans HS.out)
          replace HR := Lib.hid (prow_chg HR.out hC (by omega))
          replace HO0 := Lib.hid (prow_chg HO0.out hC (by omega))
          have hs15 := Nat.le_of_eq hC.1
          have ht15 := Nat.le_of_eq hC.1.symm
          clear hN hC
          go_wp2_with fail
          refine (HNEXT.out 256 (by decide) (by decide) _ HNX.out).mono ?_
          rintro e X16 ⟨a2, rfl, a20, a21, hN, hC⟩
          replace HNX := Lib.hid hN
          replace HZ := Lib.hid ((hC.2.1 _ (by omega)).trans HZ.out)
          replace HS := Lib.hid ((hC.2.1 _ (by omega)).trans HS.out)
          replace HR := Lib.hid (prow_chg HR.out hC (by omega))
          replace HO0 := Lib.hid (prow_chg HO0.out hC (by omega))
          have hs16 := Nat.le_of_eq hC.1
          have ht16 := Nat.le_of_eq hC.1.symm
          clear hN hC
          have cS := (cell_of_block HS.out 5).trans rfl
          simp only [List.getElem?_toArray, List.getElem?_cons_zero, List.getElem?_cons_succ] at cS
          have hbT := (Below.refl X16.heap.size X16).alloc (Nat.le_refl _) (.cells #[.int .i64 (X + 1 + a1), .int .i64 (Y + 3 * a2)] 30)
          have hnb := block_new X16 (.cells #[.int .i64 (X + 1 + a1), .int .i64 (Y + 3 * a2)] 30)
          replace HNX := Lib.hid (HNX.out.later hbT)
          replace HZ := Lib.hid ((hbT.block _ (lt_of_block HZ.out)).trans HZ.out)
          replace HS := Lib.hid ((hbT.block _ (lt_of_block HS.out)).trans HS.out)
          replace HR := Lib.hid (row_later HR.out hbT)
          replace HO0 := Lib.hid (row_later HO0.out hbT)
          have hbTs := hbT.size
          clear hbT
          have hmx : l.length + 1 ≤ maxLen := by rw [HLEN.out]; simp only [maxLen]; omega
          have hby : (l.length + 1) * 16 ≤ 140737488355328 := by rw [HLEN.out]; omega
          have hltW := lt_of_block HS.out
          go_wp2_with (at_builtin; refine Hid.out ?_)
          refine Lib.hid ?_
          generalize X16.alloc (.cells #[.int .i64 (X + 1 + a1), .int .i64 (Y + 3 * a2)] 30) = Y2 at *
          refine wpList_append_own _ rfl (.tmp 89) (.tmp 93) 22 rfl (V1.heap.size) 30 i0 (.agg #[.int .i64 0, .int .i64 0]) 2 16 und22 hi hz0 hz1 hz2 rfl (by decide) v l.length (flatP l) rfl HR.out ⟨X16.heap.size, 0, none⟩ 1 1 [.int .i64 (X + 1 + a1), .int .i64 (Y + 3 * a2)] rfl rfl (World.news_of_block hnb) (by simp [Value.oneCell']) hmx hby (by omega) ?_
          intro v2 Zg hown hgrow _
          obtain ⟨g2, cap2, rfl⟩ := ownsRow_succ hown
          have zb := (Below.refl (V1.heap.size) Y2).grown hgrow (by omega) (pown_base HR.out)
          have HRN := Lib.hid (show PRow Zg (V1.heap.size) (.slice (some ⟨g2, 0, none⟩) (l.length + 1) cap2) (l ++ [(X + 1 + a1, Y + 3 * a2)]) from by simpa [PRow, flatP_snoc] using hown)
          replace HNX := Lib.hid (HNX.out.keep (HNX.out.low.trans (zb.mono (by omega))) (zb.block _ (by omega)) (zb.block _ (by omega)))
          replace HZ := Lib.hid ((zb.block _ (by omega)).trans HZ.out)
          replace HS := Lib.hid ((zb.block _ (by omega)).trans HS.out)
          replace HO0 := Lib.hid (prow_grow HO0.out hgrow (pown_base HR.out) HOL0.out)
          have hzs := zb.size
          clear hown hgrow zb cS HR
          clear hnb
          go_wp2_with (refine list_store22 rfl rfl rfl rfl rfl HS.out (by simp) ?_; intro Zs hz hc; have HS2 := Lib.hid (show Zs.heap[(w.heap.size + 1 + 1 + 1)]? = some (.cells #[.int .i64 (1 + r0), .int .i64 (100 + 390 * r1), .int .i64 (10 + 7 * r2), .int .i64 (10 + 1900 * r3), v1, .slice (some ⟨g2, 0, none⟩) (l.length + 1) cap2, .slice none 0 0, .int .i64 r4, .int .i64 r5, .int .i64 (2 * r6), .int .i64 (4 * r7)] 24 (0, 0)) from hz); clear HS; have HS := HS2; clear HS2; replace HNX := Lib.hid (HNX.out.keep (HNX.out.low.trans (hc.below (by omega))) (hc.2.1 _ (by omega)) (hc.2.1 _ (by omega))); replace HZ := Lib.hid ((hc.2.1 _ (by omega)).trans HZ.out); replace HRN := Lib.hid (prow_chg HRN.out hc (by omega)); replace HO0 := Lib.hid (prow_chg HO0.out hc (by omega)); have hsZs := Nat.le_of_eq hc.1; have htZs := Nat.le_of_eq hc.1.symm; clear hz hc)
          go_roundw
          case rel => exact ⟨j + 1, l ++ [(X + 1 + a1, Y + 3 * a2)], X + 1 + a1, Y + 3 * a2, _, by go_num, by omega, by go_num, by go_num, by rw [List.length_append, HLEN.out]; rfl, HPL.out.snoc (by omega) (by rw [HLEN.out]; omega) (by omega) (by rw [HLEN.out]; omega) (by first | (simp; omega) | simp | (show Y ≤ _; omega) | (show _ ≤ Y; omega)), HRN.out, HS.out, HZ.out, HNX.out, by omega, HO0.out⟩
          case measure => simp [intOf]; omega
        · have hjc : (j : Int) = (1 + r11) := by omega
          obtain ⟨V2, hV2⟩ : ∃ V2, V2 = wr := ⟨_, rfl⟩
          subst hV2
          obtain ⟨l2, hl2⟩ : ∃ l2, l2 = l := ⟨_, rfl⟩
          subst hl2
          obtain ⟨v2, hv2⟩ : ∃ v2, v2 = v := ⟨_, rfl⟩
          subst hv2
          obtain ⟨j2, hj2⟩ : ∃ j2, j2 = j := ⟨_, rfl⟩
          subst hj2
          have HPL2 := Lib.hid HPL.out
          have HLEN2 := Lib.hid HLEN.out
          have HR2 := Lib.hid HR.out
          have hjc2 := hjc
          have hmw2 := hmw
          clear HOL0
          have HOL0 := Lib.hid (pown_lt HO0.out)
          have HOL1 := Lib.hid (pown_lt HR2.out)
          have hltV := lt_of_block HS.out
          clear HPL HLEN HR hjc hmw hlt hj xb0 xb1 xb2 xb3
          have hbA := (Below.refl V2.heap.size V2).alloc (Nat.le_refl _) (.cells #[.int .i64 0, .int .i64 (0)] 30)
          have HR3 := Lib.hid (prow_one V2 (V2.heap.size) 0 (0) (by omega))
          replace HNX := Lib.hid (HNX.out.later hbA)
          replace HZ := Lib.hid ((hbA.block _ (lt_of_block HZ.out)).trans HZ.out)
          replace HS := Lib.hid ((hbA.block _ (lt_of_block HS.out)).trans HS.out)
          replace HO0 := Lib.hid (row_later HO0.out hbA)
          replace HR2 := Lib.hid (row_later HR2.out hbA)
          have hsA3 := hbA.size
          clear hbA
          go_wp2_with (refine list_store22 rfl rfl rfl rfl rfl HS.out (by simp) ?_; intro Z3 hz hc; have HS2 := Lib.hid (show Z3.heap[(w.heap.size + 1 + 1 + 1)]? = some (.cells #[.int .i64 (1 + r0), .int .i64 (100 + 390 * r1), .int .i64 (10 + 7 * r2), .int .i64 (10 + 1900 * r3), v1, v2, .slice (some ⟨V2.heap.size, 0, none⟩) 1 1, .int .i64 r4, .int .i64 r5, .int .i64 (2 * r6), .int .i64 (4 * r7)] 24 (0, 0)) from hz); clear HS; have HS := HS2; clear HS2; replace HNX := Lib.hid (HNX.out.keep (HNX.out.low.trans (hc.below (by omega))) (hc.2.1 _ (by omega)) (hc.2.1 _ (by omega))); replace HZ := Lib.hid ((hc.2.1 _ (by omega)).trans HZ.out); replace HO0 := Lib.hid (prow_chg HO0.out hc (by omega)); replace HR2 := Lib.hid (prow_chg HR2.out hc (by omega)); replace HR3 := Lib.hid (prow_chg HR3.out hc (by omega)); have hsZ3 := Nat.le_of_eq hc.1; have htZ3 := Nat.le_of_eq hc.1.symm; clear hz hc)
          refine (HNEXT.out 4 (by decide) (by decide) _ HNX.out).mono ?_
          rintro e X17 ⟨r12, rfl, r120, r121, hN, hC⟩
          replace HNX := Lib.hid hN
          replace HZ := Lib.hid ((hC.2.1 _ (by omega)).trans HZ.out)
          replace HS := Lib.hid ((hC.2.1 _ (by omega)).trans HS.out)
          replace HO0 := Lib.hid (prow_chg HO0.out hC (by omega))
          replace HR2 := Lib.hid (prow_chg HR2.out hC (by omega))
          replace HR3 := Lib.hid (prow_chg HR3.out hC (by omega))
          have hs17 := Nat.le_of_eq hC.1
          have ht17 := Nat.le_of_eq hC.1.symm
          clear hN hC
          have hm3 : V2.heap.size ≤ X17.heap.size := by omega
          go_wp2_with fail
          go_loopw [5, 6, 102] (fun x y i wr => ∃ (j : Nat) (l : List (Int × Int)) (X Y : Int) (v : Value), i = .int .i64 j ∧ (j : Int) ≤ r12 ∧ x = .int .i64 X ∧ y = .int .i64 Y ∧ Hid (l.length = j + 1) ∧ Hid (Pl l 1 90 0 765 0 true X Y) ∧ Hid (PRow wr (V2.heap.size) v l) ∧ Hid (wr.heap[(w.heap.size + 1 + 1 + 1)]? = some (.cells #[.int .i64 (1 + r0), .int .i64 (100 + 390 * r1), .int .i64 (10 + 7 * r2), .int .i64 (10 + 1900 * r3), v1, v2, v, .int .i64 r4, .int .i64 r5, .int .i64 (2 * r6), .int .i64 (4 * r7)] 24 (0, 0))) ∧ Hid (wr.heap[w.heap.size]? = some (.cells #[.int .i64 0, .int .i64 0, .int .i64 0, .int .i64 0, .slice none 0 0, .slice none 0 0, .slice none 0 0, .int .i64 0, .int .i64 0, .int .i64 0, .int .i64 0] 24 (0, 0))) ∧ Hid (NxIn w p k cap (w.heap.size + 1 + 1) (w.heap.size + 1) wr) ∧ (V2.heap.size) ≤ wr.heap.size ∧ Hid (PRow wr (w.heap.size + 1 + 1 + 1 + 1) v1 l1) ∧ Hid (PRow wr (V1.heap.size) v2 l2)) (fun _ _ i _ => (r12).toNat - (intOf i).toNat)
          case atStart => exact ⟨0, [(0, 0)], 0, 0, _, rfl, by omega, rfl, rfl, rfl, Pl.one (by omega) (by omega), HR3.out, HS.out, HZ.out, HNX.out, by omega, HO0.out, HR2.out⟩
          case round =>
            clear HNX HZ HS HO0 HR2 HR3
            obtain ⟨j, l, X, Y, v, rfl, hj, rfl, rfl, hlen, hpl, hrow, hs, hz, hnx, hmw, ho0, ho1⟩ := hrel
            have HLEN := Lib.hid hlen.out
            have HPL := Lib.hid hpl.out
            have HR := Lib.hid hrow.out
            have HS := Lib.hid hs.out
            have HZ := Lib.hid hz.out
            have HNX := Lib.hid hnx.out
            have HO0 := Lib.hid ho0.out
            have HO1 := Lib.hid ho1.out
            have xb0 := hpl.out.x_low (by decide)
            have xb := hpl.out.x_bd
            rw [hlen.out] at xb
            simp only [Nat.add_sub_cancel] at xb
            obtain ⟨xb1, xb2, xb3⟩ := xb
            clear hlen hpl hrow hs hz hnx ho0 ho1
            by_cases hlt : (j : Int) < r12
            · skip
              go_wp2_with fail
              refine (HNEXT.out 90 (by decide) (by decide) _ HNX.out).mono ?_
              rintro e X18 ⟨a1, rfl, a10, a11, hN, hC⟩
              replace HNX := Lib.hid hN
              replace HZ := Lib.hid ((hC.2.1 _ (by omega)).trans HZ.out)
              replace HS := Lib.hid ((hC.2.1 _ (by omega)).trans HS.out)
              replace HR := Lib.hid (prow_chg HR.out hC (by omega))
              replace HO0 := Lib.hid (prow_chg HO0.out hC (by omega))
              replace HO1 := Lib.hid (prow_chg HO1.out hC (by omega))
              have hs18 := Nat.le_of_eq hC.1
              have ht18 := Nat.le_of_eq hC.1.symm
              clear hN hC
              go_wp2_with fail
              refine (HNEXT.out 256 (by decide) (by decide) _ HNX.out).mono ?_
              rintro e X19 ⟨a2, rfl, a20, a21, hN, hC⟩
              replace HNX := Lib.hid hN
              replace HZ := Lib.hid ((hC.2.1 _ (by omega)).trans HZ.out)
              replace HS := Lib.hid ((hC.2.1 _ (by omega)).trans HS.out)
              replace HR := Lib.hid (prow_chg HR.out hC (by omega))
              replace HO0 := Lib.hid (prow_chg HO0.out hC (by omega))
              replace HO1 := Lib.hid (prow_chg HO1.out hC (by omega))
              have hs19 := Nat.le_of_eq hC.1
              have ht19 := Nat.le_of_eq hC.1.symm
              clear hN hC
              have cS := (cell_of_block HS.out 6).trans rfl
              simp only [List.getElem?_toArray, List.getElem?_cons_zero, List.getElem?_cons_succ] at cS
              have hbT := (Below.refl X19.heap.size X19).alloc (Nat.le_refl _) (.cells #[.int .i64 (X + 1 + a1), .int .i64 (Y + 3 * a2)] 30)
              have hnb := block_new X19 (.cells #[.int .i64 (X + 1 + a1), .int .i64 (Y + 3 * a2)] 30)
              replace HNX := Lib.hid (HNX.out.later hbT)
              replace HZ := Lib.hid ((hbT.block _ (lt_of_block HZ.out)).trans HZ.out)
              replace HS := Lib.hid ((hbT.block _ (lt_of_block HS.out)).trans HS.out)
              replace HR := Lib.hid (row_later HR.out hbT)
              replace HO0 := Lib.hid (row_later HO0.out hbT)
              replace HO1 := Lib.hid (row_later HO1.out hbT)
              have hbTs := hbT.size
              clear hbT
              have hmx : l.length + 1 ≤ maxLen := by rw [HLEN.out]; simp only [maxLen]; omega
              have hby : (l.length + 1) * 16 ≤ 140737488355328 := by rw [HLEN.out]; omega
              have hltW := lt_of_block HS.out
              go_wp2_with (at_builtin; refine Hid.out ?_)
              refine Lib.hid ?_
              generalize X19.alloc (.cells #[.int .i64 (X + 1 + a1), .int .i64 (Y + 3 * a2)] 30) = Y3 at *
              refine wpList_append_own _ rfl (.tmp 115) (.tmp 119) 22 rfl (V2.heap.size) 30 i0 (.agg #[.int .i64 0, .int .i64 0]) 2 16 und22 hi hz0 hz1 hz2 rfl (by decide) v l.length (flatP l) rfl HR.out ⟨X19.heap.size, 0, none⟩ 1 1 [.int .i64 (X + 1 + a1), .int .i64 (Y + 3 * a2)] rfl rfl (World.news_of_block hnb) (by simp [Value.oneCell']) hmx hby (by omega) ?_
              intro v2 Zg hown hgrow _
              obtain ⟨g2, cap2, rfl⟩ := ownsRow_succ hown
              have zb := (Below.refl (V2.heap.size) Y3).grown hgrow (by omega) (pown_base HR.out)
              have HRN := Lib.hid (show PRow Zg (V2.heap.size) (.slice (some ⟨g2, 0, none⟩) (l.length + 1) cap2) (l ++ [(X + 1 + a1, Y + 3 * a2)]) from by simpa [PRow, flatP_snoc] using hown)
              replace HNX := Lib.hid (HNX.out.keep (HNX.out.low.trans (zb.mono (by omega))) (zb.block _ (by omega)) (zb.block _ (by omega)))
              replace HZ := Lib.hid ((zb.block _ (by omega)).trans HZ.out)
              replace HS := Lib.hid ((zb.block _ (by omega)).trans HS.out)
              replace HO0 := Lib.hid (prow_grow HO0.out hgrow (pown_base HR.out) HOL0.out)
              replace HO1 := Lib.hid (prow_grow HO1.out hgrow (pown_base HR.out) HOL1.out)
              have hzs := zb.size
              clear hown hgrow zb cS HR
              clear hnb
              go_wp2_with (refine list_store22 rfl rfl rfl rfl rfl HS.out (by simp) ?_; intro Zs hz hc; have HS2 := Lib.hid (show Zs.heap[(w.heap.size + 1 + 1 + 1)]? = some (.cells #[.int .i64 (1 + r0), .int .i64 (100 + 390 * r1), .int .i64 (10 + 7 * r2), .int .i64 (10 + 1900 * r3), v1, v2, .slice (some ⟨g2, 0, none⟩) (l.length + 1) cap2, .int .i64 r4, .int .i64 r5, .int .i64 (2 * r6), .int .i64 (4 * r7)] 24 (0, 0)) from hz); clear HS; have HS := HS2; clear HS2; replace HNX := Lib.hid (HNX.out.keep (HNX.out.low.trans (hc.below (by omega))) (hc.2.1 _ (by omega)) (hc.2.1 _ (by omega))); replace HZ := Lib.hid ((hc.2.1 _ (by omega)).trans HZ.out); replace HRN := Lib.hid (prow_chg HRN.out hc (by omega)); replace HO0 := Lib.hid (prow_chg HO0.out hc (by omega)); replace HO1 := Lib.hid (prow_chg HO1.out hc (by omega)); have hsZs := Nat.le_of_eq hc.1; have htZs := Nat.le_of_eq hc.1.symm; clear hz hc)
              go_roundw
              case rel => exact ⟨j + 1, l ++ [(X + 1 + a1, Y + 3 * a2)], X + 1 + a1, Y + 3 * a2, _, by go_num, by omega, by go_num, by go_num, by rw [List.length_append, HLEN.out]; rfl, HPL.out.snoc (by omega) (by rw [HLEN.out]; omega) (by omega) (by rw [HLEN.out]; omega) (by first | (simp; omega) | simp | (show Y ≤ _; omega) | (show _ ≤ Y; omega)), HRN.out, HS.out, HZ.out, HNX.out, by omega, HO0.out, HO1.out⟩
              case measure => simp [intOf]; omega
            · have hjc : (j : Int) = r12 := by omega
              obtain ⟨V3, hV3⟩ : ∃ V3, V3 = wr := ⟨_, rfl⟩
              subst hV3
              obtain ⟨l3, hl3⟩ : ∃ l3, l3 = l := ⟨_, rfl⟩
              subst hl3
              obtain ⟨v3, hv3⟩ : ∃ v3, v3 = v := ⟨_, rfl⟩
              subst hv3
              obtain ⟨j3, hj3⟩ : ∃ j3, j3 = j := ⟨_, rfl⟩
              subst hj3
              have HPL3 := Lib.hid HPL.out
              have HLEN3 := Lib.hid HLEN.out
              have HR3 := Lib.hid HR.out
              have hjc3 := hjc
              have hmw3 := hmw
              have hltV := lt_of_block HS.out
              clear HPL HLEN HR hjc hmw hlt hj xb0 xb1 xb2 xb3
              have yb := HPL3.out.x_bd
              rw [HLEN3.out] at yb
              simp only [Nat.add_sub_cancel] at yb
              have yb1 := yb.2.1
              have yb2 := yb.2.2
              clear yb
              have hmx : l3.length + 1 ≤ maxLen := by rw [HLEN3.out]; simp only [maxLen]; omega
              have hby : (l3.length + 1) * 16 ≤ 140737488355328 := by rw [HLEN3.out]; omega
              have hM12 : w.heap.size + 1 + 1 + 1 + 1 ≤ V1.heap.size := hmw1
              have hM23 : V1.heap.size ≤ V2.heap.size := hmw2
              have eg73 : ∀ args w, (callFunc 73 args).run Tryd.prog w = .ok (.enter 73 args) w := Go.Proofs.enters_of Tryd.func73 (by kernel_rfl) rfl
              have HR24 := Lib.hid (show R24 w p k cap w.heap.size (w.heap.size + 1 + 1) (w.heap.size + 1) (w.heap.size + 1 + 1 + 1) (w.heap.size + 1 + 1 + 1 + 1) V1.heap.size V2.heap.size (.cells #[.int .i64 0, .int .i64 0, .int .i64 0, .int .i64 0, .slice none 0 0, .slice none 0 0, .slice none 0 0, .int .i64 0, .int .i64 0, .int .i64 0, .int .i64 0] 24 (0, 0)) (fun v => #[.int .i64 (1 + r0), .int .i64 (100 + 390 * r1), .int .i64 (10 + 7 * r2), .int .i64 (10 + 1900 * r3), v1, v2, v, .int .i64 r4, .int .i64 r5, .int .i64 (2 * r6), .int .i64 (4 * r7)]) v1 v2 v3 l1 l2 l3 Y (fun _ => false) (fun _ => undef) V3 from ⟨HNX.out, HZ.out, HO0.out, HO1.out, fun _ => HS.out, fun _ => HR3.out, hmw3, fun e => (by cases e), fun e => (by cases e), fun e => (by cases e), fun e => (by cases e), fun e => (by cases e), fun e => (by cases e), fun e => (by cases e), fun e => (by cases e), fun e => (by cases e), fun e => (by cases e), fun e => (by cases e), fun e => (by cases e), fun e => (by cases e), fun e => (by cases e)⟩)
              go_wp2_with fail
              refine wp_region_all [123, 124, 125, 126, 127, 128, 129, 130, 131, 132, 133, 1000] (R24 w p k cap w.heap.size (w.heap.size + 1 + 1) (w.heap.size + 1) (w.heap.size + 1 + 1 + 1) (w.heap.size + 1 + 1 + 1 + 1) V1.heap.size V2.heap.size (.cells #[.int .i64 0, .int .i64 0, .int .i64 0, .int .i64 0, .slice none 0 0, .slice none 0 0, .slice none 0 0, .int .i64 0, .int .i64 0, .int .i64 0, .int .i64 0] 24 (0, 0)) (fun v => #[.int .i64 (1 + r0), .int .i64 (100 + 390 * r1), .int .i64 (10 + 7 * r2), .int .i64 (10 + 1900 * r3), v1, v2, v, .int .i64 r4, .int .i64 r5, .int .i64 (2 * r6), .int .i64 (4 * r7)]) v1 v2 v3 l1 l2 l3 Y) (by kernel_rfl) (by kernel_rfl) (fun s hs h => by simp at hs ⊢; omega) (by simp) (HR24.out.later ⟨rfl, rfl, rfl, Nat.le_refl _, fun _ _ => rfl⟩) ?val ?fin
              case val =>
                clear HNX HZ HO0 HO1 HS HR3
                intro j
                match j with
                | 0 => intro o L V ho hL hd a' W hX hfr hdp; obtain rfl := Option.some.inj ho; exact opx_of (op_fa24 rfl (hfr 4 (by decide))) fun W' hb => (hX.later hb).set0 rfl
                | 1 =>
                  intro o L V ho hL hd a' W hX hfr hdp; obtain rfl := Option.some.inj ho
                  have h11 : L 11 = false := by
                    cases h11 : L 11 with
                    | false => rfl
                    | true => have e := hX.dp9 (hX.dp11 h11); rw [hL] at e; cases e
                  exact opx_of (op_load22 rfl ((hdp 0 123 (by decide) rfl (by kernel_rfl)).trans (hX.f0 (hd 0 (by kernel_rfl)))) ((cell_of_block (hX.hs h11) 6).trans rfl)) fun W' hb => (hX.later hb).set1 rfl
                | 2 => intro o L V ho hL hd a' W hX hfr hdp; obtain rfl := Option.some.inj ho; exact opx_of (op_move rfl (hfr 6 (by decide))) fun W' hb => (hX.later hb).set2 rfl
                | 3 => intro o L V ho hL hd a' W hX hfr hdp; obtain rfl := Option.some.inj ho; exact opx_of (op_move rfl (hfr 3 (by decide))) fun W' hb => (hX.later hb).set3 rfl
                | 4 =>
                  intro o L V ho hL hd a' W hX hfr hdp; obtain rfl := Option.some.inj ho
                  refine opx_callk rfl ((hdp 3 126 (by decide) rfl (by kernel_rfl)).trans (hX.f3 (hd 3 (by kernel_rfl)))) eg73 ((HNEXT.out 256 (by decide) (by decide) _ hX.nx).mono ?_)
                  rintro e W' ⟨r, rfl, h0, h1, hN, hC⟩
                  exact ⟨_, rfl, (hX.chg hN hC (by omega) (by omega) (by omega) (by omega) (by omega)).set4 ⟨r, rfl, h0, h1⟩⟩
                | 5 =>
                  intro o L V ho hL hd a' W hX hfr hdp; obtain rfl := Option.some.inj ho
                  obtain ⟨y, e, h0, h1⟩ := (hX.f4 (hd 4 (by kernel_rfl)))
                  exact opx_of (op_mulc rfl ((hdp 4 127 (by decide) rfl (by kernel_rfl)).trans e) (by omega)) fun W' hb => (hX.later hb).set5 ⟨4 * y, rfl, by omega, by omega⟩
                | 6 =>
                  intro o L V ho hL hd a' W hX hfr hdp; obtain rfl := Option.some.inj ho
                  obtain ⟨y, e, h0, h1⟩ := (hX.f5 (hd 5 (by kernel_rfl)))
                  exact opx_of (op_addt rfl ((hdp 2 125 (by decide) rfl (by kernel_rfl)).trans (hX.f2 (hd 2 (by kernel_rfl)))) ((hdp 5 128 (by decide) rfl (by kernel_rfl)).trans e) (by omega)) fun W' hb => (hX.later hb).set6 ⟨Y + y, rfl, by omega, by omega⟩
                | 7 =>
                  intro o L V ho hL hd a' W hX hfr hdp; obtain rfl := Option.some.inj ho
                  obtain ⟨y, e, hy⟩ := (hX.f6 (hd 6 (by kernel_rfl)))
                  exact opx_b30 rfl ((hdp 6 129 (by decide) rfl (by kernel_rfl)).trans e) (hX.set7 ⟨y, rfl, hy⟩)
                | 8 =>
                  intro o L V ho hL hd a' W hX hfr hdp; obtain rfl := Option.some.inj ho
                  obtain ⟨y, e, hy⟩ := (hX.f7 (hd 7 (by kernel_rfl)))
                  exact opx_bs22 rfl ((hdp 7 130 (by decide) rfl (by kernel_rfl)).trans e) ((hX.later ((Below.refl _ _).alloc (Nat.le_refl _) _)).set8 ⟨W.heap.size, y, rfl, hX.sz, block_new W _, hy⟩)
                | 9 =>
                  intro o L V ho hL hd a' W hX hfr hdp; obtain rfl := Option.some.inj ho
                  obtain ⟨g, y, e, hg, hb, hy⟩ := hX.f8 (hd 8 (by kernel_rfl)) hL
                  refine wp_append_own _ (.tmp 124) (.tmp 131) 22 rfl V2.heap.size 30 i0 (.agg #[.int .i64 0, .int .i64 0]) 2 16 und22 hi hz0 hz1 hz2 rfl (by decide) v3 l3.length (flatP l3) ((hdp 1 124 (by decide) rfl (by kernel_rfl)).trans (hX.f1 (hd 1 (by kernel_rfl)))) (hX.hr hL) ⟨g, 0, none⟩ 1 1 [.int .i64 400, .int .i64 y] ((hdp 8 131 (by decide) rfl (by kernel_rfl)).trans e) rfl (World.news_of_block hb) (by simp [Value.oneCell']) hmx hby hX.sz ?_
                  intro v' W' hown hgrow _
                  exact ⟨v', rfl, hX.app hgrow (by simpa [PRow, flatP_snoc] using hown) hy hL (hd 1 (by kernel_rfl)) (by omega) (by omega) (by omega) (by omega) (by omega) HOL0.out HOL1.out⟩
                | 10 => intro o L V ho hL hd a' W hX hfr hdp; obtain rfl := Option.some.inj ho; exact opx_of (op_fa24 rfl (hfr 4 (by decide))) fun W' hb => (hX.later hb).set10 rfl
                | 11 =>
                  intro o L V ho hL hd a' W hX hfr hdp; obtain rfl := Option.some.inj ho
                  obtain ⟨y, hr, hy⟩ := (hX.f9 (hd 9 (by kernel_rfl)))
                  obtain ⟨g2, cap2, e2⟩ := ownsRow_succ (k := l3.length) (by simpa [PRow] using hr)
                  refine opx_store22 rfl rfl ((hdp 10 133 (by decide) rfl (by kernel_rfl)).trans (hX.f10 (hd 10 (by kernel_rfl)))) ((hdp 9 132 (by decide) rfl (by kernel_rfl)).trans e2) (hX.hs hL) (by simp) ?_
                  intro W' hb hc
                  exact hX.sto hb hc (e2 ▸ hr) hy (hd 9 (by kernel_rfl)) (by omega) (by omega) (by omega) (by omega) (by omega) (by omega) (by omega)
                | j + 12 => intro o L V ho; simp at ho
              case fin =>
                intro Z L V hLL hX
                obtain ⟨v, y, hS, hr, hy⟩ := hX.f11 (hLL 11 (by simp))
                obtain ⟨g1, c1, rfl⟩ := ownsRow_succ (k := j1) (by have h := hX.o1; simp only [PRow, HLEN1.out] at h; exact h)
                obtain ⟨g2, c2, rfl⟩ := ownsRow_succ (k := j2) (by have h := hX.o2; simp only [PRow, HLEN2.out] at h; exact h)
                obtain ⟨g3, c3, rfl⟩ := ownsRow_succ (k := l3.length) (by simpa [PRow] using hr)
                have HS9 := Lib.hid hS
                have HR9 := Lib.hid hr
                have H19 := Lib.hid hX.o1
                have H29 := Lib.hid hX.o2
                have HZ9 := Lib.hid hX.z
                have HB9 := Lib.hid hX.nx.low
                have HY9 := Lib.hid hy
                simp only [fill, Act.put, List.setIfInBounds_toArray, List.set_cons_zero, List.set_cons_succ, List.set_nil, Nat.reduceAdd]
                clear hX hLL hS hr hy HNX HZ HO0 HO1 HS HR3 HR24 HNEXT
                generalize V 0 = z0
                generalize V 1 = z1
                generalize V 2 = z2
                generalize V 3 = z3
                generalize V 4 = z4
                generalize V 5 = z5
                generalize V 6 = z6
                generalize V 7 = z7
                generalize V 8 = z8
                generalize V 9 = z9
                generalize V 10 = z10
                generalize V 11 = z11
                obtain ⟨k0, k1, k2, k3, k4, k5, k6, k7, k8, k9, k10⟩ := cells11 HS9.out
                go_wp2_with (refine list_store24 rfl rfl rfl rfl rfl HZ9.out ?_; intro ZZ hz hc; have HZZ := Lib.hid hz; have HCC := Lib.hid hc; obtain ⟨m0, m1, m2, m3, m4, m5, m6, m7, m8, m9, m10⟩ := cells11 hz; clear hz hc)
                have hl1 := HLEN1.out
                have hl2 := HLEN2.out
                have hl3 := HLEN3.out
                have hl4 : (l3 ++ [(400, y)]).length = l3.length + 1 := by simp
                have hp1 := prow_chg H19.out HCC.out (by omega)
                have hc1 := prow_cap hp1
                have hp2 := prow_chg H29.out HCC.out (by omega)
                have hc2 := prow_cap hp2
                have hp3 := prow_chg HR9.out HCC.out (by omega)
                have hc3 := prow_cap hp3
                refine bodyPost_ret (v := .agg (shipA ({ cls := 1 + r0, pow := 100 + 390 * r1, dra := 10 + 7 * r2, ton := 10 + 1900 * r3, th := cvOf l1, wa := cvOf l2, ic := cvOf (l3 ++ [(400, y)]), slow := r4, brash := r5, ridge := 2 * r6, press := 4 * r7 } : Sh) (⟨some ⟨g1, 0, none⟩, some ⟨g2, 0, none⟩, some ⟨g3, 0, none⟩, c1, c2, c3⟩ : Mem3))) ?_ rfl ⟨({ cls := 1 + r0, pow := 100 + 390 * r1, dra := 10 + 7 * r2, ton := 10 + 1900 * r3, th := cvOf l1, wa := cvOf l2, ic := cvOf (l3 ++ [(400, y)]), slow := r4, brash := r5, ridge := 2 * r6, press := 4 * r7 } : Sh), (⟨some ⟨g1, 0, none⟩, some ⟨g2, 0, none⟩, some ⟨g3, 0, none⟩, c1, c2, c3⟩ : Mem3), rfl, made_good HPL1.out HPL2.out HPL3.out (by omega) (by omega) (by omega) (by omega) (by omega) (by omega) (by omega) (by omega) (by omega) (by omega) (by omega) (by omega) (by omega) HY9.out, ⟨show l1.length ≤ 7 by omega, by have := HPL1.out.high 0 (by omega); simpa using this⟩, ⟨hp1.pts, hp2.pts, hp3.pts, hc1, hc2, hc3, show l1.length ≤ 1000000 by omega, show l2.length ≤ 1000000 by omega, show (l3 ++ [(400, y)]).length ≤ 1000000 by omega⟩, HB9.out.trans (HCC.out.below (Nat.le_refl _))⟩
                simp [results, Tryd.results24, go_sem, m0, m1, m2, m3, m4, m5, m6, m7, m8, m9, m10, cvOf, hl1, hl2]
end Go.Proofs.YtcoiklolgilhaaaDoor
namespace Go.Proofs.YtcoiklolgilhaaaDoor
open Go.RowKit
set_option maxRecDepth 100000
theorem ptsL_more (c : Cv) (x y : Int) : ptsL (moreC c x y) = ptsL c ++ [(x, y)] := by
  unfold ptsL moreC
  simp only [List.range_succ, List.map_append, List.map_cons, List.map_nil]
  congr 1
  · refine List.map_congr_left fun i hi => ?_
    have := List.mem_range.1 hi
    rw [if_pos this, if_pos this]
  · simp
section
variable {P : Program}
theorem wp_append_at {w : World} {o : Oper} {a : Act} {K : Act → World → Prop} {Q : Exit → Act → World → Prop} (s x : Operand) (t : TypeId)
    (ho : o.op = .call { callee := .builtin .append, args := #[s, x], argTypes := #[t, t] })
    (base : Nat) (e : TypeId) (i : TypeInfo) (z : Value) (size bytes : Nat) (ht : P.underlying t = some (.slice e)) (hi : P.info? e = some i) (hz : i.zero = some z)
    (hsize : i.size = size) (hby : i.bytes = bytes) (hzs : z.cells.size = size) (hsz : 0 < size)
    (v : Value) (n : Nat) (xs : List Value) (hs : a.eval s = v) (hown : w.ownsRow base e size v n xs)
    (ad : Addr) (m c : Nat) (news : List Value) (hx : a.eval x = .slice (some ad) m c) (hl : news.length = m * size) (hnews : ∀ j u, news[j]? = some u → w.cell? (ad.add j) = some u) (h1 : ∀ u ∈ news, u.oneCell' = true)
    (h63 : n + m ≤ maxLen) (hbytes : (n + m) * bytes ≤ 140737488355328) (hbase : base ≤ w.heap.size)
    (h : ∀ v' w', w'.ownsRow base e size v' (n + m) (xs ++ news) → w.grownBy w' v.ownBlock → (v'.ownBlock = v.ownBlock ∨ v'.ownBlock = some w.heap.size) → K (a.put o.dst v') w') : o.wp P a w K Q := by
  obtain ⟨v', w', hr, h2, h3, _, h5⟩ := run_append_own_at (P := P) w base t o.type e i z size bytes ht hi hz hsize hby hzs hsz v n xs hown ad m c news hl hnews h1 h63 hbytes hbase
  unfold Oper.wp execOp
  simp only [ho, resolve, invoke, builtin, Sem.run_bind, Sem.run_pure, Result.andThen_ok, List.map_toArray, List.map_cons, List.map_nil, hs, hx, hr]
  exact h v' w' h2 h3 h5
end
section
variable {Q : Exit → Act → World → Prop} {o : Oper} {a' : Act} {W : World}
theorem op_b30t {s t : Nat} {x y : Int} (hop : o.op = Op.build 30 #[(0, .tmp s), (1, .tmp t)]) (he : a'.eval (.tmp s) = .int .i64 x) (ht : a'.eval (.tmp t) = .int .i64 y) :
    o.wp Tryd.prog a' W (fun a'' W' => a'' = a'.put o.dst (.agg #[.int .i64 x, .int .i64 y]) ∧ Below W.heap.size W W') Q := by
  have hr := Below.refl W.heap.size W
  have he' : a'.tmps[s]?.getD undef = .int .i64 x := by simpa [Act.eval] using he
  have ht' : a'.tmps[t]?.getD undef = .int .i64 y := by simpa [Act.eval] using ht
  unfold Oper.wp execOp
  rw [hop]
  simp [go_sem, he', ht', hr]
end
section
variable {P : Program} {Q : Exit → Act → World → Prop}
/-- as wp_region_fi; and what has run has had all run that it waits for -/
theorem wp_region_fic {id : Nat} {a : Act} {w : World} {l : List Oper} (slots : List Nat) (F : Nat → Value → Prop) (I : (Nat → Bool) → (Nat → Value) → World → Prop)
    (hm : P.follows .mixedOrders = true) (hB : allSB l.toArray slots = true) (hsz : ∀ s ∈ slots, s < 1000 → s < a.tmps.size) (hts : a.tmps.size ≤ 1000)
    (h0 : I (fun _ => false) (fun _ => undef) { w with drawn := w.drawn + 1 })
    (hval : ∀ i o L V, l[i]? = some o → L i = false → (∀ j, Region.waitsFor .any l.toArray i j = true → L j = true) → (∀ i j, L i = true → Region.waitsFor .any l.toArray i j = true → L j = true) → ∀ a' W, I L V W → (∀ t, t ∉ slots → a'.eval (.tmp t) = a.eval (.tmp t)) →
      (∀ j s, s < 1000 → slots[j]? = some s → Region.waitsFor .any l.toArray i j = true → a'.eval (.tmp s) = V j ∧ F j (V j)) →
      o.wp P a' W (fun a'' W' => ∃ x, a'' = a'.put o.dst x ∧ F i x ∧ I (fun j => if j = i then true else L j) (fun j => if j = i then x else V j) W') Q)
    (hend : ∀ (W : World) L V, (∀ i, i < l.length → L i = true) → (∀ i, i < l.length → F i (V i)) → I L V W → Q .normal (fill slots 0 (fun i => some (V i)) a) W) :
    (Code.region id l.toArray true).wp P Q a w := by
  refine wp_region_fi slots F (fun L V W => (∀ i j, L i = true → Region.waitsFor .any l.toArray i j = true → L j = true) ∧ I L V W) hm hB hsz hts ⟨(fun i j h => by cases h), h0⟩ ?_ (fun W L V hL hF hI => hend W L V hL hF hI.2)
  rintro i o L V ho hL hd a' W ⟨hcl, hI⟩ hfr hdp
  refine Oper.wp_mono ?_ (hval i o L V ho hL hd hcl a' W hI hfr hdp)
  rintro a'' W' ⟨x, rfl, hx, hI'⟩
  refine ⟨x, rfl, hx, fun i' j h hw => ?_, hI'⟩
  by_cases ej : j = i
  · simp [ej]
  · simp only [if_neg ej]
    by_cases ei : i' = i
    · subst ei; exact hd j hw
    · simp only [if_neg ei] at h; exact hcl i' j h hw
end
structure W11 (w1 : World) (p : Option Addr) (k cap Bi Bl B14 M M9 : Nat) (s : Sh) (v4 v5 v6 : Value) (c4 c5 c6 : Cv) (X Y : Int) (L : Nat → Bool) (V : Nat → Value) (W : World) : Prop where
  nx : NxIn w1 p k cap Bi Bl W
  r5 : PRow W M v5 (ptsL c5)
  r6 : PRow W M v6 (ptsL c6)
  m : M9 ≤ W.heap.size
  bt : W.heap[B14]? = some (.cells #[.int .i64 s.cls, .int .i64 s.pow, .int .i64 s.dra, .int .i64 s.ton, if L 22 = true then V 20 else v4, v5, v6, .int .i64 s.slow, .int .i64 s.brash, .int .i64 s.ridge, .int .i64 s.press] 24 (0, 0))
  r4 : L 20 = false → PRow W M v4 (ptsL c4)
  a : L 19 = true → L 20 = false → ∃ (gb : Nat) (r : Int), V 19 = .slice (some ⟨gb, 0, none⟩) 1 1 ∧ M9 ≤ gb ∧ W.heap[gb]? = some (.cells #[.int .i64 (X + 1 + r), .int .i64 Y] 30 (0, 0)) ∧ 0 ≤ r ∧ r < 10
  n : L 20 = true → ∃ r : Int, 0 ≤ r ∧ r < 10 ∧ PRow W M (V 20) (ptsL (moreC c4 (X + 1 + r) Y)) ∧ ((V 20).ownBlock = v4.ownBlock ∨ ∃ j, (V 20).ownBlock = some j ∧ M9 ≤ j)
section
variable {w1 : World} {p : Option Addr} {k cap Bi Bl B14 M M9 : Nat} {s : Sh} {v4 v5 v6 : Value} {c4 c5 c6 : Cv} {X Y : Int} {L : Nat → Bool} {V : Nat → Value} {W W' : World}
theorem W11.later (h : W11 w1 p k cap Bi Bl B14 M M9 s v4 v5 v6 c4 c5 c6 X Y L V W) (hb : Below W.heap.size W W') : W11 w1 p k cap Bi Bl B14 M M9 s v4 v5 v6 c4 c5 c6 X Y L V W' := by
  refine ⟨h.nx.later hb, row_later h.r5 hb, row_later h.r6 hb, Nat.le_trans h.m hb.size, (hb.block _ (lt_of_block h.bt)).trans h.bt, fun e => row_later (h.r4 e) hb, fun e e' => ?_, fun e => ?_⟩
  · obtain ⟨gb, r, h1, h2, h3, h4⟩ := h.a e e'
    exact ⟨gb, r, h1, h2, (hb.block _ (lt_of_block h3)).trans h3, h4⟩
  · obtain ⟨r, h1, h2, h3, h4⟩ := h.n e
    exact ⟨r, h1, h2, row_later h3 hb, h4⟩
theorem W11.set (h : W11 w1 p k cap Bi Bl B14 M M9 s v4 v5 v6 c4 c5 c6 X Y L V W) (i : Nat) (hi : i ∉ [19, 20, 22]) (x : Value) : W11 w1 p k cap Bi Bl B14 M M9 s v4 v5 v6 c4 c5 c6 X Y (fun j => if j = i then true else L j) (fun j => if j = i then x else V j) W := by
  simp only [List.mem_cons, List.not_mem_nil, or_false, not_or] at hi
  obtain ⟨h19, h20, h22⟩ := hi
  refine ⟨h.nx, h.r5, h.r6, h.m, ?_, ?_, ?_, ?_⟩
  · simp only [if_neg (Ne.symm h20), if_neg (Ne.symm h22)]; exact h.bt
  · simp only [if_neg (Ne.symm h20)]; exact h.r4
  · simp only [if_neg (Ne.symm h19), if_neg (Ne.symm h20)]; exact h.a
  · simp only [if_neg (Ne.symm h20)]; exact h.n
theorem W11.next (h : W11 w1 p k cap Bi Bl B14 M M9 s v4 v5 v6 c4 c5 c6 X Y L V W) (d : Ds Bi Bl B14 v4 v5 v6) (hN : NxIn w1 p k cap Bi Bl W') (hC : Chg Bi W W') (hne : B14 ≠ Bi) (hm : Bi < M9) : W11 w1 p k cap Bi Bl B14 M M9 s v4 v5 v6 c4 c5 c6 X Y L V W' := by
  refine ⟨hN, prow_sto h.r5 hC (fun e => (d.f5 _ e).1 rfl), prow_sto h.r6 hC (fun e => (d.f6 _ e).1 rfl), Nat.le_trans h.m (Nat.le_of_eq hC.1.symm), (hC.2.1 _ hne).trans h.bt, fun e => prow_sto (h.r4 e) hC (fun e => (d.f4 _ e).1 rfl), fun e e' => ?_, fun e => ?_⟩
  · obtain ⟨gb, r, h1, h2, h3, h4⟩ := h.a e e'
    exact ⟨gb, r, h1, h2, (hC.2.1 _ (by omega)).trans h3, h4⟩
  · obtain ⟨r, h1, h2, h3, h4⟩ := h.n e
    refine ⟨r, h1, h2, prow_sto h3 hC (fun e2 => ?_), h4⟩
    rcases h4 with e4 | ⟨j, e4, h5⟩
    · exact (d.f4 _ (e4 ▸ e2)).1 rfl
    · rw [e4] at e2; have := Option.some.inj e2; omega
end
def bF11 (B g n cp l : Nat) (X Y : Int) (fv : Value) : Nat → Value → Prop
  | 0, v => v = .pointer (some ⟨B, 4, none⟩)
  | 1, v => v = .slice (some ⟨g, 0, none⟩) n cp
  | 2, v => v = .pointer (some ⟨B, 4, none⟩)
  | 3, v => v = .slice (some ⟨g, 0, none⟩) n cp
  | 4, v => v = .int .i64 (l : Int)
  | 5, v => v = .pointer (some ⟨g, l * 2, none⟩)
  | 6, v => v = .pointer (some ⟨g, l * 2 + 0, none⟩)
  | 7, v => v = .int .i64 X
  | 8, v => v = .int .i64 (X + 1)
  | 9, v => v = fv
  | 10, v => ∃ r : Int, v = .int .i64 r ∧ 0 ≤ r ∧ r < 10
  | 11, v => ∃ r : Int, v = .int .i64 (X + 1 + r) ∧ 0 ≤ r ∧ r < 10
  | 12, v => v = .pointer (some ⟨B, 4, none⟩)
  | 13, v => v = .slice (some ⟨g, 0, none⟩) n cp
  | 14, v => v = .int .i64 (l : Int)
  | 15, v => v = .pointer (some ⟨g, l * 2, none⟩)
  | 16, v => v = .pointer (some ⟨g, l * 2 + 1, none⟩)
  | 17, v => v = .int .i64 Y
  | 18, v => ∃ r : Int, v = .agg #[.int .i64 (X + 1 + r), .int .i64 Y] ∧ 0 ≤ r ∧ r < 10
  | 21, v => v = .pointer (some ⟨B, 4, none⟩)
  | _, _ => True

set_option maxHeartbeats 32000000 in
theorem Better_law (p : Option Addr) (k cap : Nat) (hk : k ≤ 9223372036854775807) (p2 : Option Addr) (k2 cap2 : Nat) (hk2 : k2 ≤ 9223372036854775807) (p3 : Option Addr) (k3 cap3 : Nat) (hk3 : k3 ≤ 9223372036854775807) (p4 : Option Addr) (k4 cap4 : Nat) (hk4 : k4 ≤ 9223372036854775807) (tk : Int) (ch : Bool) (w : World) (hl : Lim w) (hst : Str w) (hB : BytesIn w p k) (hB2 : BytesIn w p2 k2) (hB3 : BytesIn w p3 k3) (hB4 : BytesIn w p4 k4) (ht : 0 ≤ tk ∧ tk < 65536) :
    Calls Tryd.prog 7 #[.slice p k cap, .slice p2 k2 cap2, .slice p3 k3 cap3, .slice p4 k4 cap4, .int .u16 tk, .bool ch] w fun e w' => e = .returned (.bool true) ∧ Below w.heap.size w w' := by
  have HLM := Lib.hid hl
  have HST := Lib.hid hst
  have hpos := hl.pos
  have hpos1 := hst.pos
  have HM := Lib.hid (Made53_any p k cap hk w hB)
  have H2 := Lib.hid hB2
  have H3 := Lib.hid hB3
  have H4 := Lib.hid hB4
  clear hl hst hB hB2 hB3 hB4 hk
  go_enter Tryd.func7, Tryd.ntmps7
  go_wp2_with fail
  refine HM.out.mono ?_
  rintro e W1 ⟨s, m, rfl, hs, ⟨h7, h53⟩, hin, hbl⟩
  have HC := Lib.hid hs
  have g := good_of hs
  have HS := Lib.hid hin
  have HB := Lib.hid hbl
  have n1 := g.th.two
  have n2 := g.th.eight
  have n3 := g.wa.two
  have n4 := g.wa.eight
  have n5 := g.ic.two
  have n6 := g.ic.eight
  have HG := Lib.hid g
  clear hs hin hbl HM g
  have hba := (Below.refl W1.heap.size W1).alloc (Nat.le_refl _) (.cells #[.int .i64 0, .int .i64 0, .int .i64 0, .int .i64 0, .slice none 0 0, .slice none 0 0, .slice none 0 0, .int .i64 0, .int .i64 0, .int .i64 0, .int .i64 0] 24)
  have HZ := Lib.hid (block_new W1 (.cells #[.int .i64 0, .int .i64 0, .int .i64 0, .int .i64 0, .slice none 0 0, .slice none 0 0, .slice none 0 0, .int .i64 0, .int .i64 0, .int .i64 0, .int .i64 0] 24))
  go_wp2_with (refine list_store24 rfl rfl rfl rfl rfl HZ.out ?_; intro V1 hz hc; have hb := hba.trans (hc.below (Nat.le_refl _)); have HK1 := Lib.hid hz; replace HS := Lib.hid (HS.out.later hb); replace HB := Lib.hid (HB.out.trans (hb.mono HB.out.size)); clear hz hc hb hba HZ; obtain ⟨m0, m1, m2, m3, m4, m5, m6, m7, m8, m9, m10⟩ := cells11 HK1.out)
  refine (CopyShip_any s m HG.out V1 HS.out).mono ?_
  rintro e W2 ⟨m', rfl, r4, r5, r6, d1, d2, d3, hb⟩
  obtain ⟨g4, e4⟩ := prow_some r4 (by rw [ptsL_len]; omega)
  obtain ⟨g5, e5⟩ := prow_some r5 (by rw [ptsL_len]; omega)
  obtain ⟨g6, e6⟩ := prow_some r6 (by rw [ptsL_len]; omega)
  obtain ⟨_, _, _, q4, q5, q6⟩ := m'
  simp only at e4 e5 e6 r4 r5 r6 d1 d2 d3
  subst e4 e5 e6
  have l4 := pown_lt r4 g4 rfl
  have l5 := pown_lt r5 g5 rfl
  have l6 := pown_lt r6 g6 rfl
  have b4 := pown_base r4 g4 rfl
  have b5 := pown_base r5 g5 rfl
  have b6 := pown_base r6 g6 rfl
  have x1 : g4 ≠ g5 := fun h => d1 (by rw [h]; rfl)
  have x2 : g4 ≠ g6 := fun h => d2 (by rw [h]; rfl)
  have x3 : g5 ≠ g6 := fun h => d3 (by rw [h]; rfl)
  have HW2 := Lib.hid hb
  have HR4 := Lib.hid r4
  have HR5 := Lib.hid r5
  have HR6 := Lib.hid r6
  clear r4 r5 r6 d1 d2 d3 hb m0 m1 m2 m3 m4 m5 m6 m7 m8 m9 m10
  have hba := (Below.refl W2.heap.size W2).alloc (Nat.le_refl _) (.cells #[.int .i64 0, .int .i64 0, .int .i64 0, .int .i64 0, .slice none 0 0, .slice none 0 0, .slice none 0 0, .int .i64 0, .int .i64 0, .int .i64 0, .int .i64 0] 24)
  have HZ := Lib.hid (block_new W2 (.cells #[.int .i64 0, .int .i64 0, .int .i64 0, .int .i64 0, .slice none 0 0, .slice none 0 0, .slice none 0 0, .int .i64 0, .int .i64 0, .int .i64 0, .int .i64 0] 24))
  have hs12 := HW2.out.size
  go_wp2_with (refine list_store24 rfl rfl rfl rfl rfl HZ.out ?_; intro V2 hz hc; have hb := hba.trans (hc.below (Nat.le_refl _)); have HK2 := Lib.hid hz; have HR4' := Lib.hid (row_later HR4.out hb); have HR5' := Lib.hid (row_later HR5.out hb); have HR6' := Lib.hid (row_later HR6.out hb); have HL := Lib.hid (HW2.out.trans (hb.mono HW2.out.size)); clear hz hc hb hba HZ HR4 HR5 HR6 HW2)
  have ls2 := lt_of_block HK2.out
  refine (Drawn_at p2 k2 cap2 V2.heap.size V2 rfl).mono ?_
  rintro e V3 ⟨rfl, hA, hA', hAs, hb⟩
  have HD := Lib.hid (show Ds (V2.heap.size + 1) V2.heap.size W2.heap.size (.slice (some ⟨g4, 0, none⟩) s.th.n q4) (.slice (some ⟨g5, 0, none⟩) s.wa.n q5) (.slice (some ⟨g6, 0, none⟩) s.ic.n q6) from ⟨fun j h => by have hj : g4 = j := Option.some.inj (show some g4 = some j from h); subst hj; exact ⟨by omega, by omega, by omega, fun h => x1 (Option.some.inj h).symm, fun h => x2 (Option.some.inj h).symm⟩, fun j h => by have hj : g5 = j := Option.some.inj (show some g5 = some j from h); subst hj; exact ⟨by omega, by omega, by omega, fun h => x1 (Option.some.inj h), fun h => x3 (Option.some.inj h).symm⟩, fun j h => by have hj : g6 = j := Option.some.inj (show some g6 = some j from h); subst hj; exact ⟨by omega, by omega, by omega, fun h => x2 (Option.some.inj h), fun h => x3 (Option.some.inj h)⟩⟩)
  have HW := Lib.hid (show Bw V1 p2 k2 cap2 (V2.heap.size + 1) V2.heap.size W2.heap.size (V1.heap.size + 2) s s.slow s.brash s.ridge s.press (.slice (some ⟨g4, 0, none⟩) s.th.n q4) (.slice (some ⟨g5, 0, none⟩) s.wa.n q5) (.slice (some ⟨g6, 0, none⟩) s.ic.n q6) (modC s.th (fTh s.th.n) 0) (s.wa) (s.ic) V3 from ⟨⟨HL.out.trans (hb.mono HL.out.size), ⟨0, Nat.zero_le _, hA'⟩, hA⟩, (hb.block _ (lt_of_block HK2.out)).trans HK2.out, by rw [mod_zero]; exact row_later HR4'.out hb, row_later HR5'.out hb, row_later HR6'.out hb⟩)
  replace H2 := Lib.hid (H2.out.later HB.out)
  have HNX := Lib.hid (fun (n : Int) (hn : 1 ≤ n) (hn' : n ≤ 1000000) (W : World) (hW : NxIn V1 p2 k2 cap2 (V2.heap.size + 1) V2.heap.size W) => next_any V1 p2 k2 cap2 hk2 H2.out (V2.heap.size + 1) V2.heap.size (by omega) n hn hn' W hW)
  clear hA hA' hAs hb HK2 HR4' HR5' HR6' HL
  obtain ⟨c0, c1, c2, c3, c4, c5, c6, c7, c8, c9, c10⟩ := cells11 HW.out.bt
  go_wp2_with fail
  clear c0 c1 c2 c3 c4 c5 c6 c7 c8 c9 c10
  rename_i K hK
  have HKT := Lib.hid hK
  clear hK
  go_loopw [40] (fun i wr => ∃ j : Nat, i = .int .i64 j ∧ j ≤ s.th.n ∧ Hid (Bw V1 p2 k2 cap2 (V2.heap.size + 1) V2.heap.size W2.heap.size (V1.heap.size + 2) s s.slow s.brash s.ridge s.press (.slice (some ⟨g4, 0, none⟩) s.th.n q4) (.slice (some ⟨g5, 0, none⟩) s.wa.n q5) (.slice (some ⟨g6, 0, none⟩) s.ic.n q6) (modC s.th (fTh s.th.n) j) (s.wa) (s.ic) wr)) (fun i _ => s.th.n - (intOf i).toNat)
  case atStart => exact ⟨0, rfl, Nat.zero_le _, HW⟩
  case round =>
    obtain ⟨j, rfl, hj, hw0⟩ := hrel
    replace HW := Lib.hid hw0.out
    clear hw0
    by_cases hlt : j < s.th.n
    · have hjn : (j : Int) < (s.th.n : Int) := by omega
      have hj0 : (0 : Int) ≤ (j : Int) := by omega
      have y0 := HG.out.th.low j hlt
      have y1 := HG.out.th.high j hlt
      go_wp2_with fail
      refine wp_region_fi [43, 44, 45, 46, 47, 48, 49, 50, 51, 52, 53, 54, 55, 56, 57, 1000] (bF7 W2.heap.size g4 s.th.n q4 s.th j) (fun L _ W' => St 15 5 (fun b W'' => Bw V1 p2 k2 cap2 (V2.heap.size + 1) V2.heap.size W2.heap.size (V1.heap.size + 2) s s.slow s.brash s.ridge s.press (.slice (some ⟨g4, 0, none⟩) s.th.n q4) (.slice (some ⟨g5, 0, none⟩) s.wa.n q5) (.slice (some ⟨g6, 0, none⟩) s.ic.n q6) (modC s.th (fTh s.th.n) (jn b j)) (s.wa) (s.ic) W'') L W') (by kernel_rfl) (by kernel_rfl) ?sz ?ts ?z ?val ?fin
      case sz => intro s hs h; simp at hs ⊢; omega
      case ts => simp
      case z => exact ⟨(fun e => by cases e), HW.out.later (below_drawn wr)⟩
      case val =>
        intro jj
        match jj with
        | 0 => intro o L V ho hL hd a' W hX hfr hdp; obtain rfl := Option.some.inj ho; exact opx_of (op_fa24k rfl (hfr 14 (by decide)) (by decide)) fun W' hb => ⟨rfl, ((hX.up (hX.r.later hb)).set 0 (by decide))⟩
        | 1 => intro o L V ho hL hd a' W hX hfr hdp; obtain rfl := Option.some.inj ho; exact opx_of (op_load22 rfl (Dp (hdp 0 43 (by decide) rfl (by kernel_rfl)) id) ((cell_of_block hX.r.bt 4).trans rfl)) fun W' hb => ⟨rfl, ((hX.up (hX.r.later hb)).set 1 (by decide))⟩
        | 2 => intro o L V ho hL hd a' W hX hfr hdp; obtain rfl := Option.some.inj ho; exact opx_of (op_move rfl (hfr 16 (by decide))) fun W' hb => ⟨rfl, ((hX.up (hX.r.later hb)).set 2 (by decide))⟩
        | 3 => intro o L V ho hL hd a' W hX hfr hdp; obtain rfl := Option.some.inj ho; exact opx_of (op_idx22 hlt rfl (Dp (hdp 1 44 (by decide) rfl (by kernel_rfl)) id) (Dp (hdp 2 45 (by decide) rfl (by kernel_rfl)) id)) fun W' hb => ⟨rfl, ((hX.up (hX.r.later hb)).set 3 (by decide))⟩
        | 4 => intro o L V ho hL hd a' W hX hfr hdp; obtain rfl := Option.some.inj ho; exact opx_of (op_fa30 rfl (Dp (hdp 3 46 (by decide) rfl (by kernel_rfl)) id) (by decide)) fun W' hb => ⟨rfl, ((hX.up (hX.r.later hb)).set 4 (by decide))⟩
        | 5 =>
          intro o L V ho hL hd a' W hX hfr hdp; obtain rfl := Option.some.inj ho
          have hq := hX.off hL
          have hr := hX.r
          rw [hq] at hr
          exact opx_of (op_load3o rfl (Dp (hdp 4 47 (by decide) rfl (by kernel_rfl)) id) ((prow_cell hr.r4 hlt).2.trans (by simp [modC, jn]))) fun W' hb => ⟨rfl, ((hX.up (hX.r.later hb)).set 5 (by decide))⟩
        | 6 => intro o L V ho hL hd a' W hX hfr hdp; obtain rfl := Option.some.inj ho; exact opx_of (op_fa24k rfl (hfr 14 (by decide)) (by decide)) fun W' hb => ⟨rfl, ((hX.up (hX.r.later hb)).set 6 (by decide))⟩
        | 7 => intro o L V ho hL hd a' W hX hfr hdp; obtain rfl := Option.some.inj ho; exact opx_of (op_load22 rfl (Dp (hdp 6 49 (by decide) rfl (by kernel_rfl)) id) ((cell_of_block hX.r.bt 4).trans rfl)) fun W' hb => ⟨rfl, ((hX.up (hX.r.later hb)).set 7 (by decide))⟩
        | 8 => intro o L V ho hL hd a' W hX hfr hdp; obtain rfl := Option.some.inj ho; exact opx_of (op_len22 rfl (Dp (hdp 7 50 (by decide) rfl (by kernel_rfl)) id)) fun W' hb => ⟨rfl, ((hX.up (hX.r.later hb)).set 8 (by decide))⟩
        | 9 => intro o L V ho hL hd a' W hX hfr hdp; obtain rfl := Option.some.inj ho; exact opx_of (op_move rfl (hfr 16 (by decide))) fun W' hb => ⟨rfl, ((hX.up (hX.r.later hb)).set 9 (by decide))⟩
        | 10 => intro o L V ho hL hd a' W hX hfr hdp; obtain rfl := Option.some.inj ho; exact opx_of (op_subt rfl (Dp (hdp 8 51 (by decide) rfl (by kernel_rfl)) id) (Dp (hdp 9 52 (by decide) rfl (by kernel_rfl)) id) (by omega)) fun W' hb => ⟨rfl, ((hX.up (hX.r.later hb)).set 10 (by decide))⟩
        | 11 => intro o L V ho hL hd a' W hX hfr hdp; obtain rfl := Option.some.inj ho; exact opx_of (op_mulc rfl (Dp (hdp 10 53 (by decide) rfl (by kernel_rfl)) id) (by omega)) fun W' hb => ⟨rfl, ((hX.up (hX.r.later hb)).set 11 (by decide))⟩
        | 12 => intro o L V ho hL hd a' W hX hfr hdp; obtain rfl := Option.some.inj ho; exact opx_of (op_addt rfl (Dp (hdp 5 48 (by decide) rfl (by kernel_rfl)) id) (Dp (hdp 11 54 (by decide) rfl (by kernel_rfl)) id) (by omega)) fun W' hb => ⟨rfl, ((hX.up (hX.r.later hb)).set 12 (by decide))⟩
        | 13 => intro o L V ho hL hd a' W hX hfr hdp; obtain rfl := Option.some.inj ho; exact opx_of (op_idx22 hlt rfl (Dp (hdp 1 44 (by decide) rfl (by kernel_rfl)) id) (Dp (hdp 2 45 (by decide) rfl (by kernel_rfl)) id)) fun W' hb => ⟨rfl, ((hX.up (hX.r.later hb)).set 13 (by decide))⟩
        | 14 => intro o L V ho hL hd a' W hX hfr hdp; obtain rfl := Option.some.inj ho; exact opx_of (op_fa30 rfl (Dp (hdp 13 56 (by decide) rfl (by kernel_rfl)) id) (by decide)) fun W' hb => ⟨rfl, ((hX.up (hX.r.later hb)).set 14 (by decide))⟩
        | 15 =>
          intro o L V ho hL hd a' W hX hfr hdp; obtain rfl := Option.some.inj ho
          have hr := hX.r
          rw [hL] at hr
          obtain ⟨_, hMg, cs, hcs, hsz⟩ := prow_block hr.r4
          have hsz' : s.th.n * 2 ≤ cs.size := by rw [ptsL_len] at hsz; exact hsz
          exact opx_store3 rfl rfl (Dp (hdp 14 57 (by decide) rfl (by kernel_rfl)) id) (Dp (hdp 12 55 (by decide) rfl (by kernel_rfl)) id) hcs (by omega) fun W' hb' hc => ⟨trivial, St.fin (hd 5 (by kernel_rfl)) (Bw.sto4 (g := g4) hr HD.out rfl hc (by omega) (prow_set hr.r4 hlt (fun cs' t' h' => by rw [hcs] at h'; obtain ⟨rfl, rfl⟩ := (by simpa using h' : cs = cs' ∧ 30 = t'); exact hb')))⟩
        | j + 16 => intro o L V ho; simp at ho
      case fin =>
        intro X3 L V hL hF hI
        have hr := hI.r
        rw [hL 15 (by decide)] at hr
        have HW2 := Lib.hid (show Bw V1 p2 k2 cap2 (V2.heap.size + 1) V2.heap.size W2.heap.size (V1.heap.size + 2) s s.slow s.brash s.ridge s.press (.slice (some ⟨g4, 0, none⟩) s.th.n q4) (.slice (some ⟨g5, 0, none⟩) s.wa.n q5) (.slice (some ⟨g6, 0, none⟩) s.ic.n q6) (modC s.th (fTh s.th.n) (j + 1)) (s.wa) (s.ic) X3 from hr)
        clear hI hF hL hr HW
        simp only [fill, Act.put, List.setIfInBounds_toArray, List.set_cons_zero, List.set_cons_succ, List.set_nil, Nat.reduceAdd]
        generalize V 0 = z0, V 1 = z1, V 2 = z2, V 3 = z3, V 4 = z4, V 5 = z5, V 6 = z6, V 7 = z7, V 8 = z8, V 9 = z9, V 10 = z10, V 11 = z11, V 12 = z12, V 13 = z13, V 14 = z14, V 15 = z15
        clear V
        go_wp2_with fail
        refine ⟨⟨j + 1, by go_num, by omega, HW2⟩, by simp only [intOf]; omega⟩
    · obtain rfl : j = s.th.n := by omega
      go_wp2_with fail
      refine HKT.out _ _ ?_
      clear HKT
      obtain ⟨nl, hnl⟩ : ∃ nl, nl = s.th.n - 1 := ⟨_, rfl⟩
      have hnl1 : ((s.th.n : Int) - 1) = (nl : Int) := by omega
      have hltn : nl < s.th.n := by omega
      have hnlz : (0 : Int) ≤ (nl : Int) := by omega
      have hnlt : (nl : Int) < (s.th.n : Int) := by omega
      have HNL := Lib.hid hnl
      clear hnl
      obtain ⟨c0, c1, c2, c3, c4, c5, c6, c7, c8, c9, c10⟩ := cells11 HW.out.bt
      refine wp_seq_k ?_
      intro K hK
      have HKA := Lib.hid hK
      clear hK
      go_wp2_with fail
      try rw [hnl1]
      refine HKA.out _ _ ?_
      clear HKA
      have hxy := prow_cell HW.out.r4 hltn
      have hx : (modC s.th (fTh s.th.n) s.th.n).x nl = lastXP s.th := by rw [HNL.out]; rfl
      rw [hx] at hxy
      clear hnl1 hx
      have HY := Lib.hid hxy.2
      have hx1 := hxy.1
      have HXX := Lib.hid hxy.1
      clear hxy
      refine wp_seq_k ?_
      intro K hK
      have HKB := Lib.hid hK
      clear hK
      have htop := HG.out.top
      generalize hXd : lastXP s.th = X at *
      have hc8' : (s.th.n : Int) < 8 := by omega
      by_cases hcx : X < 240
      · go_wp2_with fail
        have hzw := lt_of_block HW.out.bt
        obtain ⟨iN, _, hiN⟩ := HW.out.nx.i
        have hzi := lt_of_block hiN
        clear hiN c0 c1 c2 c3 c4 c5 c6 c7 c8 c9 c10 hx1
        have gw5 := pown_lt HW.out.r5 g5 rfl
        have gw6 := pown_lt HW.out.r6 g6 rfl
        have gw4 := pown_lt HW.out.r4 g4 rfl
        obtain ⟨i0, hi, hz0, hz1, hz2⟩ := info_parts info30
        have HXM := Lib.hid (show (modC s.th (fTh s.th.n) s.th.n).x nl = X by rw [HNL.out, ← hXd]; rfl)
        have HR4 := Lib.hid HW.out.r4
        refine wp_region_fic [76, 77, 78, 79, 80, 81, 82, 83, 84, 85, 86, 87, 88, 89, 90, 91, 92, 93, 94, 95, 96, 97, 1000] (bF11 W2.heap.size g4 s.th.n q4 nl X ((modC s.th (fTh s.th.n) s.th.n).y nl) (.func (.func 73) #[] #[.pointer (some ⟨V2.heap.size + 1, 0, none⟩), .pointer (some ⟨V2.heap.size, 0, none⟩)])) (W11 V1 p2 k2 cap2 (V2.heap.size + 1) V2.heap.size W2.heap.size (V1.heap.size + 2) wr.heap.size s (.slice (some ⟨g4, 0, none⟩) s.th.n q4) (.slice (some ⟨g5, 0, none⟩) s.wa.n q5) (.slice (some ⟨g6, 0, none⟩) s.ic.n q6) (modC s.th (fTh s.th.n) s.th.n) s.wa s.ic X ((modC s.th (fTh s.th.n) s.th.n).y nl)) (by kernel_rfl) (by kernel_rfl) ?sz ?ts ?z ?val ?fin
        case sz => intro s hs h; simp at hs ⊢; omega
        case ts => simp
        case z => exact W11.later ⟨HW.out.nx, HW.out.r5, HW.out.r6, Nat.le_refl _, HW.out.bt, (fun _ => HW.out.r4), (fun e => by cases e), (fun e => by cases e)⟩ (below_drawn wr)
        case val =>
          intro jj
          match jj with
          | 0 => intro o L V ho hL hd hcl a' W hX hfr hdp; obtain rfl := Option.some.inj ho; exact opx_of (op_fa24k rfl (hfr 14 (by decide)) (by decide)) fun W' hb => ⟨rfl, (hX.later hb).set 0 (by decide) _⟩
          | 1 =>
            intro o L V ho hL hd hcl a' W hX hfr hdp; obtain rfl := Option.some.inj ho
            have u1 : L 20 = false := by cases h : L 20 <;> first | rfl | (have k := (hcl 20 1 h (by kernel_rfl)); rw [hL] at k; cases k)
            have u2 : L 22 = false := by cases h : L 22 <;> first | rfl | (have k := hcl 22 20 h (by kernel_rfl); rw [u1] at k; cases k)
            have hc := hX.bt
            rw [u2] at hc
            simp only [if_neg (show ¬ false = true by simp)] at hc
            exact opx_of (op_load22 rfl (Dp (hdp 0 76 (by decide) rfl (by kernel_rfl)) id) ((cell_of_block hc 4).trans rfl)) fun W' hb => ⟨rfl, (hX.later hb).set 1 (by decide) _⟩
          | 2 => intro o L V ho hL hd hcl a' W hX hfr hdp; obtain rfl := Option.some.inj ho; exact opx_of (op_fa24k rfl (hfr 14 (by decide)) (by decide)) fun W' hb => ⟨rfl, (hX.later hb).set 2 (by decide) _⟩
          | 3 =>
            intro o L V ho hL hd hcl a' W hX hfr hdp; obtain rfl := Option.some.inj ho
            have u1 : L 20 = false := by cases h : L 20 <;> first | rfl | (have k := (hcl 5 3 (hcl 6 5 (hcl 7 6 (hcl 8 7 (hcl 11 8 (hcl 18 11 (hcl 19 18 (hcl 20 19 h (by kernel_rfl)) (by kernel_rfl)) (by kernel_rfl)) (by kernel_rfl)) (by kernel_rfl)) (by kernel_rfl)) (by kernel_rfl)) (by kernel_rfl)); rw [hL] at k; cases k)
            have u2 : L 22 = false := by cases h : L 22 <;> first | rfl | (have k := hcl 22 20 h (by kernel_rfl); rw [u1] at k; cases k)
            have hc := hX.bt
            rw [u2] at hc
            simp only [if_neg (show ¬ false = true by simp)] at hc
            exact opx_of (op_load22 rfl (Dp (hdp 2 78 (by decide) rfl (by kernel_rfl)) id) ((cell_of_block hc 4).trans rfl)) fun W' hb => ⟨rfl, (hX.later hb).set 3 (by decide) _⟩
          | 4 => intro o L V ho hL hd hcl a' W hX hfr hdp; obtain rfl := Option.some.inj ho; exact opx_of (op_move rfl (hfr 17 (by decide))) fun W' hb => ⟨rfl, (hX.later hb).set 4 (by decide) _⟩
          | 5 => intro o L V ho hL hd hcl a' W hX hfr hdp; obtain rfl := Option.some.inj ho; exact opx_of (op_idx22 hltn rfl (Dp (hdp 3 79 (by decide) rfl (by kernel_rfl)) id) (Dp (hdp 4 80 (by decide) rfl (by kernel_rfl)) id)) fun W' hb => ⟨rfl, (hX.later hb).set 5 (by decide) _⟩
          | 6 => intro o L V ho hL hd hcl a' W hX hfr hdp; obtain rfl := Option.some.inj ho; exact opx_of (op_fa30 rfl (Dp (hdp 5 81 (by decide) rfl (by kernel_rfl)) id) (by decide)) fun W' hb => ⟨rfl, (hX.later hb).set 6 (by decide) _⟩
          | 7 =>
            intro o L V ho hL hd hcl a' W hX hfr hdp; obtain rfl := Option.some.inj ho
            have u1 : L 20 = false := by cases h : L 20 <;> first | rfl | (have k := (hcl 8 7 (hcl 11 8 (hcl 18 11 (hcl 19 18 (hcl 20 19 h (by kernel_rfl)) (by kernel_rfl)) (by kernel_rfl)) (by kernel_rfl)) (by kernel_rfl)); rw [hL] at k; cases k)
            have u2 : L 22 = false := by cases h : L 22 <;> first | rfl | (have k := hcl 22 20 h (by kernel_rfl); rw [u1] at k; cases k)
            have hcx := (prow_cell (hX.r4 u1) hltn).1
            exact opx_of (op_load3o rfl (Dp (hdp 6 82 (by decide) rfl (by kernel_rfl)) id) hcx) fun W' hb => ⟨by rw [HXM.out]; rfl, (hX.later hb).set 7 (by decide) _⟩
          | 8 => intro o L V ho hL hd hcl a' W hX hfr hdp; obtain rfl := Option.some.inj ho; exact opx_of (op_addc rfl (Dp (hdp 7 83 (by decide) rfl (by kernel_rfl)) id) (by omega)) fun W' hb => ⟨rfl, (hX.later hb).set 8 (by decide) _⟩
          | 9 => intro o L V ho hL hd hcl a' W hX hfr hdp; obtain rfl := Option.some.inj ho; exact opx_of (op_move rfl (hfr 15 (by decide))) fun W' hb => ⟨rfl, (hX.later hb).set 9 (by decide) _⟩
          | 10 =>
            intro o L V ho hL hd hcl a' W hX hfr hdp; obtain rfl := Option.some.inj ho
            refine opx_callk rfl (Dp (hdp 9 85 (by decide) rfl (by kernel_rfl)) id) eg73 ((HNX.out 10 (by decide) (by decide) _ hX.nx).mono ?_)
            rintro e W' ⟨r, rfl, r0, r1, hN, hC⟩
            exact ⟨_, rfl, ⟨r, rfl, r0, r1⟩, (hX.next HD.out hN hC (by omega) (by omega)).set 10 (by decide) _⟩
          | 11 =>
            intro o L V ho hL hd hcl a' W hX hfr hdp; obtain rfl := Option.some.inj ho
            obtain ⟨e, r, e', r0, r1⟩ := hdp 10 86 (by decide) rfl (by kernel_rfl)
            exact opx_of (op_addt rfl (Dp (hdp 8 84 (by decide) rfl (by kernel_rfl)) id) (e.trans e') (by omega)) fun W' hb => ⟨⟨r, rfl, r0, r1⟩, (hX.later hb).set 11 (by decide) _⟩
          | 12 => intro o L V ho hL hd hcl a' W hX hfr hdp; obtain rfl := Option.some.inj ho; exact opx_of (op_fa24k rfl (hfr 14 (by decide)) (by decide)) fun W' hb => ⟨rfl, (hX.later hb).set 12 (by decide) _⟩
          | 13 =>
            intro o L V ho hL hd hcl a' W hX hfr hdp; obtain rfl := Option.some.inj ho
            have u1 : L 20 = false := by cases h : L 20 <;> first | rfl | (have k := (hcl 15 13 (hcl 16 15 (hcl 17 16 (hcl 18 17 (hcl 19 18 (hcl 20 19 h (by kernel_rfl)) (by kernel_rfl)) (by kernel_rfl)) (by kernel_rfl)) (by kernel_rfl)) (by kernel_rfl)); rw [hL] at k; cases k)
            have u2 : L 22 = false := by cases h : L 22 <;> first | rfl | (have k := hcl 22 20 h (by kernel_rfl); rw [u1] at k; cases k)
            have hc := hX.bt
            rw [u2] at hc
            simp only [if_neg (show ¬ false = true by simp)] at hc
            exact opx_of (op_load22 rfl (Dp (hdp 12 88 (by decide) rfl (by kernel_rfl)) id) ((cell_of_block hc 4).trans rfl)) fun W' hb => ⟨rfl, (hX.later hb).set 13 (by decide) _⟩
          | 14 => intro o L V ho hL hd hcl a' W hX hfr hdp; obtain rfl := Option.some.inj ho; exact opx_of (op_move rfl (hfr 17 (by decide))) fun W' hb => ⟨rfl, (hX.later hb).set 14 (by decide) _⟩
          | 15 => intro o L V ho hL hd hcl a' W hX hfr hdp; obtain rfl := Option.some.inj ho; exact opx_of (op_idx22 hltn rfl (Dp (hdp 13 89 (by decide) rfl (by kernel_rfl)) id) (Dp (hdp 14 90 (by decide) rfl (by kernel_rfl)) id)) fun W' hb => ⟨rfl, (hX.later hb).set 15 (by decide) _⟩
          | 16 => intro o L V ho hL hd hcl a' W hX hfr hdp; obtain rfl := Option.some.inj ho; exact opx_of (op_fa30 rfl (Dp (hdp 15 91 (by decide) rfl (by kernel_rfl)) id) (by decide)) fun W' hb => ⟨rfl, (hX.later hb).set 16 (by decide) _⟩
          | 17 =>
            intro o L V ho hL hd hcl a' W hX hfr hdp; obtain rfl := Option.some.inj ho
            have u1 : L 20 = false := by cases h : L 20 <;> first | rfl | (have k := (hcl 18 17 (hcl 19 18 (hcl 20 19 h (by kernel_rfl)) (by kernel_rfl)) (by kernel_rfl)); rw [hL] at k; cases k)
            have u2 : L 22 = false := by cases h : L 22 <;> first | rfl | (have k := hcl 22 20 h (by kernel_rfl); rw [u1] at k; cases k)
            have hcx := (prow_cell (hX.r4 u1) hltn).2
            exact opx_of (op_load3o rfl (Dp (hdp 16 92 (by decide) rfl (by kernel_rfl)) id) hcx) fun W' hb => ⟨rfl, (hX.later hb).set 17 (by decide) _⟩
          | 18 =>
            intro o L V ho hL hd hcl a' W hX hfr hdp; obtain rfl := Option.some.inj ho
            obtain ⟨e, r, e', r0, r1⟩ := hdp 11 87 (by decide) rfl (by kernel_rfl)
            exact opx_of (op_b30t rfl (e.trans e') (Dp (hdp 17 93 (by decide) rfl (by kernel_rfl)) id)) fun W' hb => ⟨⟨r, rfl, r0, r1⟩, (hX.later hb).set 18 (by decide) _⟩
          | 19 =>
            intro o L V ho hL hd hcl a' W hX hfr hdp; obtain rfl := Option.some.inj ho
            obtain ⟨e, r, e', r0, r1⟩ := hdp 18 94 (by decide) rfl (by kernel_rfl)
            have hbl := (Below.refl W.heap.size W).alloc (Nat.le_refl _) (.cells #[.int .i64 (X + 1 + r), .int .i64 ((modC s.th (fTh s.th.n) s.th.n).y nl)] 30)
            have hX2 := hX.later hbl
            exact opx_bs22 rfl (e.trans e') ⟨trivial, hX2.nx, hX2.r5, hX2.r6, hX2.m, by simpa using hX2.bt, by simpa using hX2.r4, fun _ _ => ⟨W.heap.size, r, by simp, hX.m, block_new W _, r0, r1⟩, by simpa using hX2.n⟩
          | 20 =>
            intro o L V ho hL hd hcl a' W hX hfr hdp; obtain rfl := Option.some.inj ho
            obtain ⟨gb, r, e19, hgb, hbb, r0, r1⟩ := hX.a (hd 19 (by kernel_rfl)) hL
            have hr4 := hX.r4 hL
            have h22 : L 22 = false := by cases h : L 22 <;> first | rfl | (have k := hcl 22 20 h (by kernel_rfl); rw [hL] at k; cases k)
            have hm := hX.m
            refine wp_append_at (.tmp 77) (.tmp 95) 22 rfl (V1.heap.size + 2) 30 i0 (.agg #[.int .i64 0, .int .i64 0]) 2 16 und22 hi hz0 hz1 hz2 rfl (by decide) (.slice (some ⟨g4, 0, none⟩) s.th.n q4) s.th.n (flatP (ptsL (modC s.th (fTh s.th.n) s.th.n))) (Dp (hdp 1 77 (by decide) rfl (by kernel_rfl)) id) (by have := hr4; unfold PRow at this; rw [ptsL_len] at this; exact this) ⟨gb, 0, none⟩ 1 1 [.int .i64 (X + 1 + r), .int .i64 ((modC s.th (fTh s.th.n) s.th.n).y nl)] ((hdp 19 95 (by decide) rfl (by kernel_rfl)).1.trans e19) rfl (World.news_of_block hbb) (by simp [Value.oneCell']) (by unfold maxLen; omega) (by omega) (by omega) ?_
            intro v' W' hown hgrow hblk
            have hrow : PRow W' (V1.heap.size + 2) v' (ptsL (moreC (modC s.th (fTh s.th.n) s.th.n) (X + 1 + r) ((modC s.th (fTh s.th.n) s.th.n).y nl))) := by rw [ptsL_more]; unfold PRow; rw [flatP_snoc, List.length_append, ptsL_len]; exact hown
            have zb := (Below.refl V1.heap.size W).grown hgrow (by omega) (fun k hk => by have hk' : g4 = k := Option.some.inj (show some g4 = some k from hk); omega)
            have blk : ∀ k, k < W.heap.size → k ≠ g4 → W'.heap[k]? = W.heap[k]? := fun k h1 h2 => hgrow.block k h1 (fun e => h2 (Option.some.inj (show some k = some g4 from e)))
            exact ⟨v', rfl, trivial, hX.nx.keep (hX.nx.low.trans zb) (blk _ (by omega) (by omega)) (blk _ (by omega) (by omega)), hX.r5.kept hgrow (.inr (fun h => x1 (Option.some.inj (show some g5 = some g4 from h)).symm)), hX.r6.kept hgrow (.inr (fun h => x2 (Option.some.inj (show some g6 = some g4 from h)).symm)), Nat.le_trans hm hgrow.size, by simpa [h22] using (blk _ (by omega) (by omega)).trans hX.bt, (fun e => by simp at e), (fun _ e => by simp at e), fun _ => ⟨r, r0, r1, by simpa using hrow, hblk.elim (fun h => .inl (by simpa using h)) (fun h => .inr ⟨_, by simpa using h, hm⟩)⟩⟩
          | 21 => intro o L V ho hL hd hcl a' W hX hfr hdp; obtain rfl := Option.some.inj ho; exact opx_of (op_fa24k rfl (hfr 14 (by decide)) (by decide)) fun W' hb => ⟨rfl, (hX.later hb).set 21 (by decide) _⟩
          | 22 =>
            intro o L V ho hL hd hcl a' W hX hfr hdp; obtain rfl := Option.some.inj ho
            obtain ⟨r, r0, r1, h4, hown⟩ := hX.n (hd 20 (by kernel_rfl))
            have hv := (hdp 20 96 (by decide) rfl (by kernel_rfl)).1
            obtain ⟨q, c, e0⟩ := prow_shape h4
            rw [e0] at hv
            have h20 := hd 20 (by kernel_rfl)
            have hm := hX.m
            have hne : (V 20).ownBlock ≠ some W2.heap.size := fun h => hown.elim (fun h' => by have := Option.some.inj (show some g4 = some W2.heap.size from h'.symm.trans h); omega) (fun ⟨j, h', h''⟩ => by have := Option.some.inj (h'.symm.trans h); omega)
            exact opx_store22 rfl rfl (Dp (hdp 21 97 (by decide) rfl (by kernel_rfl)) id) hv hX.bt (by simp) fun W' hb' hc => ⟨trivial, hX.nx.keep (hX.nx.low.trans (hc.below (by omega))) (hc.2.1 _ (by omega)) (hc.2.1 _ (by omega)), prow_sto hX.r5 hc (fun h => by have := Option.some.inj (show some g5 = some W2.heap.size from h); omega), prow_sto hX.r6 hc (fun h => by have := Option.some.inj (show some g6 = some W2.heap.size from h); omega), Nat.le_trans hm (Nat.le_of_eq hc.1.symm), by rw [hb', ← e0]; simp, by simp [h20], by simp [h20], by simpa using fun _ => ⟨r, r0, r1, prow_sto h4 hc hne, hown⟩⟩
          | j + 23 => intro o L V ho; simp at ho
        case fin =>
          intro X4 L V hL hF hI
          obtain ⟨r, r0, r1, h4, hown⟩ := hI.n (hL 20 (by decide))
          have hbt := hI.bt
          rw [hL 22 (by decide)] at hbt
          simp only [if_true] at hbt
          obtain ⟨q4', c4', e20⟩ := prow_shape h4
          obtain ⟨gn, eg⟩ := prow_some (by rw [e20] at h4; exact h4) (by rw [ptsL_more]; simp)
          subst eg
          rw [ptsL_len] at e20
          rw [e20] at h4 hbt hown
          have HNX4 := Lib.hid hI.nx
          have HR5 := Lib.hid hI.r5
          have HR6 := Lib.hid hI.r6
          have HR4n := Lib.hid h4
          have HBT := Lib.hid hbt
          have hm9 := hI.m
          have hgn : gn = g4 ∨ wr.heap.size ≤ gn := by
            rcases hown with h | ⟨j, h, h'⟩
            · exact .inl (Option.some.inj (show some gn = some g4 from h))
            · right
              have hj : gn = j := Option.some.inj (show some gn = some j from h)
              omega
          have HD4 := Lib.hid (show Ds (V2.heap.size + 1) V2.heap.size W2.heap.size (.slice (some ⟨gn, 0, none⟩) (moreC (modC s.th (fTh s.th.n) s.th.n) (X + 1 + r) ((modC s.th (fTh s.th.n) s.th.n).y nl)).n c4') (.slice (some ⟨g5, 0, none⟩) s.wa.n q5) (.slice (some ⟨g6, 0, none⟩) s.ic.n q6) from by
            have ne5 : gn ≠ g5 := hgn.elim (fun h => by rw [h]; exact x1) (fun h => by omega)
            have ne6 : gn ≠ g6 := hgn.elim (fun h => by rw [h]; exact x2) (fun h => by omega)
            refine ⟨fun j h => ?_, fun j h => ?_, fun j h => ?_⟩
            · have hj : gn = j := Option.some.inj (show some gn = some j from h)
              subst hj
              exact ⟨by omega, by omega, by omega, fun h => ne5 (Option.some.inj h).symm, fun h => ne6 (Option.some.inj h).symm⟩
            · have hj : g5 = j := Option.some.inj (show some g5 = some j from h)
              subst hj
              exact ⟨by omega, by omega, by omega, fun h => ne5 (Option.some.inj h), fun h => x3 (Option.some.inj h).symm⟩
            · have hj : g6 = j := Option.some.inj (show some g6 = some j from h)
              subst hj
              exact ⟨by omega, by omega, by omega, fun h => ne6 (Option.some.inj h), fun h => x3 (Option.some.inj h)⟩)
          clear hI hF hL h4 hbt hown e20
          simp only [fill, Act.put, List.setIfInBounds_toArray, List.set_cons_zero, List.set_cons_succ, List.set_nil, Nat.reduceAdd]
          generalize V 0 = z0, V 1 = z1, V 2 = z2, V 3 = z3, V 4 = z4, V 5 = z5, V 6 = z6, V 7 = z7, V 8 = z8, V 9 = z9, V 10 = z10, V 11 = z11, V 12 = z12, V 13 = z13, V 14 = z14, V 15 = z15, V 16 = z16, V 17 = z17, V 18 = z18, V 19 = z19, V 20 = z20, V 21 = z21, V 22 = z22
          clear V
          go_wp2_with fail
          refine HKB.out _ _ ?_
          clear HKB
          show Code.wp Tryd.prog better12 _ _ _
          apply Better_12 s m (moreC (modC s.th (fTh s.th.n) s.th.n) (X + 1 + r) ((modC s.th (fTh s.th.n) s.th.n).y nl)) ch tk W1.heap.size W2.heap.size (V2.heap.size + 1) V2.heap.size (V1.heap.size + 2) gn g5 g6 c4' q5 q6 p2 k2 cap2 hk2 p3 k3 cap3 hk3 p4 k4 cap4 hk4 w V1 X4 HLM.out HST.out H2.out H3.out H4.out HC.out h53 ht (.inr ⟨by omega, by rw [hXd]; exact hcx, r, r0, r1, by rw [hXd, HNL.out]⟩) HB.out HS.out HK1.out (by omega) (by omega) (by omega) (by omega) (by omega) HD4.out (show Bw V1 p2 k2 cap2 (V2.heap.size + 1) V2.heap.size W2.heap.size (V1.heap.size + 2) s s.slow s.brash s.ridge s.press (.slice (some ⟨gn, 0, none⟩) (moreC (modC s.th (fTh s.th.n) s.th.n) (X + 1 + r) ((modC s.th (fTh s.th.n) s.th.n).y nl)).n c4') (.slice (some ⟨g5, 0, none⟩) s.wa.n q5) (.slice (some ⟨g6, 0, none⟩) s.ic.n q6) (moreC (modC s.th (fTh s.th.n) s.th.n) (X + 1 + r) ((modC s.th (fTh s.th.n) s.th.n).y nl)) (modC s.wa fWa 0) (modC s.ic fIc 0) X4 from ⟨HNX4.out, HBT.out, HR4n.out, by rw [mod_zero]; exact HR5.out, by rw [mod_zero]; exact HR6.out⟩)
      · go_wp2_with fail
        refine HKB.out _ _ ?_
        clear HKB
        show Code.wp Tryd.prog better12 _ _ _
        apply Better_12 s m (modC s.th (fTh s.th.n) s.th.n) ch tk W1.heap.size W2.heap.size (V2.heap.size + 1) V2.heap.size (V1.heap.size + 2) g4 g5 g6 q4 q5 q6 p2 k2 cap2 hk2 p3 k3 cap3 hk3 p4 k4 cap4 hk4 w V1 wr HLM.out HST.out H2.out H3.out H4.out HC.out h53 ht (.inl ⟨rfl, fun h => by have := h.2; rw [hXd] at this; omega⟩) HB.out HS.out HK1.out (by omega) (by omega) (by omega) (by omega) (by omega) HD.out (show Bw V1 p2 k2 cap2 (V2.heap.size + 1) V2.heap.size W2.heap.size (V1.heap.size + 2) s s.slow s.brash s.ridge s.press (.slice (some ⟨g4, 0, none⟩) s.th.n q4) (.slice (some ⟨g5, 0, none⟩) s.wa.n q5) (.slice (some ⟨g6, 0, none⟩) s.ic.n q6) (modC s.th (fTh s.th.n) s.th.n) (modC s.wa fWa 0) (modC s.ic fIc 0) wr from ⟨HW.out.nx, HW.out.bt, HW.out.r4, by rw [mod_zero]; exact HW.out.r5, by rw [mod_zero]; exact HW.out.r6⟩)
end Go.Proofs.YtcoiklolgilhaaaDoor
