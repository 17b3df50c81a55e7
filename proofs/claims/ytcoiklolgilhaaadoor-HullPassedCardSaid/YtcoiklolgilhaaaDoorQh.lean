/- The contract of the law's Made: a right ship, whatever the bytes are. -/
import Derived.Test.YtcoiklolgilhaaaDoorQg
import Derived.Test.YtcoiklolgilhaaaDoorQc
import Derived.Test.YtcoiklolgilhaaaDoorQa
import Derived.Deep.AppendLies
namespace Go.Proofs.YtcoiklolgilhaaaDoor
open Go.RowKit
set_option maxRecDepth 100000
set_option maxHeartbeats 8000000 in
theorem Made_any (p : Option Addr) (k cap : Nat) (hk : k ≤ 9223372036854775807) (w : World) (hB : BytesIn w p k) :
    Calls Tryd.prog 24 #[.slice p k cap] w fun e w' => ∃ s m, e = .returned (.agg (shipA s m)) ∧ chkP s = 0 ∧ s.th.n ≤ 7 ∧ ShipIn w' s m ∧ Below w.heap.size w w' := by
  have HNEXT := Lib.hid (fun (n : Int) (hn : 1 ≤ n) (hn' : n ≤ 1000000) (W : World) (hW : NxIn w p k cap (w.heap.size + 1 + 1) (w.heap.size + 1) W) => next_any w p k cap hk hB (w.heap.size + 1 + 1) (w.heap.size + 1) (by omega) n hn hn' W hW)
  obtain ⟨i0, hi, hz0, hz1, hz2⟩ := info_parts info30
  obtain ⟨t1, t2, t3, tz, tb⟩ := three_allocs w (.cells #[.int .i64 0, .int .i64 0, .int .i64 0, .int .i64 0, .slice none 0 0, .slice none 0 0, .slice none 0 0, .int .i64 0, .int .i64 0, .int .i64 0, .int .i64 0] 24) (.cells #[.slice p k cap] 50) (.cells #[.int .i64 0] 3)
  have HNX := Lib.hid (show NxIn w p k cap (w.heap.size + 1 + 1) (w.heap.size + 1) _ from ⟨tb, ⟨0, Nat.zero_le _, t3⟩, t2⟩)
  have HZ := Lib.hid t1
  clear t1 t2 t3 tb
  go_enter Tryd.func24, Tryd.ntmps24
  go_wp2_with fail
  refine (Drawn_any p k cap _).mono ?_
  rintro e w' ⟨rfl, rfl⟩
  go_wp2_with fail
  generalize ((w.alloc (.cells #[.int .i64 0, .int .i64 0, .int .i64 0, .int .i64 0, .slice none 0 0, .slice none 0 0, .slice none 0 0, .int .i64 0, .int .i64 0, .int .i64 0, .int .i64 0] 24)).alloc (.cells #[.slice p k cap] 50)).alloc (.cells #[.int .i64 0] 3) = X0 at *
  refine (HNEXT.out 6 (by decide) (by decide) _ HNX.out).mono ?_
  rintro e X1 ⟨r0, rfl, r00, r01, hN, hC⟩
  replace HNX := Lib.hid hN
  replace HZ := Lib.hid ((hC.2.1 _ (by omega)).trans HZ.out)
  have hs1 := Nat.le_of_eq hC.1
  have ht1 := Nat.le_of_eq hC.1.symm
  clear hN hC
  go_wp2_with fail
  refine (HNEXT.out 256 (by decide) (by decide) _ HNX.out).mono ?_
  rintro e X2 ⟨r1, rfl, r10, r11, hN, hC⟩
  replace HNX := Lib.hid hN
  replace HZ := Lib.hid ((hC.2.1 _ (by omega)).trans HZ.out)
  have hs2 := Nat.le_of_eq hC.1
  have ht2 := Nat.le_of_eq hC.1.symm
  clear hN hC
  go_wp2_with fail
  refine (HNEXT.out 256 (by decide) (by decide) _ HNX.out).mono ?_
  rintro e X3 ⟨r2, rfl, r20, r21, hN, hC⟩
  replace HNX := Lib.hid hN
  replace HZ := Lib.hid ((hC.2.1 _ (by omega)).trans HZ.out)
  have hs3 := Nat.le_of_eq hC.1
  have ht3 := Nat.le_of_eq hC.1.symm
  clear hN hC
  go_wp2_with fail
  refine (HNEXT.out 256 (by decide) (by decide) _ HNX.out).mono ?_
  rintro e X4 ⟨r3, rfl, r30, r31, hN, hC⟩
  replace HNX := Lib.hid hN
  replace HZ := Lib.hid ((hC.2.1 _ (by omega)).trans HZ.out)
  have hs4 := Nat.le_of_eq hC.1
  have ht4 := Nat.le_of_eq hC.1.symm
  clear hN hC
  go_wp2_with fail
  refine (HNEXT.out 21 (by decide) (by decide) _ HNX.out).mono ?_
  rintro e X5 ⟨r4, rfl, r40, r41, hN, hC⟩
  replace HNX := Lib.hid hN
  replace HZ := Lib.hid ((hC.2.1 _ (by omega)).trans HZ.out)
  have hs5 := Nat.le_of_eq hC.1
  have ht5 := Nat.le_of_eq hC.1.symm
  clear hN hC
  go_wp2_with fail
  refine (HNEXT.out 101 (by decide) (by decide) _ HNX.out).mono ?_
  rintro e X6 ⟨r5, rfl, r50, r51, hN, hC⟩
  replace HNX := Lib.hid hN
  replace HZ := Lib.hid ((hC.2.1 _ (by omega)).trans HZ.out)
  have hs6 := Nat.le_of_eq hC.1
  have ht6 := Nat.le_of_eq hC.1.symm
  clear hN hC
  go_wp2_with fail
  refine (HNEXT.out 240 (by decide) (by decide) _ HNX.out).mono ?_
  rintro e X7 ⟨r6, rfl, r60, r61, hN, hC⟩
  replace HNX := Lib.hid hN
  replace HZ := Lib.hid ((hC.2.1 _ (by omega)).trans HZ.out)
  have hs7 := Nat.le_of_eq hC.1
  have ht7 := Nat.le_of_eq hC.1.symm
  clear hN hC
  go_wp2_with fail
  refine (HNEXT.out 256 (by decide) (by decide) _ HNX.out).mono ?_
  rintro e X8 ⟨r7, rfl, r70, r71, hN, hC⟩
  replace HNX := Lib.hid hN
  replace HZ := Lib.hid ((hC.2.1 _ (by omega)).trans HZ.out)
  have hs8 := Nat.le_of_eq hC.1
  have ht8 := Nat.le_of_eq hC.1.symm
  clear hN hC
  have hsz : X8.heap.size = w.heap.size + 1 + 1 + 1 := by omega
  clear hs1 hs2 hs3 hs4 hs5 hs6 hs7 hs8 ht1 ht2 ht3 ht4 ht5 ht6 ht7 ht8
  have hb8 := (Below.refl X8.heap.size X8).alloc (Nat.le_refl _) (.cells #[.int .i64 (1 + r0), .int .i64 (100 + 390 * r1), .int .i64 (10 + 7 * r2), .int .i64 (10 + 1900 * r3), .slice none 0 0, .slice none 0 0, .slice none 0 0, .int .i64 r4, .int .i64 r5, .int .i64 (2 * r6), .int .i64 (4 * r7)] 24)
  replace HNX := Lib.hid (HNX.out.later hb8)
  replace HZ := Lib.hid ((hb8.block _ (lt_of_block HZ.out)).trans HZ.out)
  have HS := Lib.hid (block_new X8 (.cells #[.int .i64 (1 + r0), .int .i64 (100 + 390 * r1), .int .i64 (10 + 7 * r2), .int .i64 (10 + 1900 * r3), .slice none 0 0, .slice none 0 0, .slice none 0 0, .int .i64 r4, .int .i64 r5, .int .i64 (2 * r6), .int .i64 (4 * r7)] 24))
  rw [hsz] at HS
  have hzY := lt_of_block HS.out
  clear hb8
  go_wp2_with fail
  generalize X8.alloc (.cells #[.int .i64 (1 + r0), .int .i64 (100 + 390 * r1), .int .i64 (10 + 7 * r2), .int .i64 (10 + 1900 * r3), .slice none 0 0, .slice none 0 0, .slice none 0 0, .int .i64 r4, .int .i64 r5, .int .i64 (2 * r6), .int .i64 (4 * r7)] 24) = Y0 at *
  refine (HNEXT.out 256 (by decide) (by decide) _ HNX.out).mono ?_
  rintro e X9 ⟨r8, rfl, r80, r81, hN, hC⟩
  replace HNX := Lib.hid hN
  replace HZ := Lib.hid ((hC.2.1 _ (by omega)).trans HZ.out)
  replace HS := Lib.hid ((hC.2.1 _ (by omega)).trans HS.out)
  have hs9 := Nat.le_of_eq hC.1
  have ht9 := Nat.le_of_eq hC.1.symm
  clear hN hC
  have hbA := (Below.refl X9.heap.size X9).alloc (Nat.le_refl _) (.cells #[.int .i64 0, .int .i64 (200 + 20 * r8)] 30)
  have HR1 := Lib.hid (prow_one X9 (w.heap.size + 1 + 1 + 1 + 1) 0 (200 + 20 * r8) (by omega))
  replace HNX := Lib.hid (HNX.out.later hbA)
  replace HZ := Lib.hid ((hbA.block _ (lt_of_block HZ.out)).trans HZ.out)
  replace HS := Lib.hid ((hbA.block _ (lt_of_block HS.out)).trans HS.out)
  have hsA1 := hbA.size
  clear hbA
  go_wp2_with (refine list_store22 rfl rfl rfl rfl rfl HS.out (by simp) ?_; intro Z1 hz hc; have HS2 := Lib.hid (show Z1.heap[(w.heap.size + 1 + 1 + 1)]? = some (.cells #[.int .i64 (1 + r0), .int .i64 (100 + 390 * r1), .int .i64 (10 + 7 * r2), .int .i64 (10 + 1900 * r3), .slice (some ⟨X9.heap.size, 0, none⟩) 1 1, .slice none 0 0, .slice none 0 0, .int .i64 r4, .int .i64 r5, .int .i64 (2 * r6), .int .i64 (4 * r7)] 24 (0, 0)) from hz); clear HS; have HS := HS2; clear HS2; replace HNX := Lib.hid (HNX.out.keep (HNX.out.low.trans (hc.below (by omega))) (hc.2.1 _ (by omega)) (hc.2.1 _ (by omega))); replace HZ := Lib.hid ((hc.2.1 _ (by omega)).trans HZ.out); replace HR1 := Lib.hid (prow_chg HR1.out hc (by omega)); have hsZ1 := Nat.le_of_eq hc.1; have htZ1 := Nat.le_of_eq hc.1.symm; clear hz hc)
  refine (HNEXT.out 4 (by decide) (by decide) _ HNX.out).mono ?_
  rintro e X10 ⟨r9, rfl, r90, r91, hN, hC⟩
  replace HNX := Lib.hid hN
  replace HZ := Lib.hid ((hC.2.1 _ (by omega)).trans HZ.out)
  replace HS := Lib.hid ((hC.2.1 _ (by omega)).trans HS.out)
  replace HR1 := Lib.hid (prow_chg HR1.out hC (by omega))
  have hs10 := Nat.le_of_eq hC.1
  have ht10 := Nat.le_of_eq hC.1.symm
  clear hN hC
  have hm1 : (w.heap.size + 1 + 1 + 1) + 1 ≤ X10.heap.size := by omega
  go_wp2_with fail
  go_loopw [5, 6, 46] (fun x y i wr => ∃ (j : Nat) (l : List (Int × Int)) (X Y : Int) (v : Value), i = .int .i64 j ∧ (j : Int) ≤ (1 + r9) ∧ x = .int .i64 X ∧ y = .int .i64 Y ∧ Hid (l.length = j + 1) ∧ Hid (Pl l 10 49 5300 0 (200 + 20 * r8) false X Y) ∧ Hid (PRow wr (w.heap.size + 1 + 1 + 1 + 1) v l) ∧ Hid (wr.heap[(w.heap.size + 1 + 1 + 1)]? = some (.cells #[.int .i64 (1 + r0), .int .i64 (100 + 390 * r1), .int .i64 (10 + 7 * r2), .int .i64 (10 + 1900 * r3), v, .slice none 0 0, .slice none 0 0, .int .i64 r4, .int .i64 r5, .int .i64 (2 * r6), .int .i64 (4 * r7)] 24 (0, 0))) ∧ Hid (wr.heap[w.heap.size]? = some (.cells #[.int .i64 0, .int .i64 0, .int .i64 0, .int .i64 0, .slice none 0 0, .slice none 0 0, .slice none 0 0, .int .i64 0, .int .i64 0, .int .i64 0, .int .i64 0] 24 (0, 0))) ∧ Hid (NxIn w p k cap (w.heap.size + 1 + 1) (w.heap.size + 1) wr) ∧ (w.heap.size + 1 + 1 + 1 + 1) ≤ wr.heap.size) (fun _ _ i _ => ((1 + r9)).toNat - (intOf i).toNat)
  case atStart => exact ⟨0, [(0, 200 + 20 * r8)], 0, 200 + 20 * r8, _, rfl, by omega, rfl, rfl, rfl, Pl.one (by omega) (by omega), HR1.out, HS.out, HZ.out, HNX.out, by omega⟩
  case round =>
    clear HNX HZ HS HR1
    obtain ⟨j, l, X, Y, v, rfl, hj, rfl, rfl, hlen, hpl, hrow, hs, hz, hnx, hmw⟩ := hrel
    have HLEN := Lib.hid hlen.out
    have HPL := Lib.hid hpl.out
    have HR := Lib.hid hrow.out
    have HS := Lib.hid hs.out
    have HZ := Lib.hid hz.out
    have HNX := Lib.hid hnx.out
    have xb0 := hpl.out.x_low (by decide)
    have xb := hpl.out.x_bd
    rw [hlen.out] at xb
    simp only [Nat.add_sub_cancel] at xb
    obtain ⟨xb1, xb2, xb3⟩ := xb
    clear hlen hpl hrow hs hz hnx
    by_cases hlt : (j : Int) < (1 + r9)
    · skip
      go_wp2_with fail
      refine (HNEXT.out 40 (by decide) (by decide) _ HNX.out).mono ?_
      rintro e X11 ⟨a1, rfl, a10, a11, hN, hC⟩
      replace HNX := Lib.hid hN
      replace HZ := Lib.hid ((hC.2.1 _ (by omega)).trans HZ.out)
      replace HS := Lib.hid ((hC.2.1 _ (by omega)).trans HS.out)
      replace HR := Lib.hid (prow_chg HR.out hC (by omega))
      have hs11 := Nat.le_of_eq hC.1
      have ht11 := Nat.le_of_eq hC.1.symm
      clear hN hC
      go_wp2_with fail
      refine (HNEXT.out 101 (by decide) (by decide) _ HNX.out).mono ?_
      rintro e X12 ⟨a2, rfl, a20, a21, hN, hC⟩
      replace HNX := Lib.hid hN
      replace HZ := Lib.hid ((hC.2.1 _ (by omega)).trans HZ.out)
      replace HS := Lib.hid ((hC.2.1 _ (by omega)).trans HS.out)
      replace HR := Lib.hid (prow_chg HR.out hC (by omega))
      have hs12 := Nat.le_of_eq hC.1
      have ht12 := Nat.le_of_eq hC.1.symm
      clear hN hC
      obtain ⟨pm0, pm1⟩ := mulbd xb3 (show Y ≤ 5300 by omega) a20 (show a2 ≤ 100 by omega)
      have pm2 := Int.mul_le_mul_of_nonneg_left (show a2 ≤ 100 by omega) xb3
      have cS := (cell_of_block HS.out 4).trans rfl
      simp only [List.getElem?_toArray, List.getElem?_cons_zero, List.getElem?_cons_succ] at cS
      have hbT := (Below.refl X12.heap.size X12).alloc (Nat.le_refl _) (.cells #[.int .i64 (X + 10 + a1), .int .i64 (Y * a2 / 100)] 30)
      have hnb := block_new X12 (.cells #[.int .i64 (X + 10 + a1), .int .i64 (Y * a2 / 100)] 30)
      replace HNX := Lib.hid (HNX.out.later hbT)
      replace HZ := Lib.hid ((hbT.block _ (lt_of_block HZ.out)).trans HZ.out)
      replace HS := Lib.hid ((hbT.block _ (lt_of_block HS.out)).trans HS.out)
      replace HR := Lib.hid (row_later HR.out hbT)
      have hbTs := hbT.size
      clear hbT
      have hmx : l.length + 1 ≤ maxLen := by rw [HLEN.out]; simp only [maxLen]; omega
      have hby : (l.length + 1) * 16 ≤ 140737488355328 := by rw [HLEN.out]; omega
      have hltW := lt_of_block HS.out
      go_wp2_with (at_builtin; refine Hid.out ?_)
      refine Lib.hid ?_
      generalize X12.alloc (.cells #[.int .i64 (X + 10 + a1), .int .i64 (Y * a2 / 100)] 30) = Y1 at *
      refine wpList_append_own _ rfl (.tmp 59) (.tmp 63) 22 rfl (w.heap.size + 1 + 1 + 1 + 1) 30 i0 (.agg #[.int .i64 0, .int .i64 0]) 2 16 und22 hi hz0 hz1 hz2 rfl (by decide) v l.length (flatP l) rfl HR.out ⟨X12.heap.size, 0, none⟩ 1 1 [.int .i64 (X + 10 + a1), .int .i64 (Y * a2 / 100)] rfl rfl (World.news_of_block hnb) (by simp [Value.oneCell']) hmx hby (by omega) ?_
      intro v2 Zg hown hgrow _
      obtain ⟨g2, cap2, rfl⟩ := ownsRow_succ hown
      have zb := (Below.refl (w.heap.size + 1 + 1 + 1 + 1) Y1).grown hgrow (by omega) (pown_base HR.out)
      have HRN := Lib.hid (show PRow Zg (w.heap.size + 1 + 1 + 1 + 1) (.slice (some ⟨g2, 0, none⟩) (l.length + 1) cap2) (l ++ [(X + 10 + a1, Y * a2 / 100)]) from by simpa [PRow, flatP_snoc] using hown)
      replace HNX := Lib.hid (HNX.out.keep (HNX.out.low.trans (zb.mono (by omega))) (zb.block _ (by omega)) (zb.block _ (by omega)))
      replace HZ := Lib.hid ((zb.block _ (by omega)).trans HZ.out)
      replace HS := Lib.hid ((zb.block _ (by omega)).trans HS.out)
      have hzs := zb.size
      clear hown hgrow zb cS HR
      clear hnb
      go_wp2_with (refine list_store22 rfl rfl rfl rfl rfl HS.out (by simp) ?_; intro Zs hz hc; have HS2 := Lib.hid (show Zs.heap[(w.heap.size + 1 + 1 + 1)]? = some (.cells #[.int .i64 (1 + r0), .int .i64 (100 + 390 * r1), .int .i64 (10 + 7 * r2), .int .i64 (10 + 1900 * r3), .slice (some ⟨g2, 0, none⟩) (l.length + 1) cap2, .slice none 0 0, .slice none 0 0, .int .i64 r4, .int .i64 r5, .int .i64 (2 * r6), .int .i64 (4 * r7)] 24 (0, 0)) from hz); clear HS; have HS := HS2; clear HS2; replace HNX := Lib.hid (HNX.out.keep (HNX.out.low.trans (hc.below (by omega))) (hc.2.1 _ (by omega)) (hc.2.1 _ (by omega))); replace HZ := Lib.hid ((hc.2.1 _ (by omega)).trans HZ.out); replace HRN := Lib.hid (prow_chg HRN.out hc (by omega)); have hsZs := Nat.le_of_eq hc.1; have htZs := Nat.le_of_eq hc.1.symm; clear hz hc)
      go_roundw
      case rel => exact ⟨j + 1, l ++ [(X + 10 + a1, Y * a2 / 100)], X + 10 + a1, Y * a2 / 100, _, by go_num, by omega, by go_num, by go_num, by rw [List.length_append, HLEN.out]; rfl, HPL.out.snoc (by omega) (by rw [HLEN.out]; omega) (by omega) (by rw [HLEN.out]; omega) (by first | (simp; omega) | simp | (show Y ≤ _; omega) | (show _ ≤ Y; omega)), HRN.out, HS.out, HZ.out, HNX.out, by omega⟩
      case measure => simp [intOf]; omega
    · have hjc : (j : Int) = (1 + r9) := by omega
      obtain ⟨V1, hV1⟩ : ∃ V1, V1 = wr := ⟨_, rfl⟩
      subst hV1
      obtain ⟨l1, hl1⟩ : ∃ l1, l1 = l := ⟨_, rfl⟩
      subst hl1
      obtain ⟨v1, hv1⟩ : ∃ v1, v1 = v := ⟨_, rfl⟩
      subst hv1
      obtain ⟨j1, hj1⟩ : ∃ j1, j1 = j := ⟨_, rfl⟩
      subst hj1
      have HPL1 := Lib.hid HPL.out
      have HLEN1 := Lib.hid HLEN.out
      have HR1 := Lib.hid HR.out
      have hjc1 := hjc
      have hmw1 := hmw
      have HOL0 := Lib.hid (pown_lt HR1.out)
      have hltV := lt_of_block HS.out
      clear HPL HLEN HR hjc hmw hlt hj xb0 xb1 xb2 xb3
      go_wp2_with fail
      refine (HNEXT.out 50 (by decide) (by decide) _ HNX.out).mono ?_
      rintro e X13 ⟨r10, rfl, r100, r101, hN, hC⟩
      replace HNX := Lib.hid hN
      replace HZ := Lib.hid ((hC.2.1 _ (by omega)).trans HZ.out)
      replace HS := Lib.hid ((hC.2.1 _ (by omega)).trans HS.out)
      replace HR1 := Lib.hid (prow_chg HR1.out hC (by omega))
      have hs13 := Nat.le_of_eq hC.1
      have ht13 := Nat.le_of_eq hC.1.symm
      clear hN hC
      skip
      have hbA := (Below.refl X13.heap.size X13).alloc (Nat.le_refl _) (.cells #[.int .i64 0, .int .i64 (r10)] 30)
      have HR2 := Lib.hid (prow_one X13 (V1.heap.size) 0 (r10) (by omega))
      replace HNX := Lib.hid (HNX.out.later hbA)
      replace HZ := Lib.hid ((hbA.block _ (lt_of_block HZ.out)).trans HZ.out)
      replace HS := Lib.hid ((hbA.block _ (lt_of_block HS.out)).trans HS.out)
      replace HR1 := Lib.hid (row_later HR1.out hbA)
      have hsA2 := hbA.size
      clear hbA
      go_wp2_with (refine list_store22 rfl rfl rfl rfl rfl HS.out (by simp) ?_; intro Z2 hz hc; have HS2 := Lib.hid (show Z2.heap[(w.heap.size + 1 + 1 + 1)]? = some (.cells #[.int .i64 (1 + r0), .int .i64 (100 + 390 * r1), .int .i64 (10 + 7 * r2), .int .i64 (10 + 1900 * r3), v1, .slice (some ⟨X13.heap.size, 0, none⟩) 1 1, .slice none 0 0, .int .i64 r4, .int .i64 r5, .int .i64 (2 * r6), .int .i64 (4 * r7)] 24 (0, 0)) from hz); clear HS; have HS := HS2; clear HS2; replace HNX := Lib.hid (HNX.out.keep (HNX.out.low.trans (hc.below (by omega))) (hc.2.1 _ (by omega)) (hc.2.1 _ (by omega))); replace HZ := Lib.hid ((hc.2.1 _ (by omega)).trans HZ.out); replace HR1 := Lib.hid (prow_chg HR1.out hc (by omega)); replace HR2 := Lib.hid (prow_chg HR2.out hc (by omega)); have hsZ2 := Nat.le_of_eq hc.1; have htZ2 := Nat.le_of_eq hc.1.symm; clear hz hc)
      refine (HNEXT.out 3 (by decide) (by decide) _ HNX.out).mono ?_
      rintro e X14 ⟨r11, rfl, r110, r111, hN, hC⟩
      replace HNX := Lib.hid hN
      replace HZ := Lib.hid ((hC.2.1 _ (by omega)).trans HZ.out)
      replace HS := Lib.hid ((hC.2.1 _ (by omega)).trans HS.out)
      replace HR1 := Lib.hid (prow_chg HR1.out hC (by omega))
      replace HR2 := Lib.hid (prow_chg HR2.out hC (by omega))
      have hs14 := Nat.le_of_eq hC.1
      have ht14 := Nat.le_of_eq hC.1.symm
      clear hN hC
      have hm2 : V1.heap.size ≤ X14.heap.size := by omega
      go_wp2_with fail
      go_loopw [5, 6, 76] (fun x y i wr => ∃ (j : Nat) (l : List (Int × Int)) (X Y : Int) (v : Value), i = .int .i64 j ∧ (j : Int) ≤ (1 + r11) ∧ x = .int .i64 X ∧ y = .int .i64 Y ∧ Hid (l.length = j + 1) ∧ Hid (Pl l 1 80 49 765 r10 true X Y) ∧ Hid (PRow wr (V1.heap.size) v l) ∧ Hid (wr.heap[(w.heap.size + 1 + 1 + 1)]? = some (.cells #[.int .i64 (1 + r0), .int .i64 (100 + 390 * r1), .int .i64 (10 + 7 * r2), .int .i64 (10 + 1900 * r3), v1, v, .slice none 0 0, .int .i64 r4, .int .i64 r5, .int .i64 (2 * r6), .int .i64 (4 * r7)] 24 (0, 0))) ∧ Hid (wr.heap[w.heap.size]? = some (.cells #[.int .i64 0, .int .i64 0, .int .i64 0, .int .i64 0, .slice none 0 0, .slice none 0 0, .slice none 0 0, .int .i64 0, .int .i64 0, .int .i64 0, .int .i64 0] 24 (0, 0))) ∧ Hid (NxIn w p k cap (w.heap.size + 1 + 1) (w.heap.size + 1) wr) ∧ (V1.heap.size) ≤ wr.heap.size ∧ Hid (PRow wr (w.heap.size + 1 + 1 + 1 + 1) v1 l1)) (fun _ _ i _ => ((1 + r11)).toNat - (intOf i).toNat)
      case atStart => exact ⟨0, [(0, r10)], 0, r10, _, rfl, by omega, rfl, rfl, rfl, Pl.one (by omega) (by omega), HR2.out, HS.out, HZ.out, HNX.out, by omega, HR1.out⟩
      case round =>
        clear HNX HZ HS HR1 HR2
        obtain ⟨j, l, X, Y, v, rfl, hj, rfl, rfl, hlen, hpl, hrow, hs, hz, hnx, hmw, ho0⟩ := hrel
        have HLEN := Lib.hid hlen.out
        have HPL := Lib.hid hpl.out
        have HR := Lib.hid hrow.out
        have HS := Lib.hid hs.out
        have HZ := Lib.hid hz.out
        have HNX := Lib.hid hnx.out
        have HO0 := Lib.hid ho0.out
        have xb0 := hpl.out.x_low (by decide)
        have xb := hpl.out.x_bd
        rw [hlen.out] at xb
        simp only [Nat.add_sub_cancel] at xb
        obtain ⟨xb1, xb2, xb3⟩ := xb
        clear hlen hpl hrow hs hz hnx ho0
        by_cases hlt : (j : Int) < (1 + r11)
        · skip
          go_wp2_with fail
          refine (HNEXT.out 80 (by decide) (by decide) _ HNX.out).mono ?_
          rintro e X15 ⟨a1, rfl, a10, a11, hN, hC⟩
          replace HNX := Lib.hid hN
          replace HZ := Lib.hid ((hC.2.1 _ (by omega)).trans HZ.out)
          replace HS := Lib.hid ((hC.2.1 _ (by omega)).trans HS.out)
          replace HR := Lib.hid (prow_chg HR.out hC (by omega))
          replace HO0 := Lib.hid (prow_chg HO0.out hC (by omega))
          have hs15 := Nat.le_of_eq hC.1
          have ht15 := Nat.le_of_eq hC.1.symm
          clear hN hC
          go_wp2_with fail
          refine (HNEXT.out 256 (by decide) (by decide) _ HNX.out).mono ?_
          rintro e X16 ⟨a2, rfl, a20, a21, hN, hC⟩
          replace HNX := Lib.hid hN
          replace HZ := Lib.hid ((hC.2.1 _ (by omega)).trans HZ.out)
          replace HS := Lib.hid ((hC.2.1 _ (by omega)).trans HS.out)
          replace HR := Lib.hid (prow_chg HR.out hC (by omega))
          replace HO0 := Lib.hid (prow_chg HO0.out hC (by omega))
          have hs16 := Nat.le_of_eq hC.1
          have ht16 := Nat.le_of_eq hC.1.symm
          clear hN hC
          have cS := (cell_of_block HS.out 5).trans rfl
          simp only [List.getElem?_toArray, List.getElem?_cons_zero, List.getElem?_cons_succ] at cS
          have hbT := (Below.refl X16.heap.size X16).alloc (Nat.le_refl _) (.cells #[.int .i64 (X + 1 + a1), .int .i64 (Y + 3 * a2)] 30)
          have hnb := block_new X16 (.cells #[.int .i64 (X + 1 + a1), .int .i64 (Y + 3 * a2)] 30)
          replace HNX := Lib.hid (HNX.out.later hbT)
          replace HZ := Lib.hid ((hbT.block _ (lt_of_block HZ.out)).trans HZ.out)
          replace HS := Lib.hid ((hbT.block _ (lt_of_block HS.out)).trans HS.out)
          replace HR := Lib.hid (row_later HR.out hbT)
          replace HO0 := Lib.hid (row_later HO0.out hbT)
          have hbTs := hbT.size
          clear hbT
          have hmx : l.length + 1 ≤ maxLen := by rw [HLEN.out]; simp only [maxLen]; omega
          have hby : (l.length + 1) * 16 ≤ 140737488355328 := by rw [HLEN.out]; omega
          have hltW := lt_of_block HS.out
          go_wp2_with (at_builtin; refine Hid.out ?_)
          refine Lib.hid ?_
          generalize X16.alloc (.cells #[.int .i64 (X + 1 + a1), .int .i64 (Y + 3 * a2)] 30) = Y2 at *
          refine wpList_append_own _ rfl (.tmp 89) (.tmp 93) 22 rfl (V1.heap.size) 30 i0 (.agg #[.int .i64 0, .int .i64 0]) 2 16 und22 hi hz0 hz1 hz2 rfl (by decide) v l.length (flatP l) rfl HR.out ⟨X16.heap.size, 0, none⟩ 1 1 [.int .i64 (X + 1 + a1), .int .i64 (Y + 3 * a2)] rfl rfl (World.news_of_block hnb) (by simp [Value.oneCell']) hmx hby (by omega) ?_
          intro v2 Zg hown hgrow _
          obtain ⟨g2, cap2, rfl⟩ := ownsRow_succ hown
          have zb := (Below.refl (V1.heap.size) Y2).grown hgrow (by omega) (pown_base HR.out)
          have HRN := Lib.hid (show PRow Zg (V1.heap.size) (.slice (some ⟨g2, 0, none⟩) (l.length + 1) cap2) (l ++ [(X + 1 + a1, Y + 3 * a2)]) from by simpa [PRow, flatP_snoc] using hown)
          replace HNX := Lib.hid (HNX.out.keep (HNX.out.low.trans (zb.mono (by omega))) (zb.block _ (by omega)) (zb.block _ (by omega)))
          replace HZ := Lib.hid ((zb.block _ (by omega)).trans HZ.out)
          replace HS := Lib.hid ((zb.block _ (by omega)).trans HS.out)
          replace HO0 := Lib.hid (prow_grow HO0.out hgrow (pown_base HR.out) HOL0.out)
          have hzs := zb.size
          clear hown hgrow zb cS HR
          clear hnb
          go_wp2_with (refine list_store22 rfl rfl rfl rfl rfl HS.out (by simp) ?_; intro Zs hz hc; have HS2 := Lib.hid (show Zs.heap[(w.heap.size + 1 + 1 + 1)]? = some (.cells #[.int .i64 (1 + r0), .int .i64 (100 + 390 * r1), .int .i64 (10 + 7 * r2), .int .i64 (10 + 1900 * r3), v1, .slice (some ⟨g2, 0, none⟩) (l.length + 1) cap2, .slice none 0 0, .int .i64 r4, .int .i64 r5, .int .i64 (2 * r6), .int .i64 (4 * r7)] 24 (0, 0)) from hz); clear HS; have HS := HS2; clear HS2; replace HNX := Lib.hid (HNX.out.keep (HNX.out.low.trans (hc.below (by omega))) (hc.2.1 _ (by omega)) (hc.2.1 _ (by omega))); replace HZ := Lib.hid ((hc.2.1 _ (by omega)).trans HZ.out); replace HRN := Lib.hid (prow_chg HRN.out hc (by omega)); replace HO0 := Lib.hid (prow_chg HO0.out hc (by omega)); have hsZs := Nat.le_of_eq hc.1; have htZs := Nat.le_of_eq hc.1.symm; clear hz hc)
          go_roundw
          case rel => exact ⟨j + 1, l ++ [(X + 1 + a1, Y + 3 * a2)], X + 1 + a1, Y + 3 * a2, _, by go_num, by omega, by go_num, by go_num, by rw [List.length_append, HLEN.out]; rfl, HPL.out.snoc (by omega) (by rw [HLEN.out]; omega) (by omega) (by rw [HLEN.out]; omega) (by first | (simp; omega) | simp | (show Y ≤ _; omega) | (show _ ≤ Y; omega)), HRN.out, HS.out, HZ.out, HNX.out, by omega, HO0.out⟩
          case measure => simp [intOf]; omega
        · have hjc : (j : Int) = (1 + r11) := by omega
          obtain ⟨V2, hV2⟩ : ∃ V2, V2 = wr := ⟨_, rfl⟩
          subst hV2
          obtain ⟨l2, hl2⟩ : ∃ l2, l2 = l := ⟨_, rfl⟩
          subst hl2
          obtain ⟨v2, hv2⟩ : ∃ v2, v2 = v := ⟨_, rfl⟩
          subst hv2
          obtain ⟨j2, hj2⟩ : ∃ j2, j2 = j := ⟨_, rfl⟩
          subst hj2
          have HPL2 := Lib.hid HPL.out
          have HLEN2 := Lib.hid HLEN.out
          have HR2 := Lib.hid HR.out
          have hjc2 := hjc
          have hmw2 := hmw
          clear HOL0
          have HOL0 := Lib.hid (pown_lt HO0.out)
          have HOL1 := Lib.hid (pown_lt HR2.out)
          have hltV := lt_of_block HS.out
          clear HPL HLEN HR hjc hmw hlt hj xb0 xb1 xb2 xb3
          have hbA := (Below.refl V2.heap.size V2).alloc (Nat.le_refl _) (.cells #[.int .i64 0, .int .i64 (0)] 30)
          have HR3 := Lib.hid (prow_one V2 (V2.heap.size) 0 (0) (by omega))
          replace HNX := Lib.hid (HNX.out.later hbA)
          replace HZ := Lib.hid ((hbA.block _ (lt_of_block HZ.out)).trans HZ.out)
          replace HS := Lib.hid ((hbA.block _ (lt_of_block HS.out)).trans HS.out)
          replace HO0 := Lib.hid (row_later HO0.out hbA)
          replace HR2 := Lib.hid (row_later HR2.out hbA)
          have hsA3 := hbA.size
          clear hbA
          go_wp2_with (refine list_store22 rfl rfl rfl rfl rfl HS.out (by simp) ?_; intro Z3 hz hc; have HS2 := Lib.hid (show Z3.heap[(w.heap.size + 1 + 1 + 1)]? = some (.cells #[.int .i64 (1 + r0), .int .i64 (100 + 390 * r1), .int .i64 (10 + 7 * r2), .int .i64 (10 + 1900 * r3), v1, v2, .slice (some ⟨V2.heap.size, 0, none⟩) 1 1, .int .i64 r4, .int .i64 r5, .int .i64 (2 * r6), .int .i64 (4 * r7)] 24 (0, 0)) from hz); clear HS; have HS := HS2; clear HS2; replace HNX := Lib.hid (HNX.out.keep (HNX.out.low.trans (hc.below (by omega))) (hc.2.1 _ (by omega)) (hc.2.1 _ (by omega))); replace HZ := Lib.hid ((hc.2.1 _ (by omega)).trans HZ.out); replace HO0 := Lib.hid (prow_chg HO0.out hc (by omega)); replace HR2 := Lib.hid (prow_chg HR2.out hc (by omega)); replace HR3 := Lib.hid (prow_chg HR3.out hc (by omega)); have hsZ3 := Nat.le_of_eq hc.1; have htZ3 := Nat.le_of_eq hc.1.symm; clear hz hc)
          refine (HNEXT.out 4 (by decide) (by decide) _ HNX.out).mono ?_
          rintro e X17 ⟨r12, rfl, r120, r121, hN, hC⟩
          replace HNX := Lib.hid hN
          replace HZ := Lib.hid ((hC.2.1 _ (by omega)).trans HZ.out)
          replace HS := Lib.hid ((hC.2.1 _ (by omega)).trans HS.out)
          replace HO0 := Lib.hid (prow_chg HO0.out hC (by omega))
          replace HR2 := Lib.hid (prow_chg HR2.out hC (by omega))
          replace HR3 := Lib.hid (prow_chg HR3.out hC (by omega))
          have hs17 := Nat.le_of_eq hC.1
          have ht17 := Nat.le_of_eq hC.1.symm
          clear hN hC
          have hm3 : V2.heap.size ≤ X17.heap.size := by omega
          go_wp2_with fail
          go_loopw [5, 6, 102] (fun x y i wr => ∃ (j : Nat) (l : List (Int × Int)) (X Y : Int) (v : Value), i = .int .i64 j ∧ (j : Int) ≤ r12 ∧ x = .int .i64 X ∧ y = .int .i64 Y ∧ Hid (l.length = j + 1) ∧ Hid (Pl l 1 90 0 765 0 true X Y) ∧ Hid (PRow wr (V2.heap.size) v l) ∧ Hid (wr.heap[(w.heap.size + 1 + 1 + 1)]? = some (.cells #[.int .i64 (1 + r0), .int .i64 (100 + 390 * r1), .int .i64 (10 + 7 * r2), .int .i64 (10 + 1900 * r3), v1, v2, v, .int .i64 r4, .int .i64 r5, .int .i64 (2 * r6), .int .i64 (4 * r7)] 24 (0, 0))) ∧ Hid (wr.heap[w.heap.size]? = some (.cells #[.int .i64 0, .int .i64 0, .int .i64 0, .int .i64 0, .slice none 0 0, .slice none 0 0, .slice none 0 0, .int .i64 0, .int .i64 0, .int .i64 0, .int .i64 0] 24 (0, 0))) ∧ Hid (NxIn w p k cap (w.heap.size + 1 + 1) (w.heap.size + 1) wr) ∧ (V2.heap.size) ≤ wr.heap.size ∧ Hid (PRow wr (w.heap.size + 1 + 1 + 1 + 1) v1 l1) ∧ Hid (PRow wr (V1.heap.size) v2 l2)) (fun _ _ i _ => (r12).toNat - (intOf i).toNat)
          case atStart => exact ⟨0, [(0, 0)], 0, 0, _, rfl, by omega, rfl, rfl, rfl, Pl.one (by omega) (by omega), HR3.out, HS.out, HZ.out, HNX.out, by omega, HO0.out, HR2.out⟩
          case round =>
            clear HNX HZ HS HO0 HR2 HR3
            obtain ⟨j, l, X, Y, v, rfl, hj, rfl, rfl, hlen, hpl, hrow, hs, hz, hnx, hmw, ho0, ho1⟩ := hrel
            have HLEN := Lib.hid hlen.out
            have HPL := Lib.hid hpl.out
            have HR := Lib.hid hrow.out
            have HS := Lib.hid hs.out
            have HZ := Lib.hid hz.out
            have HNX := Lib.hid hnx.out
            have HO0 := Lib.hid ho0.out
            have HO1 := Lib.hid ho1.out
            have xb0 := hpl.out.x_low (by decide)
            have xb := hpl.out.x_bd
            rw [hlen.out] at xb
            simp only [Nat.add_sub_cancel] at xb
            obtain ⟨xb1, xb2, xb3⟩ := xb
            clear hlen hpl hrow hs hz hnx ho0 ho1
            by_cases hlt : (j : Int) < r12
            · skip
              go_wp2_with fail
              refine (HNEXT.out 90 (by decide) (by decide) _ HNX.out).mono ?_
              rintro e X18 ⟨a1, rfl, a10, a11, hN, hC⟩
              replace HNX := Lib.hid hN
              replace HZ := Lib.hid ((hC.2.1 _ (by omega)).trans HZ.out)
              replace HS := Lib.hid ((hC.2.1 _ (by omega)).trans HS.out)
              replace HR := Lib.hid (prow_chg HR.out hC (by omega))
              replace HO0 := Lib.hid (prow_chg HO0.out hC (by omega))
              replace HO1 := Lib.hid (prow_chg HO1.out hC (by omega))
              have hs18 := Nat.le_of_eq hC.1
              have ht18 := Nat.le_of_eq hC.1.symm
              clear hN hC
              go_wp2_with fail
              refine (HNEXT.out 256 (by decide) (by decide) _ HNX.out).mono ?_
              rintro e X19 ⟨a2, rfl, a20, a21, hN, hC⟩
              replace HNX := Lib.hid hN
              replace HZ := Lib.hid ((hC.2.1 _ (by omega)).trans HZ.out)
              replace HS := Lib.hid ((hC.2.1 _ (by omega)).trans HS.out)
              replace HR := Lib.hid (prow_chg HR.out hC (by omega))
              replace HO0 := Lib.hid (prow_chg HO0.out hC (by omega))
              replace HO1 := Lib.hid (prow_chg HO1.out hC (by omega))
              have hs19 := Nat.le_of_eq hC.1
              have ht19 := Nat.le_of_eq hC.1.symm
              clear hN hC
              have cS := (cell_of_block HS.out 6).trans rfl
              simp only [List.getElem?_toArray, List.getElem?_cons_zero, List.getElem?_cons_succ] at cS
              have hbT := (Below.refl X19.heap.size X19).alloc (Nat.le_refl _) (.cells #[.int .i64 (X + 1 + a1), .int .i64 (Y + 3 * a2)] 30)
              have hnb := block_new X19 (.cells #[.int .i64 (X + 1 + a1), .int .i64 (Y + 3 * a2)] 30)
              replace HNX := Lib.hid (HNX.out.later hbT)
              replace HZ := Lib.hid ((hbT.block _ (lt_of_block HZ.out)).trans HZ.out)
              replace HS := Lib.hid ((hbT.block _ (lt_of_block HS.out)).trans HS.out)
              replace HR := Lib.hid (row_later HR.out hbT)
              replace HO0 := Lib.hid (row_later HO0.out hbT)
              replace HO1 := Lib.hid (row_later HO1.out hbT)
              have hbTs := hbT.size
              clear hbT
              have hmx : l.length + 1 ≤ maxLen := by rw [HLEN.out]; simp only [maxLen]; omega
              have hby : (l.length + 1) * 16 ≤ 140737488355328 := by rw [HLEN.out]; omega
              have hltW := lt_of_block HS.out
              go_wp2_with (at_builtin; refine Hid.out ?_)
              refine Lib.hid ?_
              generalize X19.alloc (.cells #[.int .i64 (X + 1 + a1), .int .i64 (Y + 3 * a2)] 30) = Y3 at *
              refine wpList_append_own _ rfl (.tmp 115) (.tmp 119) 22 rfl (V2.heap.size) 30 i0 (.agg #[.int .i64 0, .int .i64 0]) 2 16 und22 hi hz0 hz1 hz2 rfl (by decide) v l.length (flatP l) rfl HR.out ⟨X19.heap.size, 0, none⟩ 1 1 [.int .i64 (X + 1 + a1), .int .i64 (Y + 3 * a2)] rfl rfl (World.news_of_block hnb) (by simp [Value.oneCell']) hmx hby (by omega) ?_
              intro v2 Zg hown hgrow _
              obtain ⟨g2, cap2, rfl⟩ := ownsRow_succ hown
              have zb := (Below.refl (V2.heap.size) Y3).grown hgrow (by omega) (pown_base HR.out)
              have HRN := Lib.hid (show PRow Zg (V2.heap.size) (.slice (some ⟨g2, 0, none⟩) (l.length + 1) cap2) (l ++ [(X + 1 + a1, Y + 3 * a2)]) from by simpa [PRow, flatP_snoc] using hown)
              replace HNX := Lib.hid (HNX.out.keep (HNX.out.low.trans (zb.mono (by omega))) (zb.block _ (by omega)) (zb.block _ (by omega)))
              replace HZ := Lib.hid ((zb.block _ (by omega)).trans HZ.out)
              replace HS := Lib.hid ((zb.block _ (by omega)).trans HS.out)
              replace HO0 := Lib.hid (prow_grow HO0.out hgrow (pown_base HR.out) HOL0.out)
              replace HO1 := Lib.hid (prow_grow HO1.out hgrow (pown_base HR.out) HOL1.out)
              have hzs := zb.size
              clear hown hgrow zb cS HR
              clear hnb
              go_wp2_with (refine list_store22 rfl rfl rfl rfl rfl HS.out (by simp) ?_; intro Zs hz hc; have HS2 := Lib.hid (show Zs.heap[(w.heap.size + 1 + 1 + 1)]? = some (.cells #[.int .i64 (1 + r0), .int .i64 (100 + 390 * r1), .int .i64 (10 + 7 * r2), .int .i64 (10 + 1900 * r3), v1, v2, .slice (some ⟨g2, 0, none⟩) (l.length + 1) cap2, .int .i64 r4, .int .i64 r5, .int .i64 (2 * r6), .int .i64 (4 * r7)] 24 (0, 0)) from hz); clear HS; have HS := HS2; clear HS2; replace HNX := Lib.hid (HNX.out.keep (HNX.out.low.trans (hc.below (by omega))) (hc.2.1 _ (by omega)) (hc.2.1 _ (by omega))); replace HZ := Lib.hid ((hc.2.1 _ (by omega)).trans HZ.out); replace HRN := Lib.hid (prow_chg HRN.out hc (by omega)); replace HO0 := Lib.hid (prow_chg HO0.out hc (by omega)); replace HO1 := Lib.hid (prow_chg HO1.out hc (by omega)); have hsZs := Nat.le_of_eq hc.1; have htZs := Nat.le_of_eq hc.1.symm; clear hz hc)
              go_roundw
              case rel => exact ⟨j + 1, l ++ [(X + 1 + a1, Y + 3 * a2)], X + 1 + a1, Y + 3 * a2, _, by go_num, by omega, by go_num, by go_num, by rw [List.length_append, HLEN.out]; rfl, HPL.out.snoc (by omega) (by rw [HLEN.out]; omega) (by omega) (by rw [HLEN.out]; omega) (by first | (simp; omega) | simp | (show Y ≤ _; omega) | (show _ ≤ Y; omega)), HRN.out, HS.out, HZ.out, HNX.out, by omega, HO0.out, HO1.out⟩
              case measure => simp [intOf]; omega
            · have hjc : (j : Int) = r12 := by omega
              obtain ⟨V3, hV3⟩ : ∃ V3, V3 = wr := ⟨_, rfl⟩
              subst hV3
              obtain ⟨l3, hl3⟩ : ∃ l3, l3 = l := ⟨_, rfl⟩
              subst hl3
              obtain ⟨v3, hv3⟩ : ∃ v3, v3 = v := ⟨_, rfl⟩
              subst hv3
              obtain ⟨j3, hj3⟩ : ∃ j3, j3 = j := ⟨_, rfl⟩
              subst hj3
              have HPL3 := Lib.hid HPL.out
              have HLEN3 := Lib.hid HLEN.out
              have HR3 := Lib.hid HR.out
              have hjc3 := hjc
              have hmw3 := hmw
              have hltV := lt_of_block HS.out
              clear HPL HLEN HR hjc hmw hlt hj xb0 xb1 xb2 xb3
              have yb := HPL3.out.x_bd
              rw [HLEN3.out] at yb
              simp only [Nat.add_sub_cancel] at yb
              have yb1 := yb.2.1
              have yb2 := yb.2.2
              clear yb
              have hmx : l3.length + 1 ≤ maxLen := by rw [HLEN3.out]; simp only [maxLen]; omega
              have hby : (l3.length + 1) * 16 ≤ 140737488355328 := by rw [HLEN3.out]; omega
              have hM12 : w.heap.size + 1 + 1 + 1 + 1 ≤ V1.heap.size := hmw1
              have hM23 : V1.heap.size ≤ V2.heap.size := hmw2
              have eg73 : ∀ args w, (callFunc 73 args).run Tryd.prog w = .ok (.enter 73 args) w := Go.Proofs.enters_of Tryd.func73 (by kernel_rfl) rfl
              have HR24 := Lib.hid (show R24 w p k cap w.heap.size (w.heap.size + 1 + 1) (w.heap.size + 1) (w.heap.size + 1 + 1 + 1) (w.heap.size + 1 + 1 + 1 + 1) V1.heap.size V2.heap.size (.cells #[.int .i64 0, .int .i64 0, .int .i64 0, .int .i64 0, .slice none 0 0, .slice none 0 0, .slice none 0 0, .int .i64 0, .int .i64 0, .int .i64 0, .int .i64 0] 24 (0, 0)) (fun v => #[.int .i64 (1 + r0), .int .i64 (100 + 390 * r1), .int .i64 (10 + 7 * r2), .int .i64 (10 + 1900 * r3), v1, v2, v, .int .i64 r4, .int .i64 r5, .int .i64 (2 * r6), .int .i64 (4 * r7)]) v1 v2 v3 l1 l2 l3 Y (fun _ => false) (fun _ => undef) V3 from ⟨HNX.out, HZ.out, HO0.out, HO1.out, fun _ => HS.out, fun _ => HR3.out, hmw3, fun e => (by cases e), fun e => (by cases e), fun e => (by cases e), fun e => (by cases e), fun e => (by cases e), fun e => (by cases e), fun e => (by cases e), fun e => (by cases e), fun e => (by cases e), fun e => (by cases e), fun e => (by cases e), fun e => (by cases e), fun e => (by cases e), fun e => (by cases e)⟩)
              go_wp2_with fail
              refine wp_region_all [123, 124, 125, 126, 127, 128, 129, 130, 131, 132, 133, 1000] (R24 w p k cap w.heap.size (w.heap.size + 1 + 1) (w.heap.size + 1) (w.heap.size + 1 + 1 + 1) (w.heap.size + 1 + 1 + 1 + 1) V1.heap.size V2.heap.size (.cells #[.int .i64 0, .int .i64 0, .int .i64 0, .int .i64 0, .slice none 0 0, .slice none 0 0, .slice none 0 0, .int .i64 0, .int .i64 0, .int .i64 0, .int .i64 0] 24 (0, 0)) (fun v => #[.int .i64 (1 + r0), .int .i64 (100 + 390 * r1), .int .i64 (10 + 7 * r2), .int .i64 (10 + 1900 * r3), v1, v2, v, .int .i64 r4, .int .i64 r5, .int .i64 (2 * r6), .int .i64 (4 * r7)]) v1 v2 v3 l1 l2 l3 Y) (by kernel_rfl) (by kernel_rfl) (fun s hs h => by simp at hs ⊢; omega) (by simp) (HR24.out.later ⟨rfl, rfl, rfl, Nat.le_refl _, fun _ _ => rfl⟩) ?val ?fin
              case val =>
                clear HNX HZ HO0 HO1 HS HR3
                intro j
                match j with
                | 0 => intro o L V ho hL hd a' W hX hfr hdp; obtain rfl := Option.some.inj ho; exact opx_of (op_fa24 rfl (hfr 4 (by decide))) fun W' hb => (hX.later hb).set0 rfl
                | 1 =>
                  intro o L V ho hL hd a' W hX hfr hdp; obtain rfl := Option.some.inj ho
                  have h11 : L 11 = false := by
                    cases h11 : L 11 with
                    | false => rfl
                    | true => have e := hX.dp9 (hX.dp11 h11); rw [hL] at e; cases e
                  exact opx_of (op_load22 rfl ((hdp 0 123 (by decide) rfl (by kernel_rfl)).trans (hX.f0 (hd 0 (by kernel_rfl)))) ((cell_of_block (hX.hs h11) 6).trans rfl)) fun W' hb => (hX.later hb).set1 rfl
                | 2 => intro o L V ho hL hd a' W hX hfr hdp; obtain rfl := Option.some.inj ho; exact opx_of (op_move rfl (hfr 6 (by decide))) fun W' hb => (hX.later hb).set2 rfl
                | 3 => intro o L V ho hL hd a' W hX hfr hdp; obtain rfl := Option.some.inj ho; exact opx_of (op_move rfl (hfr 3 (by decide))) fun W' hb => (hX.later hb).set3 rfl
                | 4 =>
                  intro o L V ho hL hd a' W hX hfr hdp; obtain rfl := Option.some.inj ho
                  refine opx_callk rfl ((hdp 3 126 (by decide) rfl (by kernel_rfl)).trans (hX.f3 (hd 3 (by kernel_rfl)))) eg73 ((HNEXT.out 256 (by decide) (by decide) _ hX.nx).mono ?_)
                  rintro e W' ⟨r, rfl, h0, h1, hN, hC⟩
                  exact ⟨_, rfl, (hX.chg hN hC (by omega) (by omega) (by omega) (by omega) (by omega)).set4 ⟨r, rfl, h0, h1⟩⟩
                | 5 =>
                  intro o L V ho hL hd a' W hX hfr hdp; obtain rfl := Option.some.inj ho
                  obtain ⟨y, e, h0, h1⟩ := (hX.f4 (hd 4 (by kernel_rfl)))
                  exact opx_of (op_mulc rfl ((hdp 4 127 (by decide) rfl (by kernel_rfl)).trans e) (by omega)) fun W' hb => (hX.later hb).set5 ⟨4 * y, rfl, by omega, by omega⟩
                | 6 =>
                  intro o L V ho hL hd a' W hX hfr hdp; obtain rfl := Option.some.inj ho
                  obtain ⟨y, e, h0, h1⟩ := (hX.f5 (hd 5 (by kernel_rfl)))
                  exact opx_of (op_addt rfl ((hdp 2 125 (by decide) rfl (by kernel_rfl)).trans (hX.f2 (hd 2 (by kernel_rfl)))) ((hdp 5 128 (by decide) rfl (by kernel_rfl)).trans e) (by omega)) fun W' hb => (hX.later hb).set6 ⟨Y + y, rfl, by omega, by omega⟩
                | 7 =>
                  intro o L V ho hL hd a' W hX hfr hdp; obtain rfl := Option.some.inj ho
                  obtain ⟨y, e, hy⟩ := (hX.f6 (hd 6 (by kernel_rfl)))
                  exact opx_b30 rfl ((hdp 6 129 (by decide) rfl (by kernel_rfl)).trans e) (hX.set7 ⟨y, rfl, hy⟩)
                | 8 =>
                  intro o L V ho hL hd a' W hX hfr hdp; obtain rfl := Option.some.inj ho
                  obtain ⟨y, e, hy⟩ := (hX.f7 (hd 7 (by kernel_rfl)))
                  exact opx_bs22 rfl ((hdp 7 130 (by decide) rfl (by kernel_rfl)).trans e) ((hX.later ((Below.refl _ _).alloc (Nat.le_refl _) _)).set8 ⟨W.heap.size, y, rfl, hX.sz, block_new W _, hy⟩)
                | 9 =>
                  intro o L V ho hL hd a' W hX hfr hdp; obtain rfl := Option.some.inj ho
                  obtain ⟨g, y, e, hg, hb, hy⟩ := hX.f8 (hd 8 (by kernel_rfl)) hL
                  refine wp_append_own _ (.tmp 124) (.tmp 131) 22 rfl V2.heap.size 30 i0 (.agg #[.int .i64 0, .int .i64 0]) 2 16 und22 hi hz0 hz1 hz2 rfl (by decide) v3 l3.length (flatP l3) ((hdp 1 124 (by decide) rfl (by kernel_rfl)).trans (hX.f1 (hd 1 (by kernel_rfl)))) (hX.hr hL) ⟨g, 0, none⟩ 1 1 [.int .i64 400, .int .i64 y] ((hdp 8 131 (by decide) rfl (by kernel_rfl)).trans e) rfl (World.news_of_block hb) (by simp [Value.oneCell']) hmx hby hX.sz ?_
                  intro v' W' hown hgrow _
                  exact ⟨v', rfl, hX.app hgrow (by simpa [PRow, flatP_snoc] using hown) hy hL (hd 1 (by kernel_rfl)) (by omega) (by omega) (by omega) (by omega) (by omega) HOL0.out HOL1.out⟩
                | 10 => intro o L V ho hL hd a' W hX hfr hdp; obtain rfl := Option.some.inj ho; exact opx_of (op_fa24 rfl (hfr 4 (by decide))) fun W' hb => (hX.later hb).set10 rfl
                | 11 =>
                  intro o L V ho hL hd a' W hX hfr hdp; obtain rfl := Option.some.inj ho
                  obtain ⟨y, hr, hy⟩ := (hX.f9 (hd 9 (by kernel_rfl)))
                  obtain ⟨g2, cap2, e2⟩ := ownsRow_succ (k := l3.length) (by simpa [PRow] using hr)
                  refine opx_store22 rfl rfl ((hdp 10 133 (by decide) rfl (by kernel_rfl)).trans (hX.f10 (hd 10 (by kernel_rfl)))) ((hdp 9 132 (by decide) rfl (by kernel_rfl)).trans e2) (hX.hs hL) (by simp) ?_
                  intro W' hb hc
                  exact hX.sto hb hc (e2 ▸ hr) hy (hd 9 (by kernel_rfl)) (by omega) (by omega) (by omega) (by omega) (by omega) (by omega) (by omega)
                | j + 12 => intro o L V ho; simp at ho
              case fin =>
                intro Z L V hLL hX
                obtain ⟨v, y, hS, hr, hy⟩ := hX.f11 (hLL 11 (by simp))
                obtain ⟨g1, c1, rfl⟩ := ownsRow_succ (k := j1) (by have h := hX.o1; simp only [PRow, HLEN1.out] at h; exact h)
                obtain ⟨g2, c2, rfl⟩ := ownsRow_succ (k := j2) (by have h := hX.o2; simp only [PRow, HLEN2.out] at h; exact h)
                obtain ⟨g3, c3, rfl⟩ := ownsRow_succ (k := l3.length) (by simpa [PRow] using hr)
                have HS9 := Lib.hid hS
                have HR9 := Lib.hid hr
                have H19 := Lib.hid hX.o1
                have H29 := Lib.hid hX.o2
                have HZ9 := Lib.hid hX.z
                have HB9 := Lib.hid hX.nx.low
                have HY9 := Lib.hid hy
                simp only [fill, Act.put, List.setIfInBounds_toArray, List.set_cons_zero, List.set_cons_succ, List.set_nil, Nat.reduceAdd]
                clear hX hLL hS hr hy HNX HZ HO0 HO1 HS HR3 HR24 HNEXT
                generalize V 0 = z0
                generalize V 1 = z1
                generalize V 2 = z2
                generalize V 3 = z3
                generalize V 4 = z4
                generalize V 5 = z5
                generalize V 6 = z6
                generalize V 7 = z7
                generalize V 8 = z8
                generalize V 9 = z9
                generalize V 10 = z10
                generalize V 11 = z11
                obtain ⟨k0, k1, k2, k3, k4, k5, k6, k7, k8, k9, k10⟩ := cells11 HS9.out
                go_wp2_with (refine list_store24 rfl rfl rfl rfl rfl HZ9.out ?_; intro ZZ hz hc; have HZZ := Lib.hid hz; have HCC := Lib.hid hc; obtain ⟨m0, m1, m2, m3, m4, m5, m6, m7, m8, m9, m10⟩ := cells11 hz; clear hz hc)
                have hl1 := HLEN1.out
                have hl2 := HLEN2.out
                have hl3 := HLEN3.out
                have hl4 : (l3 ++ [(400, y)]).length = l3.length + 1 := by simp
                have hp1 := prow_chg H19.out HCC.out (by omega)
                have hc1 := prow_cap hp1
                have hp2 := prow_chg H29.out HCC.out (by omega)
                have hc2 := prow_cap hp2
                have hp3 := prow_chg HR9.out HCC.out (by omega)
                have hc3 := prow_cap hp3
                refine bodyPost_ret (v := .agg (shipA ({ cls := 1 + r0, pow := 100 + 390 * r1, dra := 10 + 7 * r2, ton := 10 + 1900 * r3, th := cvOf l1, wa := cvOf l2, ic := cvOf (l3 ++ [(400, y)]), slow := r4, brash := r5, ridge := 2 * r6, press := 4 * r7 } : Sh) (⟨some ⟨g1, 0, none⟩, some ⟨g2, 0, none⟩, some ⟨g3, 0, none⟩, c1, c2, c3⟩ : Mem3))) ?_ rfl ⟨({ cls := 1 + r0, pow := 100 + 390 * r1, dra := 10 + 7 * r2, ton := 10 + 1900 * r3, th := cvOf l1, wa := cvOf l2, ic := cvOf (l3 ++ [(400, y)]), slow := r4, brash := r5, ridge := 2 * r6, press := 4 * r7 } : Sh), (⟨some ⟨g1, 0, none⟩, some ⟨g2, 0, none⟩, some ⟨g3, 0, none⟩, c1, c2, c3⟩ : Mem3), rfl, made_good HPL1.out HPL2.out HPL3.out (by omega) (by omega) (by omega) (by omega) (by omega) (by omega) (by omega) (by omega) (by omega) (by omega) (by omega) (by omega) (by omega) HY9.out, show l1.length ≤ 7 by omega, ⟨hp1.pts, hp2.pts, hp3.pts, hc1, hc2, hc3, show l1.length ≤ 1000000 by omega, show l2.length ≤ 1000000 by omega, show (l3 ++ [(400, y)]).length ≤ 1000000 by omega⟩, HB9.out.trans (HCC.out.below (Nat.le_refl _))⟩
                simp [results, Tryd.results24, go_sem, m0, m1, m2, m3, m4, m5, m6, m7, m8, m9, m10, cvOf, hl1, hl2]
end Go.Proofs.YtcoiklolgilhaaaDoor
