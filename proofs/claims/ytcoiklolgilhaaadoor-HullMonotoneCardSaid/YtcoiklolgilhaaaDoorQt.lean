/- The law HullMonotone over memory: any bytes, any numbers. The table of limits and the one of strengths hold their numbers. -/
import Derived.Test.YtcoiklolgilhaaaDoorQd
import Derived.Test.YtcoiklolgilhaaaDoorQh
import Derived.Test.YtcoiklolgilhaaaDoorQs
namespace Go.Proofs.YtcoiklolgilhaaaDoor
open Go.RowKit
set_option maxRecDepth 100000
set_option maxHeartbeats 8000000 in
theorem Monotone_law (p : Option Addr) (k cap : Nat) (hk : k ≤ 9223372036854775807) (p2 : Option Addr) (k2 cap2 : Nat) (hk2 : k2 ≤ 9223372036854775807) (a b : Int) (ch : Bool) (w : World) (hl : Lim w) (hst : Str w) (hB : BytesIn w p k) (hB2 : BytesIn w p2 k2) (ha : 0 ≤ a ∧ a < 256) (hb : 0 ≤ b ∧ b < 256) :
    Calls Tryd.prog 4 #[.slice p k cap, .slice p2 k2 cap2, .int .u8 a, .int .u8 b, .bool ch] w fun e w' => e = .returned (.bool true) ∧ Below w.heap.size w w' := by
  have HLM := Lib.hid hl
  have HST := Lib.hid hst
  have hpos := hl.pos
  have hpos1 := hst.pos
  have HM := Lib.hid (Made_any p k cap hk w hB)
  have HFZ := Lib.hid (fun W (hW : Below w.heap.size w W) => Frozen_any p2 k2 cap2 hk2 W (hB2.later hW))
  clear hl hst hB hB2 hk hk2
  obtain ⟨a0, a1⟩ := ha
  obtain ⟨b0, b1⟩ := hb
  go_enter Tryd.func4, Tryd.ntmps4
  go_wp2_with fail
  refine HM.out.mono ?_
  rintro e W1 ⟨s, m, rfl, hs, h7, hin, hbl⟩
  have HC := Lib.hid hs
  have hba := (Below.refl W1.heap.size W1).alloc (Nat.le_refl _) (.cells #[.int .i64 0, .int .i64 0, .int .i64 0, .int .i64 0, .slice none 0 0, .slice none 0 0, .slice none 0 0, .int .i64 0, .int .i64 0, .int .i64 0, .int .i64 0] 24)
  have HIN := Lib.hid hin
  have HBA := Lib.hid hba
  have HBL := Lib.hid hbl
  have HZ := Lib.hid (block_new W1 (.cells #[.int .i64 0, .int .i64 0, .int .i64 0, .int .i64 0, .slice none 0 0, .slice none 0 0, .slice none 0 0, .int .i64 0, .int .i64 0, .int .i64 0, .int .i64 0] 24))
  have hsz := hbl.size
  clear hs h7 hin hbl hba HM
  go_wp2_with (refine list_store24 rfl rfl rfl rfl rfl HZ.out ?_; intro V hz hc; have HBV := Lib.hid (HBA.out.trans (hc.below (Nat.le_refl _))); have HS := Lib.hid (HIN.out.later HBV.out); have HK := Lib.hid hz; have HB := Lib.hid (HBL.out.trans (HBV.out.mono HBL.out.size)); clear hz hc HBV HIN HBL HBA HZ)
  refine (HFZ.out _ HB.out).mono ?_
  rintro e W2 ⟨lo, hi, rfl, gc, hb⟩
  have HG := Lib.hid gc
  replace HK := Lib.hid ((hb.block _ (lt_of_block HK.out)).trans HK.out)
  replace HS := Lib.hid (HS.out.later hb)
  replace HB := Lib.hid (HB.out.trans (hb.mono HB.out.size))
  clear gc hb HFZ
  go_wp2_with fail
  refine (ends25_any lo hi _).mono ?_
  rintro e W3 ⟨rfl, hb⟩
  have HB3 := Lib.hid hb
  obtain ⟨t1, t2, tz, tb⟩ := two_allocs W3 Z53 Z53
  have HZ1 := Lib.hid t1
  have HZ2 := Lib.hid t2
  have HBZ := Lib.hid tb
  have hsz3 := hb.size
  clear t1 t2 tb hb
  rename_i K hK K9 hK9
  have HKA := Lib.hid hK
  clear hK
  go_wp2_with (first | (refine list_store4 rfl rfl rfl (.inl rfl) rfl rfl HZ1.out ?_; intro V1 hz1 hc1; have HZ2' := Lib.hid ((hc1.2.1 _ (by omega)).trans HZ2.out); have HB4 := Lib.hid (HBZ.out.trans (hc1.below (Nat.le_refl _)));clear hc1) | (refine list_store4 rfl rfl rfl (.inl rfl) rfl rfl HZ2'.out ?_; intro V2 hz2 hc2; have HX1 := Lib.hid ((hc2.2.1 _ (by omega)).trans hz1); have HX2 := Lib.hid hz2; have HB5 := Lib.hid (HB4.out.trans (hc2.below (by omega))); clear hc2 hz2 hz1))
  have HBW := Lib.hid (HB3.out.trans (HB5.out.mono hsz3))
  have HBB := Lib.hid (HB.out.trans (HBW.out.mono HB.out.size))
  replace HS := Lib.hid (HS.out.later HBW.out)
  replace HK := Lib.hid ((HBW.out.block _ (lt_of_block HK.out)).trans HK.out)
  refine HKA.out _ _ ?_
  refine wp_seq_k ?_
  intro K4 hK4
  have HKB := Lib.hid hK4
  clear hK4
  have d0 : (0 : Int) ≤ a % 251 := by omega
  have d1 : (0 : Int) ≤ b % 251 := by omega
  have e0 : a % 251 ≤ 250 := by omega
  have e1 : b % 251 ≤ 250 := by omega
  go_wp2_with fail
  all_goals
    refine HKB.out _ _ ?_
    refine wp_seq_k ?_
    intro K5 hK5
    have HKC := Lib.hid hK5
    clear hK5
    go_wp2_with fail
  all_goals
    refine HKC.out _ _ ?_
    clear HKA HKB HKC
  all_goals try (exfalso; omega)
  all_goals show Code.wp Tryd.prog mono6 _ _ _
  all_goals apply Mono_tail s m lo hi ch _ _ _ _ _ w _ HLM.out HST.out HC.out HG.out ?_ ?_ ?_ HBB.out HS.out HK.out HX1.out HX2.out <;> omega
end Go.Proofs.YtcoiklolgilhaaaDoor
