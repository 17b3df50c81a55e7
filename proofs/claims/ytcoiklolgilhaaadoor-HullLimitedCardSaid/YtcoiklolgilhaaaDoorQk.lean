/- The law HullLimited over memory: any bytes, any numbers. The table of limits and the one of strengths hold their numbers. -/
import Derived.Test.YtcoiklolgilhaaaDoorQd
import Derived.Test.YtcoiklolgilhaaaDoorQh
import Derived.Test.YtcoiklolgilhaaaDoorQj
namespace Go.Proofs.YtcoiklolgilhaaaDoor
open Go.RowKit
set_option maxRecDepth 100000
theorem lim_tuple (s : Sh) (v : Int) (ch : Bool) : ∃ L E : Int, LimitRes s v ch = .tuple #[.int .i64 L, .int .i64 E] := by
  unfold LimitRes
  split
  · split <;> exact ⟨_, _, rfl⟩
  · exact ⟨_, _, rfl⟩
theorem Limit_ex (s : Sh) (ms : Mem3) (v : Int) (ch : Bool) (w : World) (hs : ShipIn w s ms) :
    Calls Tryd.prog 37 #[.agg (shipA s ms), .int .i64 v, .bool ch] w fun e w' => ∃ L E : Int, e = .returned (.tuple #[.int .i64 L, .int .i64 E]) ∧ LimitRes s v ch = .tuple #[.int .i64 L, .int .i64 E] ∧ Below w.heap.size w w' := by
  refine (Limit_any s ms v ch w hs).mono ?_
  rintro e w' ⟨rfl, hb⟩
  obtain ⟨L, E, h⟩ := lim_tuple s v ch
  exact ⟨L, E, by rw [h], h, hb⟩
theorem makes_tuple (s : Sh) (x : Ic) (v : Int) (ch : Bool) : ∃ (M : Bool) (E : Int), MakesRes s x v ch = .tuple #[.bool M, .int .i64 E] := by
  unfold MakesRes
  split <;> exact ⟨_, _, rfl⟩
theorem Makes_ex (s : Sh) (ms : Mem3) (t v : Int) (ch : Bool) (w : World) (hs : ShipIn w s ms) (hl : Lim w) :
    Calls Tryd.prog 36 #[.agg (shipA s ms), .agg #[.int .i64 100, .int .i64 t, .int .i64 0, .int .i64 0], .int .i64 v, .bool ch] w fun e w' => ∃ (M : Bool) (E : Int), e = .returned (.tuple #[.bool M, .int .i64 E]) ∧ MakesRes s (lvl t) v ch = .tuple #[.bool M, .int .i64 E] ∧ Below w.heap.size w w' := by
  refine (Makes_any s ms (lvl t) v ch w hs hl).mono ?_
  rintro e w' ⟨rfl, hb⟩
  obtain ⟨M, E, h⟩ := makes_tuple s (lvl t) v ch
  exact ⟨M, E, by rw [h], h, hb⟩
theorem lim_facts {s : Sh} (hs : chkP s = 0) {lo hi t : Int} {ch : Bool} {L1 E1 L2 E2 L3 E3 E4 : Int} {M : Bool} (r1 : LimitRes s lo ch = .tuple #[.int .i64 L1, .int .i64 E1]) (r2 : LimitRes s hi ch = .tuple #[.int .i64 L2, .int .i64 E2]) (r3 : LimitRes s lo false = .tuple #[.int .i64 L3, .int .i64 E3]) (r4 : MakesRes s (lvl t) lo ch = .tuple #[.bool M, .int .i64 E4])
    (h0 : 0 ≤ lo) (h1 : lo ≤ hi) (h2 : hi ≤ 250) (ht : 0 ≤ t) (ht' : t ≤ 400) :
    E4 = 0 ∧ ((E1 = 4 ∧ E2 = 4 ∧ E3 = 4 ∧ M = false) ∨ (E1 = 0 ∧ (E2 = 4 ∨ (E2 = 0 ∧ L2 ≤ L1)) ∧ (E3 = 4 ∨ (E3 = 0 ∧ L3 ≤ L1)) ∧ ((M = true ∧ t ≤ L1) ∨ (M = false ∧ L1 < t)))) := by
  obtain ⟨a1, b1, a2, b2, a3, b3, n, q1, q2, q3, q4, h⟩ := limited_facts hs h0 h1 h2 ht ht' ch
  rw [r1] at q1
  rw [r2] at q2
  rw [r3] at q3
  rw [r4] at q4
  simp at q1 q2 q3 q4
  obtain ⟨rfl, rfl⟩ := q1
  obtain ⟨rfl, rfl⟩ := q2
  obtain ⟨rfl, rfl⟩ := q3
  obtain ⟨rfl, rfl⟩ := q4
  exact ⟨rfl, h⟩
set_option maxHeartbeats 8000000 in
theorem Limited_law (p : Option Addr) (k cap : Nat) (hk : k ≤ 9223372036854775807) (t a b : Int) (ch : Bool) (w : World) (hl : Lim w) (hst : Str w) (hB : BytesIn w p k) (ht : 0 ≤ t ∧ t < 65536) (ha : 0 ≤ a ∧ a < 256) (hb : 0 ≤ b ∧ b < 256) :
    Calls Tryd.prog 6 #[.slice p k cap, .int .u16 t, .int .u8 a, .int .u8 b, .bool ch] w fun e w' => e = .returned (.bool true) ∧ Below w.heap.size w w' := by
  have HLM := Lib.hid hl
  have HST := Lib.hid hst
  have hpos := hl.pos
  have hpos1 := hst.pos
  have HM := Lib.hid (Made_any p k cap hk w hB)
  clear hl hst hB hk
  obtain ⟨t0, t1⟩ := ht
  obtain ⟨a0, a1⟩ := ha
  obtain ⟨b0, b1⟩ := hb
  go_enter Tryd.func6, Tryd.ntmps6
  go_wp2_with fail
  refine HM.out.mono ?_
  rintro e W1 ⟨s, m, rfl, hs, h7, hin, hbl⟩
  have HC := Lib.hid hs
  have hba := (Below.refl W1.heap.size W1).alloc (Nat.le_refl _) (.cells #[.int .i64 0, .int .i64 0, .int .i64 0, .int .i64 0, .slice none 0 0, .slice none 0 0, .slice none 0 0, .int .i64 0, .int .i64 0, .int .i64 0, .int .i64 0] 24)
  have HIN := Lib.hid hin
  have HBA := Lib.hid hba
  have HBL := Lib.hid hbl
  have HZ := Lib.hid (block_new W1 (.cells #[.int .i64 0, .int .i64 0, .int .i64 0, .int .i64 0, .slice none 0 0, .slice none 0 0, .slice none 0 0, .int .i64 0, .int .i64 0, .int .i64 0, .int .i64 0] 24))
  have hsz := hbl.size
  clear hs h7 hin hbl hba HM
  go_wp2_with (refine list_store24 rfl rfl rfl rfl rfl HZ.out ?_; intro V hz hc; have HBV := Lib.hid (HBA.out.trans (hc.below (Nat.le_refl _))); have HS := Lib.hid (HIN.out.later HBV.out); obtain ⟨m0, m1, m2, m3, m4, m5, m6, m7, m8, m9, m10⟩ := cells11 hz; have HK := Lib.hid hz; have HB := Lib.hid (HBL.out.trans (HBV.out.mono HBL.out.size)); clear hz hc HBV HIN HBL HBA HZ)
  all_goals try (exfalso; omega)
  all_goals
    refine (Limit_ex s m _ _ V HS.out).mono ?_
    rintro e V2 ⟨L1, E1, rfl, r1, hb⟩
    have R1 := Lib.hid r1
    replace HK := Lib.hid ((hb.block _ (lt_of_block HK.out)).trans HK.out)
    replace HS := Lib.hid (HS.out.later hb)
    replace HB := Lib.hid (HB.out.trans (hb.mono HB.out.size))
    clear m0 m1 m2 m3 m4 m5 m6 m7 m8 m9 m10 r1 hb
    obtain ⟨m0, m1, m2, m3, m4, m5, m6, m7, m8, m9, m10⟩ := cells11 HK.out
    go_wp2_with fail
    refine (Limit_ex s m _ _ V2 HS.out).mono ?_
    rintro e V3 ⟨L2, E2, rfl, r2, hb⟩
    have R2 := Lib.hid r2
    replace HK := Lib.hid ((hb.block _ (lt_of_block HK.out)).trans HK.out)
    replace HS := Lib.hid (HS.out.later hb)
    replace HB := Lib.hid (HB.out.trans (hb.mono HB.out.size))
    clear m0 m1 m2 m3 m4 m5 m6 m7 m8 m9 m10 r2 hb
    obtain ⟨m0, m1, m2, m3, m4, m5, m6, m7, m8, m9, m10⟩ := cells11 HK.out
    go_wp2_with fail
    refine (Limit_ex s m _ _ V3 HS.out).mono ?_
    rintro e V4 ⟨L3, E3, rfl, r3, hb⟩
    have R3 := Lib.hid r3
    replace HK := Lib.hid ((hb.block _ (lt_of_block HK.out)).trans HK.out)
    replace HS := Lib.hid (HS.out.later hb)
    replace HB := Lib.hid (HB.out.trans (hb.mono HB.out.size))
    clear m0 m1 m2 m3 m4 m5 m6 m7 m8 m9 m10 r3 hb
    obtain ⟨m0, m1, m2, m3, m4, m5, m6, m7, m8, m9, m10⟩ := cells11 HK.out
    go_wp2_with fail
    refine (Makes_ex s m _ _ _ V4 HS.out (HLM.out.below hpos HB.out)).mono ?_
    rintro e V5 ⟨M, E4, rfl, r4, hb⟩
    have R4 := Lib.hid r4
    replace HK := Lib.hid ((hb.block _ (lt_of_block HK.out)).trans HK.out)
    replace HS := Lib.hid (HS.out.later hb)
    replace HB := Lib.hid (HB.out.trans (hb.mono HB.out.size))
    clear m0 m1 m2 m3 m4 m5 m6 m7 m8 m9 m10 r4 hb
    have F := lim_facts HC.out R1.out R2.out R3.out R4.out (by omega) (by omega) (by omega) (by omega) (by omega)
    clear R1 R2 R3 R4 HK HS
    have HAW := Lib.hid (awake_any V5 (HLM.out.below hpos HB.out) (HST.out.below hpos1 HB.out))
    obtain ⟨rfl, F⟩ := F
    rcases F with ⟨rfl, rfl, rfl, rfl⟩ | ⟨rfl, f2, f3, f4⟩
    · skip
      go_wp2_with fail
      all_goals try (exfalso; omega)
      all_goals (refine HAW.out.mono ?_; rintro e We ⟨rfl, hb⟩; have HBE := Lib.hid (HB.out.trans (hb.mono HB.out.size)); clear hb; go_wp2_with fail; go_ret; exact ⟨by first | rfl | (have hq : ¬ (t % 401 ≤ L1) := (by omega); simp [hq]), HBE.out⟩)
    · rcases f2 with rfl | ⟨rfl, g2⟩ <;> rcases f3 with rfl | ⟨rfl, g3⟩ <;> rcases f4 with ⟨rfl, g4⟩ | ⟨rfl, g4⟩
      all_goals
        go_wp2_with fail
      all_goals try (exfalso; omega)
      all_goals (refine HAW.out.mono ?_; rintro e We ⟨rfl, hb⟩; have HBE := Lib.hid (HB.out.trans (hb.mono HB.out.size)); clear hb; go_wp2_with fail; go_ret; exact ⟨by first | rfl | (have hq : ¬ (t % 401 ≤ L1) := (by omega); simp [hq]), HBE.out⟩)
end Go.Proofs.YtcoiklolgilhaaaDoor
