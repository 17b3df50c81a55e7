/- The contracts of what hull.beset, hull.beyond, hull.safeSpeeds and Speeds ask of an ice, and of these functions. A right ship, right cells; the table of strengths holds its numbers. -/
import Derived.Test.YtcoiklolgilhaaaGreatDoorPm
import Derived.Test.YtcoiklolgilhaaaGreatDoorPp
namespace Go.Proofs.YtcoiklolgilhaaaGreatDoor
open Go.RowKit
set_option maxRecDepth 100000
theorem beset1_any (s : Sh) (m : Mem3) (i : Ic) (ch : Bool) (g : Good s) (gi : GoodI i) (bs bc : Nat) (w : World) (h : ShipIn w s m) (hs : w.heap[bs]? = some (.cells (shipA s m) 24 (0, 0))) (hc : w.heap[bc]? = some (.cells #[.bool ch] 4 (0, 0))) :
    Calls Tryz.prog 140 #[.agg (iceV i), .pointer (some ⟨bs, 0, none⟩), .pointer (some ⟨bc, 0, none⟩)] w fun e w' => e = .returned (.bool (besP s i ch)) ∧ Below w.heap.size w w' := by
  have hb0 := (Below.refl w.heap.size w).alloc (Nat.le_refl _) (.cells (iceV i) 26)
  have HB0 := Lib.hid hb0
  have HC := Lib.hid (beset_s_any s m i ch g gi _ (h.later hb0))
  have ls := lt_of_block hs
  have lc := lt_of_block hc
  obtain ⟨c0, c1, c2, c3, c4, c5, c6, c7, c8, c9, c10⟩ := cells11 hs
  have d0 := (cell_of_block hc 0).trans rfl
  simp only [List.getElem?_toArray, List.getElem?_cons_zero] at d0
  clear h hb0 g gi hs hc
  go_enter Tryz.func140, Tryz.ntmps140
  go_wp2_with fail
  refine HC.out.mono ?_
  rintro e W1 ⟨rfl, hb1⟩
  have HB1 := Lib.hid (HB0.out.trans (hb1.mono HB0.out.size))
  clear hb1
  go_wp2_with fail
  go_ret
  exact ⟨by simp, HB1.out⟩
theorem Speeds1_any (s : Sh) (m : Mem3) (i : Ic) (ch : Bool) (g : Good s) (gi : GoodI i) (bs bc : Nat) (w : World) (h : ShipIn w s m) (hs : w.heap[bs]? = some (.cells (shipA s m) 24 (0, 0))) (hc : w.heap[bc]? = some (.cells #[.bool ch] 4 (0, 0))) :
    Calls Tryz.prog 84 #[.agg (iceV i), .pointer (some ⟨bs, 0, none⟩), .pointer (some ⟨bc, 0, none⟩)] w fun e w' => e = .returned (.int .i64 (speedP s i ch)) ∧ Below w.heap.size w w' := by
  have hb0 := (Below.refl w.heap.size w).alloc (Nat.le_refl _) (.cells (iceV i) 26)
  have HB0 := Lib.hid hb0
  have HC := Lib.hid (speed_any s m i ch g gi _ (h.later hb0))
  have ls := lt_of_block hs
  have lc := lt_of_block hc
  obtain ⟨c0, c1, c2, c3, c4, c5, c6, c7, c8, c9, c10⟩ := cells11 hs
  have d0 := (cell_of_block hc 0).trans rfl
  simp only [List.getElem?_toArray, List.getElem?_cons_zero] at d0
  clear h hb0 g gi hs hc
  go_enter Tryz.func84, Tryz.ntmps84
  go_wp2_with fail
  refine HC.out.mono ?_
  rintro e W1 ⟨rfl, hb1⟩
  have HB1 := Lib.hid (HB0.out.trans (hb1.mono HB0.out.size))
  clear hb1
  go_wp2_with fail
  go_ret
  exact ⟨by simp, HB1.out⟩
theorem safeSpeeds1_any (s : Sh) (m : Mem3) (i : Ic) (ch : Bool) (g : Good s) (gi : GoodI i) (bs bc : Nat) (w : World) (h : ShipIn w s m) (hst : Str w) (hs : w.heap[bs]? = some (.cells (shipA s m) 24 (0, 0))) (hc : w.heap[bc]? = some (.cells #[.bool ch] 4 (0, 0))) :
    Calls Tryz.prog 144 #[.agg (iceV i), .pointer (some ⟨bs, 0, none⟩), .pointer (some ⟨bc, 0, none⟩)] w fun e w' => e = .returned (.int .i64 (safeP s i ch)) ∧ Below w.heap.size w w' := by
  have hb0 := (Below.refl w.heap.size w).alloc (Nat.le_refl _) (.cells (iceV i) 26)
  have HB0 := Lib.hid hb0
  have HC := Lib.hid (safe_s_any s m i ch g gi _ (h.later hb0) (hst.later hb0))
  have ls := lt_of_block hs
  have lc := lt_of_block hc
  obtain ⟨c0, c1, c2, c3, c4, c5, c6, c7, c8, c9, c10⟩ := cells11 hs
  have d0 := (cell_of_block hc 0).trans rfl
  simp only [List.getElem?_toArray, List.getElem?_cons_zero] at d0
  clear h hb0 g gi hs hc
  go_enter Tryz.func144, Tryz.ntmps144
  go_wp2_with fail
  refine HC.out.mono ?_
  rintro e W1 ⟨rfl, hb1⟩
  have HB1 := Lib.hid (HB0.out.trans (hb1.mono HB0.out.size))
  clear hb1
  go_wp2_with fail
  go_ret
  exact ⟨by simp, HB1.out⟩
theorem beyond1_any (s : Sh) (m : Mem3) (i : Ic) (ch : Bool) (v : Int) (hv : 0 ≤ v) (hv' : v ≤ 250) (g : Good s) (gi : GoodI i) (bs bc bv : Nat) (w : World) (_h : ShipIn w s m) (hst : Str w) (hs : w.heap[bs]? = some (.cells (shipA s m) 24 (0, 0))) (hc : w.heap[bc]? = some (.cells #[.bool ch] 4 (0, 0))) (hvb : w.heap[bv]? = some (.cells #[.int .i64 v] 3 (0, 0))) :
    Calls Tryz.prog 142 #[.agg (iceV i), .pointer (some ⟨bs, 0, none⟩), .pointer (some ⟨bc, 0, none⟩), .pointer (some ⟨bv, 0, none⟩)] w fun e w' => e = .returned (.bool (beyP s i ch v)) ∧ Below w.heap.size w w' := by
  have hb0 := (Below.refl w.heap.size w).alloc (Nat.le_refl _) (.cells (iceV i) 26)
  have HB0 := Lib.hid hb0
  have HC := Lib.hid (beyond_s_any s m i ch g.cls gi v hv hv' _ (hst.later hb0))
  have ls := lt_of_block hs
  have lc := lt_of_block hc
  obtain ⟨c0, c1, c2, c3, c4, c5, c6, c7, c8, c9, c10⟩ := cells11 hs
  have d0 := (cell_of_block hc 0).trans rfl
  simp only [List.getElem?_toArray, List.getElem?_cons_zero] at d0
  have lv := lt_of_block hvb
  have v0 := (cell_of_block hvb 0).trans rfl
  simp only [List.getElem?_toArray, List.getElem?_cons_zero] at v0
  clear hvb
  clear _h hb0 g gi hs hc
  go_enter Tryz.func142, Tryz.ntmps142
  go_wp2_with fail
  refine HC.out.mono ?_
  rintro e W1 ⟨rfl, hb1⟩
  have HB1 := Lib.hid (HB0.out.trans (hb1.mono HB0.out.size))
  clear hb1
  go_wp2_with fail
  go_ret
  exact ⟨by simp, HB1.out⟩
end Go.Proofs.YtcoiklolgilhaaaGreatDoor
