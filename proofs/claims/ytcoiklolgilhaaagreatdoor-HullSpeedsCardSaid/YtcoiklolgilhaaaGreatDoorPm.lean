/- The contracts of sailing.beyond and sailing.safe. A right ship, right ice, a speed from 0 to 250; the table of strengths holds 4000, 8000, 14000, 24000, 40000, 90000. -/
import Derived.Test.YtcoiklolgilhaaaGreatDoorPl
namespace Go.Proofs.YtcoiklolgilhaaaGreatDoor
open Go.RowKit
set_option maxRecDepth 100000
set_option maxHeartbeats 2000000 in
theorem beyond_s_any (s : Sh) (m : Mem3) (i : Ic) (ch : Bool) (hcl : 1 ≤ s.cls ∧ s.cls ≤ 6) (gi : GoodI i) (v : Int) (hv : 0 ≤ v) (hv' : v ≤ 250) (w : World) (hst : Str w) :
    Calls Tryz.prog 143 #[.agg (sailA s m i ch), .int .i64 v] w fun e w' => e = .returned (.bool (beyP s i ch v)) ∧ Below w.heap.size w w' := by
  have hb0 := (Below.refl w.heap.size w).alloc (Nat.le_refl _) (.cells (sailA s m i ch) 127)
  have HB0 := Lib.hid hb0
  have HL := Lib.hid (fun (x : Later (w.alloc (.cells (sailA s m i ch) 127))) => load_any i gi v hv hv' ch x.world)
  obtain ⟨k, hk, hk6, hkc⟩ := (hst.later hb0).at hcl.1 hcl.2
  have hk6' : (k : Int) < 6 := by omega
  have hk0 : (0 : Int) ≤ (k : Int) := by omega
  have hcls : s.cls = (k : Int) + 1 := by omega
  have hz1 : 1 < (w.alloc (.cells (sailA s m i ch) 127)).heap.size := Nat.lt_of_lt_of_le hst.pos hb0.size
  have HE := Lib.hid (show beyP s i ch v = decide (strP s.cls < loadP i v ch) from rfl)
  replace hkc := later_cell hz1 hkc
  haveI : Nonempty (Later (w.alloc (.cells (sailA s m i ch) 127))) := ⟨⟨_, Below.refl _ _⟩⟩
  have hz : w.heap.size < (w.alloc (.cells (sailA s m i ch) 127)).heap.size := by simp
  obtain ⟨c0, c1, c2, c3, c4, c5, c6, c7, c8, c9, c10, c11, c12, c13, c14, c15⟩ := cells16 (block_new w (.cells (sailA s m i ch) 127))
  replace c0 := later_cell hz c0
  replace c1 := later_cell hz c1
  replace c2 := later_cell hz c2
  replace c3 := later_cell hz c3
  replace c4 := later_cell hz c4
  replace c5 := later_cell hz c5
  replace c6 := later_cell hz c6
  replace c7 := later_cell hz c7
  replace c8 := later_cell hz c8
  replace c9 := later_cell hz c9
  replace c10 := later_cell hz c10
  replace c11 := later_cell hz c11
  replace c12 := later_cell hz c12
  replace c13 := later_cell hz c13
  replace c14 := later_cell hz c14
  replace c15 := later_cell hz c15
  clear hb0 gi hst hcl hcls
  generalize strP s.cls = S at *
  generalize loadP i v ch = L at *
  go_enter Tryz.func143, Tryz.ntmps143
  go_wp2_with fail
  refine wp_region_later (by kernel_rfl) (by kernel_rfl) ?_
  repeat (go_big_quiet_step ((go_at_call 77; exact later_call (HL.out _))))
  refine wpQuiet_nil ?_
  intro _ hw'
  obtain ⟨⟨W, hW⟩, rfl⟩ := hw'
  have HW := Lib.hid (HB0.out.trans (hW.mono HB0.out.size))
  clear hW
  go_wp2_with fail
  go_ret
  exact ⟨by rw [HE.out]; simp, HW.out⟩
theorem eg121 : ∀ args w, (callFunc 178 args).run Tryz.prog w = .ok (.enter 178 args) w := Go.Proofs.enters_of Tryz.func178 (by kernel_rfl) rfl
set_option maxHeartbeats 2000000 in
theorem safe1_any (s : Sh) (m : Mem3) (i : Ic) (ch : Bool) (g : Good s) (gi : GoodI i) (b : Nat) (v : Nat) (hv' : v ≤ 250) (w : World) (h : ShipIn w s m) (hst : Str w) (hb : w.heap[b]? = some (.cells (sailA s m i ch) 127 (0, 0))) :
    Calls Tryz.prog 178 #[.int .i64 v, .pointer (some ⟨b, 0, none⟩)] w fun e w' => e = .returned (.bool (safeB s i ch v)) ∧ Below w.heap.size w w' := by
  have HB := Lib.hid hb
  have hlt := lt_of_block hb
  have HM := Lib.hid (makes_any s m i ch g gi v (by omega) (by omega) w h)
  have HY := Lib.hid (fun (W : World) (hW : Below w.heap.size w W) => beyond_s_any s m i ch g.cls gi v (by omega) (by omega) W (hst.later hW))
  obtain ⟨c0, c1, c2, c3, c4, c5, c6, c7, c8, c9, c10, c11, c12, c13, c14, c15⟩ := cells16 hb
  clear hst h g gi hb
  cases hm : makesP s i ch v with
  | false =>
    have HE := Lib.hid (show safeB s i ch v = false by simp [safeB, hm])
    have HM' := Lib.hid (by have := HM.out; rw [hm] at this; exact this)
    clear HM
    go_enter Tryz.func178, Tryz.ntmps178
    go_wp2_with fail
    refine HM'.out.mono ?_
    rintro e W1 ⟨rfl, hb1⟩
    have HB1 := Lib.hid hb1
    clear hb1
    go_wp2_with fail
    go_ret
    exact ⟨by rw [HE.out]; rfl, HB1.out⟩
  | true =>
    have HE := Lib.hid (show safeB s i ch v = !beyP s i ch v by simp [safeB, hm])
    have HM' := Lib.hid (by have := HM.out; rw [hm] at this; exact this)
    clear HM
    go_enter Tryz.func178, Tryz.ntmps178
    go_wp2_with fail
    refine HM'.out.mono ?_
    rintro e W1 ⟨rfl, hb1⟩
    have HB1 := Lib.hid hb1
    clear c0 c1 c2 c3 c4 c5 c6 c7 c8 c9 c10 c11 c12 c13 c14 c15
    obtain ⟨c0, c1, c2, c3, c4, c5, c6, c7, c8, c9, c10, c11, c12, c13, c14, c15⟩ := cells16 ((hb1.block b hlt).trans HB.out)
    clear hb1
    go_wp2_with fail
    refine (HY.out _ HB1.out).mono ?_
    rintro e W2 ⟨rfl, hb2⟩
    have HB2 := Lib.hid (HB1.out.trans (hb2.mono HB1.out.size))
    clear hb2
    go_wp2_with fail
    go_ret
    exact ⟨by rw [HE.out]; simp, HB2.out⟩
set_option maxHeartbeats 2000000 in
theorem safe_s_any (s : Sh) (m : Mem3) (i : Ic) (ch : Bool) (g : Good s) (gi : GoodI i) (w : World) (h : ShipIn w s m) (hst : Str w) :
    Calls Tryz.prog 145 #[.agg (sailA s m i ch)] w fun e w' => e = .returned (.int .i64 (safeP s i ch)) ∧ Below w.heap.size w w' := by
  have hb0 := (Below.refl w.heap.size w).alloc (Nat.le_refl _) (.cells (sailA s m i ch) 127)
  have HB0 := Lib.hid hb0
  have HS := Lib.hid (h.later hb0)
  have HT := Lib.hid (hst.later hb0)
  obtain ⟨n, hn, hn2, hn3⟩ := top_nat g
  have hbk := block_new w (.cells (sailA s m i ch) 127)
  have hz : w.heap.size < (w.alloc (.cells (sailA s m i ch) 127)).heap.size := by simp
  have HL := Lib.hid (hn ▸ lastX_any m.pt s.th.n m.ct s.th rfl (by have := g.th.two; omega) (by have := g.th.eight; omega) _ HS.out.t)
  have HG := Lib.hid (greatest_any 178 #[] #[.pointer (some ⟨w.heap.size, 0, none⟩)] eg121 (safeB s i ch) n (by omega) (w.alloc (.cells (sailA s m i ch) 127))
    (fun v W hv hW => safe1_any s m i ch g gi w.heap.size v (by omega) W (HS.out.later hW) (HT.out.later hW) ((hW.block _ hz).trans hbk)))
  have HE := Lib.hid (show safeP s i ch = greatP (safeB s i ch) n by unfold safeP; rw [hn2])
  clear h hb0 g gi hn hn2 hst hbk
  generalize greatP (safeB s i ch) n = G at *
  generalize safeB s i ch 0 = M at *
  go_enter Tryz.func145, Tryz.ntmps145
  go_wp2_with fail
  refine HL.out.mono ?_
  rintro e W1 ⟨rfl, rfl⟩
  go_wp2_with fail
  refine HG.out.mono ?_
  rintro e W1 ⟨rfl, hb1⟩
  have HB1 := Lib.hid (HB0.out.trans (hb1.mono HB0.out.size))
  clear hb1
  go_wp2_with fail
  go_ret
  exact ⟨by rw [HE.out]; simp, HB1.out⟩
end Go.Proofs.YtcoiklolgilhaaaGreatDoor
