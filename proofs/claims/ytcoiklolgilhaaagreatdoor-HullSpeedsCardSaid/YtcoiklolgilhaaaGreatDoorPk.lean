/- The contracts of sailing.makes, sailing.speed, sailing.beset. A right ship, right ice, a speed from 0 to 250. -/
import Derived.Test.YtcoiklolgilhaaaGreatDoorPi
import Derived.Test.YtcoiklolgilhaaaGreatDoorPj
namespace Go.Proofs.YtcoiklolgilhaaaGreatDoor
open Go.RowKit
set_option maxRecDepth 100000
set_option maxHeartbeats 2000000 in
theorem makes_any (s : Sh) (m : Mem3) (i : Ic) (ch : Bool) (g : Good s) (gi : GoodI i) (v : Int) (hv : 0 ≤ v) (hv' : v ≤ 250) (w : World) (h : ShipIn w s m) :
    Calls Tryz.prog 73 #[.agg (sailA s m i ch), .int .i64 v] w fun e w' => e = .returned (.bool (makesP s i ch v)) ∧ Below w.heap.size w w' := by
  have hb0 := (Below.refl w.heap.size w).alloc (Nat.le_refl _) (.cells (sailA s m i ch) 127)
  have HB0 := Lib.hid hb0
  have HS := Lib.hid (h.later hb0)
  have HL := Lib.hid (fun (x : Later (w.alloc (.cells (sailA s m i ch) 127))) => lastX_any m.pt s.th.n m.ct s.th rfl (by have := g.th.two; omega) (by have := g.th.eight; omega) x.world (HS.out.t.later x.below))
  have HT := Lib.hid (fun (x : Later (w.alloc (.cells (sailA s m i ch) 127))) => thrust_any s m g.th v hv x.world (HS.out.later x.below))
  have HR := Lib.hid (fun (x : Later (w.alloc (.cells (sailA s m i ch) 127))) => resistance_any s m i ch g gi v hv hv' x.world (HS.out.later x.below))
  haveI : Nonempty (Later (w.alloc (.cells (sailA s m i ch) 127))) := ⟨⟨_, Below.refl _ _⟩⟩
  have hz : w.heap.size < (w.alloc (.cells (sailA s m i ch) 127)).heap.size := by simp
  obtain ⟨c0, c1, c2, c3, c4, c5, c6, c7, c8, c9, c10, c11, c12, c13, c14, c15⟩ := cells16 (block_new w (.cells (sailA s m i ch) 127))
  replace c0 := later_cell hz c0
  replace c1 := later_cell hz c1
  replace c2 := later_cell hz c2
  replace c3 := later_cell hz c3
  replace c4 := later_cell hz c4
  replace c5 := later_cell hz c5
  replace c6 := later_cell hz c6
  replace c7 := later_cell hz c7
  replace c8 := later_cell hz c8
  replace c9 := later_cell hz c9
  replace c10 := later_cell hz c10
  replace c11 := later_cell hz c11
  replace c12 := later_cell hz c12
  replace c13 := later_cell hz c13
  replace c14 := later_cell hz c14
  replace c15 := later_cell hz c15
  clear h hb0 g gi
  by_cases h1 : v ≤ lastXP s.th
  · by_cases h2 : resP s i v ch ≤ thrP s v
    · have HE := Lib.hid (show makesP s i ch v = true by simp [makesP, h1, h2])
      have d1 := decide_eq_true h1
      have d2 := decide_eq_true h2
      go_enter Tryz.func73, Tryz.ntmps73
      go_wp2_with fail
      refine wp_region_later (by kernel_rfl) (by kernel_rfl) ?_
      repeat (go_big_quiet_step (first | (go_at_call 132; exact later_call' (HL.out _)) | (go_at_call 133; exact later_call (HT.out _)) | (go_at_call 70; exact later_call (HR.out _))))
      refine wpQuiet_nil ?_
      intro _ hw'
      obtain ⟨⟨W, hW⟩, rfl⟩ := hw'
      have HW := Lib.hid (HB0.out.trans (hW.mono HB0.out.size))
      clear hW
      go_wp2_with fail
      go_ret
      exact ⟨by rw [HE.out]; rfl, HW.out⟩
    · have HE := Lib.hid (show makesP s i ch v = false by simp [makesP, h2])
      have d1 := decide_eq_true h1
      have d2 := decide_eq_false h2
      go_enter Tryz.func73, Tryz.ntmps73
      go_wp2_with fail
      refine wp_region_later (by kernel_rfl) (by kernel_rfl) ?_
      repeat (go_big_quiet_step (first | (go_at_call 132; exact later_call' (HL.out _)) | (go_at_call 133; exact later_call (HT.out _)) | (go_at_call 70; exact later_call (HR.out _))))
      refine wpQuiet_nil ?_
      intro _ hw'
      obtain ⟨⟨W, hW⟩, rfl⟩ := hw'
      have HW := Lib.hid (HB0.out.trans (hW.mono HB0.out.size))
      clear hW
      go_wp2_with fail
      go_ret
      exact ⟨by rw [HE.out]; rfl, HW.out⟩
  · have HE := Lib.hid (show makesP s i ch v = false by simp [makesP, h1])
    have d1 := decide_eq_false h1
    go_enter Tryz.func73, Tryz.ntmps73
    go_wp2_with fail
    refine wp_region_later (by kernel_rfl) (by kernel_rfl) ?_
    repeat (go_big_quiet_step (first | (go_at_call 132; exact later_call' (HL.out _)) | (go_at_call 133; exact later_call (HT.out _)) | (go_at_call 70; exact later_call (HR.out _))))
    refine wpQuiet_nil ?_
    intro _ hw'
    obtain ⟨⟨W, hW⟩, rfl⟩ := hw'
    have HW := Lib.hid (HB0.out.trans (hW.mono HB0.out.size))
    clear hW
    go_wp2_with fail
    go_ret
    exact ⟨by rw [HE.out]; rfl, HW.out⟩
end Go.Proofs.YtcoiklolgilhaaaGreatDoor
