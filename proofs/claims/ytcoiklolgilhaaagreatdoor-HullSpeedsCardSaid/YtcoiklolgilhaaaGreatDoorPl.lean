/- The contracts of sailing.speed, sailing.beset, sailing.beyond, sailing.safe. A right ship, right ice, a speed from 0 to 250; the table of strengths holds 4000, 8000, 14000, 24000, 40000, 90000. -/
import Derived.Test.YtcoiklolgilhaaaGreatDoorPk
namespace Go.Proofs.YtcoiklolgilhaaaGreatDoor
open Go.RowKit
set_option maxRecDepth 100000
theorem top_nat {s : Sh} (g : Good s) : ∃ n : Nat, lastXP s.th = (n : Int) ∧ n = (lastXP s.th).toNat ∧ n ≤ 250 := by
  have := g.top
  exact ⟨(lastXP s.th).toNat, by omega, rfl, by omega⟩
set_option maxHeartbeats 2000000 in
theorem speed_any (s : Sh) (m : Mem3) (i : Ic) (ch : Bool) (g : Good s) (gi : GoodI i) (w : World) (h : ShipIn w s m) :
    Calls Tryz.prog 75 #[.agg (sailA s m i ch)] w fun e w' => e = .returned (.int .i64 (speedP s i ch)) ∧ Below w.heap.size w w' := by
  have hb0 := (Below.refl w.heap.size w).alloc (Nat.le_refl _) (.cells (sailA s m i ch) 127)
  have HB0 := Lib.hid hb0
  have HS := Lib.hid (h.later hb0)
  obtain ⟨n, hn, hn2, hn3⟩ := top_nat g
  have HL := Lib.hid (fun (x : Later (w.alloc (.cells (sailA s m i ch) 127))) => hn ▸ lastX_any m.pt s.th.n m.ct s.th rfl (by have := g.th.two; omega) (by have := g.th.eight; omega) x.world (HS.out.t.later x.below))
  have HG := Lib.hid (fun (x : Later (w.alloc (.cells (sailA s m i ch) 127))) => greatest_any 73 #[.agg (sailA s m i ch)] #[] (Go.Proofs.enters_of Tryz.func73 (by kernel_rfl) rfl) (fun v => makesP s i ch v) n (by omega) x.world
    (fun v W hv hW => makes_any s m i ch g gi v (by omega) (by omega) W ((HS.out.later x.below).later hW)))
  have HE := Lib.hid (show speedP s i ch = greatP (fun v => makesP s i ch v) n by unfold speedP; rw [hn2])
  haveI : Nonempty (Later (w.alloc (.cells (sailA s m i ch) 127))) := ⟨⟨_, Below.refl _ _⟩⟩
  have hz : w.heap.size < (w.alloc (.cells (sailA s m i ch) 127)).heap.size := by simp
  obtain ⟨c0, c1, c2, c3, c4, c5, c6, c7, c8, c9, c10, c11, c12, c13, c14, c15⟩ := cells16 (block_new w (.cells (sailA s m i ch) 127))
  replace c0 := later_cell hz c0
  replace c1 := later_cell hz c1
  replace c2 := later_cell hz c2
  replace c3 := later_cell hz c3
  replace c4 := later_cell hz c4
  replace c5 := later_cell hz c5
  replace c6 := later_cell hz c6
  replace c7 := later_cell hz c7
  replace c8 := later_cell hz c8
  replace c9 := later_cell hz c9
  replace c10 := later_cell hz c10
  replace c11 := later_cell hz c11
  replace c12 := later_cell hz c12
  replace c13 := later_cell hz c13
  replace c14 := later_cell hz c14
  replace c15 := later_cell hz c15
  clear h hb0 g gi hn hn2
  generalize greatP (fun v => makesP s i ch v) n = G at *
  generalize makesP s i ch ((0 : Nat) : Int) = M at *
  go_enter Tryz.func75, Tryz.ntmps75
  go_wp2_with fail
  refine wp_region_later (by kernel_rfl) (by kernel_rfl) ?_
  repeat (go_big_quiet_step (first | (go_at_call 132; exact later_call' (HL.out _)) | (go_at_call 104; exact later_call (HG.out _))))
  refine wpQuiet_nil ?_
  intro _ hw'
  obtain ⟨⟨W, hW⟩, rfl⟩ := hw'
  have HW := Lib.hid (HB0.out.trans (hW.mono HB0.out.size))
  clear hW
  go_wp2_with fail
  go_ret
  exact ⟨by rw [HE.out]; rfl, HW.out⟩
theorem beset_s_any (s : Sh) (m : Mem3) (i : Ic) (ch : Bool) (g : Good s) (gi : GoodI i) (w : World) (h : ShipIn w s m) :
    Calls Tryz.prog 141 #[.agg (sailA s m i ch)] w fun e w' => e = .returned (.bool (besP s i ch)) ∧ Below w.heap.size w w' := by
  have hb0 := (Below.refl w.heap.size w).alloc (Nat.le_refl _) (.cells (sailA s m i ch) 127)
  have HB0 := Lib.hid hb0
  have HC := Lib.hid (speed_any s m i ch g gi _ (h.later hb0))
  have HE := Lib.hid (show besP s i ch = decide ((speedP s i ch : Int) < 10) from rfl)
  clear h hb0 g gi
  generalize speedP s i ch = v at *
  go_enter Tryz.func141, Tryz.ntmps141
  go_wp2_with fail
  refine HC.out.mono ?_
  rintro e W1 ⟨rfl, hb1⟩
  have HB1 := Lib.hid (HB0.out.trans (hb1.mono HB0.out.size))
  clear hb1
  go_wp2_with fail
  go_ret
  exact ⟨by rw [HE.out]; simp, HB1.out⟩
/-- the table of strengths in memory -/
def Str (w : World) : Prop := w.cell? ⟨1, 0, none⟩ = some (.int .i64 4000) ∧ w.cell? ⟨1, 1, none⟩ = some (.int .i64 8000) ∧ w.cell? ⟨1, 2, none⟩ = some (.int .i64 14000) ∧ w.cell? ⟨1, 3, none⟩ = some (.int .i64 24000) ∧ w.cell? ⟨1, 4, none⟩ = some (.int .i64 40000) ∧ w.cell? ⟨1, 5, none⟩ = some (.int .i64 90000)
theorem Str.pos {w : World} (h : Str w) : 1 < w.heap.size := by
  have h0 := h.1
  unfold World.cell? at h0
  cases hh : w.heap[1]? with
  | none => simp [hh] at h0
  | some o => exact (Array.getElem?_eq_some_iff.1 hh).1
theorem Str.below {w w' : World} {B : Nat} (h : Str w) (hB : 1 < B) (hb : Below B w w') : Str w' :=
  ⟨(hb.cell (p := ⟨1, 0, none⟩) hB).trans h.1, (hb.cell (p := ⟨1, 1, none⟩) hB).trans h.2.1, (hb.cell (p := ⟨1, 2, none⟩) hB).trans h.2.2.1, (hb.cell (p := ⟨1, 3, none⟩) hB).trans h.2.2.2.1, (hb.cell (p := ⟨1, 4, none⟩) hB).trans h.2.2.2.2.1, (hb.cell (p := ⟨1, 5, none⟩) hB).trans h.2.2.2.2.2⟩
theorem Str.later {w w' : World} (h : Str w) (hb : Below w.heap.size w w') : Str w' := h.below h.pos hb
theorem Str.at {w : World} (h : Str w) {c : Int} (h1 : 1 ≤ c) (h6 : c ≤ 6) : ∃ k : Nat, c - 1 = (k : Int) ∧ k < 6 ∧ w.cell? ⟨1, k, none⟩ = some (.int .i64 (strP c)) := by
  have : c = 1 ∨ c = 2 ∨ c = 3 ∨ c = 4 ∨ c = 5 ∨ c = 6 := by omega
  rcases this with rfl | rfl | rfl | rfl | rfl | rfl
  · exact ⟨0, rfl, by omega, h.1⟩
  · exact ⟨1, rfl, by omega, h.2.1⟩
  · exact ⟨2, rfl, by omega, h.2.2.1⟩
  · exact ⟨3, rfl, by omega, h.2.2.2.1⟩
  · exact ⟨4, rfl, by omega, h.2.2.2.2.1⟩
  · exact ⟨5, rfl, by omega, h.2.2.2.2.2⟩
end Go.Proofs.YtcoiklolgilhaaaGreatDoor
