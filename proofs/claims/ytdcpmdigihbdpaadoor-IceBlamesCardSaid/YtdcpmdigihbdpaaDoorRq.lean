/- The contract of ice.ofOneCell's closure: whether a report is of another cell than the first one. -/
import Derived.Test.YtdcpmdigihbdpaaDoorRo
namespace Go.Proofs.YtdcpmdigihbdpaaDoor
open Go.RowKit
set_option maxRecDepth 100000
def astB (R : Nat → Rep) (r : Rep) : Bool := decide (r.x ≠ (R 0).x) || decide (r.y ≠ (R 0).y)
theorem astray1 (r : Rep) (Bl : Nat) (p : Option Addr) (n cap : Nat) (hn : 0 < n) (R : Nat → Rep) (w : World) (hR : Reps w p n R) (hB : w.heap[Bl]? = some (.cells #[.slice p n cap] 63 (0, 0))) :
    Calls Tryd.prog 121 #[.agg (repA r), .pointer (some ⟨Bl, 0, none⟩)] w fun e W' => e = .returned (.bool (astB R r)) ∧ Below w.heap.size w W' := by
  have lB := lt_of_block hB
  have HV := Lib.hid (block_new w (.cells (repA r) 67))
  have HB := Lib.hid ((Below.refl w.heap.size w).alloc (Nat.le_refl _) (.cells (repA r) 67))
  obtain ⟨b, rfl, hb, c0, c1, c2, c3, c4, c5, c6, c7, c8, c9, c10, c11, c12, c13⟩ := (hR.later HB.out).cells hn
  have s0 : (w.alloc (.cells (repA r) 67)).cell? ⟨Bl, 0, none⟩ = some (.slice (some ⟨b, 0, none⟩) n cap) := (cell_of_block ((HB.out.block _ lB).trans hB) 0).trans rfl
  obtain ⟨k0, k1, k2, k3, k4, k5, k6, k7, k8, k9, k10, k11, k12, k13⟩ := cells14 HV.out
  have hn0 : (0 : Int) < (n : Int) := by omega
  have lV : w.heap.size < (w.alloc (.cells (repA r) 67)).heap.size := by simp
  have lB' : Bl < (w.alloc (.cells (repA r) 67)).heap.size := by simp; omega
  have f0 := later_cell lB' s0
  have f1 := later_cell hb c3
  have f2 := later_cell hb c4
  have f3 := later_cell lV k3
  have f4 := later_cell lV k4
  simp only [Nat.zero_mul, Nat.zero_add] at f1 f2
  haveI : Nonempty (Later (w.alloc (.cells (repA r) 67))) := ⟨⟨_, Below.refl _ _⟩⟩
  clear c0 c1 c2 c3 c4 c5 c6 c7 c8 c9 c10 c11 c12 c13 k0 k1 k2 k3 k4 k5 k6 k7 k8 k9 k10 k11 k12 k13 s0 HV
  by_cases hx : r.x = (R 0).x
  · have HA := Lib.hid (show astB R r = decide (¬ r.y = (R 0).y) by unfold astB; simp [hx])
    go_enter Tryd.func121, Tryd.ntmps121
    go_wp2_with fail
    refine wp_region_later (by kernel_rfl) (by kernel_rfl) ?_
    repeat (go_big_quiet_step (fail))
    refine wpQuiet_nil ?_
    intro _ hw'
    obtain ⟨⟨W, hW⟩, rfl⟩ := hw'
    go_wp2_with fail
    go_ret
    exact ⟨by rw [HA.out]; by_cases e : r.y = (R 0).y <;> simp [e], HB.out.trans (hW.mono HB.out.size)⟩
  · have HA := Lib.hid (show astB R r = true by unfold astB; simp [hx])
    have hne : (r.x != (R 0).x) = true := by simpa using hx
    go_enter Tryd.func121, Tryd.ntmps121
    go_wp2_with fail
    refine wp_region_later (by kernel_rfl) (by kernel_rfl) ?_
    repeat (go_big_quiet_step (fail))
    refine wpQuiet_nil ?_
    intro _ hw'
    obtain ⟨⟨W, hW⟩, rfl⟩ := hw'
    go_wp2_with fail
    go_ret
    exact ⟨by rw [HA.out]; rfl, HB.out.trans (hW.mono HB.out.size)⟩
end Go.Proofs.YtdcpmdigihbdpaaDoor
