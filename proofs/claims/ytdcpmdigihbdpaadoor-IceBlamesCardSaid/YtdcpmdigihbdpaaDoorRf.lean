/- The contract of work.told: at most 12 reports that can be told. The table of limits holds 100, 400, 100, 3. -/
import Derived.Test.YtdcpmdigihbdpaaDoorRe
namespace Go.Proofs.YtdcpmdigihbdpaaDoor
open Go.RowKit
set_option maxRecDepth 100000
set_option maxHeartbeats 1000000 in
theorem told_any (u d : Nat → Int) (now : Int) (p : Option Addr) (n cap : Nat) (R : Nat → Rep) (hn : n ≤ 12) (w : World) (hl : Lim w) (hR : Reps w p n R) (hok : ∀ i, i < n → Tellable u d now (R i)) :
    Calls Tryd.prog 94 #[.agg (workA u d now (.slice p n cap))] w fun e w' => ∃ g, e = .returned (.slice (some ⟨g, 0, none⟩) n n) ∧ w.heap.size ≤ g ∧ g < w'.heap.size ∧ CellsAt w' g n (tdLo R d now) (tdHi R u now) ∧ Below w.heap.size w w' := by
  have hpos := hl.pos
  have HL := Lib.hid hl
  have HR := Lib.hid hR
  have HK := Lib.hid hok
  clear hl hR hok
  obtain ⟨i0, hi, hz0, hz1, hz2⟩ := info_parts info32
  have hby : i0.bytes ≤ 1000 := by omega
  go_enter Tryd.func94, Tryd.ntmps94
  have HA := Lib.hid (block_new w (.cells (workA u d now (.slice p n cap)) 139))
  have HB := Lib.hid ((Below.refl w.heap.size w).alloc (Nat.le_refl _) (.cells (workA u d now (.slice p n cap)) 139))
  have zA : (w.alloc (.cells (workA u d now (.slice p n cap)) 139)).heap.size = w.heap.size + 1 := by simp
  go_wp2_with (refine list_make rfl rfl rfl und125 hi hz0 hz1 hby (by omega) ?_; intro W1 h1 z1 b1; have HW1 := Lib.hid ((b1.block w.heap.size (by simp)).trans HA.out); have c9 : W1.cell? ⟨w.heap.size, 9, none⟩ = some (.slice p n cap) := (cell_of_block HW1.out 9).trans rfl; rw [World.size_alloc] at h1 z1)
  have HT1 := Lib.hid (show Told W1 (w.heap.size + 1) n 0 (tdLo R d now) (tdHi R u now) from ⟨_, h1, size_madeCells _ _, fun i hi => by omega⟩)
  have HB1 := Lib.hid (HB.out.trans (b1.mono (by simp)))
  have z1' : w.heap.size + 1 < W1.heap.size := by omega
  clear h1 b1 HA HB zA c9 z1 hi hz0 hz1 hz2 hby
  go_loopw [13] (fun i wr => ∃ k : Nat, k ≤ n ∧ i = .int .i64 k ∧ Hid (Told wr (w.heap.size + 1) n k (tdLo R d now) (tdHi R u now)) ∧ Hid (wr.heap[w.heap.size]? = some (.cells (workA u d now (.slice p n cap)) 139 (0, 0))) ∧ Hid (Below w.heap.size w wr) ∧ w.heap.size + 1 < wr.heap.size) (fun i _ => n - (intOf i).toNat)
  case atStart => exact ⟨0, by omega, rfl, HT1, HW1, HB1, z1'⟩
  case round =>
    obtain ⟨k, hk, rfl, hT, hW, hB, hz⟩ := hrel
    by_cases hlt : k < n
    · obtain ⟨b, rfl, hb, c0, c1, c2, c3, c4, c5, c6, c7, c8, c9, c10, c11, c12, c13⟩ := (HR.out.later hB.out).cells hlt
      have hk12 : (k : Int) < 12 := by omega
      have hk0 : (0 : Int) ≤ (k : Int) := by omega
      have HW2 := Lib.hid ((Below.heap_alloc wr (.cells (repA (R k)) 67) w.heap.size (by omega)).trans hW.out)
      have HT2 := Lib.hid (hT.out.of_block (Below.heap_alloc wr (.cells (repA (R k)) 67) (w.heap.size + 1) (by omega)))
      have HX := Lib.hid (block_new wr (.cells (repA (R k)) 67))
      have HB2 := Lib.hid (hB.out.alloc hB.out.size (.cells (repA (R k)) 67))
      have hz2 : w.heap.size + 1 < (wr.alloc (.cells (repA (R k)) 67)).heap.size := by simp; omega
      obtain ⟨⟨t0, t1⟩, t2, t3, t4⟩ := HK.out k hlt
      have hcell : ∀ c, (wr.alloc (.cells (repA (R k)) 67)).cell? ⟨w.heap.size, c, none⟩ = (workA u d now (.slice (some ⟨b, 0, none⟩) n cap))[c]? := fun c => cell_of_block HW2.out c
      go_wp2_with fail
      refine (tells_any u d now _ (R k) t0 t1 _ (HL.out.below hpos HB2.out) t2 t3 t4).mono ?_
      rintro e W3 ⟨rfl, hb3⟩
      have HW3 := Lib.hid ((hb3.block _ (by omega)).trans HW2.out)
      have hT3 := HT2.out.of_block (hb3.block _ hz2)
      obtain ⟨arr, ha, hs, hat⟩ := hT3
      have HAT := Lib.hid hat
      have HA := Lib.hid ha
      have HB3 := Lib.hid (HB2.out.trans (hb3.mono HB2.out.size))
      have hz3 : w.heap.size + 1 < W3.heap.size := Nat.lt_of_lt_of_le hz2 hb3.size
      clear c0 c1 c2 c3 c4 c5 c6 c7 c8 c9 c10 c11 c12 c13 hcell hb3 ha hat HX HW2 HT2 HB2 hz2
      go_wp2_with (refine list_storeAt rfl rfl rfl rfl rfl HA.out (by omega) ?_; intro W4 arr' h4 hr4 ha4 hc4)
      go_roundw
      case rel => exact ⟨k + 1, by omega, by go_num, Told.succ hs HAT.out h4 hr4 ha4, (hc4.2.1 _ (by omega)).trans HW3.out, HB3.out.trans (hc4.below (by omega)), by have := hc4.1; omega⟩
      case measure => simp [intOf]; omega
    · obtain rfl : k = n := by omega
      have HC := Lib.hid hT.out.cellsAt
      go_wp2_with fail
      go_ret
      exact ⟨_, rfl, by omega, hz, HC.out, hB.out⟩
end Go.Proofs.YtdcpmdigihbdpaaDoor
