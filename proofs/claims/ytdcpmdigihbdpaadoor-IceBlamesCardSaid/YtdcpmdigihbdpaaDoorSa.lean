/- The contract of ice.Fuse: reports without an error. The table of limits holds 100, 400, 100, 3. -/
import Derived.Test.YtdcpmdigihbdpaaDoorRz
namespace Go.Proofs.YtdcpmdigihbdpaaDoor
open Go.RowKit
set_option maxRecDepth 100000
abbrev allT : Nat → Bool := fun _ => true
def fuRes (CL CH : Nat → Nat → Int) (n : Nat) : Value := if cmOK allT CL CH n = true then .tuple #[.agg (cellA (cmLo allT CL n) (cmHi allT CH n)), .int .i64 0] else .tuple #[.agg zero8, .int .i64 21]
theorem CellsAt.of_heap {w W : World} {b n : Nat} {CL CH : Nat → Nat → Int} (h : CellsAt w b n CL CH) (e : W.heap[b]? = w.heap[b]?) : CellsAt W b n CL CH := by
  intro i hi
  have k := fun (o : Nat) => World.cell?_of_block (a := ⟨b, o, none⟩) e
  obtain ⟨h0, h1, h2, h3, h4, h5, h6, h7⟩ := h i hi
  exact ⟨(k _).trans h0, (k _).trans h1, (k _).trans h2, (k _).trans h3, (k _).trans h4, (k _).trans h5, (k _).trans h6, (k _).trans h7⟩
set_option maxHeartbeats 2000000 in
theorem Fuse_fine (u d : Nat → Int) (now : Int) (p : Option Addr) (n cap : Nat) (R : Nat → Rep) (hf : Fine u d now R n) (w : World) (hl : Lim w) (hR : Reps w p n R) :
    Calls Tryd.prog 36 #[.slice p n cap, .agg (ratesA u d), .int .i64 now] w fun e w' => e = .returned (fuRes (tdLo R d now) (tdHi R u now) n) ∧ Below w.heap.size w w' := by
  have hpos := hl.pos
  have hn := hf.2.1
  have HL := Lib.hid hl
  have HR := Lib.hid hR
  have HF := Lib.hid hf
  clear hl hR hf
  have hof := ofOneCell_any u d now p n cap (by omega) R
  rw [HF.out.one, HF.out.work] at hof
  have HO := Lib.hid hof
  clear hof
  go_enter Tryd.func36, Tryd.ntmps36
  obtain ⟨a1, a2, a3, a4⟩ := two_allocs w (.cells (ratesA u d) 41) (.cells zero8 32)
  have A2 := Lib.hid a2
  have AB := Lib.hid a4
  obtain ⟨⟨c0, c1, c2, c3, c4, c5, c6, c7⟩, _⟩ := cells8 a1
  clear a1 a2 a4
  go_wp2_with fail
  generalize (w.alloc (.cells (ratesA u d) 41)).alloc (.cells zero8 32) = V at *
  refine (HO.out V (HL.out.below hpos AB.out) (HR.out.later AB.out)).mono ?_
  rintro e W1 ⟨rfl, hb1⟩
  have z1 := hb1.size
  have B2 := Lib.hid ((hb1.block _ (by omega)).trans A2.out)
  have BB := Lib.hid (AB.out.trans (hb1.mono AB.out.size))
  clear hb1 A2 AB c0 c1 c2 c3 c4 c5 c6 c7
  have C0 := Lib.hid (block_new W1 (.cells (workA u d now (.slice p n cap)) 139))
  have CBb := (Below.refl W1.heap.size W1).alloc (Nat.le_refl _) (.cells (workA u d now (.slice p n cap)) 139)
  have C2 := Lib.hid ((CBb.block _ (by omega)).trans B2.out)
  have CB := Lib.hid (BB.out.trans (CBb.mono BB.out.size))
  have zc : W1.heap.size < (W1.alloc (.cells (workA u d now (.slice p n cap)) 139)).heap.size := by simp
  clear CBb B2 BB
  go_wp2_with fail
  generalize W1.alloc (.cells (workA u d now (.slice p n cap)) 139) = V2 at *
  refine (Whole_any V2 (HL.out.below hpos CB.out)).mono ?_
  rintro e W2 ⟨rfl, hb2⟩
  have z2 := hb2.size
  have D0 := (hb2.block _ zc).trans C0.out
  have D2 := (hb2.block _ (by omega)).trans C2.out
  have DB := CB.out.trans (hb2.mono CB.out.size)
  clear hb2 C0 C2 CB
  have e0 := Below.heap_alloc W2 (.cells (cellA (fun _ => 0) lim) 32)
  have E0 := (e0 W1.heap.size (by omega)).trans D0
  have E2 := Lib.hid ((e0 (w.heap.size + 1) (by omega)).trans D2)
  have EN := Lib.hid (block_new W2 (.cells (cellA (fun _ => 0) lim) 32))
  have EB := Lib.hid (DB.alloc DB.size (.cells (cellA (fun _ => 0) lim) 32))
  have ze : W2.heap.size < (W2.alloc (.cells (cellA (fun _ => 0) lim) 32)).heap.size := by simp
  obtain ⟨⟨c0, c1, c2, c3, c4, c5, c6, c7, c8, c9⟩, _⟩ := cells10 E0
  clear e0 E0 D0 D2 DB
  go_wp2_with fail
  clear c0 c1 c2 c3 c4 c5 c6 c7 c8 c9
  generalize W2.alloc (.cells #[.int .i64 0, .int .i64 (lim 0), .int .i64 0, .int .i64 (lim 1), .int .i64 0, .int .i64 (lim 2), .int .i64 0, .int .i64 (lim 3)] 32) = V3 at *
  refine (told_any u d now p n cap R hn V3 (HL.out.below hpos EB.out) (HR.out.later EB.out) HF.out.tell).mono ?_
  rintro e W4 ⟨g, rfl, hg1, hg2, hC, hb4⟩
  have z4 := hb4.size
  have HC := Lib.hid hC
  have F2 := Lib.hid ((hb4.block _ (by omega)).trans E2.out)
  have FN := Lib.hid ((hb4.block _ (by omega)).trans EN.out)
  have FB := Lib.hid (EB.out.trans (hb4.mono EB.out.size))
  clear hb4 hC E2 EN EB
  go_wp2_with fail
  go_loopw [29] (fun i wr => ∃ k : Nat, k ≤ n ∧ i = .int .i64 k ∧ Hid (cmOK allT (tdLo R d now) (tdHi R u now) k = true) ∧ Hid (wr.heap[W2.heap.size]? = some (.cells (cellA (cmLo allT (tdLo R d now) k) (cmHi allT (tdHi R u now) k)) 32 (0, 0))) ∧
      Hid (wr.heap[w.heap.size + 1]? = some (.cells zero8 32 (0, 0))) ∧ Hid (CellsAt wr g n (tdLo R d now) (tdHi R u now)) ∧ Hid (Below w.heap.size w wr) ∧ g < wr.heap.size) (fun i _ => n - (intOf i).toNat)
  case atStart => exact ⟨0, by omega, rfl, rfl, FN, F2, HC, FB, hg2⟩
  case round =>
    obtain ⟨k, hk, rfl, hok, hC, h6, hA, hB, hz⟩ := hrel
    by_cases hlt : k < n
    · obtain ⟨c0, c1, c2, c3, c4, c5, c6, c7⟩ := hA.out k hlt
      have hk12 : (k : Int) < 12 := by omega
      have hk0 : (0 : Int) ≤ (k : Int) := by omega
      have HX := Lib.hid (block_new wr (.cells (cellA ((tdLo R d now) k) ((tdHi R u now) k)) 32))
      have e0 := Below.heap_alloc wr (.cells (cellA ((tdLo R d now) k) ((tdHi R u now) k)) 32)
      have hC2 := (e0 W2.heap.size (by omega)).trans hC.out
      have HC2 := Lib.hid hC2
      have H62 := Lib.hid ((e0 (w.heap.size + 1) (by omega)).trans h6.out)
      have HA2 := Lib.hid (hA.out.of_heap (e0 g hz))
      have HB2 := Lib.hid (hB.out.alloc hB.out.size (.cells (cellA ((tdLo R d now) k) ((tdHi R u now) k)) 32))
      have hz2 : g < (wr.alloc (.cells (cellA ((tdLo R d now) k) ((tdHi R u now) k)) 32)).heap.size := by simp; omega
      obtain ⟨⟨d0, d1, d2, d3, d4, d5, d6, d7⟩, _⟩ := cells8 hC2
      have EL := Lib.hid (fun q => show cmLo allT (tdLo R d now) (k + 1) q = mx (cmLo allT (tdLo R d now) k q) ((tdLo R d now) k q) by simp [cmLo])
      have EH := Lib.hid (fun q => show cmHi allT (tdHi R u now) (k + 1) q = mn (cmHi allT (tdHi R u now) k q) ((tdHi R u now) k q) by simp [cmHi])
      have EK := Lib.hid (show cmOK allT (tdLo R d now) (tdHi R u now) (k + 1) = meetB (cmLo allT (tdLo R d now) k) (cmHi allT (tdHi R u now) k) ((tdLo R d now) k) ((tdHi R u now) k) by simp [cmOK, hok.out])
      have lz1 : W2.heap.size < (wr.alloc (.cells (cellA ((tdLo R d now) k) ((tdHi R u now) k)) 32)).heap.size := by omega
      have lz2 : w.heap.size + 1 < (wr.alloc (.cells (cellA ((tdLo R d now) k) ((tdHi R u now) k)) 32)).heap.size := by omega
      clear hC2 e0
      go_wp2_with fail
      refine (meet_any (cmLo allT (tdLo R d now) k) (cmHi allT (tdHi R u now) k) ((tdLo R d now) k) ((tdHi R u now) k) _).mono ?_
      clear c0 c1 c2 c3 c4 c5 c6 c7 d0 d1 d2 d3 d4 d5 d6 d7
      rintro e W5 ⟨rfl, hb5⟩
      have HC5 := Lib.hid ((hb5.block W2.heap.size lz1).trans HC2.out)
      have H65 := Lib.hid ((hb5.block (w.heap.size + 1) lz2).trans H62.out)
      have HA5 := Lib.hid (HA2.out.of_heap (hb5.block g hz2))
      have HB5 := Lib.hid (HB2.out.trans (hb5.mono HB2.out.size))
      have hz5 : g < W5.heap.size := Nat.lt_of_lt_of_le hz2 hb5.size
      clear hb5 HC2 H62 HA2 HB2 HX hz2
      cases hm : meetB (cmLo allT (tdLo R d now) k) (cmHi allT (tdHi R u now) k) ((tdLo R d now) k) ((tdHi R u now) k) with
      | true =>
        have EK2 := Lib.hid (EK.out.trans hm)
        clear hm
        go_wp2_with (refine list_store8 rfl rfl rfl (.inl rfl) rfl rfl HC5.out ?_; intro W6 h6' hc6)
        have z6 := hc6.1
        go_roundw
        case rel => exact ⟨k + 1, by omega, by go_num, EK2, by (show W6.heap[W2.heap.size]? = _); rw [h6']; simp [EL.out, EH.out], (hc6.2.1 _ (by omega)).trans H65.out, HA5.out.of_heap (hc6.2.1 _ (by omega)), HB5.out.trans (hc6.below (by omega)), by omega⟩
        case measure => simp [intOf]; omega
      | false =>
        have HF2 := Lib.hid (show fuRes (tdLo R d now) (tdHi R u now) n = .tuple #[.agg zero8, .int .i64 21] by
          unfold fuRes
          rw [cmOK_mono (EK.out.trans hm) n (by omega)]
          rfl)
        clear hm
        go_wp2_with (first | (refine list_store8 rfl rfl rfl (.inl rfl) rfl rfl HC5.out ?_; intro W6 h6' hc6; have H66 := Lib.hid ((hc6.2.1 _ (by omega)).trans H65.out)) | (refine list_store8 rfl rfl rfl (.inl rfl) rfl rfl H66.out ?_; intro W7 h7 hc7))
        obtain ⟨⟨g0, g1, g2, g3, g4, g5, g6, g7⟩, _⟩ := cells8 h7
        refine bodyPost_ret (v := .tuple #[.agg zero8, .int .i64 21]) ?_ rfl ⟨by rw [HF2.out], ?_⟩
        · simp [results, Tryd.results36, go_sem, g0, g1, g2, g3, g4, g5, g6, g7]
        · exact (HB5.out.trans (hc6.below (by omega))).trans (hc7.below (by omega))
    · obtain rfl : k = n := by omega
      have HF2 := Lib.hid (show fuRes (tdLo R d now) (tdHi R u now) k = .tuple #[.agg (cellA (cmLo allT (tdLo R d now) k) (cmHi allT (tdHi R u now) k)), .int .i64 0] by
        unfold fuRes
        rw [hok.out]
        rfl)
      obtain ⟨⟨d0, d1, d2, d3, d4, d5, d6, d7⟩, _⟩ := cells8 hC.out
      go_wp2_with (refine list_store8 rfl rfl rfl (.inl rfl) rfl rfl h6.out ?_; intro W7 h7 hc7)
      obtain ⟨⟨g0, g1, g2, g3, g4, g5, g6, g7⟩, _⟩ := cells8 h7
      refine bodyPost_ret (v := .tuple #[.agg (cellA (cmLo allT (tdLo R d now) k) (cmHi allT (tdHi R u now) k)), .int .i64 0]) ?_ rfl ⟨by rw [HF2.out], ?_⟩
      · simp [results, Tryd.results36, go_sem, g0, g1, g2, g3, g4, g5, g6, g7]
      · exact hB.out.trans (hc7.below (by omega))
end Go.Proofs.YtdcpmdigihbdpaaDoor
