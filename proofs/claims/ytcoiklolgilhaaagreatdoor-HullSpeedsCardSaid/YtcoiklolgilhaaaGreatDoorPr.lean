/- The contracts of hull.beset, hull.beyond and hull.safeSpeeds. A right ship, right cells; the table of strengths holds its numbers. -/
import Derived.Test.YtcoiklolgilhaaaGreatDoorPq
namespace Go.Proofs.YtcoiklolgilhaaaGreatDoor
open Go.RowKit
set_option maxRecDepth 100000
/-- a cell's two ends, right -/
structure GoodC (lo hi : Ic) : Prop where
  gl : GoodI lo
  gh : GoodI hi
  le : LeI lo hi
theorem GoodC.at {lo hi : Ic} (h : GoodC lo hi) (x : EndI lo hi) : GoodI x.1 := by
  rcases x.2 with e | e
  · rw [e]; exact h.gl
  · rw [e]; exact h.gh
theorem eg110 : ∀ args w, (callFunc 140 args).run Tryz.prog w = .ok (.enter 140 args) w := Go.Proofs.enters_of Tryz.func140 (by kernel_rfl) rfl
theorem eg112 : ∀ args w, (callFunc 142 args).run Tryz.prog w = .ok (.enter 142 args) w := Go.Proofs.enters_of Tryz.func142 (by kernel_rfl) rfl
theorem eg114 : ∀ args w, (callFunc 144 args).run Tryz.prog w = .ok (.enter 144 args) w := Go.Proofs.enters_of Tryz.func144 (by kernel_rfl) rfl
theorem eg65 : ∀ args w, (callFunc 84 args).run Tryz.prog w = .ok (.enter 84 args) w := Go.Proofs.enters_of Tryz.func84 (by kernel_rfl) rfl
theorem four_allocs (w : World) (o1 o2 o3 o4 : Obj) : ((((w.alloc o1).alloc o2).alloc o3).alloc o4).heap[w.heap.size]? = some o1 ∧ ((((w.alloc o1).alloc o2).alloc o3).alloc o4).heap[w.heap.size + 1]? = some o2 ∧
    ((((w.alloc o1).alloc o2).alloc o3).alloc o4).heap[w.heap.size + 1 + 1]? = some o3 ∧ ((((w.alloc o1).alloc o2).alloc o3).alloc o4).heap[w.heap.size + 1 + 1 + 1]? = some o4 ∧
    ((((w.alloc o1).alloc o2).alloc o3).alloc o4).heap.size = w.heap.size + 1 + 1 + 1 + 1 ∧ Below w.heap.size w ((((w.alloc o1).alloc o2).alloc o3).alloc o4) := by
  obtain ⟨e1, e2, e3, es, eb⟩ := three_allocs w o1 o2 o3
  have e4 := block_new (((w.alloc o1).alloc o2).alloc o3) o4
  simp only [World.size_alloc] at e4
  exact ⟨(Below.heap_alloc _ _ _ (by omega)).trans e1, (Below.heap_alloc _ _ _ (by omega)).trans e2, (Below.heap_alloc _ _ _ (by omega)).trans e3, e4, by simp, eb.alloc (by omega) _⟩
set_option maxHeartbeats 1000000 in
theorem beset_any (s : Sh) (m : Mem3) (lo hi : Ic) (ch : Bool) (g : Good s) (gc : GoodC lo hi) (w : World) (h : ShipIn w s m) :
    Calls Tryz.prog 87 #[.agg (shipA s m), .agg (cellV lo hi), .bool ch] w fun e w' => e = .returned (.tuple #[.bool (besP s hi ch || besP s lo ch), .bool (besP s hi ch && besP s lo ch)]) ∧ Below w.heap.size w w' := by
  obtain ⟨t1, t2, t3, t4, t5⟩ := three_allocs w (.cells (shipA s m) 24) (.cells (cellV lo hi) 30) (.cells #[.bool ch] 4)
  have HB0 := Lib.hid t5
  obtain ⟨⟨e0, e1, e2, e3, e4, e5, e6, e7⟩, _⟩ := cells8 t2
  have HC := Lib.hid (oneAndAll_any 140 #[.pointer (some ⟨w.heap.size, 0, none⟩), .pointer (some ⟨w.heap.size + 1 + 1, 0, none⟩)] eg110 (fun x => besP s x ch) lo hi (((w.alloc (.cells (shipA s m) 24)).alloc (.cells (cellV lo hi) 30)).alloc (.cells #[.bool ch] 4))
    (fun x W hW => beset1_any s m x.1 ch g (gc.at x) w.heap.size (w.heap.size + 1 + 1) W ((h.later t5).later hW) ((hW.block _ (by omega)).trans t1) ((hW.block _ (by omega)).trans t3)))
  clear t1 t2 t3 t5 h g gc
  generalize besP s hi ch = bh at *
  generalize besP s lo ch = bl at *
  go_enter Tryz.func87, Tryz.ntmps87
  go_wp2_with fail
  refine HC.out.mono ?_
  rintro e W1 ⟨rfl, hb1⟩
  have HB1 := Lib.hid (HB0.out.trans (hb1.mono HB0.out.size))
  clear hb1
  go_wp2_with fail
  refine bodyPost_ret (v := .tuple #[.bool (bh || bl), .bool (bh && bl)]) (by simp [results, Tryz.results87, go_sem]) rfl ⟨rfl, HB1.out⟩
set_option maxHeartbeats 1000000 in
theorem beyond_any (s : Sh) (m : Mem3) (lo hi : Ic) (v : Int) (hv : 0 ≤ v) (hv' : v ≤ 250) (ch : Bool) (g : Good s) (gc : GoodC lo hi) (w : World) (h : ShipIn w s m) (hst : Str w) :
    Calls Tryz.prog 88 #[.agg (shipA s m), .agg (cellV lo hi), .int .i64 v, .bool ch] w fun e w' => e = .returned (.tuple #[.bool (beyP s hi ch v || beyP s lo ch v), .bool (beyP s hi ch v && beyP s lo ch v)]) ∧ Below w.heap.size w w' := by
  obtain ⟨t1, t2, t3, t4, t5, t6⟩ := four_allocs w (.cells (shipA s m) 24) (.cells (cellV lo hi) 30) (.cells #[.int .i64 v] 3) (.cells #[.bool ch] 4)
  have HB0 := Lib.hid t6
  obtain ⟨⟨e0, e1, e2, e3, e4, e5, e6, e7⟩, _⟩ := cells8 t2
  have HC := Lib.hid (oneAndAll_any 142 #[.pointer (some ⟨w.heap.size, 0, none⟩), .pointer (some ⟨w.heap.size + 1 + 1 + 1, 0, none⟩), .pointer (some ⟨w.heap.size + 1 + 1, 0, none⟩)] eg112 (fun x => beyP s x ch v) lo hi ((((w.alloc (.cells (shipA s m) 24)).alloc (.cells (cellV lo hi) 30)).alloc (.cells #[.int .i64 v] 3)).alloc (.cells #[.bool ch] 4))
    (fun x W hW => beyond1_any s m x.1 ch v hv hv' g (gc.at x) w.heap.size (w.heap.size + 1 + 1 + 1) (w.heap.size + 1 + 1) W ((h.later t6).later hW) ((hst.later t6).later hW) ((hW.block _ (by omega)).trans t1) ((hW.block _ (by omega)).trans t4) ((hW.block _ (by omega)).trans t3)))
  clear t1 t2 t3 t4 t6 h g gc hst
  generalize beyP s hi ch v = bh at *
  generalize beyP s lo ch v = bl at *
  go_enter Tryz.func88, Tryz.ntmps88
  go_wp2_with fail
  refine HC.out.mono ?_
  rintro e W1 ⟨rfl, hb1⟩
  have HB1 := Lib.hid (HB0.out.trans (hb1.mono HB0.out.size))
  clear hb1
  go_wp2_with fail
  refine bodyPost_ret (v := .tuple #[.bool (bh || bl), .bool (bh && bl)]) (by simp [results, Tryz.results88, go_sem]) rfl ⟨rfl, HB1.out⟩
def spanLo (f : Ic → Int) (lo hi : Ic) : Int := mn (mn 250 (f hi)) (f lo)
def spanHi (f : Ic → Int) (lo hi : Ic) : Int := mx (mx 0 (f hi)) (f lo)
def ssE (s : Sh) (lo hi : Ic) (ch : Bool) : Int := if (besP s hi ch || besP s lo ch) = true then 4 else if (beyP s hi ch 10 || beyP s lo ch 10) = true then 41 else 0
def ssLo (s : Sh) (lo hi : Ic) (ch : Bool) : Int := if ssE s lo hi ch = 0 then spanLo (fun x => safeP s x ch) lo hi else 0
def ssHi (s : Sh) (lo hi : Ic) (ch : Bool) : Int := if ssE s lo hi ch = 0 then spanHi (fun x => safeP s x ch) lo hi else 0
abbrev ssRes (s : Sh) (lo hi : Ic) (ch : Bool) : Value := .tuple #[.agg #[.int .i64 (ssLo s lo hi ch), .int .i64 (ssHi s lo hi ch)], .int .i64 (ssE s lo hi ch)]
set_option maxHeartbeats 2000000 in
theorem safeSpeeds_any (s : Sh) (m : Mem3) (lo hi : Ic) (ch : Bool) (g : Good s) (gc : GoodC lo hi) (w : World) (h : ShipIn w s m) (hst : Str w) :
    Calls Tryz.prog 90 #[.agg (shipA s m), .agg (cellV lo hi), .bool ch] w fun e w' => e = .returned (ssRes s lo hi ch) ∧ Below w.heap.size w w' := by
  obtain ⟨t1, t2, t3, t4, t5, t6⟩ := four_allocs w (.cells (shipA s m) 24) (.cells (cellV lo hi) 30) (.cells #[.bool ch] 4) (.cells #[.int .i64 0, .int .i64 0] 28)
  have HB0 := Lib.hid t6
  have HK1 := Lib.hid t1
  have HK2 := Lib.hid t2
  have HK3 := Lib.hid t3
  have HK4 := Lib.hid t4
  obtain ⟨c0, c1, c2, c3, c4, c5, c6, c7, c8, c9, c10⟩ := cells11 t1
  obtain ⟨⟨e0, e1, e2, e3, e4, e5, e6, e7⟩, _⟩ := cells8 t2
  have q0 := (cell_of_block t3 0).trans rfl
  simp only [List.getElem?_toArray, List.getElem?_cons_zero] at q0
  have HS := Lib.hid h
  have HT := Lib.hid hst
  have HC := Lib.hid (beset_any s m lo hi ch g gc _ (h.later t6))
  have HY := Lib.hid (fun (W : World) (hW : Below w.heap.size w W) => beyond_any s m lo hi 10 (by omega) (by omega) ch g gc W (h.later hW) (hst.later hW))
  have HF := Lib.hid (fun (W : World) (hW : Below w.heap.size w W) (k1 : W.heap[w.heap.size]? = some (.cells (shipA s m) 24 (0, 0))) (k3 : W.heap[w.heap.size + 1 + 1]? = some (.cells #[.bool ch] 4 (0, 0))) =>
    slowFast_any 144 #[.pointer (some ⟨w.heap.size, 0, none⟩), .pointer (some ⟨w.heap.size + 1 + 1, 0, none⟩)] eg114 (fun x => safeP s x ch) lo hi W
      (fun x W' hW' => safeSpeeds1_any s m x.1 ch g (gc.at x) w.heap.size (w.heap.size + 1 + 1) W' ((h.later hW).later hW') ((hst.later hW).later hW') ((hW'.block _ (lt_of_block k1)).trans k1) ((hW'.block _ (lt_of_block k3)).trans k3)))
  have hz : (((((w.alloc (.cells (shipA s m) 24)).alloc (.cells (cellV lo hi) 30)).alloc (.cells #[.bool ch] 4)).alloc (.cells #[.int .i64 0, .int .i64 0] 28))).heap.size = w.heap.size + 4 := by simp
  clear t1 t2 t3 t4 t5 t6 h hst g gc
  cases hB : (besP s hi ch || besP s lo ch) with
  | true =>
    have HE := Lib.hid (show ssRes s lo hi ch = .tuple #[.agg #[.int .i64 0, .int .i64 0], .int .i64 4] by
      have e : ssE s lo hi ch = 4 := by unfold ssE; rw [hB]; rfl
      simp [ssRes, ssLo, ssHi, e])
    have HC' := Lib.hid (by have := HC.out; rw [hB] at this; exact this)
    clear HC HY HF
    generalize (besP s hi ch && besP s lo ch) = bb at *
    go_enter Tryz.func90, Tryz.ntmps90
    go_wp2_with fail
    refine HC'.out.mono ?_
    rintro e W1 ⟨rfl, hb1⟩
    have HB1 := Lib.hid (HB0.out.trans (hb1.mono HB0.out.size))
    have HK := Lib.hid ((hb1.block _ (by omega)).trans HK4.out)
    clear hb1
    go_wp2_with (refine list_store2 rfl rfl rfl (.inr (.inr rfl)) rfl rfl HK.out ?_; intro W2 h2 hc2)
    obtain ⟨⟨r0, r1⟩, _⟩ := cells2 h2
    refine bodyPost_ret (v := .tuple #[.agg #[.int .i64 0, .int .i64 0], .int .i64 4]) (by simp [results, Tryz.results90, go_sem, r0, r1]) rfl ⟨by rw [HE.out], HB1.out.trans (hc2.below (by omega))⟩
  | false =>
    have HC' := Lib.hid (by have := HC.out; rw [hB] at this; exact this)
    clear HC
    generalize (besP s hi ch && besP s lo ch) = bb at *
    cases hY : (beyP s hi ch 10 || beyP s lo ch 10) with
    | true =>
      have HE := Lib.hid (show ssRes s lo hi ch = .tuple #[.agg #[.int .i64 0, .int .i64 0], .int .i64 41] by
        have e : ssE s lo hi ch = 41 := by unfold ssE; rw [hB, hY]; rfl
        simp [ssRes, ssLo, ssHi, e])
      have HY' := Lib.hid (fun (W : World) (hW : Below w.heap.size w W) => by have := HY.out W hW; rw [hY] at this; exact this)
      clear HY HF
      generalize (beyP s hi ch 10 && beyP s lo ch 10) = cc at *
      go_enter Tryz.func90, Tryz.ntmps90
      go_wp2_with fail
      refine HC'.out.mono ?_
      rintro e W1 ⟨rfl, hb1⟩
      have HB1 := Lib.hid (HB0.out.trans (hb1.mono HB0.out.size))
      have K1 := Lib.hid ((hb1.block _ (by omega)).trans HK1.out)
      have K2 := Lib.hid ((hb1.block _ (by omega)).trans HK2.out)
      have K3 := Lib.hid ((hb1.block _ (by omega)).trans HK3.out)
      have K4 := Lib.hid ((hb1.block _ (by omega)).trans HK4.out)
      have hz1 := hb1.size
      clear hb1 c0 c1 c2 c3 c4 c5 c6 c7 c8 c9 c10 e0 e1 e2 e3 e4 e5 e6 e7 q0
      obtain ⟨c0, c1, c2, c3, c4, c5, c6, c7, c8, c9, c10⟩ := cells11 K1.out
      obtain ⟨⟨e0, e1, e2, e3, e4, e5, e6, e7⟩, _⟩ := cells8 K2.out
      have q0 := (cell_of_block K3.out 0).trans rfl
      simp only [List.getElem?_toArray, List.getElem?_cons_zero] at q0
      go_wp2_with fail
      refine (HY'.out _ HB1.out).mono ?_
      rintro e W2 ⟨rfl, hb2⟩
      have HB2 := Lib.hid (HB1.out.trans (hb2.mono HB1.out.size))
      have HK := Lib.hid ((hb2.block _ (by omega)).trans K4.out)
      clear hb2
      go_wp2_with (refine list_store2 rfl rfl rfl (.inr (.inr rfl)) rfl rfl HK.out ?_; intro W3 h2 hc2)
      obtain ⟨⟨r0, r1⟩, _⟩ := cells2 h2
      refine bodyPost_ret (v := .tuple #[.agg #[.int .i64 0, .int .i64 0], .int .i64 41]) (by simp [results, Tryz.results90, go_sem, r0, r1]) rfl ⟨by rw [HE.out], HB2.out.trans (hc2.below (by omega))⟩
    | false =>
      have HE := Lib.hid (show ssRes s lo hi ch = .tuple #[.agg #[.int .i64 (spanLo (fun x => safeP s x ch) lo hi), .int .i64 (spanHi (fun x => safeP s x ch) lo hi)], .int .i64 0] by
        have e : ssE s lo hi ch = 0 := by unfold ssE; rw [hB, hY]; rfl
        simp [ssRes, ssLo, ssHi, e])
      have HY' := Lib.hid (fun (W : World) (hW : Below w.heap.size w W) => by have := HY.out W hW; rw [hY] at this; exact this)
      have HF' := Lib.hid (fun (W : World) hW k1 k3 => (show Calls Tryz.prog 83 #[.agg (cellV lo hi), .func (.func 144) #[] #[.pointer (some ⟨w.heap.size, 0, none⟩), .pointer (some ⟨w.heap.size + 1 + 1, 0, none⟩)]] W fun e W' => e = .returned (.agg #[.int .i64 (spanLo (fun x => safeP s x ch) lo hi), .int .i64 (spanHi (fun x => safeP s x ch) lo hi)]) ∧ Below W.heap.size W W' from HF.out W hW k1 k3))
      clear HY HF
      generalize (beyP s hi ch 10 && beyP s lo ch 10) = cc at *
      generalize spanLo (fun x => safeP s x ch) lo hi = sl at *
      generalize spanHi (fun x => safeP s x ch) lo hi = sh at *
      go_enter Tryz.func90, Tryz.ntmps90
      go_wp2_with fail
      refine HC'.out.mono ?_
      rintro e W1 ⟨rfl, hb1⟩
      have HB1 := Lib.hid (HB0.out.trans (hb1.mono HB0.out.size))
      have K1 := Lib.hid ((hb1.block _ (by omega)).trans HK1.out)
      have K2 := Lib.hid ((hb1.block _ (by omega)).trans HK2.out)
      have K3 := Lib.hid ((hb1.block _ (by omega)).trans HK3.out)
      have K4 := Lib.hid ((hb1.block _ (by omega)).trans HK4.out)
      have hz1 := hb1.size
      clear hb1 c0 c1 c2 c3 c4 c5 c6 c7 c8 c9 c10 e0 e1 e2 e3 e4 e5 e6 e7 q0
      obtain ⟨c0, c1, c2, c3, c4, c5, c6, c7, c8, c9, c10⟩ := cells11 K1.out
      obtain ⟨⟨e0, e1, e2, e3, e4, e5, e6, e7⟩, _⟩ := cells8 K2.out
      have q0 := (cell_of_block K3.out 0).trans rfl
      simp only [List.getElem?_toArray, List.getElem?_cons_zero] at q0
      go_wp2_with fail
      refine (HY'.out _ HB1.out).mono ?_
      rintro e W2 ⟨rfl, hb2⟩
      have HB2 := Lib.hid (HB1.out.trans (hb2.mono HB1.out.size))
      have L1 := Lib.hid ((hb2.block _ (by omega)).trans K1.out)
      have L2 := Lib.hid ((hb2.block _ (by omega)).trans K2.out)
      have L3 := Lib.hid ((hb2.block _ (by omega)).trans K3.out)
      have L4 := Lib.hid ((hb2.block _ (by omega)).trans K4.out)
      have hz2 := hb2.size
      clear hb2 c0 c1 c2 c3 c4 c5 c6 c7 c8 c9 c10 e0 e1 e2 e3 e4 e5 e6 e7 q0
      obtain ⟨⟨e0, e1, e2, e3, e4, e5, e6, e7⟩, _⟩ := cells8 L2.out
      go_wp2_with fail
      refine (HF'.out _ HB2.out L1.out L3.out).mono ?_
      rintro e W3 ⟨rfl, hb3⟩
      have HB3 := Lib.hid (HB2.out.trans (hb3.mono HB2.out.size))
      have HK := Lib.hid ((hb3.block _ (by omega)).trans L4.out)
      clear hb3
      go_wp2_with (refine list_store2 rfl rfl rfl (.inr (.inr rfl)) rfl rfl HK.out ?_; intro W4 h2 hc2)
      obtain ⟨⟨r0, r1⟩, _⟩ := cells2 h2
      refine bodyPost_ret (v := .tuple #[.agg #[.int .i64 sl, .int .i64 sh], .int .i64 0]) (by simp [results, Tryz.results90, go_sem, r0, r1]) rfl ⟨by rw [HE.out], HB3.out.trans (hc2.below (by omega))⟩
end Go.Proofs.YtcoiklolgilhaaaGreatDoor
