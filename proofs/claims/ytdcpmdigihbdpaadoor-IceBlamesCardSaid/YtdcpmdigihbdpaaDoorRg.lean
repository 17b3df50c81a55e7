/- The contract of ice.rightReport: a report that is right. The table of limits holds 100, 400, 100, 3. -/
import Derived.Test.YtdcpmdigihbdpaaDoorRf
namespace Go.Proofs.YtdcpmdigihbdpaaDoor
open Go.RowKit
set_option maxRecDepth 100000
def repB (r : Rep) (q : Nat) : Bool := !aboutB r.has q || okSpan (r.lo q) (r.hi q) q
def okRep (r : Rep) : Bool := inB r.id 0 1000000 && inB r.src 1 3 && inB r.hour 0 10000 && inB r.x 0 63 && inB r.y 0 63 && inB r.has 1 15 && allB (repB r)
theorem right1 (r : Rep) (B S : Nat) (q : Nat) (hq : q < 4) (h0 : 0 ≤ r.has) (h1 : r.has ≤ 15) (w : World) (hl : Lim w) (hR : w.heap[B]? = some (.cells (repA r) 67 (0, 0))) (hS : Spans w S r.lo r.hi) (lS : S < w.heap.size) :
    Calls Tryd.prog 128 #[.int .i64 q, .pointer (some ⟨B, 0, none⟩), .pointer (some ⟨S, 0, none⟩)] w fun e w' => e = .returned (.bool (repB r q)) ∧ Below w.heap.size w w' := by
  have hpos := hl.pos
  have HL := Lib.hid hl
  obtain ⟨c0, c1, c2, c3, c4, c5, c6, c7, c8, c9, c10, c11, c12, c13⟩ := cells14 hR
  obtain ⟨s0, s1⟩ := hS q hq
  have hq' : (q : Int) < 4 := by omega
  have hq0 : (0 : Int) ≤ (q : Int) := by omega
  clear hR hS hl
  cases ha : aboutB r.has q with
  | true =>
    have e1 : repB r q = okSpan (r.lo q) (r.hi q) q := by simp [repB, ha]
    have E1 := Lib.hid e1
    have HA := Lib.hid ha
    clear e1 ha
    go_enter Tryd.func128, Tryd.ntmps128
    go_wp2_with fail
    refine (about_any r.id r.src r.hour r.x r.y r.has r.lo r.hi q hq h0 h1 _).mono ?_
    rw [HA.out]
    rintro e W1 ⟨rfl, hb⟩
    have t0 := (hb.cell (p := ⟨S, q * 2, none⟩) lS).trans s0
    have t1 := (hb.cell (p := ⟨S, q * 2 + 1, none⟩) lS).trans s1
    have HB := Lib.hid hb
    clear c0 c1 c2 c3 c4 c5 c6 c7 c8 c9 c10 c11 c12 c13 s0 s1 hb
    go_wp2_with fail
    refine (rightSpan_any (r.lo q) (r.hi q) q hq _ (HL.out.below hpos HB.out)).mono ?_
    rintro e W2 ⟨rfl, hb2⟩
    have HB2 := Lib.hid hb2
    clear hb2 t0 t1
    go_wp2_with fail
    go_ret
    exact ⟨by rw [E1.out]; rfl, HB.out.trans (HB2.out.mono HB.out.size)⟩
  | false =>
    have e1 : repB r q = true := by simp [repB, ha]
    have E1 := Lib.hid e1
    have HA := Lib.hid ha
    clear e1 ha
    go_enter Tryd.func128, Tryd.ntmps128
    go_wp2_with fail
    refine (about_any r.id r.src r.hour r.x r.y r.has r.lo r.hi q hq h0 h1 _).mono ?_
    rw [HA.out]
    rintro e W1 ⟨rfl, hb⟩
    have HB := Lib.hid hb
    clear c0 c1 c2 c3 c4 c5 c6 c7 c8 c9 c10 c11 c12 c13 s0 s1 hb
    go_wp2_with fail
    go_ret
    exact ⟨by rw [E1.out]; rfl, HB.out⟩
theorem eg128 : ∀ args w, (callFunc 128 args).run Tryd.prog w = .ok (.enter 128 args) w := Go.Proofs.enters_of Tryd.func128 (by kernel_rfl) rfl
set_option maxHeartbeats 2000000 in
theorem rightReport_any (r : Rep) (w : World) (hl : Lim w) : Calls Tryd.prog 118 #[.agg (repA r)] w fun e w' => e = .returned (.bool (okRep r)) ∧ Below w.heap.size w w' := by
  have hpos := hl.pos
  have HL := Lib.hid hl
  clear hl
  go_enter Tryd.func118, Tryd.ntmps118
  have HA := Lib.hid (block_new w (.cells (repA r) 67))
  have hb0 := (Below.refl w.heap.size w).alloc (Nat.le_refl _) (.cells (repA r) 67)
  go_wp2_with fail
  refine (spansOf_any _ _ _ _ _ _ _ _ _).mono ?_
  rintro e W1 ⟨rfl, h1'⟩
  have hb1 := hb0.trans (h1'.mono hb0.size)
  have HA1 := Lib.hid ((h1'.block _ (by simp)).trans HA.out)
  have z1 : w.heap.size < W1.heap.size := by have := h1'.size; simp at this; omega
  have HA2 := Lib.hid ((Below.heap_alloc W1 (.cells (cellA' r.lo r.hi) 108) w.heap.size z1).trans HA1.out)
  have HS2 := Lib.hid (spans_of_block (lo := r.lo) (hi := r.hi) (block_new W1 (.cells (cellA' r.lo r.hi) 108)))
  have HB2 := Lib.hid (hb1.alloc hb1.size (.cells (cellA' r.lo r.hi) 108))
  have z2 : W1.heap.size < (W1.alloc (.cells (cellA' r.lo r.hi) 108)).heap.size := by simp
  have z3 : w.heap.size < (W1.alloc (.cells (cellA' r.lo r.hi) 108)).heap.size := by simp; omega
  clear hb0 h1' hb1 HA HA1
  obtain ⟨k0, k1, k2, k3, k4, k5, _⟩ := cells14 HA2.out
  go_wp2_with fail
  generalize hW2 : W1.alloc (.cells (cellA' r.lo r.hi) 108) = W2 at *
  cases r0 : inB r.id 0 1000000 with
  | false =>
    have Hr0 := Lib.hid r0
    clear r0
    refine (within_any _ _ _ _).mono ?_
    rw [Hr0.out]
    rintro e W ⟨rfl, rfl⟩
    go_wp2_with fail
    go_ret
    exact ⟨by simp [okRep, Hr0.out], HB2.out⟩
  | true =>
    have Hr0 := Lib.hid r0
    clear r0
    refine (within_any _ _ _ _).mono ?_
    rw [Hr0.out]
    rintro e W ⟨rfl, rfl⟩
    go_wp2_with fail
    cases r1 : inB r.src 1 3 with
    | false =>
      have Hr1 := Lib.hid r1
      clear r1
      refine (within_any _ _ _ _).mono ?_
      rw [Hr1.out]
      rintro e W ⟨rfl, rfl⟩
      go_wp2_with fail
      go_ret
      exact ⟨by simp [okRep, Hr0.out, Hr1.out], HB2.out⟩
    | true =>
      have Hr1 := Lib.hid r1
      clear r1
      refine (within_any _ _ _ _).mono ?_
      rw [Hr1.out]
      rintro e W ⟨rfl, rfl⟩
      go_wp2_with fail
      cases r2 : inB r.hour 0 10000 with
      | false =>
        have Hr2 := Lib.hid r2
        clear r2
        refine (within_any _ _ _ _).mono ?_
        rw [Hr2.out]
        rintro e W ⟨rfl, rfl⟩
        go_wp2_with fail
        go_ret
        exact ⟨by simp [okRep, Hr0.out, Hr1.out, Hr2.out], HB2.out⟩
      | true =>
        have Hr2 := Lib.hid r2
        clear r2
        refine (within_any _ _ _ _).mono ?_
        rw [Hr2.out]
        rintro e W ⟨rfl, rfl⟩
        go_wp2_with fail
        cases r3 : inB r.x 0 63 with
        | false =>
          have Hr3 := Lib.hid r3
          clear r3
          refine (within_any _ _ _ _).mono ?_
          rw [Hr3.out]
          rintro e W ⟨rfl, rfl⟩
          go_wp2_with fail
          go_ret
          exact ⟨by simp [okRep, Hr0.out, Hr1.out, Hr2.out, Hr3.out], HB2.out⟩
        | true =>
          have Hr3 := Lib.hid r3
          clear r3
          refine (within_any _ _ _ _).mono ?_
          rw [Hr3.out]
          rintro e W ⟨rfl, rfl⟩
          go_wp2_with fail
          cases r4 : inB r.y 0 63 with
          | false =>
            have Hr4 := Lib.hid r4
            clear r4
            refine (within_any _ _ _ _).mono ?_
            rw [Hr4.out]
            rintro e W ⟨rfl, rfl⟩
            go_wp2_with fail
            go_ret
            exact ⟨by simp [okRep, Hr0.out, Hr1.out, Hr2.out, Hr3.out, Hr4.out], HB2.out⟩
          | true =>
            have Hr4 := Lib.hid r4
            clear r4
            refine (within_any _ _ _ _).mono ?_
            rw [Hr4.out]
            rintro e W ⟨rfl, rfl⟩
            go_wp2_with fail
            cases r5 : inB r.has 1 15 with
            | false =>
              have Hr5 := Lib.hid r5
              clear r5
              refine (within_any _ _ _ _).mono ?_
              rw [Hr5.out]
              rintro e W ⟨rfl, rfl⟩
              go_wp2_with fail
              go_ret
              exact ⟨by simp [okRep, Hr0.out, Hr1.out, Hr2.out, Hr3.out, Hr4.out, Hr5.out], HB2.out⟩
            | true =>
              have Hr5 := Lib.hid r5
              clear r5
              refine (within_any _ _ _ _).mono ?_
              rw [Hr5.out]
              rintro e W ⟨rfl, rfl⟩
              go_wp2_with fail
              have h5 : 1 ≤ r.has ∧ r.has ≤ 15 := by simpa [inB] using Hr5.out
              refine (every_later 128 _ eg128 (repB r) _ ?_).mono ?_
              · intro q W hq hWb
                exact right1 r w.heap.size W1.heap.size q hq (by omega) (by omega) W (HL.out.below hpos (HB2.out.trans (hWb.mono HB2.out.size))) ((hWb.block _ z3).trans HA2.out) (spans_below hWb z2 HS2.out) (Nat.lt_of_lt_of_le z2 hWb.size)
              rintro e W3 ⟨rfl, hb3⟩
              have HB3 := Lib.hid (HB2.out.trans (hb3.mono HB2.out.size))
              have HK := Lib.hid (show okRep r = allB (repB r) by simp [okRep, Hr0.out, Hr1.out, Hr2.out, Hr3.out, Hr4.out, Hr5.out])
              clear hb3 k0 k1 k2 k3 k4 k5
              go_wp2_with fail
              go_ret
              exact ⟨by rw [HK.out]; rfl, HB3.out⟩
end Go.Proofs.YtdcpmdigihbdpaaDoor
