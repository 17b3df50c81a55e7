/- The contract of work.tells: a report whose Has is from 0 to 15, whose told spans and the rates are within their limits, made at most 10000 hours before. The table of limits holds 100, 400, 100, 3. -/
import Derived.Test.YtdcpmdigihbdpaaDoorRa
namespace Go.Proofs.YtdcpmdigihbdpaaDoor
open Go.RowKit
set_option maxRecDepth 100000
structure Rep where
  id : Int
  src : Int
  hour : Int
  x : Int
  y : Int
  has : Int
  lo : Nat → Int
  hi : Nat → Int
abbrev repA (r : Rep) : Array Value := #[.int .i64 r.id, .int .i64 r.src, .int .i64 r.hour, .int .i64 r.x, .int .i64 r.y, .int .i64 r.has, .int .i64 (r.lo 0), .int .i64 (r.hi 0), .int .i64 (r.lo 1), .int .i64 (r.hi 1), .int .i64 (r.lo 2), .int .i64 (r.hi 2), .int .i64 (r.lo 3), .int .i64 (r.hi 3)]
abbrev workA (u d : Nat → Int) (now : Int) (sl : Value) : Array Value := #[.int .i64 (u 0), .int .i64 (u 1), .int .i64 (u 2), .int .i64 (u 3), .int .i64 (d 0), .int .i64 (d 1), .int .i64 (d 2), .int .i64 (d 3), .int .i64 now, sl]
theorem cells14 {W : World} {b : Nat} {x0 x1 x2 x3 x4 x5 x6 x7 x8 x9 x10 x11 x12 x13 : Value} {t : TypeId} (h : W.heap[b]? = some (.cells #[x0, x1, x2, x3, x4, x5, x6, x7, x8, x9, x10, x11, x12, x13] t (0, 0))) :
    W.cell? ⟨b, 0, none⟩ = some x0 ∧ W.cell? ⟨b, 1, none⟩ = some x1 ∧ W.cell? ⟨b, 2, none⟩ = some x2 ∧ W.cell? ⟨b, 3, none⟩ = some x3 ∧ W.cell? ⟨b, 4, none⟩ = some x4 ∧ W.cell? ⟨b, 5, none⟩ = some x5 ∧ W.cell? ⟨b, 6, none⟩ = some x6 ∧ W.cell? ⟨b, 7, none⟩ = some x7 ∧
    W.cell? ⟨b, 8, none⟩ = some x8 ∧ W.cell? ⟨b, 9, none⟩ = some x9 ∧ W.cell? ⟨b, 10, none⟩ = some x10 ∧ W.cell? ⟨b, 11, none⟩ = some x11 ∧ W.cell? ⟨b, 12, none⟩ = some x12 ∧ W.cell? ⟨b, 13, none⟩ = some x13 := by
  refine ⟨?_, ?_, ?_, ?_, ?_, ?_, ?_, ?_, ?_, ?_, ?_, ?_, ?_, ?_⟩ <;> (rw [cell_of_block h]; rfl)
def tLo (r : Rep) (q : Nat) : Int := if aboutB r.has q = true then r.lo q else 0
def tHi (r : Rep) (q : Nat) : Int := if aboutB r.has q = true then r.hi q else lim q
theorem cells2 {W : World} {b : Nat} {x0 x1 : Value} {t : TypeId} (h : W.heap[b]? = some (.cells #[x0, x1] t (0, 0))) : (W.cell? ⟨b, 0, none⟩ = some x0 ∧ W.cell? ⟨b, 1, none⟩ = some x1) ∧ W.frozen? ⟨b, 0, none⟩ = false ∧ W.frozen? ⟨b, 1, none⟩ = false := by
  refine ⟨⟨?_, ?_⟩, ?_, ?_⟩ <;> first | exact frozen_of_block h _ | (rw [cell_of_block h]; rfl)
theorem store2_block {W : World} {b : Nat} {x0 x1 : Value} {t : TypeId} (h : W.heap[b]? = some (.cells #[x0, x1] t (0, 0))) (y0 y1 : Value) :
    ((W.setCell ⟨b, 0, none⟩ y0).setCell ⟨b, 1, none⟩ y1).heap[b]? = some (.cells #[y0, y1] t (0, 0)) := by
  have h0 := setCell_block h 0 y0
  simp only [List.setIfInBounds_toArray, List.set_cons_zero] at h0
  have h1 := setCell_block h0 1 y1
  simp only [List.setIfInBounds_toArray, List.set_cons_zero, List.set_cons_succ] at h1
  exact h1
theorem list_store2 {ops : Array Oper} {o : Oper} {rest : List Oper} {a : Act} {W : World} {Q : Exit → Act → World → Prop} {s r b : Nat} {t : TypeId} {x0 x1 y0 y1 : Int} (hg : o.guard = none) (hd : o.dst = none) (hop : o.op = Op.store 23 (.tmp s) (.tmp r))
    (he : a.eval (.tmp s) = ptr b) (hv : a.eval (.tmp r) = .agg #[.int .i64 y0, .int .i64 y1]) (hb : W.heap[b]? = some (.cells #[.int .i64 x0, .int .i64 x1] t (0, 0)))
    (hK : ∀ W', W'.heap[b]? = some (.cells #[.int .i64 y0, .int .i64 y1] t (0, 0)) → Chg b W W' → wpList Tryd.prog ops Q rest a W') : wpList Tryd.prog ops Q (o :: rest) a W := by
  obtain ⟨⟨c0, c1⟩, f0, f1⟩ := cells2 hb
  unfold ptr at he
  have he' : a.tmps[s]?.getD undef = .pointer (some ⟨b, 0, none⟩) := by simpa [Act.eval] using he
  have hv' : a.tmps[r]?.getD undef = .agg #[.int .i64 y0, .int .i64 y1] := by simpa [Act.eval] using hv
  refine list_store hg hd ?_ (hK ((W.setCell ⟨b, 0, none⟩ (.int .i64 y0)).setCell ⟨b, 1, none⟩ (.int .i64 y1)) (store2_block hb _ _) ((chg_setCell W b 0 _).trans (chg_setCell _ b 1 _)))
  unfold execOp
  rw [hop]
  simp [go_sem, he', hv', c0, c1, f0, f1]
abbrev cellA' (lo hi : Nat → Int) : Array Value := #[.int .i64 (lo 0), .int .i64 (hi 0), .int .i64 (lo 1), .int .i64 (hi 1), .int .i64 (lo 2), .int .i64 (hi 2), .int .i64 (lo 3), .int .i64 (hi 3)]
theorem tells1 (r : Rep) (R S Wh : Nat) (q : Nat) (hq : q < 4) (h0 : 0 ≤ r.has) (h1 : r.has ≤ 15) (w : World) (hR : w.heap[R]? = some (.cells (repA r) 67 (0, 0))) (hS : Spans w S r.lo r.hi) (hW : Spans w Wh (fun _ => 0) lim) (lS : S < w.heap.size) (lW : Wh < w.heap.size) :
    Calls Tryd.prog 119 #[.int .i64 q, .pointer (some ⟨R, 0, none⟩), .pointer (some ⟨S, 0, none⟩), .pointer (some ⟨Wh, 0, none⟩)] w fun e w' => e = .returned (.agg #[.int .i64 (tLo r q), .int .i64 (tHi r q)]) ∧ Below w.heap.size w w' := by
  have lR := lt_of_block hR
  obtain ⟨c0, c1, c2, c3, c4, c5, c6, c7, c8, c9, c10, c11, c12, c13⟩ := cells14 hR
  obtain ⟨s0, s1⟩ := hS q hq
  obtain ⟨v0, v1⟩ := hW q hq
  have hq' : (q : Int) < 4 := by omega
  have hq0 : (0 : Int) ≤ (q : Int) := by omega
  clear hR hS hW
  cases ha : aboutB r.has q with
  | true =>
    have e1 : tLo r q = r.lo q := by simp [tLo, ha]
    have e2 : tHi r q = r.hi q := by simp [tHi, ha]
    have E1 := Lib.hid e1
    have E2 := Lib.hid e2
    have HA := Lib.hid ha
    clear e1 e2 ha
    go_enter Tryd.func119, Tryd.ntmps119
    go_wp2_with fail
    have hb0 := (Below.refl w.heap.size w).alloc (Nat.le_refl _) (.cells #[.int .i64 0, .int .i64 0] 23)
    have hn0 := block_new w (.cells #[.int .i64 0, .int .i64 0] 23)
    have hs0 : w.heap.size < (w.alloc (.cells #[.int .i64 0, .int .i64 0] 23)).heap.size := by simp
    generalize w.alloc (.cells #[.int .i64 0, .int .i64 0] 23) = w1 at *
    have HN := Lib.hid hn0
    clear hn0
    refine (about_any r.id r.src r.hour r.x r.y r.has r.lo r.hi q hq h0 h1 _).mono ?_
    rw [HA.out]
    rintro e W1 ⟨rfl, hb⟩
    have B1 := Lib.hid (hb0.trans (hb.mono hb0.size))
    have HN1 := Lib.hid ((hb.block w.heap.size hs0).trans HN.out)
    have t0 := (B1.out.cell (p := ⟨S, q * 2, none⟩) lS).trans s0
    have t1 := (B1.out.cell (p := ⟨S, q * 2 + 1, none⟩) lS).trans s1
    clear hb0 hb c0 c1 c2 c3 c4 c5 c6 c7 c8 c9 c10 c11 c12 c13 s0 s1 v0 v1 HN
    go_wp2_with (refine list_store2 rfl rfl rfl rfl rfl HN1.out ?_; intro W2 h2 hc2)
    obtain ⟨⟨g0, g1⟩, _⟩ := cells2 h2
    refine bodyPost_ret (v := .agg #[.int .i64 (r.lo q), .int .i64 (r.hi q)]) ?_ rfl ⟨by rw [E1.out, E2.out], B1.out.trans (hc2.below (Nat.le_refl _))⟩
    simp [results, Tryd.results119, go_sem, g0, g1]
  | false =>
    have e1 : tLo r q = 0 := by simp [tLo, ha]
    have e2 : tHi r q = lim q := by simp [tHi, ha]
    have E1 := Lib.hid e1
    have E2 := Lib.hid e2
    have HA := Lib.hid ha
    clear e1 e2 ha
    go_enter Tryd.func119, Tryd.ntmps119
    go_wp2_with fail
    have hb0 := (Below.refl w.heap.size w).alloc (Nat.le_refl _) (.cells #[.int .i64 0, .int .i64 0] 23)
    have hn0 := block_new w (.cells #[.int .i64 0, .int .i64 0] 23)
    have hs0 : w.heap.size < (w.alloc (.cells #[.int .i64 0, .int .i64 0] 23)).heap.size := by simp
    generalize w.alloc (.cells #[.int .i64 0, .int .i64 0] 23) = w1 at *
    have HN := Lib.hid hn0
    clear hn0
    refine (about_any r.id r.src r.hour r.x r.y r.has r.lo r.hi q hq h0 h1 _).mono ?_
    rw [HA.out]
    rintro e W1 ⟨rfl, hb⟩
    have B1 := Lib.hid (hb0.trans (hb.mono hb0.size))
    have HN1 := Lib.hid ((hb.block w.heap.size hs0).trans HN.out)
    have t0 := (B1.out.cell (p := ⟨Wh, q * 2, none⟩) lW).trans v0
    have t1 := (B1.out.cell (p := ⟨Wh, q * 2 + 1, none⟩) lW).trans v1
    clear hb0 hb c0 c1 c2 c3 c4 c5 c6 c7 c8 c9 c10 c11 c12 c13 s0 s1 v0 v1 HN
    go_wp2_with (refine list_store2 rfl rfl rfl rfl rfl HN1.out ?_; intro W2 h2 hc2)
    obtain ⟨⟨g0, g1⟩, _⟩ := cells2 h2
    refine bodyPost_ret (v := .agg #[.int .i64 (0), .int .i64 (lim q)]) ?_ rfl ⟨by rw [E1.out, E2.out], B1.out.trans (hc2.below (Nat.le_refl _))⟩
    simp [results, Tryd.results119, go_sem, g0, g1]
theorem eg119 : ∀ args w, (callFunc 119 args).run Tryd.prog w = .ok (.enter 119 args) w := Go.Proofs.enters_of Tryd.func119 (by kernel_rfl) rfl
set_option maxHeartbeats 1000000 in
theorem tells_any (u d : Nat → Int) (now : Int) (sl : Value) (r : Rep) (h0 : 0 ≤ r.has) (h1 : r.has ≤ 15) (w : World) (hl : Lim w) (hok : ageOK (tLo r) (tHi r) u d) (hh0 : 0 ≤ now - r.hour) (hh1 : now - r.hour ≤ 10000) :
    Calls Tryd.prog 89 #[.agg (workA u d now sl), .agg (repA r)] w fun e w' => e = .returned (.agg (cellA' (agLo (tLo r) d (now - r.hour)) (agHi (tHi r) u (now - r.hour)))) ∧ Below w.heap.size w w' := by
  have hpos := hl.pos
  have HL := Lib.hid hl
  have HK := Lib.hid hok
  clear hl hok
  go_enter Tryd.func89, Tryd.ntmps89
  go_wp2_with fail
  have h3 := three_allocs w (.cells (workA u d now sl) 139) (.cells (repA r) 67) (.cells #[.int .i64 0, .int .i64 0, .int .i64 0, .int .i64 0, .int .i64 0, .int .i64 0, .int .i64 0, .int .i64 0] 32)
  generalize ((w.alloc (.cells (workA u d now sl) 139)).alloc (.cells (repA r) 67)).alloc (.cells #[.int .i64 0, .int .i64 0, .int .i64 0, .int .i64 0, .int .i64 0, .int .i64 0, .int .i64 0, .int .i64 0] 32) = w1 at *
  obtain ⟨hA, hA2, hA3, hs0, hb0⟩ := h3
  have HA := Lib.hid hA
  have HA2 := Lib.hid hA2
  have HA3 := Lib.hid hA3
  clear hA hA2 hA3
  refine (spansOf_any _ _ _ _ _ _ _ _ _).mono ?_
  rintro e W1 ⟨rfl, h1'⟩
  have b1 := hb0.trans (h1'.mono hb0.size)
  go_wp2_with fail
  refine (Whole_any _ (HL.out.below hpos b1)).mono ?_
  rintro e W2 ⟨rfl, h2'⟩
  have b2 := h1'.trans (h2'.mono h1'.size)
  clear b1 h1' h2'
  go_wp2_with fail
  refine (spansOf_any _ _ _ _ _ _ _ _ _).mono ?_
  rintro e W3 ⟨rfl, h3'⟩
  have b3 := b2.trans (h3'.mono b2.size)
  clear b2 h3'
  have z3 := b3.size
  go_wp2_with fail
  obtain ⟨k1, k2, k3, k4⟩ := two_allocs W3 (.cells (cellA' r.lo r.hi) 108) (.cells #[.int .i64 0, .int .i64 (lim 0), .int .i64 0, .int .i64 (lim 1), .int .i64 0, .int .i64 (lim 2), .int .i64 0, .int .i64 (lim 3)] 108)
  have b4 := b3.trans (k4.mono b3.size)
  generalize (W3.alloc (.cells (cellA' r.lo r.hi) 108)).alloc (.cells #[.int .i64 0, .int .i64 (lim 0), .int .i64 0, .int .i64 (lim 1), .int .i64 0, .int .i64 (lim 2), .int .i64 0, .int .i64 (lim 3)] 108) = W4 at *
  have hS := Lib.hid (spans_of_block (lo := r.lo) (hi := r.hi) k1)
  have hW := Lib.hid (spans_of_block (lo := fun _ => 0) (hi := lim) k2)
  have l1 : W3.heap.size < W4.heap.size := by omega
  have l2 : W3.heap.size + 1 < W4.heap.size := by omega
  have HB4 := Lib.hid b4
  have HW4 := Lib.hid ((b4.block w.heap.size (by omega)).trans HA.out)
  have HR4 := Lib.hid ((b4.block (w.heap.size + 1) (by omega)).trans HA2.out)
  have HT4 := Lib.hid ((b4.block (w.heap.size + 1 + 1) (by omega)).trans HA3.out)
  have HB0 := Lib.hid (hb0.trans (b4.mono hb0.size))
  have lw : w.heap.size + 1 + 1 < W4.heap.size := by omega
  clear k1 k2 k3 k4 b3 b4 hb0 hs0 z3 HA HA2 HA3
  refine (cellOf_later 119 _ eg119 (tLo r) (tHi r) _ ?_).mono ?_
  · intro q W hq hWb
    have hz := hWb.size
    exact tells1 r (w.heap.size + 1) W3.heap.size (W3.heap.size + 1) q hq h0 h1 W ((hWb.block _ (by omega)).trans HR4.out) (spans_below hWb l1 hS.out) (spans_below hWb l2 hW.out) (by omega) (by omega)
  rintro e W5 ⟨rfl, h5⟩
  have z5 := h5.size
  have HW5 := Lib.hid ((h5.block w.heap.size (by omega)).trans HW4.out)
  have HR5 := Lib.hid ((h5.block (w.heap.size + 1) (by omega)).trans HR4.out)
  have HT5 := Lib.hid ((h5.block (w.heap.size + 1 + 1) (by omega)).trans HT4.out)
  have HB5 := Lib.hid (HB0.out.trans (h5.mono HB0.out.size))
  have lw5 : w.heap.size + 1 + 1 < W5.heap.size := by omega
  clear h5 HW4 HR4 HT4 HB4 HB0 hS hW l1 l2 lw z5
  have v0 := cell_of_block HW5.out
  have g0 := v0 0
  have g1 := v0 1
  have g2 := v0 2
  have g3 := v0 3
  have g4 := v0 4
  have g5 := v0 5
  have g6 := v0 6
  have g7 := v0 7
  have g8 := v0 8
  have gh := cell_of_block HR5.out 2
  simp only [List.getElem?_toArray, List.getElem?_cons_zero, List.getElem?_cons_succ] at g0 g1 g2 g3 g4 g5 g6 g7 g8 gh
  clear v0
  have lw1 : w.heap.size < W5.heap.size := by omega
  have lw2 : w.heap.size + 1 < W5.heap.size := by omega
  go_wp2_with fail
  clear g0 g1 g2 g3 g4 g5 g6 g7 g8 gh
  have HB6 := Lib.hid (HB5.out.alloc (by omega) (.cells (cellA' (tLo r) (tHi r)) 32))
  have HT6 := Lib.hid ((Below.heap_alloc W5 (.cells (cellA' (tLo r) (tHi r)) 32) (w.heap.size + 1 + 1) lw5).trans HT5.out)
  have lw6 : w.heap.size + 1 + 1 < (W5.alloc (.cells (cellA' (tLo r) (tHi r)) 32)).heap.size := by simp; omega
  generalize W5.alloc (.cells (cellA' (tLo r) (tHi r)) 32) = W6 at *
  refine (aged_any (tLo r) (tHi r) u d (now - r.hour) _ (HL.out.below hpos HB6.out) HK.out hh0 hh1).mono ?_
  rintro e W7 ⟨rfl, h7⟩
  have HB7 := Lib.hid (HB6.out.trans (h7.mono HB6.out.size))
  have HT7 := Lib.hid ((h7.block _ lw6).trans HT6.out)
  clear h7 HW5 HR5 HT5 HB5 HB6 HT6 lw5 lw6 lw1 lw2
  go_wp2_with (refine list_store8 rfl rfl rfl (.inl rfl) rfl rfl HT7.out ?_; intro W8 h8 hc8)
  obtain ⟨⟨g0, g1, g2, g3, g4, g5, g6, g7⟩, _⟩ := cells8 h8
  refine bodyPost_ret (v := .agg (cellA' (agLo (tLo r) d (now - r.hour)) (agHi (tHi r) u (now - r.hour)))) ?_ rfl ⟨rfl, HB7.out.trans (hc8.below (by omega))⟩
  simp [results, Tryd.results89, go_sem, g0, g1, g2, g3, g4, g5, g6, g7]
end Go.Proofs.YtdcpmdigihbdpaaDoor
