/- Contracts of the functions of package ice on one cell or two: CheckCell, CheckIce, CheckRates, Whole, has, inside, meet, hull, aged. Where they read the table of limits: it holds 100, 400, 100, 3. -/
import Derived.Test.YtdcpmdigihbdpaaDoorMem
namespace Go.Proofs.YtdcpmdigihbdpaaDoor
open Go.RowKit
set_option maxRecDepth 100000
def agLo (lo d : Nat → Int) (hours : Int) (q : Nat) : Int := mx (lo q - chg (d q) hours) 0
def agHi (hi u : Nat → Int) (hours : Int) (q : Nat) : Int := mn (hi q + chg (u q) hours) (lim q)
def okCell (lo hi : Nat → Int) : Bool := allB fun q => okSpan (lo q) (hi q) q
def okIce (n : Nat → Int) : Bool := allB fun q => inB (n q) 0 (lim q)
def okRates (u d : Nat → Int) : Bool := allB fun q => inB (u q) 0 1000 && inB (d q) 0 1000
def hasB (lo hi n : Nat → Int) : Bool := allB fun q => inB (n q) (lo q) (hi q)
def insideB (lo hi lo' hi' : Nat → Int) : Bool := allB fun q => inB (lo q) (lo' q) (hi' q) && inB (hi q) (lo' q) (hi' q)
/-- 0 where b holds, else the error. -/
def errB (b : Bool) (e : Int) : Int := if b = true then 0 else e
theorem hull_any (lo hi lo' hi' : Nat → Int) (w : World) : Calls Tryd.prog 79 #[.agg #[.int .i64 (lo 0), .int .i64 (hi 0), .int .i64 (lo 1), .int .i64 (hi 1), .int .i64 (lo 2), .int .i64 (hi 2), .int .i64 (lo 3), .int .i64 (hi 3)], .agg #[.int .i64 (lo' 0), .int .i64 (hi' 0), .int .i64 (lo' 1), .int .i64 (hi' 1), .int .i64 (lo' 2), .int .i64 (hi' 2), .int .i64 (lo' 3), .int .i64 (hi' 3)]] w fun e w' => e = .returned (.agg #[.int .i64 (mn (lo 0) (lo' 0)), .int .i64 (mx (hi 0) (hi' 0)), .int .i64 (mn (lo 1) (lo' 1)), .int .i64 (mx (hi 1) (hi' 1)), .int .i64 (mn (lo 2) (lo' 2)), .int .i64 (mx (hi 2) (hi' 2)), .int .i64 (mn (lo 3) (lo' 3)), .int .i64 (mx (hi 3) (hi' 3))]) ∧ Below w.heap.size w w' := by
  go_enter Tryd.func79, Tryd.ntmps79
  go_wp2_with fail
  have h3 := three_allocs w (.cells #[.int .i64 (lo 0), .int .i64 (hi 0), .int .i64 (lo 1), .int .i64 (hi 1), .int .i64 (lo 2), .int .i64 (hi 2), .int .i64 (lo 3), .int .i64 (hi 3)] 32) (.cells #[.int .i64 (lo' 0), .int .i64 (hi' 0), .int .i64 (lo' 1), .int .i64 (hi' 1), .int .i64 (lo' 2), .int .i64 (hi' 2), .int .i64 (lo' 3), .int .i64 (hi' 3)] 32) (.cells #[.int .i64 0, .int .i64 0, .int .i64 0, .int .i64 0, .int .i64 0, .int .i64 0, .int .i64 0, .int .i64 0] 32)
  generalize ((w.alloc (.cells #[.int .i64 (lo 0), .int .i64 (hi 0), .int .i64 (lo 1), .int .i64 (hi 1), .int .i64 (lo 2), .int .i64 (hi 2), .int .i64 (lo 3), .int .i64 (hi 3)] 32)).alloc (.cells #[.int .i64 (lo' 0), .int .i64 (hi' 0), .int .i64 (lo' 1), .int .i64 (hi' 1), .int .i64 (lo' 2), .int .i64 (hi' 2), .int .i64 (lo' 3), .int .i64 (hi' 3)] 32)).alloc (.cells #[.int .i64 0, .int .i64 0, .int .i64 0, .int .i64 0, .int .i64 0, .int .i64 0, .int .i64 0, .int .i64 0] 32) = w1 at *
  obtain ⟨hA, hA2, hA3, hs0, hb0⟩ := h3
  refine wp_region_multi 6 [7, 8, 9, 10, 5, 6] (fun i => decide (4 ≤ i)) (fun i => ([(.agg #[.int .i64 (lo 0), .int .i64 (hi 0), .int .i64 (lo 1), .int .i64 (hi 1), .int .i64 (lo 2), .int .i64 (hi 2), .int .i64 (lo 3), .int .i64 (hi 3)]), (.agg #[.int .i64 (lo 0), .int .i64 (hi 0), .int .i64 (lo 1), .int .i64 (hi 1), .int .i64 (lo 2), .int .i64 (hi 2), .int .i64 (lo 3), .int .i64 (hi 3)]), (.agg #[.int .i64 (lo' 0), .int .i64 (hi' 0), .int .i64 (lo' 1), .int .i64 (hi' 1), .int .i64 (lo' 2), .int .i64 (hi' 2), .int .i64 (lo' 3), .int .i64 (hi' 3)]), (.agg #[.int .i64 (lo' 0), .int .i64 (hi' 0), .int .i64 (lo' 1), .int .i64 (hi' 1), .int .i64 (lo' 2), .int .i64 (hi' 2), .int .i64 (lo' 3), .int .i64 (hi' 3)])] : List Value).getD i undef) (fun i => if i = 4 then .cells #[.int .i64 0, .int .i64 0, .int .i64 0, .int .i64 0, .int .i64 0, .int .i64 0, .int .i64 0, .int .i64 0] 108 else .cells #[.int .i64 0, .int .i64 0, .int .i64 0, .int .i64 0, .int .i64 0, .int .i64 0, .int .i64 0, .int .i64 0] 108) (by kernel_rfl) (by kernel_rfl) (fun s hs => by simp at hs ⊢; omega) ?val ?al ?fin
  case val =>
    intro i
    match i with
    | 0 => intro o hlt hal ho a' W hb hfr hdp; obtain rfl := Option.some.inj ho; exact op_load8 rfl (hfr 2 (by decide)) ((hb.block _ (by omega)).trans hA)
    | 1 => intro o hlt hal ho a' W hb hfr hdp; obtain rfl := Option.some.inj ho; exact op_call rfl (hdp 0 7 (by decide) rfl rfl (by kernel_rfl)) eg55 (spansOf_any _ _ _ _ _ _ _ _ _)
    | 2 => intro o hlt hal ho a' W hb hfr hdp; obtain rfl := Option.some.inj ho; exact op_load8 rfl (hfr 3 (by decide)) ((hb.block _ (by omega)).trans hA2)
    | 3 => intro o hlt hal ho a' W hb hfr hdp; obtain rfl := Option.some.inj ho; exact op_call rfl (hdp 2 9 (by decide) rfl rfl (by kernel_rfl)) eg55 (spansOf_any _ _ _ _ _ _ _ _ _)
    | 4 => intro o hlt hal; cases hal
    | 5 => intro o hlt hal; cases hal
    | m + 6 => intro o hlt; omega
  case al =>
    intro i
    match i with
    | 0 => intro o hlt hal; cases hal
    | 1 => intro o hlt hal; cases hal
    | 2 => intro o hlt hal; cases hal
    | 3 => intro o hlt hal; cases hal
    | 4 => intro o hlt hal ho a' W; obtain rfl := Option.some.inj ho; exact op_alloc108 rfl
    | 5 => intro o hlt hal ho a' W; obtain rfl := Option.some.inj ho; exact op_alloc108 rfl
    | m + 6 => intro o hlt; omega
  case fin =>
    intro W B hb hB hne
    obtain ⟨hn0, hB0⟩ := hB 4 (by decide) rfl
    obtain ⟨hn1, hB1⟩ := hB 5 (by decide) rfl
    have hne01 : B 4 ≠ B 5 := hne 4 5 (by decide) (by decide) rfl rfl (by decide)
    have hB0' : W.heap[B 4]? = some (.cells #[.int .i64 0, .int .i64 0, .int .i64 0, .int .i64 0, .int .i64 0, .int .i64 0, .int .i64 0, .int .i64 0] 108 (0, 0)) := hB0
    have hB1' : W.heap[B 5]? = some (.cells #[.int .i64 0, .int .i64 0, .int .i64 0, .int .i64 0, .int .i64 0, .int .i64 0, .int .i64 0, .int .i64 0] 108 (0, 0)) := hB1
    clear hB hne hB0 hB1
    simp only [List.drop_succ_cons, List.drop_zero, fill, uAll, Act.put, List.setIfInBounds_toArray, List.set_cons_zero, List.set_cons_succ, Nat.reduceAdd, Nat.reduceLeDiff, decide_true, decide_false, if_true, if_false, Bool.false_eq_true, List.getD_cons_zero, List.getD_cons_succ, ptr]
    generalize B 4 = p0 at *
    generalize B 5 = p1 at *
    refine list_store8 rfl rfl rfl (.inr rfl) rfl rfl hB0' ?_
    intro W2 h20 hc2
    have h21 := (hc2.2.1 p1 (Ne.symm hne01)).trans hB1'
    refine list_store8 rfl rfl rfl (.inr rfl) rfl rfl h21 ?_
    intro W3 h31 hc3
    have h30 := (hc3.2.1 p0 hne01).trans h20
    have b3 : Below w1.heap.size w1 W3 := (hb.trans (hc2.below hn0)).trans (hc3.below hn1)
    have hS0 := Lib.hid (spans_of_block h30)
    have hS1 := Lib.hid (spans_of_block h31)
    have l0 := lt_of_block h30
    have l1 := lt_of_block h31
    have B0 := Lib.hid (hb0.trans (b3.mono hb0.size))
    have hR := Lib.hid ((b3.block (w.heap.size + 1 + 1) (by omega)).trans hA3)
    have sz : w.heap.size + 1 + 1 < W3.heap.size := by have := b3.size; omega
    clear hA hA2 hA3 hs0 hb0 hb hB0' hB1' h20 h21 h30 h31 hc2 hc3 b3 hn0 hn1 hne01
    go_wp2_with fail
    refine (cellOf_later 112 _ eg112 (fun q => mn (lo q) (lo' q)) (fun q => mx (hi q) (hi' q)) _ ?_).mono ?_
    · intro q W hq hW
      exact hull1 p0 p1 lo hi lo' hi' q hq W (by have := hW.size; omega) (by have := hW.size; omega) (spans_below hW l0 hS0.out) (spans_below hW l1 hS1.out)
    rintro e W4 ⟨rfl, h4⟩
    have H4 := Lib.hid h4
    have hR4 := Lib.hid ((h4.block (w.heap.size + 1 + 1) sz).trans hR.out)
    clear h4
    go_wp2_with (refine list_store8 rfl rfl rfl (.inl rfl) rfl rfl hR4.out ?_; intro W5 h5 hc5)
    obtain ⟨⟨c0, c1, c2, c3, c4, c5, c6, c7⟩, _⟩ := cells8 h5
    refine bodyPost_ret (v := .agg #[.int .i64 (mn (lo 0) (lo' 0)), .int .i64 (mx (hi 0) (hi' 0)), .int .i64 (mn (lo 1) (lo' 1)), .int .i64 (mx (hi 1) (hi' 1)), .int .i64 (mn (lo 2) (lo' 2)), .int .i64 (mx (hi 2) (hi' 2)), .int .i64 (mn (lo 3) (lo' 3)), .int .i64 (mx (hi 3) (hi' 3))]) ?_ rfl ⟨rfl, ?_⟩
    · simp [results, Tryd.results79, go_sem, c0, c1, c2, c3, c4, c5, c6, c7]
    · exact (B0.out.trans (H4.out.mono B0.out.size)).trans (hc5.below (by omega))
theorem inside_any (lo hi lo' hi' : Nat → Int) (w : World) : Calls Tryd.prog 73 #[.agg #[.int .i64 (lo 0), .int .i64 (hi 0), .int .i64 (lo 1), .int .i64 (hi 1), .int .i64 (lo 2), .int .i64 (hi 2), .int .i64 (lo 3), .int .i64 (hi 3)], .agg #[.int .i64 (lo' 0), .int .i64 (hi' 0), .int .i64 (lo' 1), .int .i64 (hi' 1), .int .i64 (lo' 2), .int .i64 (hi' 2), .int .i64 (lo' 3), .int .i64 (hi' 3)]] w fun e w' => e = .returned (.bool (insideB lo hi lo' hi')) ∧ Below w.heap.size w w' := by
  go_enter Tryd.func73, Tryd.ntmps73
  go_wp2_with fail
  have h3 := two_allocs w (.cells #[.int .i64 (lo 0), .int .i64 (hi 0), .int .i64 (lo 1), .int .i64 (hi 1), .int .i64 (lo 2), .int .i64 (hi 2), .int .i64 (lo 3), .int .i64 (hi 3)] 32) (.cells #[.int .i64 (lo' 0), .int .i64 (hi' 0), .int .i64 (lo' 1), .int .i64 (hi' 1), .int .i64 (lo' 2), .int .i64 (hi' 2), .int .i64 (lo' 3), .int .i64 (hi' 3)] 32)
  generalize (w.alloc (.cells #[.int .i64 (lo 0), .int .i64 (hi 0), .int .i64 (lo 1), .int .i64 (hi 1), .int .i64 (lo 2), .int .i64 (hi 2), .int .i64 (lo 3), .int .i64 (hi 3)] 32)).alloc (.cells #[.int .i64 (lo' 0), .int .i64 (hi' 0), .int .i64 (lo' 1), .int .i64 (hi' 1), .int .i64 (lo' 2), .int .i64 (hi' 2), .int .i64 (lo' 3), .int .i64 (hi' 3)] 32) = w1 at *
  obtain ⟨hA, hA2, hs0, hb0⟩ := h3
  refine wp_region_multi 6 [7, 8, 9, 10, 5, 6] (fun i => decide (4 ≤ i)) (fun i => ([(.agg #[.int .i64 (lo 0), .int .i64 (hi 0), .int .i64 (lo 1), .int .i64 (hi 1), .int .i64 (lo 2), .int .i64 (hi 2), .int .i64 (lo 3), .int .i64 (hi 3)]), (.agg #[.int .i64 (lo 0), .int .i64 (hi 0), .int .i64 (lo 1), .int .i64 (hi 1), .int .i64 (lo 2), .int .i64 (hi 2), .int .i64 (lo 3), .int .i64 (hi 3)]), (.agg #[.int .i64 (lo' 0), .int .i64 (hi' 0), .int .i64 (lo' 1), .int .i64 (hi' 1), .int .i64 (lo' 2), .int .i64 (hi' 2), .int .i64 (lo' 3), .int .i64 (hi' 3)]), (.agg #[.int .i64 (lo' 0), .int .i64 (hi' 0), .int .i64 (lo' 1), .int .i64 (hi' 1), .int .i64 (lo' 2), .int .i64 (hi' 2), .int .i64 (lo' 3), .int .i64 (hi' 3)])] : List Value).getD i undef) (fun i => if i = 4 then .cells #[.int .i64 0, .int .i64 0, .int .i64 0, .int .i64 0, .int .i64 0, .int .i64 0, .int .i64 0, .int .i64 0] 108 else .cells #[.int .i64 0, .int .i64 0, .int .i64 0, .int .i64 0, .int .i64 0, .int .i64 0, .int .i64 0, .int .i64 0] 108) (by kernel_rfl) (by kernel_rfl) (fun s hs => by simp at hs ⊢; omega) ?val ?al ?fin
  case val =>
    intro i
    match i with
    | 0 => intro o hlt hal ho a' W hb hfr hdp; obtain rfl := Option.some.inj ho; exact op_load8 rfl (hfr 2 (by decide)) ((hb.block _ (by omega)).trans hA)
    | 1 => intro o hlt hal ho a' W hb hfr hdp; obtain rfl := Option.some.inj ho; exact op_call rfl (hdp 0 7 (by decide) rfl rfl (by kernel_rfl)) eg55 (spansOf_any _ _ _ _ _ _ _ _ _)
    | 2 => intro o hlt hal ho a' W hb hfr hdp; obtain rfl := Option.some.inj ho; exact op_load8 rfl (hfr 3 (by decide)) ((hb.block _ (by omega)).trans hA2)
    | 3 => intro o hlt hal ho a' W hb hfr hdp; obtain rfl := Option.some.inj ho; exact op_call rfl (hdp 2 9 (by decide) rfl rfl (by kernel_rfl)) eg55 (spansOf_any _ _ _ _ _ _ _ _ _)
    | 4 => intro o hlt hal; cases hal
    | 5 => intro o hlt hal; cases hal
    | m + 6 => intro o hlt; omega
  case al =>
    intro i
    match i with
    | 0 => intro o hlt hal; cases hal
    | 1 => intro o hlt hal; cases hal
    | 2 => intro o hlt hal; cases hal
    | 3 => intro o hlt hal; cases hal
    | 4 => intro o hlt hal ho a' W; obtain rfl := Option.some.inj ho; exact op_alloc108 rfl
    | 5 => intro o hlt hal ho a' W; obtain rfl := Option.some.inj ho; exact op_alloc108 rfl
    | m + 6 => intro o hlt; omega
  case fin =>
    intro W B hb hB hne
    obtain ⟨hn0, hB0⟩ := hB 4 (by decide) rfl
    obtain ⟨hn1, hB1⟩ := hB 5 (by decide) rfl
    have hne01 : B 4 ≠ B 5 := hne 4 5 (by decide) (by decide) rfl rfl (by decide)
    have hB0' : W.heap[B 4]? = some (.cells #[.int .i64 0, .int .i64 0, .int .i64 0, .int .i64 0, .int .i64 0, .int .i64 0, .int .i64 0, .int .i64 0] 108 (0, 0)) := hB0
    have hB1' : W.heap[B 5]? = some (.cells #[.int .i64 0, .int .i64 0, .int .i64 0, .int .i64 0, .int .i64 0, .int .i64 0, .int .i64 0, .int .i64 0] 108 (0, 0)) := hB1
    clear hB hne hB0 hB1
    simp only [List.drop_succ_cons, List.drop_zero, fill, uAll, Act.put, List.setIfInBounds_toArray, List.set_cons_zero, List.set_cons_succ, Nat.reduceAdd, Nat.reduceLeDiff, decide_true, decide_false, if_true, if_false, Bool.false_eq_true, List.getD_cons_zero, List.getD_cons_succ, ptr]
    generalize B 4 = p0 at *
    generalize B 5 = p1 at *
    refine list_store8 rfl rfl rfl (.inr rfl) rfl rfl hB0' ?_
    intro W2 h20 hc2
    have h21 := (hc2.2.1 p1 (Ne.symm hne01)).trans hB1'
    refine list_store8 rfl rfl rfl (.inr rfl) rfl rfl h21 ?_
    intro W3 h31 hc3
    have h30 := (hc3.2.1 p0 hne01).trans h20
    have b3 : Below w1.heap.size w1 W3 := (hb.trans (hc2.below hn0)).trans (hc3.below hn1)
    have hS0 := Lib.hid (spans_of_block h30)
    have hS1 := Lib.hid (spans_of_block h31)
    have l0 := lt_of_block h30
    have l1 := lt_of_block h31
    have B0 := Lib.hid (hb0.trans (b3.mono hb0.size))
    clear hA hA2 hs0 hb0 hb hB0' hB1' h20 h21 h30 h31 hc2 hc3 b3 hn0 hn1 hne01
    go_wp2_with fail
    refine (every_later 109 _ eg109 (fun q => inB (lo q) (lo' q) (hi' q) && inB (hi q) (lo' q) (hi' q)) _ ?_).mono ?_
    · intro q W hq hW
      exact inside1 p0 p1 lo hi lo' hi' q hq W (by have := hW.size; omega) (by have := hW.size; omega) (spans_below hW l0 hS0.out) (spans_below hW l1 hS1.out) _ rfl
    rintro e W4 ⟨rfl, h4⟩
    have H4 := Lib.hid h4
    clear h4
    go_wp2_with fail
    go_ret
    exact ⟨rfl, B0.out.trans (H4.out.mono B0.out.size)⟩
theorem has_any (lo hi n : Nat → Int) (w : World) : Calls Tryd.prog 70 #[.agg #[.int .i64 (lo 0), .int .i64 (hi 0), .int .i64 (lo 1), .int .i64 (hi 1), .int .i64 (lo 2), .int .i64 (hi 2), .int .i64 (lo 3), .int .i64 (hi 3)], .agg #[.int .i64 (n 0), .int .i64 (n 1), .int .i64 (n 2), .int .i64 (n 3)]] w fun e w' => e = .returned (.bool (hasB lo hi n)) ∧ Below w.heap.size w w' := by
  go_enter Tryd.func70, Tryd.ntmps70
  go_wp2_with fail
  have h3 := two_allocs w (.cells #[.int .i64 (lo 0), .int .i64 (hi 0), .int .i64 (lo 1), .int .i64 (hi 1), .int .i64 (lo 2), .int .i64 (hi 2), .int .i64 (lo 3), .int .i64 (hi 3)] 32) (.cells #[.int .i64 (n 0), .int .i64 (n 1), .int .i64 (n 2), .int .i64 (n 3)] 37)
  generalize (w.alloc (.cells #[.int .i64 (lo 0), .int .i64 (hi 0), .int .i64 (lo 1), .int .i64 (hi 1), .int .i64 (lo 2), .int .i64 (hi 2), .int .i64 (lo 3), .int .i64 (hi 3)] 32)).alloc (.cells #[.int .i64 (n 0), .int .i64 (n 1), .int .i64 (n 2), .int .i64 (n 3)] 37) = w1 at *
  obtain ⟨hA, hA2, hs0, hb0⟩ := h3
  refine wp_region_multi 6 [7, 8, 9, 10, 5, 6] (fun i => decide (4 ≤ i)) (fun i => ([(.agg #[.int .i64 (lo 0), .int .i64 (hi 0), .int .i64 (lo 1), .int .i64 (hi 1), .int .i64 (lo 2), .int .i64 (hi 2), .int .i64 (lo 3), .int .i64 (hi 3)]), (.agg #[.int .i64 (lo 0), .int .i64 (hi 0), .int .i64 (lo 1), .int .i64 (hi 1), .int .i64 (lo 2), .int .i64 (hi 2), .int .i64 (lo 3), .int .i64 (hi 3)]), (.agg #[.int .i64 (n 0), .int .i64 (n 1), .int .i64 (n 2), .int .i64 (n 3)]), (.agg #[.int .i64 (n 0), .int .i64 (n 1), .int .i64 (n 2), .int .i64 (n 3)])] : List Value).getD i undef) (fun i => if i = 4 then .cells #[.int .i64 0, .int .i64 0, .int .i64 0, .int .i64 0, .int .i64 0, .int .i64 0, .int .i64 0, .int .i64 0] 108 else .cells #[.int .i64 0, .int .i64 0, .int .i64 0, .int .i64 0] 114) (by kernel_rfl) (by kernel_rfl) (fun s hs => by simp at hs ⊢; omega) ?val ?al ?fin
  case val =>
    intro i
    match i with
    | 0 => intro o hlt hal ho a' W hb hfr hdp; obtain rfl := Option.some.inj ho; exact op_load8 rfl (hfr 2 (by decide)) ((hb.block _ (by omega)).trans hA)
    | 1 => intro o hlt hal ho a' W hb hfr hdp; obtain rfl := Option.some.inj ho; exact op_call rfl (hdp 0 7 (by decide) rfl rfl (by kernel_rfl)) eg55 (spansOf_any _ _ _ _ _ _ _ _ _)
    | 2 => intro o hlt hal ho a' W hb hfr hdp; obtain rfl := Option.some.inj ho; exact op_load4b rfl (hfr 3 (by decide)) ((hb.block _ (by omega)).trans hA2)
    | 3 => intro o hlt hal ho a' W hb hfr hdp; obtain rfl := Option.some.inj ho; exact op_call rfl (hdp 2 9 (by decide) rfl rfl (by kernel_rfl)) eg61 (numbersOf_any _ _ _ _ _)
    | 4 => intro o hlt hal; cases hal
    | 5 => intro o hlt hal; cases hal
    | m + 6 => intro o hlt; omega
  case al =>
    intro i
    match i with
    | 0 => intro o hlt hal; cases hal
    | 1 => intro o hlt hal; cases hal
    | 2 => intro o hlt hal; cases hal
    | 3 => intro o hlt hal; cases hal
    | 4 => intro o hlt hal ho a' W; obtain rfl := Option.some.inj ho; exact op_alloc108 rfl
    | 5 => intro o hlt hal ho a' W; obtain rfl := Option.some.inj ho; exact op_alloc114 rfl
    | m + 6 => intro o hlt; omega
  case fin =>
    intro W B hb hB hne
    obtain ⟨hn0, hB0⟩ := hB 4 (by decide) rfl
    obtain ⟨hn1, hB1⟩ := hB 5 (by decide) rfl
    have hne01 : B 4 ≠ B 5 := hne 4 5 (by decide) (by decide) rfl rfl (by decide)
    have hB0' : W.heap[B 4]? = some (.cells #[.int .i64 0, .int .i64 0, .int .i64 0, .int .i64 0, .int .i64 0, .int .i64 0, .int .i64 0, .int .i64 0] 108 (0, 0)) := hB0
    have hB1' : W.heap[B 5]? = some (.cells #[.int .i64 0, .int .i64 0, .int .i64 0, .int .i64 0] 114 (0, 0)) := hB1
    clear hB hne hB0 hB1
    simp only [List.drop_succ_cons, List.drop_zero, fill, uAll, Act.put, List.setIfInBounds_toArray, List.set_cons_zero, List.set_cons_succ, Nat.reduceAdd, Nat.reduceLeDiff, decide_true, decide_false, if_true, if_false, Bool.false_eq_true, List.getD_cons_zero, List.getD_cons_succ, ptr]
    generalize B 4 = p0 at *
    generalize B 5 = p1 at *
    refine list_store8 rfl rfl rfl (.inr rfl) rfl rfl hB0' ?_
    intro W2 h20 hc2
    have h21 := (hc2.2.1 p1 (Ne.symm hne01)).trans hB1'
    refine list_store4 rfl rfl rfl (.inr rfl) rfl rfl h21 ?_
    intro W3 h31 hc3
    have h30 := (hc3.2.1 p0 hne01).trans h20
    have b3 : Below w1.heap.size w1 W3 := (hb.trans (hc2.below hn0)).trans (hc3.below hn1)
    have hS0 := Lib.hid (spans_of_block h30)
    have hS1 := Lib.hid (nums_of_block h31)
    have l0 := lt_of_block h30
    have l1 := lt_of_block h31
    have B0 := Lib.hid (hb0.trans (b3.mono hb0.size))
    clear hA hA2 hs0 hb0 hb hB0' hB1' h20 h21 h30 h31 hc2 hc3 b3 hn0 hn1 hne01
    go_wp2_with fail
    refine (every_later 107 _ eg107 (fun q => inB (n q) (lo q) (hi q)) _ ?_).mono ?_
    · intro q W hq hW
      exact has1 p1 p0 n lo hi q hq W (nums_below hW l1 hS1.out) (spans_below hW l0 hS0.out)
    rintro e W4 ⟨rfl, h4⟩
    have H4 := Lib.hid h4
    clear h4
    go_wp2_with fail
    go_ret
    exact ⟨rfl, B0.out.trans (H4.out.mono B0.out.size)⟩
def com (lo hi lo' hi' : Nat → Int) : Nat → Bool
  | 0 => true
  | q + 1 => com lo hi lo' hi' q && decide (mx (lo q) (lo' q) ≤ mn (hi q) (hi' q))
def meetB (lo hi lo' hi' : Nat → Int) : Bool := com lo hi lo' hi' 4
theorem But.below {D B : Nat} {W W' : World} (h : But D W W') (h1 : B ≤ D) (h2 : B ≤ W.heap.size) : Below B W W' :=
  ⟨h.1, h.2.1, h.2.2.1, h.2.2.2.1, fun k hk => h.2.2.2.2 k (by omega) (by omega)⟩
set_option maxHeartbeats 1000000 in
theorem meet_any (lo hi lo' hi' : Nat → Int) (w : World) : Calls Tryd.prog 76 #[.agg #[.int .i64 (lo 0), .int .i64 (hi 0), .int .i64 (lo 1), .int .i64 (hi 1), .int .i64 (lo 2), .int .i64 (hi 2), .int .i64 (lo 3), .int .i64 (hi 3)], .agg #[.int .i64 (lo' 0), .int .i64 (hi' 0), .int .i64 (lo' 1), .int .i64 (hi' 1), .int .i64 (lo' 2), .int .i64 (hi' 2), .int .i64 (lo' 3), .int .i64 (hi' 3)]] w fun e w' => e = .returned (.tuple #[.agg #[.int .i64 (mx (lo 0) (lo' 0)), .int .i64 (mn (hi 0) (hi' 0)), .int .i64 (mx (lo 1) (lo' 1)), .int .i64 (mn (hi 1) (hi' 1)), .int .i64 (mx (lo 2) (lo' 2)), .int .i64 (mn (hi 2) (hi' 2)), .int .i64 (mx (lo 3) (lo' 3)), .int .i64 (mn (hi 3) (hi' 3))], .bool (meetB lo hi lo' hi')]) ∧ Below w.heap.size w w' := by
  go_enter Tryd.func76, Tryd.ntmps76
  go_wp2_with fail
  have h3 := three_allocs w (.cells #[.int .i64 (lo 0), .int .i64 (hi 0), .int .i64 (lo 1), .int .i64 (hi 1), .int .i64 (lo 2), .int .i64 (hi 2), .int .i64 (lo 3), .int .i64 (hi 3)] 32) (.cells #[.int .i64 (lo' 0), .int .i64 (hi' 0), .int .i64 (lo' 1), .int .i64 (hi' 1), .int .i64 (lo' 2), .int .i64 (hi' 2), .int .i64 (lo' 3), .int .i64 (hi' 3)] 32) (.cells #[.int .i64 0, .int .i64 0, .int .i64 0, .int .i64 0, .int .i64 0, .int .i64 0, .int .i64 0, .int .i64 0] 32)
  generalize ((w.alloc (.cells #[.int .i64 (lo 0), .int .i64 (hi 0), .int .i64 (lo 1), .int .i64 (hi 1), .int .i64 (lo 2), .int .i64 (hi 2), .int .i64 (lo 3), .int .i64 (hi 3)] 32)).alloc (.cells #[.int .i64 (lo' 0), .int .i64 (hi' 0), .int .i64 (lo' 1), .int .i64 (hi' 1), .int .i64 (lo' 2), .int .i64 (hi' 2), .int .i64 (lo' 3), .int .i64 (hi' 3)] 32)).alloc (.cells #[.int .i64 0, .int .i64 0, .int .i64 0, .int .i64 0, .int .i64 0, .int .i64 0, .int .i64 0, .int .i64 0] 32) = w1 at *
  obtain ⟨hA, hA2, hA3, hs0, hb0⟩ := h3
  refine wp_region_multi 6 [10, 11, 12, 13, 6, 7] (fun i => decide (4 ≤ i)) (fun i => ([(.agg #[.int .i64 (lo 0), .int .i64 (hi 0), .int .i64 (lo 1), .int .i64 (hi 1), .int .i64 (lo 2), .int .i64 (hi 2), .int .i64 (lo 3), .int .i64 (hi 3)]), (.agg #[.int .i64 (lo 0), .int .i64 (hi 0), .int .i64 (lo 1), .int .i64 (hi 1), .int .i64 (lo 2), .int .i64 (hi 2), .int .i64 (lo 3), .int .i64 (hi 3)]), (.agg #[.int .i64 (lo' 0), .int .i64 (hi' 0), .int .i64 (lo' 1), .int .i64 (hi' 1), .int .i64 (lo' 2), .int .i64 (hi' 2), .int .i64 (lo' 3), .int .i64 (hi' 3)]), (.agg #[.int .i64 (lo' 0), .int .i64 (hi' 0), .int .i64 (lo' 1), .int .i64 (hi' 1), .int .i64 (lo' 2), .int .i64 (hi' 2), .int .i64 (lo' 3), .int .i64 (hi' 3)])] : List Value).getD i undef) (fun i => if i = 4 then .cells #[.int .i64 0, .int .i64 0, .int .i64 0, .int .i64 0, .int .i64 0, .int .i64 0, .int .i64 0, .int .i64 0] 108 else .cells #[.int .i64 0, .int .i64 0, .int .i64 0, .int .i64 0, .int .i64 0, .int .i64 0, .int .i64 0, .int .i64 0] 108) (by kernel_rfl) (by kernel_rfl) (fun s hs => by simp at hs ⊢; omega) ?val ?al ?fin
  case val =>
    intro i
    match i with
    | 0 => intro o hlt hal ho a' W hb hfr hdp; obtain rfl := Option.some.inj ho; exact op_load8 rfl (hfr 2 (by decide)) ((hb.block _ (by omega)).trans hA)
    | 1 => intro o hlt hal ho a' W hb hfr hdp; obtain rfl := Option.some.inj ho; exact op_call rfl (hdp 0 10 (by decide) rfl rfl (by kernel_rfl)) eg55 (spansOf_any _ _ _ _ _ _ _ _ _)
    | 2 => intro o hlt hal ho a' W hb hfr hdp; obtain rfl := Option.some.inj ho; exact op_load8 rfl (hfr 3 (by decide)) ((hb.block _ (by omega)).trans hA2)
    | 3 => intro o hlt hal ho a' W hb hfr hdp; obtain rfl := Option.some.inj ho; exact op_call rfl (hdp 2 12 (by decide) rfl rfl (by kernel_rfl)) eg55 (spansOf_any _ _ _ _ _ _ _ _ _)
    | 4 => intro o hlt hal; cases hal
    | 5 => intro o hlt hal; cases hal
    | m + 6 => intro o hlt; omega
  case al =>
    intro i
    match i with
    | 0 => intro o hlt hal; cases hal
    | 1 => intro o hlt hal; cases hal
    | 2 => intro o hlt hal; cases hal
    | 3 => intro o hlt hal; cases hal
    | 4 => intro o hlt hal ho a' W; obtain rfl := Option.some.inj ho; exact op_alloc108 rfl
    | 5 => intro o hlt hal ho a' W; obtain rfl := Option.some.inj ho; exact op_alloc108 rfl
    | m + 6 => intro o hlt; omega
  case fin =>
    intro W B hb hB hne
    obtain ⟨hn0, hB0⟩ := hB 4 (by decide) rfl
    obtain ⟨hn1, hB1⟩ := hB 5 (by decide) rfl
    have hne01 : B 4 ≠ B 5 := hne 4 5 (by decide) (by decide) rfl rfl (by decide)
    have hB0' : W.heap[B 4]? = some (.cells #[.int .i64 0, .int .i64 0, .int .i64 0, .int .i64 0, .int .i64 0, .int .i64 0, .int .i64 0, .int .i64 0] 108 (0, 0)) := hB0
    have hB1' : W.heap[B 5]? = some (.cells #[.int .i64 0, .int .i64 0, .int .i64 0, .int .i64 0, .int .i64 0, .int .i64 0, .int .i64 0, .int .i64 0] 108 (0, 0)) := hB1
    clear hB hne hB0 hB1
    simp only [List.drop_succ_cons, List.drop_zero, fill, uAll, Act.put, List.setIfInBounds_toArray, List.set_cons_zero, List.set_cons_succ, Nat.reduceAdd, Nat.reduceLeDiff, decide_true, decide_false, if_true, if_false, Bool.false_eq_true, List.getD_cons_zero, List.getD_cons_succ, ptr]
    generalize B 4 = p0 at *
    generalize B 5 = p1 at *
    refine list_store8 rfl rfl rfl (.inr rfl) rfl rfl hB0' ?_
    intro W2 h20 hc2
    have h21 := (hc2.2.1 p1 (Ne.symm hne01)).trans hB1'
    refine list_store8 rfl rfl rfl (.inr rfl) rfl rfl h21 ?_
    intro W3 h31 hc3
    have h30 := (hc3.2.1 p0 hne01).trans h20
    have b3 : Below w1.heap.size w1 W3 := (hb.trans (hc2.below hn0)).trans (hc3.below hn1)
    have hS0 := Lib.hid (spans_of_block h30)
    have hS1 := Lib.hid (spans_of_block h31)
    have l0 := lt_of_block h30
    have l1 := lt_of_block h31
    have B0 := Lib.hid (hb0.trans (b3.mono hb0.size))
    have hR := Lib.hid ((b3.block (w.heap.size + 1 + 1) (by omega)).trans hA3)
    have sz : w.heap.size + 1 + 1 < W3.heap.size := by have := b3.size; omega
    clear hA hA2 hA3 hs0 hb0 hb hB0' hB1' h20 h21 h30 h31 hc2 hc3 b3 hn0 hn1 hne01
    go_wp2_with fail
    have hD := Lib.hid (block_new W3 (.cells #[.bool true] 4))
    have hS0' := Lib.hid (spans_below ((Below.refl W3.heap.size W3).alloc (Nat.le_refl _) (.cells #[.bool true] 4)) l0 hS0.out)
    have hS1' := Lib.hid (spans_below ((Below.refl W3.heap.size W3).alloc (Nat.le_refl _) (.cells #[.bool true] 4)) l1 hS1.out)
    have hR' := Lib.hid ((Below.heap_alloc W3 (.cells #[.bool true] 4) (w.heap.size + 1 + 1) sz).trans hR.out)
    have B0' := Lib.hid (B0.out.alloc (by omega) (.cells #[.bool true] 4))
    have es : (W3.alloc (.cells #[.bool true] 4)).heap.size = W3.heap.size + 1 := by simp
    generalize hG : W3.alloc (.cells #[.bool true] 4) = W4 at *
    clear hG
    refine (cellOf_any 110 _ eg110 (fun q W => W.heap[W3.heap.size]? = some (.cells #[.bool (com lo hi lo' hi' q)] 4 (0, 0)) ∧ But W3.heap.size W4 W) (fun q => mx (lo q) (lo' q)) (fun q => mn (hi q) (hi' q)) _ ?_ ?_ ?_).mono ?_
    · rintro q W hq ⟨g1, g2⟩
      have gz := g2.2.2.2.1
      refine (meet1 p0 p1 W3.heap.size lo hi lo' hi' _ q hq W (fun q hq => ⟨?_, ?_⟩) (fun q hq => ⟨?_, ?_⟩) g1).mono ?_
      · exact (World.cell?_of_block (w := W4) (a := ⟨p0, q * 2, none⟩) (g2.2.2.2.2 p0 (by omega) (by omega))).trans (hS0'.out q hq).1
      · exact (World.cell?_of_block (w := W4) (a := ⟨p0, q * 2 + 1, none⟩) (g2.2.2.2.2 p0 (by omega) (by omega))).trans (hS0'.out q hq).2
      · exact (World.cell?_of_block (w := W4) (a := ⟨p1, q * 2, none⟩) (g2.2.2.2.2 p1 (by omega) (by omega))).trans (hS1'.out q hq).1
      · exact (World.cell?_of_block (w := W4) (a := ⟨p1, q * 2 + 1, none⟩) (g2.2.2.2.2 p1 (by omega) (by omega))).trans (hS1'.out q hq).2
      · rintro e W' ⟨rfl, k1, k2⟩
        exact ⟨rfl, ⟨k1, g2.trans k2⟩, k2.2.2.2.1, fun k hk1 hk2 => k2.2.2.2.2 k hk2 (by omega)⟩
    · intro o
      exact ⟨(Below.heap_alloc W4 o W3.heap.size (by omega)).trans hD.out, But.of_below ((Below.refl _ _).alloc (Nat.le_refl _) _)⟩
    · rintro q W o v ⟨g1, g2⟩
      exact ⟨(Below.heap_setCell W ⟨W4.heap.size, o, none⟩ v W3.heap.size (by simp; omega)).trans g1, g2.1, g2.2.1, g2.2.2.1, by simp [World.setCell]; exact g2.2.2.2.1,
        fun k hk hne => (Below.heap_setCell W ⟨W4.heap.size, o, none⟩ v k (by simp; omega)).trans (g2.2.2.2.2 k hk hne)⟩
    rintro e W5 ⟨rfl, g1, g2⟩
    have G1 := Lib.hid g1
    have G2 := Lib.hid g2
    have gz := g2.2.2.2.1
    have hR5 := Lib.hid ((g2.2.2.2.2 (w.heap.size + 1 + 1) (by omega) (by omega)).trans hR'.out)
    clear g1 g2
    go_wp2_with fail
    have hC6 := block_new W5 (.cells #[.int .i64 (mx (lo 0) (lo' 0)), .int .i64 (mn (hi 0) (hi' 0)), .int .i64 (mx (lo 1) (lo' 1)), .int .i64 (mn (hi 1) (hi' 1)), .int .i64 (mx (lo 2) (lo' 2)), .int .i64 (mn (hi 2) (hi' 2)), .int .i64 (mx (lo 3) (lo' 3)), .int .i64 (mn (hi 3) (hi' 3))] 32)
    have hD6 := (Below.heap_alloc W5 (.cells #[.int .i64 (mx (lo 0) (lo' 0)), .int .i64 (mn (hi 0) (hi' 0)), .int .i64 (mx (lo 1) (lo' 1)), .int .i64 (mn (hi 1) (hi' 1)), .int .i64 (mx (lo 2) (lo' 2)), .int .i64 (mn (hi 2) (hi' 2)), .int .i64 (mx (lo 3) (lo' 3)), .int .i64 (mn (hi 3) (hi' 3))] 32) W3.heap.size (by omega)).trans G1.out
    have hR6 := (Below.heap_alloc W5 (.cells #[.int .i64 (mx (lo 0) (lo' 0)), .int .i64 (mn (hi 0) (hi' 0)), .int .i64 (mx (lo 1) (lo' 1)), .int .i64 (mn (hi 1) (hi' 1)), .int .i64 (mx (lo 2) (lo' 2)), .int .i64 (mn (hi 2) (hi' 2)), .int .i64 (mx (lo 3) (lo' 3)), .int .i64 (mn (hi 3) (hi' 3))] 32) (w.heap.size + 1 + 1) (by omega)).trans hR5.out
    have B6 : Below w.heap.size w (W5.alloc (.cells #[.int .i64 (mx (lo 0) (lo' 0)), .int .i64 (mn (hi 0) (hi' 0)), .int .i64 (mx (lo 1) (lo' 1)), .int .i64 (mn (hi 1) (hi' 1)), .int .i64 (mx (lo 2) (lo' 2)), .int .i64 (mn (hi 2) (hi' 2)), .int .i64 (mx (lo 3) (lo' 3)), .int .i64 (mn (hi 3) (hi' 3))] 32)) := (B0'.out.trans (G2.out.below (by omega) (by omega))).alloc (by omega) _
    generalize W5.alloc (.cells #[.int .i64 (mx (lo 0) (lo' 0)), .int .i64 (mn (hi 0) (hi' 0)), .int .i64 (mx (lo 1) (lo' 1)), .int .i64 (mn (hi 1) (hi' 1)), .int .i64 (mx (lo 2) (lo' 2)), .int .i64 (mn (hi 2) (hi' 2)), .int .i64 (mx (lo 3) (lo' 3)), .int .i64 (mn (hi 3) (hi' 3))] 32) = W6 at *
    generalize hn5 : W5.heap.size = n5 at *
    generalize hn3 : W3.heap.size = n3 at *
    have hne1 : w.heap.size + 1 + 1 ≠ n5 := by omega
    have hne2 : w.heap.size + 1 + 1 ≠ n3 := by omega
    have HR6 := Lib.hid hR6
    have HB6 := Lib.hid B6
    obtain ⟨⟨c0, c1, c2, c3, c4, c5, c6, c7⟩, _⟩ := cells8 hC6
    obtain ⟨⟨r0, r1, r2, r3, r4, r5, r6, r7⟩, f0, f1, f2, f3, f4, f5, f6, f7⟩ := cells8 hR6
    have d0 : W6.cell? ⟨n3, 0, none⟩ = some (.bool (com lo hi lo' hi' 4)) := by rw [cell_of_block hD6]; rfl
    clear hC6 hD6 hR6 B6 hR5 gz G1 G2 hR' B0' es hD hS0' hS1' hS0 hS1 hn3 hn5 hR l0 l1 B0 sz
    go_region_held3 (fun w' => w'.cell? ⟨n5, 0, none⟩ = some (.int .i64 (mx (lo 0) (lo' 0))) ∧ w'.cell? ⟨n5, 1, none⟩ = some (.int .i64 (mn (hi 0) (hi' 0))) ∧ w'.cell? ⟨n5, 2, none⟩ = some (.int .i64 (mx (lo 1) (lo' 1))) ∧ w'.cell? ⟨n5, 3, none⟩ = some (.int .i64 (mn (hi 1) (hi' 1))) ∧
      w'.cell? ⟨n5, 4, none⟩ = some (.int .i64 (mx (lo 2) (lo' 2))) ∧ w'.cell? ⟨n5, 5, none⟩ = some (.int .i64 (mn (hi 2) (hi' 2))) ∧ w'.cell? ⟨n5, 6, none⟩ = some (.int .i64 (mx (lo 3) (lo' 3))) ∧ w'.cell? ⟨n5, 7, none⟩ = some (.int .i64 (mn (hi 3) (hi' 3))) ∧ w'.cell? ⟨n3, 0, none⟩ = some (.bool (com lo hi lo' hi' 4))) (go_keep) (first | fail)
    rename_i hHeld
    clear hHeld c0 c1 c2 c3 c4 c5 c6 c7 r0 r1 r2 r3 r4 r5 r6 r7 f0 f1 f2 f3 f4 f5 f6 f7 d0
    have hX := store8_block HR6.out (.int .i64 (mx (lo 0) (lo' 0))) (.int .i64 (mn (hi 0) (hi' 0))) (.int .i64 (mx (lo 1) (lo' 1))) (.int .i64 (mn (hi 1) (hi' 1))) (.int .i64 (mx (lo 2) (lo' 2))) (.int .i64 (mn (hi 2) (hi' 2))) (.int .i64 (mx (lo 3) (lo' 3))) (.int .i64 (mn (hi 3) (hi' 3)))
    have hXc := chg_store8 W6 (w.heap.size + 1 + 1) (.int .i64 (mx (lo 0) (lo' 0))) (.int .i64 (mn (hi 0) (hi' 0))) (.int .i64 (mx (lo 1) (lo' 1))) (.int .i64 (mn (hi 1) (hi' 1))) (.int .i64 (mx (lo 2) (lo' 2))) (.int .i64 (mn (hi 2) (hi' 2))) (.int .i64 (mx (lo 3) (lo' 3))) (.int .i64 (mn (hi 3) (hi' 3)))
    unfold World.store8 at hX hXc
    generalize (((((((W6.setCell ⟨w.heap.size + 1 + 1, 0, none⟩ _).setCell ⟨w.heap.size + 1 + 1, 1, none⟩ _).setCell ⟨w.heap.size + 1 + 1, 2, none⟩ _).setCell ⟨w.heap.size + 1 + 1, 3, none⟩ _).setCell ⟨w.heap.size + 1 + 1, 4, none⟩ _).setCell ⟨w.heap.size + 1 + 1, 5, none⟩ _).setCell ⟨w.heap.size + 1 + 1, 6, none⟩ _).setCell ⟨w.heap.size + 1 + 1, 7, none⟩ _ = X at hX hXc ⊢
    have HX := Lib.hid hX
    clear hX
    go_wp2_with fail
    obtain ⟨⟨c0, c1, c2, c3, c4, c5, c6, c7⟩, _⟩ := cells8 HX.out
    refine bodyPost_ret (v := .tuple #[.agg #[.int .i64 (mx (lo 0) (lo' 0)), .int .i64 (mn (hi 0) (hi' 0)), .int .i64 (mx (lo 1) (lo' 1)), .int .i64 (mn (hi 1) (hi' 1)), .int .i64 (mx (lo 2) (lo' 2)), .int .i64 (mn (hi 2) (hi' 2)), .int .i64 (mx (lo 3) (lo' 3)), .int .i64 (mn (hi 3) (hi' 3))], .bool (meetB lo hi lo' hi')]) ?_ rfl ⟨rfl, (HB6.out.trans (hXc.below (by omega))).drew⟩
    simp [results, Tryd.results76, go_sem, c0, c1, c2, c3, c4, c5, c6, c7, meetB]
/-- What a cell and rates must be like to be aged. -/
def ageOK (lo hi u d : Nat → Int) : Prop := ∀ q, q < 4 → (0 ≤ lo q ∧ lo q ≤ 400 ∧ 0 ≤ hi q ∧ hi q ≤ 400) ∧ 0 ≤ u q ∧ u q ≤ 1000 ∧ 0 ≤ d q ∧ d q ≤ 1000
set_option maxHeartbeats 1000000 in
theorem aged_any (lo hi u d : Nat → Int) (hours : Int) (w : World) (hl : Lim w) (hok : ageOK lo hi u d) (h0 : 0 ≤ hours) (h1 : hours ≤ 10000) : Calls Tryd.prog 82 #[.agg #[.int .i64 (lo 0), .int .i64 (hi 0), .int .i64 (lo 1), .int .i64 (hi 1), .int .i64 (lo 2), .int .i64 (hi 2), .int .i64 (lo 3), .int .i64 (hi 3)], .agg #[.int .i64 (u 0), .int .i64 (u 1), .int .i64 (u 2), .int .i64 (u 3)], .agg #[.int .i64 (d 0), .int .i64 (d 1), .int .i64 (d 2), .int .i64 (d 3)], .int .i64 hours] w fun e w' => e = .returned (.agg #[.int .i64 (agLo lo d hours 0), .int .i64 (agHi hi u hours 0), .int .i64 (agLo lo d hours 1), .int .i64 (agHi hi u hours 1), .int .i64 (agLo lo d hours 2), .int .i64 (agHi hi u hours 2), .int .i64 (agLo lo d hours 3), .int .i64 (agHi hi u hours 3)]) ∧ Below w.heap.size w w' := by
  have hpos := hl.pos
  have HL := Lib.hid hl
  have HK := Lib.hid hok
  clear hl hok
  go_enter Tryd.func82, Tryd.ntmps82
  go_wp2_with fail
  have h5 := five_allocs w (.cells #[.int .i64 (lo 0), .int .i64 (hi 0), .int .i64 (lo 1), .int .i64 (hi 1), .int .i64 (lo 2), .int .i64 (hi 2), .int .i64 (lo 3), .int .i64 (hi 3)] 32) (.cells #[.int .i64 (u 0), .int .i64 (u 1), .int .i64 (u 2), .int .i64 (u 3)] 37) (.cells #[.int .i64 (d 0), .int .i64 (d 1), .int .i64 (d 2), .int .i64 (d 3)] 37) (.cells #[.int .i64 hours] 3) (.cells #[.int .i64 0, .int .i64 0, .int .i64 0, .int .i64 0, .int .i64 0, .int .i64 0, .int .i64 0, .int .i64 0] 32)
  generalize ((((w.alloc (.cells #[.int .i64 (lo 0), .int .i64 (hi 0), .int .i64 (lo 1), .int .i64 (hi 1), .int .i64 (lo 2), .int .i64 (hi 2), .int .i64 (lo 3), .int .i64 (hi 3)] 32)).alloc (.cells #[.int .i64 (u 0), .int .i64 (u 1), .int .i64 (u 2), .int .i64 (u 3)] 37)).alloc (.cells #[.int .i64 (d 0), .int .i64 (d 1), .int .i64 (d 2), .int .i64 (d 3)] 37)).alloc (.cells #[.int .i64 hours] 3)).alloc (.cells #[.int .i64 0, .int .i64 0, .int .i64 0, .int .i64 0, .int .i64 0, .int .i64 0, .int .i64 0, .int .i64 0] 32) = w1 at *
  obtain ⟨hA, hU, hD, hH, hR0, hs0, hb0⟩ := h5
  refine wp_region_multi 9 [12, 13, 14, 15, 16, 17, 9, 10, 11] (fun i => decide (6 ≤ i)) (fun i => ([(.agg #[.int .i64 (lo 0), .int .i64 (hi 0), .int .i64 (lo 1), .int .i64 (hi 1), .int .i64 (lo 2), .int .i64 (hi 2), .int .i64 (lo 3), .int .i64 (hi 3)]), (.agg #[.int .i64 (lo 0), .int .i64 (hi 0), .int .i64 (lo 1), .int .i64 (hi 1), .int .i64 (lo 2), .int .i64 (hi 2), .int .i64 (lo 3), .int .i64 (hi 3)]), (.agg #[.int .i64 (u 0), .int .i64 (u 1), .int .i64 (u 2), .int .i64 (u 3)]), (.agg #[.int .i64 (u 0), .int .i64 (u 1), .int .i64 (u 2), .int .i64 (u 3)]), (.agg #[.int .i64 (d 0), .int .i64 (d 1), .int .i64 (d 2), .int .i64 (d 3)]), (.agg #[.int .i64 (d 0), .int .i64 (d 1), .int .i64 (d 2), .int .i64 (d 3)])] : List Value).getD i undef) (fun i => if i = 6 then .cells #[.int .i64 0, .int .i64 0, .int .i64 0, .int .i64 0, .int .i64 0, .int .i64 0, .int .i64 0, .int .i64 0] 108 else if i = 7 then .cells #[.int .i64 0, .int .i64 0, .int .i64 0, .int .i64 0] 114 else .cells #[.int .i64 0, .int .i64 0, .int .i64 0, .int .i64 0] 114) (by kernel_rfl) (by kernel_rfl) (fun s hs => by simp at hs ⊢; omega) ?val ?al ?fin
  case val =>
    intro i
    match i with
    | 0 => intro o hlt hal ho a' W hb hfr hdp; obtain rfl := Option.some.inj ho; exact op_load8 rfl (hfr 4 (by decide)) ((hb.block _ (by omega)).trans hA)
    | 1 => intro o hlt hal ho a' W hb hfr hdp; obtain rfl := Option.some.inj ho; exact op_call rfl (hdp 0 12 (by decide) rfl rfl (by kernel_rfl)) eg55 (spansOf_any _ _ _ _ _ _ _ _ _)
    | 2 => intro o hlt hal ho a' W hb hfr hdp; obtain rfl := Option.some.inj ho; exact op_load4b rfl (hfr 5 (by decide)) ((hb.block _ (by omega)).trans hU)
    | 3 => intro o hlt hal ho a' W hb hfr hdp; obtain rfl := Option.some.inj ho; exact op_call rfl (hdp 2 14 (by decide) rfl rfl (by kernel_rfl)) eg61 (numbersOf_any _ _ _ _ _)
    | 4 => intro o hlt hal ho a' W hb hfr hdp; obtain rfl := Option.some.inj ho; exact op_load4b rfl (hfr 6 (by decide)) ((hb.block _ (by omega)).trans hD)
    | 5 => intro o hlt hal ho a' W hb hfr hdp; obtain rfl := Option.some.inj ho; exact op_call rfl (hdp 4 16 (by decide) rfl rfl (by kernel_rfl)) eg61 (numbersOf_any _ _ _ _ _)
    | 6 => intro o hlt hal; cases hal
    | 7 => intro o hlt hal; cases hal
    | 8 => intro o hlt hal; cases hal
    | m + 9 => intro o hlt; omega
  case al =>
    intro i
    match i with
    | 0 => intro o hlt hal; cases hal
    | 1 => intro o hlt hal; cases hal
    | 2 => intro o hlt hal; cases hal
    | 3 => intro o hlt hal; cases hal
    | 4 => intro o hlt hal; cases hal
    | 5 => intro o hlt hal; cases hal
    | 6 => intro o hlt hal ho a' W; obtain rfl := Option.some.inj ho; exact op_alloc108 rfl
    | 7 => intro o hlt hal ho a' W; obtain rfl := Option.some.inj ho; exact op_alloc114 rfl
    | 8 => intro o hlt hal ho a' W; obtain rfl := Option.some.inj ho; exact op_alloc114 rfl
    | m + 9 => intro o hlt; omega
  case fin =>
    intro W B hb hB hne
    obtain ⟨hn0, hB0⟩ := hB 6 (by decide) rfl
    obtain ⟨hn1, hB1⟩ := hB 7 (by decide) rfl
    obtain ⟨hn2, hB2⟩ := hB 8 (by decide) rfl
    have hne01 : B 6 ≠ B 7 := hne 6 7 (by decide) (by decide) rfl rfl (by decide)
    have hne02 : B 6 ≠ B 8 := hne 6 8 (by decide) (by decide) rfl rfl (by decide)
    have hne12 : B 7 ≠ B 8 := hne 7 8 (by decide) (by decide) rfl rfl (by decide)
    have hB0' : W.heap[B 6]? = some (.cells #[.int .i64 0, .int .i64 0, .int .i64 0, .int .i64 0, .int .i64 0, .int .i64 0, .int .i64 0, .int .i64 0] 108 (0, 0)) := hB0
    have hB1' : W.heap[B 7]? = some (.cells #[.int .i64 0, .int .i64 0, .int .i64 0, .int .i64 0] 114 (0, 0)) := hB1
    have hB2' : W.heap[B 8]? = some (.cells #[.int .i64 0, .int .i64 0, .int .i64 0, .int .i64 0] 114 (0, 0)) := hB2
    clear hB hne hB0 hB1 hB2
    simp only [List.drop_succ_cons, List.drop_zero, fill, uAll, Act.put, List.setIfInBounds_toArray, List.set_cons_zero, List.set_cons_succ, Nat.reduceAdd, Nat.reduceLeDiff, decide_true, decide_false, if_true, if_false, Bool.false_eq_true, List.getD_cons_zero, List.getD_cons_succ, ptr]
    generalize B 6 = p0 at *
    generalize B 7 = p1 at *
    generalize B 8 = p2 at *
    refine list_store8 rfl rfl rfl (.inr rfl) rfl rfl hB0' ?_
    intro W2 h20 hc2
    have h21 := (hc2.2.1 p1 (Ne.symm hne01)).trans hB1'
    have h22 := (hc2.2.1 p2 (Ne.symm hne02)).trans hB2'
    refine list_store4 rfl rfl rfl (.inr rfl) rfl rfl h21 ?_
    intro W3 h31 hc3
    have h30 := (hc3.2.1 p0 hne01).trans h20
    have h32 := (hc3.2.1 p2 (Ne.symm hne12)).trans h22
    refine list_store4 rfl rfl rfl (.inr rfl) rfl rfl h32 ?_
    intro W4 h42 hc4
    have h40 := (hc4.2.1 p0 hne02).trans h30
    have h41 := (hc4.2.1 p1 hne12).trans h31
    have b4 : Below w1.heap.size w1 W4 := ((hb.trans (hc2.below hn0)).trans (hc3.below hn1)).trans (hc4.below hn2)
    have hS0 := Lib.hid (spans_of_block h40)
    have hS1 := Lib.hid (nums_of_block h41)
    have hS2 := Lib.hid (nums_of_block h42)
    have hHc := Lib.hid (show W4.cell? ⟨w.heap.size + 1 + 1 + 1, 0, none⟩ = some (.int .i64 hours) by rw [cell_of_block ((b4.block (w.heap.size + 1 + 1 + 1) (by omega)).trans hH)]; rfl)
    have l0 := lt_of_block h40
    have l1 := lt_of_block h41
    have l2 := lt_of_block h42
    have B0 := Lib.hid (hb0.trans (b4.mono hb0.size))
    have hR := Lib.hid ((b4.block (w.heap.size + 1 + 1 + 1 + 1) (by omega)).trans hR0)
    have sz : w.heap.size + 1 + 1 + 1 + 1 < W4.heap.size := by have := b4.size; omega
    clear hA hU hD hH hR0 hs0 hb0 hb hB0' hB1' hB2' h20 h21 h22 h30 h31 h32 h40 h41 h42 hc2 hc3 hc4 b4 hn0 hn1 hn2 hne01 hne02 hne12
    go_wp2_with fail
    refine (cellOf_later 113 _ eg113 (agLo lo d hours) (agHi hi u hours) _ ?_).mono ?_
    · intro q W hq hW
      have hz := hW.size
      obtain ⟨⟨a1, a2, a3, a4⟩, a5, a6, a7, a8⟩ := HK.out q hq
      exact aged1 p0 p2 (w.heap.size + 1 + 1 + 1) p1 lo hi d u hours q hq W ((HL.out.below hpos B0.out).below (by omega) hW) (by omega) (by omega) (by omega) (by omega) (spans_below hW l0 hS0.out) (nums_below hW l2 hS2.out) (nums_below hW l1 hS1.out)
        ((hW.cell (p := ⟨w.heap.size + 1 + 1 + 1, 0, none⟩) (by show w.heap.size + 1 + 1 + 1 < W4.heap.size; omega)).trans hHc.out) h0 h1 a1 a2 a3 a4 a7 a8 a5 a6
    rintro e W5 ⟨rfl, h5⟩
    have H5 := Lib.hid h5
    have hR5 := Lib.hid ((h5.block (w.heap.size + 1 + 1 + 1 + 1) sz).trans hR.out)
    clear h5
    go_wp2_with (refine list_store8 rfl rfl rfl (.inl rfl) rfl rfl hR5.out ?_; intro W6 h6 hc6)
    obtain ⟨⟨c0, c1, c2, c3, c4, c5, c6, c7⟩, _⟩ := cells8 h6
    refine bodyPost_ret (v := .agg #[.int .i64 (agLo lo d hours 0), .int .i64 (agHi hi u hours 0), .int .i64 (agLo lo d hours 1), .int .i64 (agHi hi u hours 1), .int .i64 (agLo lo d hours 2), .int .i64 (agHi hi u hours 2), .int .i64 (agLo lo d hours 3), .int .i64 (agHi hi u hours 3)]) ?_ rfl ⟨rfl, ?_⟩
    · simp [results, Tryd.results82, go_sem, c0, c1, c2, c3, c4, c5, c6, c7]
    · exact (B0.out.trans (H5.out.mono B0.out.size)).trans (hc6.below (by omega))
theorem CheckRates_any (u d : Nat → Int) (w : World) : Calls Tryd.prog 15 #[.agg #[.int .i64 (u 0), .int .i64 (u 1), .int .i64 (u 2), .int .i64 (u 3), .int .i64 (d 0), .int .i64 (d 1), .int .i64 (d 2), .int .i64 (d 3)]] w fun e w' => e = .returned (.int .i64 (errB (okRates u d) 6)) ∧ Below w.heap.size w w' := by
  go_enter Tryd.func15, Tryd.ntmps15
  go_wp2_with fail
  have hA := block_new w (.cells #[.int .i64 (u 0), .int .i64 (u 1), .int .i64 (u 2), .int .i64 (u 3), .int .i64 (d 0), .int .i64 (d 1), .int .i64 (d 2), .int .i64 (d 3)] 41)
  have hb0 := (Below.refl w.heap.size w).alloc (Nat.le_refl _) (.cells #[.int .i64 (u 0), .int .i64 (u 1), .int .i64 (u 2), .int .i64 (u 3), .int .i64 (d 0), .int .i64 (d 1), .int .i64 (d 2), .int .i64 (d 3)] 41)
  have hs0 : (w.alloc (.cells #[.int .i64 (u 0), .int .i64 (u 1), .int .i64 (u 2), .int .i64 (u 3), .int .i64 (d 0), .int .i64 (d 1), .int .i64 (d 2), .int .i64 (d 3)] 41)).heap.size = w.heap.size + 1 := by simp
  generalize w.alloc (.cells #[.int .i64 (u 0), .int .i64 (u 1), .int .i64 (u 2), .int .i64 (u 3), .int .i64 (d 0), .int .i64 (d 1), .int .i64 (d 2), .int .i64 (d 3)] 41) = w1 at *
  obtain ⟨⟨ca0, ca1, ca2, ca3, cb0, cb1, cb2, cb3⟩, _⟩ := cells8 hA
  refine wp_region_multi 8 [5, 6, 7, 8, 9, 10, 3, 4] (fun i => decide (6 ≤ i)) (fun i => ([(.pointer (some ⟨w.heap.size, 0, none⟩)), (.agg #[.int .i64 (u 0), .int .i64 (u 1), .int .i64 (u 2), .int .i64 (u 3)]), (.agg #[.int .i64 (u 0), .int .i64 (u 1), .int .i64 (u 2), .int .i64 (u 3)]), (.pointer (some ⟨w.heap.size, 4, none⟩)), (.agg #[.int .i64 (d 0), .int .i64 (d 1), .int .i64 (d 2), .int .i64 (d 3)]), (.agg #[.int .i64 (d 0), .int .i64 (d 1), .int .i64 (d 2), .int .i64 (d 3)])] : List Value).getD i undef) (fun i => if i = 6 then .cells #[.int .i64 0, .int .i64 0, .int .i64 0, .int .i64 0] 114 else .cells #[.int .i64 0, .int .i64 0, .int .i64 0, .int .i64 0] 114) (by kernel_rfl) (by kernel_rfl) (fun s hs => by simp at hs ⊢; omega) ?val ?al ?fin
  case val =>
    intro i
    match i with
    | 0 => intro o hlt hal ho a' W hb hfr hdp; obtain rfl := Option.some.inj ho; exact op_field rfl (hfr 1 (by decide)) (.inl ⟨rfl, rfl⟩)
    | 1 => intro o hlt hal ho a' W hb hfr hdp; obtain rfl := Option.some.inj ho; exact op_load4 rfl (hdp 0 5 (by decide) rfl rfl (by kernel_rfl)) ((hb.cell (p := ⟨w.heap.size, 0, none⟩) (by show w.heap.size < w1.heap.size; omega)).trans ca0) ((hb.cell (p := ⟨w.heap.size, 0 + 1, none⟩) (by show w.heap.size < w1.heap.size; omega)).trans ca1) ((hb.cell (p := ⟨w.heap.size, 0 + 2, none⟩) (by show w.heap.size < w1.heap.size; omega)).trans ca2) ((hb.cell (p := ⟨w.heap.size, 0 + 3, none⟩) (by show w.heap.size < w1.heap.size; omega)).trans ca3)
    | 2 => intro o hlt hal ho a' W hb hfr hdp; obtain rfl := Option.some.inj ho; exact op_call rfl (hdp 1 6 (by decide) rfl rfl (by kernel_rfl)) eg61 (numbersOf_any _ _ _ _ _)
    | 3 => intro o hlt hal ho a' W hb hfr hdp; obtain rfl := Option.some.inj ho; exact op_field rfl (hfr 1 (by decide)) (.inr ⟨rfl, rfl⟩)
    | 4 => intro o hlt hal ho a' W hb hfr hdp; obtain rfl := Option.some.inj ho; exact op_load4 rfl (hdp 3 8 (by decide) rfl rfl (by kernel_rfl)) ((hb.cell (p := ⟨w.heap.size, 4, none⟩) (by show w.heap.size < w1.heap.size; omega)).trans cb0) ((hb.cell (p := ⟨w.heap.size, 4 + 1, none⟩) (by show w.heap.size < w1.heap.size; omega)).trans cb1) ((hb.cell (p := ⟨w.heap.size, 4 + 2, none⟩) (by show w.heap.size < w1.heap.size; omega)).trans cb2) ((hb.cell (p := ⟨w.heap.size, 4 + 3, none⟩) (by show w.heap.size < w1.heap.size; omega)).trans cb3)
    | 5 => intro o hlt hal ho a' W hb hfr hdp; obtain rfl := Option.some.inj ho; exact op_call rfl (hdp 4 9 (by decide) rfl rfl (by kernel_rfl)) eg61 (numbersOf_any _ _ _ _ _)
    | 6 => intro o hlt hal; cases hal
    | 7 => intro o hlt hal; cases hal
    | m + 8 => intro o hlt; omega
  case al =>
    intro i
    match i with
    | 0 => intro o hlt hal; cases hal
    | 1 => intro o hlt hal; cases hal
    | 2 => intro o hlt hal; cases hal
    | 3 => intro o hlt hal; cases hal
    | 4 => intro o hlt hal; cases hal
    | 5 => intro o hlt hal; cases hal
    | 6 => intro o hlt hal ho a' W; obtain rfl := Option.some.inj ho; exact op_alloc114 rfl
    | 7 => intro o hlt hal ho a' W; obtain rfl := Option.some.inj ho; exact op_alloc114 rfl
    | m + 8 => intro o hlt; omega
  case fin =>
    intro W B hb hB hne
    obtain ⟨hn0, hB0⟩ := hB 6 (by decide) rfl
    obtain ⟨hn1, hB1⟩ := hB 7 (by decide) rfl
    have hne01 : B 6 ≠ B 7 := hne 6 7 (by decide) (by decide) rfl rfl (by decide)
    have hB0' : W.heap[B 6]? = some (.cells #[.int .i64 0, .int .i64 0, .int .i64 0, .int .i64 0] 114 (0, 0)) := hB0
    have hB1' : W.heap[B 7]? = some (.cells #[.int .i64 0, .int .i64 0, .int .i64 0, .int .i64 0] 114 (0, 0)) := hB1
    clear hB hne hB0 hB1
    simp only [List.drop_succ_cons, List.drop_zero, fill, uAll, Act.put, List.setIfInBounds_toArray, List.set_cons_zero, List.set_cons_succ, Nat.reduceAdd, Nat.reduceLeDiff, decide_true, decide_false, if_true, if_false, Bool.false_eq_true, List.getD_cons_zero, List.getD_cons_succ, ptr]
    generalize B 6 = p0 at *
    generalize B 7 = p1 at *
    refine list_store4 rfl rfl rfl (.inr rfl) rfl rfl hB0' ?_
    intro W2 h20 hc2
    have h21 := (hc2.2.1 p1 (Ne.symm hne01)).trans hB1'
    refine list_store4 rfl rfl rfl (.inr rfl) rfl rfl h21 ?_
    intro W3 h31 hc3
    have h30 := (hc3.2.1 p0 hne01).trans h20
    have b3 : Below w1.heap.size w1 W3 := (hb.trans (hc2.below hn0)).trans (hc3.below hn1)
    have hS0 := Lib.hid (nums_of_block h30)
    have hS1 := Lib.hid (nums_of_block h31)
    have l0 := lt_of_block h30
    have l1 := lt_of_block h31
    have B0 := Lib.hid (hb0.trans (b3.mono hb0.size))
    clear hA hs0 hb0 hb hB0' hB1' h20 h21 h30 h31 hc2 hc3 b3 hn0 hn1 hne01 ca0 ca1 ca2 ca3 cb0 cb1 cb2 cb3
    go_wp2_with fail
    refine (every_later 66 _ eg66 (fun q => inB (u q) 0 1000 && inB (d q) 0 1000) _ ?_).mono ?_
    · intro q W hq hW
      exact checkRates1 p0 p1 u d q hq _ W (nums_below hW l0 hS0.out) (nums_below hW l1 hS1.out) rfl
    rintro e W4 ⟨rfl, h4⟩
    have H4 := Lib.hid h4
    clear h4
    have eo : allB (fun q => inB (u q) 0 1000 && inB (d q) 0 1000) = okRates u d := rfl
    rw [eo]
    clear eo
    cases hok : okRates u d with
    | true =>
      have he : errB (okRates u d) 6 = 0 := by rw [hok]; rfl
      have HE := Lib.hid he
      clear he hok
      go_wp2_with fail
      go_ret
      exact ⟨by rw [HE.out]; rfl, B0.out.trans (H4.out.mono B0.out.size)⟩
    | false =>
      have he : errB (okRates u d) 6 = 6 := by rw [hok]; rfl
      have HE := Lib.hid he
      clear he hok
      go_wp2_with fail
      go_ret
      exact ⟨by rw [HE.out]; rfl, B0.out.trans (H4.out.mono B0.out.size)⟩
theorem CheckCell_any (lo hi : Nat → Int) (w : World) (hl : Lim w) : Calls Tryd.prog 11 #[.agg #[.int .i64 (lo 0), .int .i64 (hi 0), .int .i64 (lo 1), .int .i64 (hi 1), .int .i64 (lo 2), .int .i64 (hi 2), .int .i64 (lo 3), .int .i64 (hi 3)]] w fun e w' => e = .returned (.int .i64 (errB (okCell lo hi) 20)) ∧ Below w.heap.size w w' := by
  have hpos := hl.pos
  have HL := Lib.hid hl
  clear hl
  go_enter Tryd.func11, Tryd.ntmps11
  go_wp2_with fail
  have hb0 := (Below.refl w.heap.size w).alloc (Nat.le_refl _) (.cells #[.int .i64 (lo 0), .int .i64 (hi 0), .int .i64 (lo 1), .int .i64 (hi 1), .int .i64 (lo 2), .int .i64 (hi 2), .int .i64 (lo 3), .int .i64 (hi 3)] 32)
  generalize w.alloc (.cells #[.int .i64 (lo 0), .int .i64 (hi 0), .int .i64 (lo 1), .int .i64 (hi 1), .int .i64 (lo 2), .int .i64 (hi 2), .int .i64 (lo 3), .int .i64 (hi 3)] 32) = w1 at *
  refine (spansOf_any _ _ _ _ _ _ _ _ _).mono ?_
  rintro e W1 ⟨rfl, h1⟩
  have B1 := Lib.hid (hb0.trans (h1.mono hb0.size))
  clear hb0 h1
  go_wp2_with fail
  have hA := block_new W1 (.cells #[.int .i64 (lo 0), .int .i64 (hi 0), .int .i64 (lo 1), .int .i64 (hi 1), .int .i64 (lo 2), .int .i64 (hi 2), .int .i64 (lo 3), .int .i64 (hi 3)] 108)
  have hs1 : W1.heap.size < (W1.alloc (.cells #[.int .i64 (lo 0), .int .i64 (hi 0), .int .i64 (lo 1), .int .i64 (hi 1), .int .i64 (lo 2), .int .i64 (hi 2), .int .i64 (lo 3), .int .i64 (hi 3)] 108)).heap.size := by simp
  have B2 := Lib.hid (B1.out.alloc B1.out.size (.cells #[.int .i64 (lo 0), .int .i64 (hi 0), .int .i64 (lo 1), .int .i64 (hi 1), .int .i64 (lo 2), .int .i64 (hi 2), .int .i64 (lo 3), .int .i64 (hi 3)] 108))
  generalize W1.alloc (.cells #[.int .i64 (lo 0), .int .i64 (hi 0), .int .i64 (lo 1), .int .i64 (hi 1), .int .i64 (lo 2), .int .i64 (hi 2), .int .i64 (lo 3), .int .i64 (hi 3)] 108) = W2 at *
  have hS := Lib.hid (spans_of_block hA)
  clear hA
  refine (every_later 57 _ eg57 (fun q => okSpan (lo q) (hi q) q) _ ?_).mono ?_
  · intro q W hq hW
    exact checkCell1 _ lo hi q hq W ((HL.out.below hpos B2.out).below (by have := B2.out.size; omega) hW) (spans_below hW hs1 hS.out)
  rintro e W4 ⟨rfl, h4⟩
  have H4 := Lib.hid h4
  clear h4 hs1
  have eo : allB (fun q => okSpan (lo q) (hi q) q) = okCell lo hi := rfl
  rw [eo]
  clear eo
  cases hok : okCell lo hi with
  | true =>
    have he : errB (okCell lo hi) 20 = 0 := by rw [hok]; rfl
    have HE := Lib.hid he
    clear he hok
    go_wp2_with fail
    go_ret
    exact ⟨by rw [HE.out]; rfl, B2.out.trans (H4.out.mono B2.out.size)⟩
  | false =>
    have he : errB (okCell lo hi) 20 = 20 := by rw [hok]; rfl
    have HE := Lib.hid he
    clear he hok
    go_wp2_with fail
    go_ret
    exact ⟨by rw [HE.out]; rfl, B2.out.trans (H4.out.mono B2.out.size)⟩
theorem CheckIce_any (n : Nat → Int) (w : World) (hl : Lim w) : Calls Tryd.prog 13 #[.agg #[.int .i64 (n 0), .int .i64 (n 1), .int .i64 (n 2), .int .i64 (n 3)]] w fun e w' => e = .returned (.int .i64 (errB (okIce n) 20)) ∧ Below w.heap.size w w' := by
  have hpos := hl.pos
  have HL := Lib.hid hl
  clear hl
  go_enter Tryd.func13, Tryd.ntmps13
  go_wp2_with fail
  have hb0 := (Below.refl w.heap.size w).alloc (Nat.le_refl _) (.cells #[.int .i64 (n 0), .int .i64 (n 1), .int .i64 (n 2), .int .i64 (n 3)] 37)
  generalize w.alloc (.cells #[.int .i64 (n 0), .int .i64 (n 1), .int .i64 (n 2), .int .i64 (n 3)] 37) = w1 at *
  refine (numbersOf_any _ _ _ _ _).mono ?_
  rintro e W1 ⟨rfl, h1⟩
  have B1 := Lib.hid (hb0.trans (h1.mono hb0.size))
  clear hb0 h1
  go_wp2_with fail
  have hA := block_new W1 (.cells #[.int .i64 (n 0), .int .i64 (n 1), .int .i64 (n 2), .int .i64 (n 3)] 114)
  have hs1 : W1.heap.size < (W1.alloc (.cells #[.int .i64 (n 0), .int .i64 (n 1), .int .i64 (n 2), .int .i64 (n 3)] 114)).heap.size := by simp
  have B2 := Lib.hid (B1.out.alloc B1.out.size (.cells #[.int .i64 (n 0), .int .i64 (n 1), .int .i64 (n 2), .int .i64 (n 3)] 114))
  generalize W1.alloc (.cells #[.int .i64 (n 0), .int .i64 (n 1), .int .i64 (n 2), .int .i64 (n 3)] 114) = W2 at *
  have hS := Lib.hid (nums_of_block hA)
  clear hA
  refine (every_later 62 _ eg62 (fun q => inB (n q) 0 (lim q)) _ ?_).mono ?_
  · intro q W hq hW
    exact checkIce1 _ n q hq W ((HL.out.below hpos B2.out).below (by have := B2.out.size; omega) hW) (nums_below hW hs1 hS.out)
  rintro e W4 ⟨rfl, h4⟩
  have H4 := Lib.hid h4
  clear h4 hs1
  have eo : allB (fun q => inB (n q) 0 (lim q)) = okIce n := rfl
  rw [eo]
  clear eo
  cases hok : okIce n with
  | true =>
    have he : errB (okIce n) 20 = 0 := by rw [hok]; rfl
    have HE := Lib.hid he
    clear he hok
    go_wp2_with fail
    go_ret
    exact ⟨by rw [HE.out]; rfl, B2.out.trans (H4.out.mono B2.out.size)⟩
  | false =>
    have he : errB (okIce n) 20 = 20 := by rw [hok]; rfl
    have HE := Lib.hid he
    clear he hok
    go_wp2_with fail
    go_ret
    exact ⟨by rw [HE.out]; rfl, B2.out.trans (H4.out.mono B2.out.size)⟩
theorem Whole_any (w : World) (hl : Lim w) : Calls Tryd.prog 18 #[] w fun e w' => e = .returned (.agg #[.int .i64 0, .int .i64 (lim 0), .int .i64 0, .int .i64 (lim 1), .int .i64 0, .int .i64 (lim 2), .int .i64 0, .int .i64 (lim 3)]) ∧ Below w.heap.size w w' := by
  have hpos := hl.pos
  have HL := Lib.hid hl
  clear hl
  go_enter Tryd.func18, Tryd.ntmps18
  go_wp2_with fail
  have hb0 := (Below.refl w.heap.size w).alloc (Nat.le_refl _) (.cells #[.int .i64 0, .int .i64 0, .int .i64 0, .int .i64 0, .int .i64 0, .int .i64 0, .int .i64 0, .int .i64 0] 32)
  have hA := block_new w (.cells #[.int .i64 0, .int .i64 0, .int .i64 0, .int .i64 0, .int .i64 0, .int .i64 0, .int .i64 0, .int .i64 0] 32)
  have hs0 : w.heap.size < (w.alloc (.cells #[.int .i64 0, .int .i64 0, .int .i64 0, .int .i64 0, .int .i64 0, .int .i64 0, .int .i64 0, .int .i64 0] 32)).heap.size := by simp
  generalize w.alloc (.cells #[.int .i64 0, .int .i64 0, .int .i64 0, .int .i64 0, .int .i64 0, .int .i64 0, .int .i64 0, .int .i64 0] 32) = w1 at *
  have HA := Lib.hid hA
  clear hA
  refine (cellOf_later 68 _ eg68 (fun _ => 0) lim _ ?_).mono ?_
  · intro q W hq hW
    exact whole1 q hq W ((HL.out.below hpos hb0).below (by omega) hW)
  rintro e W1 ⟨rfl, h1⟩
  have H1 := Lib.hid h1
  have hR := Lib.hid ((h1.block w.heap.size hs0).trans HA.out)
  clear h1
  go_wp2_with (refine list_store8 rfl rfl rfl (.inl rfl) rfl rfl hR.out ?_; intro W6 h6 hc6)
  obtain ⟨⟨c0, c1, c2, c3, c4, c5, c6, c7⟩, _⟩ := cells8 h6
  refine bodyPost_ret (v := .agg #[.int .i64 0, .int .i64 (lim 0), .int .i64 0, .int .i64 (lim 1), .int .i64 0, .int .i64 (lim 2), .int .i64 0, .int .i64 (lim 3)]) ?_ rfl ⟨rfl, ?_⟩
  · simp [results, Tryd.results18, go_sem, c0, c1, c2, c3, c4, c5, c6, c7]
  · exact (hb0.trans (H1.out.mono hb0.size)).trans (hc6.below (by omega))
end Go.Proofs.YtdcpmdigihbdpaaDoor
