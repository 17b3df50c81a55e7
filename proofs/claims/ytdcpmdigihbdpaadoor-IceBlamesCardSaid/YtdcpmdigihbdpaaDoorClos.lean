/- Contracts of the closures of package ice that look at one quantity. Where they read the table of limits: it holds 100, 400, 100, 3; what they capture holds the numbers that are named. -/
import Derived.Test.YtdcpmdigihbdpaaDoorEvery
import Derived.Test.YtdcpmdigihbdpaaDoorOps
import Derived.Deep.RegionHeld3
import Derived.StillTailTactics
namespace Go.Proofs.YtdcpmdigihbdpaaDoor
open Go.RowKit
set_option maxRecDepth 100000
theorem quiet_left {P : Program} {f : FuncId} {args : Array Value} {w : World} {n : Nat} {v : Value}
    (h : Calls P f args (w.drewN n) fun e w' => e = .returned v ∧ w.drewN n = w') : Calls P f args (w.drewN n) fun e w'' => e = .returned v ∧ ∃ m, w'' = w.drewN m :=
  h.mono fun _ _ ⟨he, hm⟩ => ⟨he, n, hm.symm⟩
def Nums (W : World) (B : Nat) (n : Nat → Int) : Prop := ∀ q, q < 4 → W.cell? ⟨B, q, none⟩ = some (.int .i64 (n q))
def Spans (W : World) (B : Nat) (lo hi : Nat → Int) : Prop := ∀ q, q < 4 → W.cell? ⟨B, q * 2, none⟩ = some (.int .i64 (lo q)) ∧ W.cell? ⟨B, q * 2 + 1, none⟩ = some (.int .i64 (hi q))
theorem Lim.at {w : World} (h : Lim w) (q : Nat) (hq : q < 4) : w.cell? ⟨0, q, none⟩ = some (.int .i64 (lim q)) := by
  match q, hq with
  | 0, _ => exact h.1
  | 1, _ => exact h.2.1
  | 2, _ => exact h.2.2.1
  | 3, _ => exact h.2.2.2
theorem lim_bd (q : Nat) : 0 ≤ lim q ∧ lim q ≤ 400 := by unfold lim; split <;> (try split) <;> omega
def chg (r h : Int) : Int := (r * h + 23) / 24
theorem chg_bd {r h : Int} (h1 : 0 ≤ r) (h2 : r ≤ 1000) (h3 : 0 ≤ h) (h4 : h ≤ 10000) : 0 ≤ chg r h ∧ chg r h ≤ 416668 := by
  have h5 : r * h ≤ 10000000 := by
    have := Int.mul_le_mul h2 h4 h3 (by omega); simpa using this
  have h6 : 0 ≤ r * h := Int.mul_nonneg h1 h3
  unfold chg
  omega
theorem change_back (rate hours : Int) (w : World) (h1 : 0 ≤ rate) (h2 : rate ≤ 1000) (h3 : 0 ≤ hours) (h4 : hours ≤ 10000) : Calls Tryd.prog 114 #[.int .i64 rate, .int .i64 hours] w fun e w' => e = .returned (.int .i64 (chg rate hours)) ∧ w' = w :=
  (change_any rate hours w h1 h2 h3 h4).mono fun _ _ ⟨a, b⟩ => ⟨a, b.symm⟩
def mx (a b : Int) : Int := max a b
def mn (a b : Int) : Int := min a b
theorem mx_if (a b : Int) : (if a < b then b else a) = mx a b := by unfold mx; split <;> omega
theorem mn_if (a b : Int) : (if b < a then b else a) = mn a b := by unfold mn; split <;> omega
/-- The worlds in which all that lay in w lies. -/
structure Later (w : World) where
  world : World
  below : Below w.heap.size w world
theorem later_call {P : Program} {f : FuncId} {args : Array Value} {v : Value} {w : World} {x : Later w} (h : Calls P f args x.world fun e w' => e = .returned v ∧ Below x.world.heap.size x.world w') :
    Calls P f args x.world fun e w' => e = .returned v ∧ ∃ y : Later w, w' = y.world :=
  h.mono fun _ w' ⟨he, hb⟩ => ⟨he, ⟨w', x.below.trans (hb.mono x.below.size)⟩, rfl⟩
theorem later_call' {P : Program} {f : FuncId} {args : Array Value} {v : Value} {w : World} {x : Later w} (h : Calls P f args x.world fun e w' => e = .returned v ∧ x.world = w') :
    Calls P f args x.world fun e w' => e = .returned v ∧ ∃ y : Later w, w' = y.world :=
  h.mono fun _ _ ⟨he, hb⟩ => ⟨he, x, hb.symm⟩
theorem later_cell {w : World} {B o : Nat} {v : Value} (hB : B < w.heap.size) (h : w.cell? ⟨B, o, none⟩ = some v) (x : Later w) : x.world.cell? ⟨B, o, none⟩ = some v :=
  (x.below.cell (p := ⟨B, o, none⟩) hB).trans h
theorem wp_region_later {P : Program} {id : Nat} {Q : Exit → Act → World → Prop} {a : Act} {w : World} {l : List Oper} (hm : P.follows .mixedOrders = true) (hB : Region.lexB .any l.toArray = true)
    (h : wpQuiet P l.toArray (fun W => ∃ x : Later w, W = x.world) (fun a' => ∀ W, (∃ x : Later w, W = x.world) → Q .normal a' W) l a) : (Code.region id l.toArray true).wp P Q a w :=
  wp_region_quiet (C := fun W => ∃ x : Later w, W = x.world) hm hB ⟨⟨w.drew, (Below.refl _ _).drew⟩, rfl⟩ (by simpa using h)
theorem checkIce1 (B : Nat) (n : Nat → Int) (q : Nat) (hq : q < 4) (w : World) (hl : Lim w) (hn : Nums w B n) : Calls Tryd.prog 62 #[.int .i64 q, .pointer (some ⟨B, 0, none⟩)] w fun e w' => e = .returned (.bool (inB (n q) 0 (lim q))) ∧ Below w.heap.size w w' := by
  have c1 := hn q hq
  have c2 := hl.at q hq
  have hq' : (q : Int) < 4 := by omega
  have hq0 : (0 : Int) ≤ (q : Int) := by omega
  clear hn hl
  go_enter Tryd.func62, Tryd.ntmps62
  go_wp2_with fail
  go_quiet ((go_at_call 63; exact quiet_left (within_any _ _ _ _)))
  go_wp2_with fail
  go_ret
  exact ⟨rfl, below_drewN (Below.refl _ _) _⟩
theorem checkCell1 (B : Nat) (lo hi : Nat → Int) (q : Nat) (hq : q < 4) (w : World) (hl : Lim w) (hn : Spans w B lo hi) : Calls Tryd.prog 57 #[.int .i64 q, .pointer (some ⟨B, 0, none⟩)] w fun e w' => e = .returned (.bool (okSpan (lo q) (hi q) q)) ∧ Below w.heap.size w w' := by
  obtain ⟨c1, c2⟩ := hn q hq
  clear hn
  have HL := Lib.hid hl; clear hl
  go_enter Tryd.func57, Tryd.ntmps57
  go_wp2_with fail
  refine (rightSpan_any _ _ _ hq _ HL.out).mono ?_
  rintro e w' ⟨rfl, hb⟩
  go_wp2_with fail
  go_ret
  exact ⟨rfl, hb⟩
theorem checkRates1 (B C : Nat) (u d : Nat → Int) (q : Nat) (hq : q < 4) (b : Bool) (w : World) (hu : Nums w B u) (hd : Nums w C d) (hb : b = (inB (u q) 0 1000 && inB (d q) 0 1000)) : Calls Tryd.prog 66 #[.int .i64 q, .pointer (some ⟨B, 0, none⟩), .pointer (some ⟨C, 0, none⟩)] w fun e w' => e = .returned (.bool b) ∧ Below w.heap.size w w' := by
  have c1 := hu q hq
  have c2 := hd q hq
  have hq' : (q : Int) < 4 := by omega
  have hq0 : (0 : Int) ≤ (q : Int) := by omega
  clear hu hd
  by_cases h1 : 0 ≤ u q ∧ u q ≤ 1000
  · have e1 : inB (u q) 0 1000 = true := decide_eq_true h1
    rw [e1, Bool.true_and] at hb
    subst hb
    have H1 := Lib.hid h1; clear h1 e1
    go_enter Tryd.func66, Tryd.ntmps66
    go_wp2_with fail
    refine (within_yes _ _ _ _ H1.out).mono ?_
    rintro e w' ⟨rfl, rfl⟩
    go_wp2_with fail
    refine (within_any _ _ _ _).mono ?_
    rintro e w' ⟨rfl, rfl⟩
    go_wp2_with fail
    go_ret
    exact ⟨rfl, Below.refl _ _⟩
  · have e1 : inB (u q) 0 1000 = false := decide_eq_false h1
    rw [e1, Bool.false_and] at hb
    subst hb
    have H1 := Lib.hid h1; clear h1 e1
    go_enter Tryd.func66, Tryd.ntmps66
    go_wp2_with fail
    refine (within_no _ _ _ _ H1.out).mono ?_
    rintro e w' ⟨rfl, rfl⟩
    go_wp2_with fail
    go_ret
    exact ⟨rfl, Below.refl _ _⟩
theorem has1 (B C : Nat) (n lo hi : Nat → Int) (q : Nat) (hq : q < 4) (w : World) (hn : Nums w B n) (hs : Spans w C lo hi) : Calls Tryd.prog 107 #[.int .i64 q, .pointer (some ⟨B, 0, none⟩), .pointer (some ⟨C, 0, none⟩)] w fun e w' => e = .returned (.bool (inB (n q) (lo q) (hi q))) ∧ Below w.heap.size w w' := by
  have c1 := hn q hq
  obtain ⟨c2, c3⟩ := hs q hq
  have hq' : (q : Int) < 4 := by omega
  have hq0 : (0 : Int) ≤ (q : Int) := by omega
  clear hn hs
  go_enter Tryd.func107, Tryd.ntmps107
  go_wp2_with fail
  refine wp_region_still_tail 6 (by kernel_rfl) (by kernel_rfl) ?_
  simp only [List.take_succ_cons, List.take_zero, List.drop_succ_cons, List.drop_zero]
  change wpStill _ _ (World.drew _) _ _ _
  repeat still_step
  refine wpStill_nil ?_
  go_wp2_with fail
  refine (inSpan_any _ _ _ _).mono ?_
  rintro e w' ⟨rfl, hb⟩
  go_wp2_with fail
  go_ret
  exact ⟨rfl, (Below.refl _ _).drew.trans hb⟩
theorem inside1 (B C : Nat) (lo hi lo' hi' : Nat → Int) (q : Nat) (hq : q < 4) (w : World) (hB : B < w.heap.size) (hC : C < w.heap.size) (hn : Spans w B lo hi) (hs : Spans w C lo' hi') (b : Bool) (hb : b = (inB (lo q) (lo' q) (hi' q) && inB (hi q) (lo' q) (hi' q))) : Calls Tryd.prog 109 #[.int .i64 q, .pointer (some ⟨B, 0, none⟩), .pointer (some ⟨C, 0, none⟩)] w fun e w' => e = .returned (.bool b) ∧ Below w.heap.size w w' := by
  have c0 := later_cell hB (hn q hq).1
  have c1 := later_cell hB (hn q hq).2
  have c2 := later_cell hC (hs q hq).1
  have c3 := later_cell hC (hs q hq).2
  have hq' : (q : Int) < 4 := by omega
  have hq0 : (0 : Int) ≤ (q : Int) := by omega
  haveI : Nonempty (Later w) := ⟨⟨w, Below.refl _ _⟩⟩
  clear hn hs
  cases hb1 : inB (lo q) (lo' q) (hi' q) with
  | false =>
    rw [hb1, Bool.false_and] at hb
    subst hb
    have hin := fun W => inSpan_any (lo q) (lo' q) (hi' q) W
    rw [hb1] at hin
    have HI := Lib.hid hin
    clear hin hb1
    go_enter Tryd.func109, Tryd.ntmps109
    go_wp2_with fail
    refine wp_region_later (by kernel_rfl) (by kernel_rfl) ?_
    repeat (go_big_quiet_step ((go_at_call 108; exact later_call (HI.out _))))
    refine wpQuiet_nil ?_
    intro _ hw'
    obtain ⟨⟨W, hW⟩, rfl⟩ := hw'
    go_wp2_with fail
    go_ret
    exact ⟨rfl, hW⟩
  | true =>
    rw [hb1, Bool.true_and] at hb
    have hin := fun W => inSpan_any (lo q) (lo' q) (hi' q) W
    rw [hb1] at hin
    have HI := Lib.hid hin
    have hin2 := fun W => inSpan_any (hi q) (lo' q) (hi' q) W
    rw [← hb] at hin2
    have HI2 := Lib.hid hin2
    clear hin hb1 hin2 hb
    go_enter Tryd.func109, Tryd.ntmps109
    go_wp2_with fail
    refine wp_region_later (by kernel_rfl) (by kernel_rfl) ?_
    repeat (go_big_quiet_step ((first | (go_at_call_of 108 (Value.int IntKind.i64 (lo q)); exact later_call (HI.out _)) | (go_at_call_of 108 (Value.int IntKind.i64 (hi q)); exact later_call (HI2.out _)))))
    refine wpQuiet_nil ?_
    intro _ hw'
    obtain ⟨⟨W, hW⟩, rfl⟩ := hw'
    go_wp2_with fail
    go_ret
    exact ⟨rfl, hW⟩
theorem hull1 (B C : Nat) (lo hi lo' hi' : Nat → Int) (q : Nat) (hq : q < 4) (w : World) (hB : B < w.heap.size) (hC : C < w.heap.size) (hn : Spans w B lo hi) (hs : Spans w C lo' hi') : Calls Tryd.prog 112 #[.int .i64 q, .pointer (some ⟨B, 0, none⟩), .pointer (some ⟨C, 0, none⟩)] w fun e w' => e = .returned (.agg #[.int .i64 (mn (lo q) (lo' q)), .int .i64 (mx (hi q) (hi' q))]) ∧ Below w.heap.size w w' := by
  obtain ⟨c0, c1⟩ := hn q hq
  obtain ⟨c2, c3⟩ := hs q hq
  have hq' : (q : Int) < 4 := by omega
  have hq0 : (0 : Int) ≤ (q : Int) := by omega
  clear hn hs
  go_enter Tryd.func112, Tryd.ntmps112
  go_wp2_with fail
  refine wp_region_still_tail 19 (by kernel_rfl) (by kernel_rfl) ?_
  simp only [List.take_succ_cons, List.take_zero, List.drop_succ_cons, List.drop_zero]
  change wpStill _ _ (World.drew _) _ _ _
  repeat still_step
  refine wpStill_nil ?_
  change wpList _ _ _ _ _ (World.drew _)
  simp only [mx_if, mn_if]
  go_wp2_with fail
  exact bodyPost_ret (v := .agg #[.int .i64 (mn (lo q) (lo' q)), .int .i64 (mx (hi q) (hi' q))]) (by simp [results, Tryd.results112, go_sem]) rfl ⟨rfl, (((Below.refl _ _).alloc (Nat.le_refl _) _).drew)⟩
def But (D : Nat) (W W' : World) : Prop := W'.os = W.os ∧ W'.tape = W.tape ∧ W'.output = W.output ∧ W.heap.size ≤ W'.heap.size ∧ ∀ k, k < W.heap.size → k ≠ D → W'.heap[k]? = W.heap[k]?
theorem But.of_below {D : Nat} {W W' : World} (h : Below W.heap.size W W') : But D W W' := ⟨h.os, h.tape, h.output, h.size, fun k hk _ => h.block k hk⟩
theorem But.trans {D : Nat} {A B C : World} (h : But D A B) (k : But D B C) : But D A C :=
  ⟨k.1.trans h.1, k.2.1.trans h.2.1, k.2.2.1.trans h.2.2.1, Nat.le_trans h.2.2.2.1 k.2.2.2.1, fun i hi hn => (k.2.2.2.2 i (Nat.lt_of_lt_of_le hi h.2.2.2.1) hn).trans (h.2.2.2.2 i hi hn)⟩
theorem But.setCell (D : Nat) (W : World) (o : Nat) (v : Value) : But D W (W.setCell ⟨D, o, none⟩ v) := ⟨rfl, rfl, rfl, by simp [World.setCell], fun k _ hn => Below.heap_setCell _ _ _ _ hn⟩
theorem But.drew (D : Nat) (W : World) : But D W W.drew := ⟨rfl, rfl, rfl, Nat.le_refl _, fun _ _ _ => rfl⟩
set_option maxHeartbeats 1000000 in
theorem meet1 (B C D : Nat) (lo hi lo' hi' : Nat → Int) (c : Bool) (q : Nat) (hq : q < 4) (w : World) (hn : Spans w B lo hi) (hs : Spans w C lo' hi') (hD : w.heap[D]? = some (.cells #[.bool c] 4 (0, 0))) : Calls Tryd.prog 110 #[.int .i64 q, .pointer (some ⟨B, 0, none⟩), .pointer (some ⟨C, 0, none⟩), .pointer (some ⟨D, 0, none⟩)] w fun e w' => e = .returned (.agg #[.int .i64 (mx (lo q) (lo' q)), .int .i64 (mn (hi q) (hi' q))]) ∧ w'.heap[D]? = some (.cells #[.bool (c && decide (mx (lo q) (lo' q) ≤ mn (hi q) (hi' q)))] 4 (0, 0)) ∧ But D w w' := by
  obtain ⟨c0, c1⟩ := hn q hq
  obtain ⟨c2, c3⟩ := hs q hq
  have hq' : (q : Int) < 4 := by omega
  have hq0 : (0 : Int) ≤ (q : Int) := by omega
  have hDlt : D < w.heap.size := (Array.getElem?_eq_some_iff.1 hD).1
  have HD := Lib.hid hD
  have d0 := cell_of_block hD 0
  have d1 := frozen_of_block hD 0
  simp only [List.getElem?_toArray, List.getElem?_cons_zero] at d0
  have hne : D ≠ w.heap.size := by omega
  have hne1 : D ≠ w.heap.size + 1 := by omega
  clear hn hs hD
  cases c with
  | true =>
    go_enter Tryd.func110, Tryd.ntmps110
    go_wp2_with fail
    go_region_held3 (fun w' => w'.cell? ⟨B, q * 2, none⟩ = some (.int .i64 (lo q)) ∧ w'.cell? ⟨B, q * 2 + 1, none⟩ = some (.int .i64 (hi q)) ∧ w'.cell? ⟨C, q * 2, none⟩ = some (.int .i64 (lo' q)) ∧ w'.cell? ⟨C, q * 2 + 1, none⟩ = some (.int .i64 (hi' q))) (go_keep) (first | fail)
    all_goals
      rename_i hHeld
      clear hHeld
      simp only [mx_if, mn_if]
      go_wp2_with fail
      have hX := setCell_block HD.out 0 (.bool (decide (mx (lo q) (lo' q) ≤ mn (hi q) (hi' q))))
      simp only [List.setIfInBounds_toArray, List.set_cons_zero] at hX
      have hBl : Below (w.setCell ⟨D, 0, none⟩ (.bool (decide (mx (lo q) (lo' q) ≤ mn (hi q) (hi' q))))).heap.size (w.setCell ⟨D, 0, none⟩ (.bool (decide (mx (lo q) (lo' q) ≤ mn (hi q) (hi' q))))) (((w.setCell ⟨D, 0, none⟩ (.bool (decide (mx (lo q) (lo' q) ≤ mn (hi q) (hi' q))))).alloc (.cells #[.int .i64 (mx (lo q) (lo' q)), .int .i64 (mn (hi q) (hi' q))] 23)).alloc (.cells #[.int .i64 (mx (lo q) (lo' q)), .int .i64 (mn (hi q) (hi' q))] 23)).drew :=
        (((Below.refl _ _).alloc (Nat.le_refl _) _).alloc (by simp) _).drew
      refine bodyPost_ret (v := .agg #[.int .i64 (mx (lo q) (lo' q)), .int .i64 (mn (hi q) (hi' q))]) (by simp [results, Tryd.results110, go_sem]) rfl ⟨rfl, ?_, (But.setCell D w 0 _).trans (But.of_below hBl)⟩
      exact (hBl.block D (by simp [World.setCell]; omega)).trans hX
  | false =>
    go_enter Tryd.func110, Tryd.ntmps110
    go_wp2_with fail
    go_region_held3 (fun w' => w'.cell? ⟨B, q * 2, none⟩ = some (.int .i64 (lo q)) ∧ w'.cell? ⟨B, q * 2 + 1, none⟩ = some (.int .i64 (hi q)) ∧ w'.cell? ⟨C, q * 2, none⟩ = some (.int .i64 (lo' q)) ∧ w'.cell? ⟨C, q * 2 + 1, none⟩ = some (.int .i64 (hi' q))) (go_keep) (first | fail)
    all_goals
      rename_i hHeld
      clear hHeld
      simp only [mx_if, mn_if]
      go_wp2_with fail
      have hX := setCell_block HD.out 0 (.bool false)
      simp only [List.setIfInBounds_toArray, List.set_cons_zero] at hX
      have hBl : Below (w.setCell ⟨D, 0, none⟩ (.bool false)).heap.size (w.setCell ⟨D, 0, none⟩ (.bool false)) (((w.setCell ⟨D, 0, none⟩ (.bool false)).alloc (.cells #[.int .i64 (mx (lo q) (lo' q)), .int .i64 (mn (hi q) (hi' q))] 23)).alloc (.cells #[.int .i64 (mx (lo q) (lo' q)), .int .i64 (mn (hi q) (hi' q))] 23)).drew :=
        (((Below.refl _ _).alloc (Nat.le_refl _) _).alloc (by simp) _).drew
      refine bodyPost_ret (v := .agg #[.int .i64 (mx (lo q) (lo' q)), .int .i64 (mn (hi q) (hi' q))]) (by simp [results, Tryd.results110, go_sem]) rfl ⟨rfl, ?_, (But.setCell D w 0 _).trans (But.of_below hBl)⟩
      exact (hBl.block D (by simp [World.setCell]; omega)).trans hX
theorem aged1 (B D H U : Nat) (lo hi d u : Nat → Int) (hours : Int) (q : Nat) (hq : q < 4) (w : World) (hl : Lim w) (hB : B < w.heap.size) (hD : D < w.heap.size) (hH : H < w.heap.size) (hU : U < w.heap.size)
    (hs : Spans w B lo hi) (hd : Nums w D d) (hu : Nums w U u) (hh : w.cell? ⟨H, 0, none⟩ = some (.int .i64 hours)) (h0 : 0 ≤ hours) (h1 : hours ≤ 10000)
    (b1 : 0 ≤ lo q) (b2 : lo q ≤ 400) (b3 : 0 ≤ hi q) (b4 : hi q ≤ 400) (b5 : 0 ≤ d q) (b6 : d q ≤ 1000) (b7 : 0 ≤ u q) (b8 : u q ≤ 1000) :
    Calls Tryd.prog 113 #[.int .i64 q, .pointer (some ⟨B, 0, none⟩), .pointer (some ⟨D, 0, none⟩), .pointer (some ⟨H, 0, none⟩), .pointer (some ⟨U, 0, none⟩)] w fun e w' => e = .returned (.agg #[.int .i64 (mx (lo q - chg (d q) hours) 0), .int .i64 (mn (hi q + chg (u q) hours) (lim q))]) ∧ Below w.heap.size w w' := by
  have hpos := hl.pos
  have cl := hl.at q hq
  obtain ⟨c0, c1⟩ := hs q hq
  have c2 := hd q hq
  have c3 := hu q hq
  have hq' : (q : Int) < 4 := by omega
  have hq0 : (0 : Int) ≤ (q : Int) := by omega
  obtain ⟨k1, k2⟩ := chg_bd b5 b6 h0 h1
  obtain ⟨k3, k4⟩ := chg_bd b7 b8 h0 h1
  clear hl hs hd hu hq
  go_enter Tryd.func113, Tryd.ntmps113
  go_wp2_with fail
  refine wp_region_still_tail 26 (by kernel_rfl) (by kernel_rfl) ?_
  simp only [List.take_succ_cons, List.take_zero, List.drop_succ_cons, List.drop_zero]
  change wpStill _ _ (World.drew _) _ _ _
  repeat (first | still_step | still_call (change_back _ _ _ (by assumption) (by assumption) (by assumption) (by assumption)))
  refine wpStill_nil ?_
  change wpList _ _ _ _ _ (World.drew _)
  simp only [mx_if, mn_if]
  go_wp2_with fail
  exact bodyPost_ret (v := .agg #[.int .i64 (mx (lo q - chg (d q) hours) 0), .int .i64 (mn (hi q + chg (u q) hours) (lim q))]) (by simp [results, Tryd.results113, go_sem]) rfl ⟨rfl, (((Below.refl _ _).alloc (Nat.le_refl _) _).drew)⟩
theorem whole1 (q : Nat) (hq : q < 4) (w : World) (hl : Lim w) : Calls Tryd.prog 68 #[.int .i64 q] w fun e w' => e = .returned (.agg #[.int .i64 0, .int .i64 (lim q)]) ∧ Below w.heap.size w w' := by
  have hpos := hl.pos
  have cl := hl.at q hq
  have hq' : (q : Int) < 4 := by omega
  have hq0 : (0 : Int) ≤ (q : Int) := by omega
  clear hl hq
  go_enter Tryd.func68, Tryd.ntmps68
  go_wp2_with fail
  refine bodyPost_ret (v := .agg #[.int .i64 0, .int .i64 (lim q)]) (by simp [results, Tryd.results68, go_sem]) rfl ⟨rfl, (Below.refl _ _).alloc (Nat.le_refl _) _⟩
theorem every_later (g : Nat) (lb : Array Value) (eg : ∀ args w, (callFunc g args).run Tryd.prog w = .ok (.enter g args) w) (b : Nat → Bool) (w : World)
    (hstep : ∀ (q : Nat) (W : World), q < 4 → Below w.heap.size w W → Calls Tryd.prog g (#[.int .i64 (q : Int)] ++ lb) W fun e W' => e = .returned (.bool (b q)) ∧ Below W.heap.size W W') :
    Calls Tryd.prog 56 #[.func (.func g) #[] lb] w fun e w' => e = .returned (.bool (allB b)) ∧ Below w.heap.size w w' :=
  every_any g lb eg (fun W => Below w.heap.size w W) b w (fun q W hq hI => (hstep q W hq hI).mono fun _ _ ⟨he, hb⟩ => ⟨he, hI.trans (hb.mono hI.size)⟩) (Below.refl _ _)
theorem cellOf_later (g : Nat) (lb : Array Value) (eg : ∀ args w, (callFunc g args).run Tryd.prog w = .ok (.enter g args) w) (lo hi : Nat → Int) (w : World)
    (hstep : ∀ (q : Nat) (W : World), q < 4 → Below w.heap.size w W → Calls Tryd.prog g (#[.int .i64 (q : Int)] ++ lb) W fun e W' => e = .returned (.agg #[.int .i64 (lo q), .int .i64 (hi q)]) ∧ Below W.heap.size W W') :
    Calls Tryd.prog 67 #[.func (.func g) #[] lb] w fun e w' => e = .returned (.agg #[.int .i64 (lo 0), .int .i64 (hi 0), .int .i64 (lo 1), .int .i64 (hi 1), .int .i64 (lo 2), .int .i64 (hi 2), .int .i64 (lo 3), .int .i64 (hi 3)]) ∧ Below w.heap.size w w' :=
  cellOf_any g lb eg (fun _ W => Below w.heap.size w W) lo hi w (fun q W hq hI => (hstep q W hq hI).mono fun _ _ ⟨he, hb⟩ => ⟨he, hI.trans (hb.mono hI.size), hb.size, fun k _ hk => hb.block k hk⟩)
    (fun _ => (Below.refl _ _).alloc (Nat.le_refl _) _) (fun _ _ _ _ h => h.setCell (Nat.le_refl _) _)
theorem spans_of_block {W : World} {B : Nat} {lo hi : Nat → Int} {t : TypeId} (h : W.heap[B]? = some (.cells #[.int .i64 (lo 0), .int .i64 (hi 0), .int .i64 (lo 1), .int .i64 (hi 1), .int .i64 (lo 2), .int .i64 (hi 2), .int .i64 (lo 3), .int .i64 (hi 3)] t (0, 0))) : Spans W B lo hi := by
  obtain ⟨⟨c0, c1, c2, c3, c4, c5, c6, c7⟩, _⟩ := cells8 h
  intro q hq
  match q, hq with
  | 0, _ => exact ⟨c0, c1⟩
  | 1, _ => exact ⟨c2, c3⟩
  | 2, _ => exact ⟨c4, c5⟩
  | 3, _ => exact ⟨c6, c7⟩
theorem nums_of_block {W : World} {B : Nat} {n : Nat → Int} {t : TypeId} (h : W.heap[B]? = some (.cells #[.int .i64 (n 0), .int .i64 (n 1), .int .i64 (n 2), .int .i64 (n 3)] t (0, 0))) : Nums W B n := by
  obtain ⟨⟨c0, c1, c2, c3⟩, _⟩ := cells4 h
  intro q hq
  match q, hq with
  | 0, _ => exact c0
  | 1, _ => exact c1
  | 2, _ => exact c2
  | 3, _ => exact c3
theorem eg57 : ∀ args w, (callFunc 57 args).run Tryd.prog w = .ok (.enter 57 args) w := Go.Proofs.enters_of Tryd.func57 (by kernel_rfl) rfl
theorem eg62 : ∀ args w, (callFunc 62 args).run Tryd.prog w = .ok (.enter 62 args) w := Go.Proofs.enters_of Tryd.func62 (by kernel_rfl) rfl
theorem eg66 : ∀ args w, (callFunc 66 args).run Tryd.prog w = .ok (.enter 66 args) w := Go.Proofs.enters_of Tryd.func66 (by kernel_rfl) rfl
theorem eg68 : ∀ args w, (callFunc 68 args).run Tryd.prog w = .ok (.enter 68 args) w := Go.Proofs.enters_of Tryd.func68 (by kernel_rfl) rfl
theorem eg107 : ∀ args w, (callFunc 107 args).run Tryd.prog w = .ok (.enter 107 args) w := Go.Proofs.enters_of Tryd.func107 (by kernel_rfl) rfl
theorem eg109 : ∀ args w, (callFunc 109 args).run Tryd.prog w = .ok (.enter 109 args) w := Go.Proofs.enters_of Tryd.func109 (by kernel_rfl) rfl
theorem eg110 : ∀ args w, (callFunc 110 args).run Tryd.prog w = .ok (.enter 110 args) w := Go.Proofs.enters_of Tryd.func110 (by kernel_rfl) rfl
theorem eg112 : ∀ args w, (callFunc 112 args).run Tryd.prog w = .ok (.enter 112 args) w := Go.Proofs.enters_of Tryd.func112 (by kernel_rfl) rfl
theorem eg113 : ∀ args w, (callFunc 113 args).run Tryd.prog w = .ok (.enter 113 args) w := Go.Proofs.enters_of Tryd.func113 (by kernel_rfl) rfl
end Go.Proofs.YtdcpmdigihbdpaaDoor
