/- The contracts of the law's moved and Course: each hour of a course can become the next. -/
import Derived.Test.YtdcpmdigihbdpaaDoorUb
namespace Go.Proofs.YtdcpmdigihbdpaaDoor
open Go.RowKit
set_option maxRecDepth 100000
theorem moved_any (x up down b most : Int) (hx : 0 ≤ x ∧ x ≤ most) (hm : most ≤ 400) (hu : 0 ≤ up ∧ up ≤ 41) (hd : 0 ≤ down ∧ down ≤ 41) (w : World) :
    Calls Tryd.prog 104 #[.int .i64 x, .int .i64 up, .int .i64 down, .int .i64 b, .int .i64 most] w fun e w' => ∃ r, e = .returned (.int .i64 r) ∧ (0 ≤ r ∧ r ≤ most) ∧ (-down ≤ r - x ∧ r - x ≤ up) ∧ w = w' := by
  have w1 : IntKind.i64.wrap (x - down) = x - down := by rw [IntKind.wrap_i64]; omega
  have w2 : IntKind.i64.wrap (up + down) = up + down := by rw [IntKind.wrap_i64]; omega
  have w3 : IntKind.i64.wrap (up + down + 1) = up + down + 1 := by rw [IntKind.wrap_i64]; omega
  go_enter Tryd.func104, Tryd.ntmps104
  go_wp2_with fail
  refine (Pick_any b (up + down + 1) (by omega) (by omega) w).mono ?_
  rintro e W ⟨rfl, rfl⟩
  have p0 := Int.emod_nonneg b (show up + down + 1 ≠ 0 by omega)
  have p1 := Int.emod_lt_of_pos b (show 0 < up + down + 1 by omega)
  generalize b % (up + down + 1) = p at p0 p1 ⊢
  have w4 : IntKind.i64.wrap (x - down + p) = x - down + p := by rw [IntKind.wrap_i64]; omega
  by_cases h1 : x - down + p < 0
  · have HB := Lib.hid (show (0 ≤ (0 : Int) ∧ (0 : Int) ≤ most) ∧ (-down ≤ (0 : Int) - x ∧ (0 : Int) - x ≤ up) by omega)
    have h2 : ¬ most < 0 := by omega
    have h3 : ¬ 0 < x - down + p := by omega
    go_wp2_with fail
    go_ret
    exact ⟨0, rfl, HB.out.1, HB.out.2, rfl⟩
  · by_cases h2 : most < x - down + p
    · have HB := Lib.hid (show (0 ≤ most ∧ most ≤ most) ∧ (-down ≤ most - x ∧ most - x ≤ up) by omega)
      go_wp2_with fail
      go_ret
      exact ⟨most, rfl, HB.out.1, HB.out.2, rfl⟩
    · have HB := Lib.hid (show (0 ≤ x - down + p ∧ x - down + p ≤ most) ∧ (-down ≤ x - down + p - x ∧ x - down + p - x ≤ up) by omega)
      go_wp2_with fail
      go_ret
      exact ⟨_, rfl, HB.out.1, HB.out.2, rfl⟩
/-- Numbers in a slice. -/
def IntsO (W : World) (p : Option Addr) (n : Nat) (N : Nat → Int) : Prop := ∀ i, i < n → ∃ b o, p = some ⟨b, o, none⟩ ∧ b < W.heap.size ∧ W.cell? ⟨b, o + i, none⟩ = some (.int .i64 (N i))
theorem IntsO.later {w W : World} {p : Option Addr} {n : Nat} {N : Nat → Int} (h : IntsO w p n N) (hb : Below w.heap.size w W) : IntsO W p n N := fun i hi => by
  obtain ⟨b, o, e, l, c⟩ := h i hi
  exact ⟨b, o, e, Nat.lt_of_lt_of_le l hb.size, (hb.cell (p := ⟨b, o + i, none⟩) l).trans c⟩
theorem iceRow_congr {X Y : Nat → Nat → Int} : ∀ {n : Nat}, (∀ i, i < n → X i = Y i) → iceRow X n = iceRow Y n
  | 0, _ => rfl
  | n + 1, h => by
    unfold iceRow
    rw [iceRow_congr (fun i hi => h i (by omega)), h n (by omega)]
/-- A course of n hours that is allowed, hour by hour. -/
structure Good (x0 u d : Nat → Int) (X : Nat → Nat → Int) (n : Nat) : Prop where
  first : X 0 = x0
  ok : ∀ i, i < n → ∀ q, q < 4 → 0 ≤ X i q ∧ X i q ≤ lim q
  step : ∀ i, i + 1 < n → ∀ q, q < 4 → -(d q / 24) ≤ X (i + 1) q - X i q ∧ X (i + 1) q - X i q ≤ u q / 24
def ice4 (a b c e : Int) (q : Nat) : Int := if q = 0 then a else if q = 1 then b else if q = 2 then c else e
theorem all4 {P : Nat → Prop} (h0 : P 0) (h1 : P 1) (h2 : P 2) (h3 : P 3) : ∀ q, q < 4 → P q
  | 0, _ => h0
  | 1, _ => h1
  | 2, _ => h2
  | 3, _ => h3
  | n + 4, h => by omega
def ext (X : Nat → Nat → Int) (k : Nat) (y : Nat → Int) (i : Nat) : Nat → Int := if i = k then y else X i
theorem Good.next {x0 u d : Nat → Int} {X : Nat → Nat → Int} {k j : Nat} (h : Good x0 u d X k) (hj : k = j + 1) (y : Nat → Int) (hb : ∀ q, q < 4 → 0 ≤ y q ∧ y q ≤ lim q)
    (hs : ∀ q, q < 4 → -(d q / 24) ≤ y q - X j q ∧ y q - X j q ≤ u q / 24) : Good x0 u d (ext X k y) (k + 1) := by
  subst hj
  refine ⟨?_, fun i hi => ?_, fun i hi => ?_⟩
  · have : ext X (j + 1) y 0 = X 0 := if_neg (by omega)
    rw [this]; exact h.first
  · by_cases e : i = j + 1
    · have : ext X (j + 1) y i = y := if_pos e
      rw [this]; exact hb
    · have : ext X (j + 1) y i = X i := if_neg e
      rw [this]; exact h.ok i (by omega)
  · have e0 : ext X (j + 1) y i = X i := if_neg (by omega)
    by_cases e : i = j
    · have : ext X (j + 1) y (i + 1) = y := if_pos (by omega)
      rw [this, e0, e]; exact hs
    · have : ext X (j + 1) y (i + 1) = X (i + 1) := if_neg (by omega)
      rw [this, e0]; exact h.step i (by omega)
theorem row_ext (X : Nat → Nat → Int) (k : Nat) (y : Nat → Int) : iceRow (ext X k y) (k + 1) = iceRow X k ++ (iceA y).toList := by
  show iceRow (ext X k y) k ++ (iceA (ext X k y k)).toList = _
  have e1 : iceRow (ext X k y) k = iceRow X k := iceRow_congr (fun i hi => if_neg (by omega))
  have e2 : ext X k y k = y := if_pos rfl
  rw [e1, e2]
theorem row_first (w : World) (base : Nat) (x : Nat → Int) (hb : base ≤ w.heap.size) : (w.alloc (.cells (iceA x) 37)).ownsRow base 37 4 (.slice (some ⟨w.heap.size, 0, none⟩) 1 1) 1 (iceRow (fun _ => x) 1) :=
  ⟨rfl, .inr ⟨_, 1, iceA x, rfl, hb, block_new w _, Nat.le_refl _, by simp only [maxLen]; omega, rfl, rfl⟩⟩
set_option maxHeartbeats 16000000 in
theorem Course_any (x0 u d : Nat → Int) (p : Option Addr) (m cap : Nat) (N : Nat → Int) (w : World) (hx : okIce x0 = true) (hr : okRates u d = true) (hN : IntsO w p m N) :
    Calls Tryd.prog 49 #[.agg (ratesA u d), .agg (iceA x0), .slice p m cap, .int .i64 80] w fun e w' => ∃ p' c' X, (e = .returned (.slice p' 81 c') ∧ Ices w' p' 81 X) ∧ Good x0 u d X 81 ∧ Below w.heap.size w w' := by
  obtain ⟨i0, hi, hz0, hz1, hz2⟩ := info_parts info37
  have HX := Lib.hid ((allB_iff _).1 hx)
  have HK := Lib.hid (fun q hq => rates_bd hr q hq)
  have HN := Lib.hid hN
  clear hx hr hN
  have HU := Lib.hid (fun q hq => (show IntKind.i64.wrap ((u q).tdiv 24) = u q / 24 by have := HK.out q hq; rw [Int.tdiv_eq_ediv_of_nonneg (by omega), IntKind.wrap_i64]; omega))
  have HD := Lib.hid (fun q hq => (show IntKind.i64.wrap ((d q).tdiv 24) = d q / 24 by have := HK.out q hq; rw [Int.tdiv_eq_ediv_of_nonneg (by omega), IntKind.wrap_i64]; omega))
  obtain ⟨a1, a2, a3, a4⟩ := two_allocs w (.cells (ratesA u d) 41) (.cells (iceA x0) 37)
  have KM := Lib.hid a1
  have KB := Lib.hid a4
  have cI := (cells4 a2).1
  obtain ⟨i1, i2, i3, i4⟩ := cI
  clear a1 a2 a4
  go_enter Tryd.func49, Tryd.ntmps49
  go_wp2_with fail
  clear i1 i2 i3 i4
  generalize (w.alloc (.cells (ratesA u d) 41)).alloc (.cells (iceA x0) 37) = V at *
  have HR0 := Lib.hid (row_first V (w.heap.size + 1) x0 (by omega))
  rw [a3] at HR0
  replace KM := Lib.hid (keep_blk (o' := .cells (iceA x0) 37) KM.out (Below.refl _ _))
  replace KB := Lib.hid (keep_bl (o' := .cells (iceA x0) 37) KB.out (Below.refl _ _))
  go_loopw [9, 10] (fun v i wr => ∃ (k : Nat) (X : Nat → Nat → Int) (p : Option Addr) (c : Nat), 1 ≤ k ∧ k ≤ 81 ∧ i = .int .i64 k ∧ v = .slice p k c ∧ Hid (Good x0 u d X k) ∧ Hid (wr.ownsRow (w.heap.size + 1) 37 4 (.slice p k c) k (iceRow X k)) ∧ Hid (wr.heap[w.heap.size]? = some (.cells (ratesA u d) 41 (0, 0))) ∧ Hid (Below w.heap.size w wr)) (fun _ i _ => 81 - (intOf i).toNat)
  case atStart => exact ⟨1, fun _ => x0, _, 1, by omega, by omega, rfl, rfl, Lib.hid ⟨rfl, fun _ _ q hq => of_decide_eq_true (HX.out q hq), fun i hi => by omega⟩, HR0, KM, KB⟩
  case round =>
    clear HR0 KM KB
    obtain ⟨k, X, p1, c, hk1, hk, rfl, rfl, HG, HO, KM, KB⟩ := hrel
    by_cases hlt : k ≤ 80
    · have hk3 : (k : Int) ≤ 80 := by omega
      have hk0 : (0 : Int) ≤ (k : Int) := by omega
      obtain ⟨j, hj⟩ : ∃ j, k = j + 1 := ⟨k - 1, by omega⟩
      have hwj : j < k := by omega
      have hj0 : (0 : Int) ≤ (j : Int) := by omega
      have hj1 : (j : Int) < (k : Int) := by omega
      have hw1 : IntKind.i64.wrap ((k : Int) - 1) = (j : Int) := by rw [IntKind.wrap_i64]; omega
      replace hj := Lib.hid hj
      have HI := Lib.hid (ices_of_row HO.out)
      obtain ⟨b, o, rfl, hb, c0, c1, c2, c3⟩ := HI.out j hwj
      clear HI
      have KS := Lib.hid (block_new wr (.cells #[.int .i64 (X j 0), .int .i64 (X j 1), .int .i64 (X j 2), .int .i64 (X j 3)] 37))
      have KW := Lib.hid (show Below wr.heap.size wr (wr.alloc (.cells #[.int .i64 (X j 0), .int .i64 (X j 1), .int .i64 (X j 2), .int .i64 (X j 3)] 37)) from (Below.refl _ _).alloc (Nat.le_refl _) _)
      have hlM := lt_of_block KM.out
      have cA := (cells8 (keep_blk (o' := .cells #[.int .i64 (X j 0), .int .i64 (X j 1), .int .i64 (X j 2), .int .i64 (X j 3)] 37) KM.out (Below.refl _ _))).1
      obtain ⟨r0, r1, r2, r3, r4, r5, r6, r7⟩ := cA
      have s0 := (cell_of_block KS.out 0).trans rfl
      have hu0 := HU.out 0 (by decide)
      have hu1 := HU.out 1 (by decide)
      have hu2 := HU.out 2 (by decide)
      have hu3 := HU.out 3 (by decide)
      have hd0 := HD.out 0 (by decide)
      have hd1 := HD.out 1 (by decide)
      have hd2 := HD.out 2 (by decide)
      have hd3 := HD.out 3 (by decide)
      have BU := Lib.hid (fun q hq => (show (0 ≤ u q / 24 ∧ u q / 24 ≤ 41) ∧ (0 ≤ d q / 24 ∧ d q / 24 ≤ 41) by have := HK.out q hq; omega))
      by_cases hm0 : m = 0
      · subst hm0
        go_wp2_with fail
        refine (moved_any (X j 0) (u 0 / 24) (d 0 / 24) (0) 100 (HG.out.ok j hwj 0 (by decide)) (by decide) (BU.out 0 (by decide)).1 (BU.out 0 (by decide)).2 _).mono ?_
        rintro e W ⟨y0, rfl, hy0, hz0', rfl⟩
        replace hy0 := Lib.hid hy0
        replace hz0' := Lib.hid hz0'
        go_wp2_with (refine list_store3 (v := y0) rfl rfl rfl rfl rfl KS.out (by simp) ?_; intro Z0 hz hc; have hz2 : Z0.heap[wr.heap.size]? = some (.cells #[.int .i64 (y0), .int .i64 (X j 1), .int .i64 (X j 2), .int .i64 (X j 3)] 37 (0, 0)) := hz; replace KS := Lib.hid hz2; replace KW := Lib.hid (KW.out.trans (hc.below (Nat.le_refl _))); clear hz hz2 hc r0 r1 r2 r3 r4 r5 r6 r7 s0; have cA := (cells8 ((KW.out.block _ hlM).trans KM.out)).1; obtain ⟨r0, r1, r2, r3, r4, r5, r6, r7⟩ := cA; have s0 := (cell_of_block KS.out 1).trans rfl)
        refine (moved_any (X j 1) (u 1 / 24) (d 1 / 24) (0) 400 (HG.out.ok j hwj 1 (by decide)) (by decide) (BU.out 1 (by decide)).1 (BU.out 1 (by decide)).2 _).mono ?_
        rintro e W ⟨y1, rfl, hy1, hz1', rfl⟩
        replace hy1 := Lib.hid hy1
        replace hz1' := Lib.hid hz1'
        go_wp2_with (refine list_store3 (v := y1) rfl rfl rfl rfl rfl KS.out (by simp) ?_; intro Z1 hz hc; have hz2 : Z1.heap[wr.heap.size]? = some (.cells #[.int .i64 (y0), .int .i64 (y1), .int .i64 (X j 2), .int .i64 (X j 3)] 37 (0, 0)) := hz; replace KS := Lib.hid hz2; replace KW := Lib.hid (KW.out.trans (hc.below (Nat.le_refl _))); clear hz hz2 hc r0 r1 r2 r3 r4 r5 r6 r7 s0; have cA := (cells8 ((KW.out.block _ hlM).trans KM.out)).1; obtain ⟨r0, r1, r2, r3, r4, r5, r6, r7⟩ := cA; have s0 := (cell_of_block KS.out 2).trans rfl)
        refine (moved_any (X j 2) (u 2 / 24) (d 2 / 24) (0) 100 (HG.out.ok j hwj 2 (by decide)) (by decide) (BU.out 2 (by decide)).1 (BU.out 2 (by decide)).2 _).mono ?_
        rintro e W ⟨y2, rfl, hy2, hz2', rfl⟩
        replace hy2 := Lib.hid hy2
        replace hz2' := Lib.hid hz2'
        go_wp2_with (refine list_store3 (v := y2) rfl rfl rfl rfl rfl KS.out (by simp) ?_; intro Z2 hz hc; have hz2 : Z2.heap[wr.heap.size]? = some (.cells #[.int .i64 (y0), .int .i64 (y1), .int .i64 (y2), .int .i64 (X j 3)] 37 (0, 0)) := hz; replace KS := Lib.hid hz2; replace KW := Lib.hid (KW.out.trans (hc.below (Nat.le_refl _))); clear hz hz2 hc r0 r1 r2 r3 r4 r5 r6 r7 s0; have cA := (cells8 ((KW.out.block _ hlM).trans KM.out)).1; obtain ⟨r0, r1, r2, r3, r4, r5, r6, r7⟩ := cA; have s0 := (cell_of_block KS.out 3).trans rfl)
        refine (moved_any (X j 3) (u 3 / 24) (d 3 / 24) (0) 3 (HG.out.ok j hwj 3 (by decide)) (by decide) (BU.out 3 (by decide)).1 (BU.out 3 (by decide)).2 _).mono ?_
        rintro e W ⟨y3, rfl, hy3, hz3', rfl⟩
        replace hy3 := Lib.hid hy3
        replace hz3' := Lib.hid hz3'
        go_wp2_with (first | (refine list_store3 (v := y3) rfl rfl rfl rfl rfl KS.out (by simp) ?_; intro Z3 hz hc; have hz2 : Z3.heap[wr.heap.size]? = some (.cells #[.int .i64 (y0), .int .i64 (y1), .int .i64 (y2), .int .i64 (y3)] 37 (0, 0)) := hz; replace KS := Lib.hid hz2; replace KW := Lib.hid (KW.out.trans (hc.below (Nat.le_refl _))); clear hz hz2 hc r0 r1 r2 r3 r4 r5 r6 r7 s0; have cA := (cells4 KS.out).1; obtain ⟨s0, s1, s2, s3⟩ := cA; have hZs := KW.out.size; have HO2 := Lib.hid (row_later HO.out KW.out); have hnb := Lib.hid (block_new Z3 (.cells #[.int .i64 y0, .int .i64 y1, .int .i64 y2, .int .i64 y3] 37))) | (at_builtin; refine wpList_append_own _ rfl (.tmp 90) (.tmp 92) 57 rfl (w.heap.size + 1) 37 i0 (.agg #[.int .i64 0, .int .i64 0, .int .i64 0, .int .i64 0]) 4 32 und57 hi hz0 hz1 hz2 rfl (by decide) (.slice (some ⟨b, o, none⟩) k c) k (iceRow X k) rfl (HO2.out.alloc _) ⟨Z3.heap.size, 0, none⟩ 1 1 [.int .i64 y0, .int .i64 y1, .int .i64 y2, .int .i64 y3] rfl rfl (World.news_of_block hnb.out) (by simp [Value.oneCell']) (by simp only [maxLen]; omega) (by omega) (by simp; omega) ?_; refine Hid.out ?_))
        refine Lib.hid ?_
        intro v' w1 hown' hgrow _
        obtain ⟨g', cap', rfl⟩ := ownsRow_succ hown'
        have hne : ∀ i, (Value.slice (some ⟨b, o, none⟩) k c).ownBlock = some i → w.heap.size + 1 ≤ i := fun i e => by
          rcases HO.out.2 with ⟨h, _⟩ | ⟨gg, cp, cur, h, hb, hg, _⟩
          · cases h
          · rw [h] at e
            obtain rfl : gg = i := by simpa [Value.ownBlock] using e
            exact hb
        have HO1 := Lib.hid (show w1.ownsRow (w.heap.size + 1) 37 4 (.slice (some ⟨g', 0, none⟩) (k + 1) cap') (k + 1) (iceRow (ext X k (ice4 y0 y1 y2 y3)) (k + 1)) by rw [row_ext]; exact hown')
        have hbs2 : w.heap.size ≤ (Z3.alloc (.cells #[.int .i64 y0, .int .i64 y1, .int .i64 y2, .int .i64 y3] 37)).heap.size := by simp; omega
        have HB1 := Lib.hid (show Below w.heap.size w w1 from ((keep_bl1 KB.out KW.out).alloc (by omega) _).grown hgrow hbs2 (fun i e => by have := hne i e; omega))
        have HM1 := Lib.hid (show w1.heap[w.heap.size]? = some (.cells (ratesA u d) 41 (0, 0)) from (hgrow.block _ (by simp; omega) (fun e => by have := hne _ e.symm; omega)).trans (keep_blk ((KW.out.block _ hlM).trans KM.out) (Below.refl _ _)))
        have HG1 := Lib.hid (HG.out.next hj.out (ice4 y0 y1 y2 y3) (all4 hy0.out hy1.out hy2.out hy3.out) (all4 hz0'.out hz1'.out hz2'.out hz3'.out))
        clear hown' hgrow hne hbs2
        go_wp2_with fail
        go_roundw
        case rel => exact ⟨k + 1, ext X k (ice4 y0 y1 y2 y3), some ⟨g', 0, none⟩, cap', by omega, by omega, by go_num, rfl, HG1, HO1, HM1, HB1⟩
        case measure => simp [intOf]; omega
      · have hm1 : (0 : Int) < (m : Int) := by omega
        have hm2 : ¬ (m : Int) = 0 := by omega
        obtain ⟨t, ht⟩ : ∃ t, t = k % m := ⟨_, rfl⟩
        have ht1 : t < m := by rw [ht]; exact Nat.mod_lt _ (by omega)
        have htk : t ≤ k := by rw [ht]; exact Nat.mod_le _ _
        have hw2 : IntKind.i64.wrap ((k : Int).tmod (m : Int)) = (t : Int) := by
          have e : (k : Int).tmod (m : Int) = (t : Int) := by rw [ht]; rw [Int.tmod_eq_emod_of_nonneg hk0]; omega
          rw [e, IntKind.wrap_i64]; omega
        have hw3 : (k : Int) % (m : Int) = (t : Int) := by rw [ht]; omega
        have hw4 : (k : Int).tmod (m : Int) = (t : Int) := by rw [ht]; rw [Int.tmod_eq_emod_of_nonneg hk0]; omega
        have hw5 : IntKind.i64.wrap (t : Int) = (t : Int) := by rw [IntKind.wrap_i64]; omega
        clear ht
        have ht0 : (0 : Int) ≤ (t : Int) := by omega
        have ht2 : (t : Int) < (m : Int) := by omega
        obtain ⟨b9, o9, rfl, hb9, c9⟩ := (HN.out.later KB.out) t ht1
        go_wp2_with fail
        refine (moved_any (X j 0) (u 0 / 24) (d 0 / 24) _ 100 (HG.out.ok j hwj 0 (by decide)) (by decide) (BU.out 0 (by decide)).1 (BU.out 0 (by decide)).2 _).mono ?_
        rintro e W ⟨y0, rfl, hy0, hz0', rfl⟩
        replace hy0 := Lib.hid hy0
        replace hz0' := Lib.hid hz0'
        go_wp2_with (refine list_store3 (v := y0) rfl rfl rfl rfl rfl KS.out (by simp) ?_; intro Z0 hz hc; have hz2 : Z0.heap[wr.heap.size]? = some (.cells #[.int .i64 (y0), .int .i64 (X j 1), .int .i64 (X j 2), .int .i64 (X j 3)] 37 (0, 0)) := hz; replace KS := Lib.hid hz2; replace KW := Lib.hid (KW.out.trans (hc.below (Nat.le_refl _))); clear hz hz2 hc r0 r1 r2 r3 r4 r5 r6 r7 s0; have cA := (cells8 ((KW.out.block _ hlM).trans KM.out)).1; obtain ⟨r0, r1, r2, r3, r4, r5, r6, r7⟩ := cA; have s0 := (cell_of_block KS.out 1).trans rfl)
        refine (moved_any (X j 1) (u 1 / 24) (d 1 / 24) _ 400 (HG.out.ok j hwj 1 (by decide)) (by decide) (BU.out 1 (by decide)).1 (BU.out 1 (by decide)).2 _).mono ?_
        rintro e W ⟨y1, rfl, hy1, hz1', rfl⟩
        replace hy1 := Lib.hid hy1
        replace hz1' := Lib.hid hz1'
        go_wp2_with (refine list_store3 (v := y1) rfl rfl rfl rfl rfl KS.out (by simp) ?_; intro Z1 hz hc; have hz2 : Z1.heap[wr.heap.size]? = some (.cells #[.int .i64 (y0), .int .i64 (y1), .int .i64 (X j 2), .int .i64 (X j 3)] 37 (0, 0)) := hz; replace KS := Lib.hid hz2; replace KW := Lib.hid (KW.out.trans (hc.below (Nat.le_refl _))); clear hz hz2 hc r0 r1 r2 r3 r4 r5 r6 r7 s0; have cA := (cells8 ((KW.out.block _ hlM).trans KM.out)).1; obtain ⟨r0, r1, r2, r3, r4, r5, r6, r7⟩ := cA; have s0 := (cell_of_block KS.out 2).trans rfl)
        refine (moved_any (X j 2) (u 2 / 24) (d 2 / 24) _ 100 (HG.out.ok j hwj 2 (by decide)) (by decide) (BU.out 2 (by decide)).1 (BU.out 2 (by decide)).2 _).mono ?_
        rintro e W ⟨y2, rfl, hy2, hz2', rfl⟩
        replace hy2 := Lib.hid hy2
        replace hz2' := Lib.hid hz2'
        go_wp2_with (refine list_store3 (v := y2) rfl rfl rfl rfl rfl KS.out (by simp) ?_; intro Z2 hz hc; have hz2 : Z2.heap[wr.heap.size]? = some (.cells #[.int .i64 (y0), .int .i64 (y1), .int .i64 (y2), .int .i64 (X j 3)] 37 (0, 0)) := hz; replace KS := Lib.hid hz2; replace KW := Lib.hid (KW.out.trans (hc.below (Nat.le_refl _))); clear hz hz2 hc r0 r1 r2 r3 r4 r5 r6 r7 s0; have cA := (cells8 ((KW.out.block _ hlM).trans KM.out)).1; obtain ⟨r0, r1, r2, r3, r4, r5, r6, r7⟩ := cA; have s0 := (cell_of_block KS.out 3).trans rfl)
        refine (moved_any (X j 3) (u 3 / 24) (d 3 / 24) _ 3 (HG.out.ok j hwj 3 (by decide)) (by decide) (BU.out 3 (by decide)).1 (BU.out 3 (by decide)).2 _).mono ?_
        rintro e W ⟨y3, rfl, hy3, hz3', rfl⟩
        replace hy3 := Lib.hid hy3
        replace hz3' := Lib.hid hz3'
        go_wp2_with (first | (refine list_store3 (v := y3) rfl rfl rfl rfl rfl KS.out (by simp) ?_; intro Z3 hz hc; have hz2 : Z3.heap[wr.heap.size]? = some (.cells #[.int .i64 (y0), .int .i64 (y1), .int .i64 (y2), .int .i64 (y3)] 37 (0, 0)) := hz; replace KS := Lib.hid hz2; replace KW := Lib.hid (KW.out.trans (hc.below (Nat.le_refl _))); clear hz hz2 hc r0 r1 r2 r3 r4 r5 r6 r7 s0; have cA := (cells4 KS.out).1; obtain ⟨s0, s1, s2, s3⟩ := cA; have hZs := KW.out.size; have HO2 := Lib.hid (row_later HO.out KW.out); have hnb := Lib.hid (block_new Z3 (.cells #[.int .i64 y0, .int .i64 y1, .int .i64 y2, .int .i64 y3] 37))) | (at_builtin; refine wpList_append_own _ rfl (.tmp 90) (.tmp 92) 57 rfl (w.heap.size + 1) 37 i0 (.agg #[.int .i64 0, .int .i64 0, .int .i64 0, .int .i64 0]) 4 32 und57 hi hz0 hz1 hz2 rfl (by decide) (.slice (some ⟨b, o, none⟩) k c) k (iceRow X k) rfl (HO2.out.alloc _) ⟨Z3.heap.size, 0, none⟩ 1 1 [.int .i64 y0, .int .i64 y1, .int .i64 y2, .int .i64 y3] rfl rfl (World.news_of_block hnb.out) (by simp [Value.oneCell']) (by simp only [maxLen]; omega) (by omega) (by simp; omega) ?_; refine Hid.out ?_))
        refine Lib.hid ?_
        intro v' w1 hown' hgrow _
        obtain ⟨g', cap', rfl⟩ := ownsRow_succ hown'
        have hne : ∀ i, (Value.slice (some ⟨b, o, none⟩) k c).ownBlock = some i → w.heap.size + 1 ≤ i := fun i e => by
          rcases HO.out.2 with ⟨h, _⟩ | ⟨gg, cp, cur, h, hb, hg, _⟩
          · cases h
          · rw [h] at e
            obtain rfl : gg = i := by simpa [Value.ownBlock] using e
            exact hb
        have HO1 := Lib.hid (show w1.ownsRow (w.heap.size + 1) 37 4 (.slice (some ⟨g', 0, none⟩) (k + 1) cap') (k + 1) (iceRow (ext X k (ice4 y0 y1 y2 y3)) (k + 1)) by rw [row_ext]; exact hown')
        have hbs2 : w.heap.size ≤ (Z3.alloc (.cells #[.int .i64 y0, .int .i64 y1, .int .i64 y2, .int .i64 y3] 37)).heap.size := by simp; omega
        have HB1 := Lib.hid (show Below w.heap.size w w1 from ((keep_bl1 KB.out KW.out).alloc (by omega) _).grown hgrow hbs2 (fun i e => by have := hne i e; omega))
        have HM1 := Lib.hid (show w1.heap[w.heap.size]? = some (.cells (ratesA u d) 41 (0, 0)) from (hgrow.block _ (by simp; omega) (fun e => by have := hne _ e.symm; omega)).trans (keep_blk ((KW.out.block _ hlM).trans KM.out) (Below.refl _ _)))
        have HG1 := Lib.hid (HG.out.next hj.out (ice4 y0 y1 y2 y3) (all4 hy0.out hy1.out hy2.out hy3.out) (all4 hz0'.out hz1'.out hz2'.out hz3'.out))
        clear hown' hgrow hne hbs2
        go_wp2_with fail
        go_roundw
        case rel => exact ⟨k + 1, ext X k (ice4 y0 y1 y2 y3), some ⟨g', 0, none⟩, cap', by omega, by omega, by go_num, rfl, HG1, HO1, HM1, HB1⟩
        case measure => simp [intOf]; omega
    · have hk5 : ¬ (k : Int) ≤ 80 := by omega
      obtain rfl : k = 81 := by omega
      have HR := Lib.hid (ices_of_row HO.out)
      go_wp2_with fail
      go_ret
      exact ⟨p1, c, X, ⟨rfl, HR.out⟩, HG.out, KB.out⟩
end Go.Proofs.YtdcpmdigihbdpaaDoor
