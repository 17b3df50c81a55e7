/- Contracts of the reference's functions on cells, ice and rates, and of ice.canBecome. (Six texts joined.) -/
import Derived.Test.YtdcpmdigihbdpaaDoorSo
import Derived.Test.YtdcpmdigihbdpaaDoorSp
import Derived.Test.YtdcpmdigihbdpaaDoorSe
namespace Go.Proofs.YtdcpmdigihbdpaaDoor
open Go.RowKit
set_option maxRecDepth 100000
/- Contracts of the reference's functions on one number, one span: Number, SpanOf, Most, wrong, with, change. -/
theorem four_cases {q : Nat} (hq : q < 4) : q = 0 ∨ q = 1 ∨ q = 2 ∨ q = 3 := by omega
theorem Number_any (n : Nat → Int) (q : Nat) (hq : q < 4) (w : World) : Calls Tryd.prog 64 #[.agg (iceA n), .int .i64 q] w fun e w' => e = .returned (.int .i64 (n q)) ∧ Below w.heap.size w w' := by
  have hb : Below w.heap.size w (w.alloc (.cells (iceA n) 27)) := (Below.refl _ _).alloc (Nat.le_refl _) _
  have HB := Lib.hid hb
  clear hb
  rcases four_cases hq with rfl | rfl | rfl | rfl <;>
  · go_enter Tryd.func64, Tryd.ntmps64
    go_wp2_with fail
    go_ret
    exact ⟨rfl, HB.out⟩
theorem Most_any (q : Nat) (hq : q < 4) (w : World) : Calls Tryd.prog 65 #[.int .i64 q] w fun e w' => e = .returned (.int .i64 (lim q)) ∧ Below w.heap.size w w' := by
  have HB := Lib.hid (Below.refl w.heap.size w)
  rcases four_cases hq with rfl | rfl | rfl | rfl <;>
  · go_enter Tryd.func65, Tryd.ntmps65
    go_wp2_with fail
    go_ret
    exact ⟨rfl, HB.out⟩
theorem SpanOf_any (lo hi : Nat → Int) (q : Nat) (hq : q < 4) (w : World) : Calls Tryd.prog 60 #[.agg (cellA lo hi), .int .i64 q] w fun e w' => e = .returned (.agg #[.int .i64 (lo q), .int .i64 (hi q)]) ∧ Below w.heap.size w w' := by
  have HB := Lib.hid (((Below.refl w.heap.size w).alloc (Nat.le_refl _) (.cells (cellA lo hi) 25)).alloc (by simp) (.cells #[.int .i64 (lo q), .int .i64 (hi q)] 23))
  rcases four_cases hq with rfl | rfl | rfl | rfl <;>
  · go_enter Tryd.func60, Tryd.ntmps60
    go_wp2_with fail
    refine bodyPost_ret (v := .agg #[.int .i64 (lo _), .int .i64 (hi _)]) ?_ rfl ⟨rfl, HB.out⟩
    simp [results, Tryd.results60, go_sem]
/-- A cell with another span of a quantity. -/
def setQ (f : Nat → Int) (q : Nat) (x : Int) (r : Nat) : Int := if r = q then x else f r
theorem with_any (lo hi : Nat → Int) (x y : Int) (q : Nat) (hq : q < 4) (w : World) : Calls Tryd.prog 111 #[.agg (cellA lo hi), .int .i64 q, .agg #[.int .i64 x, .int .i64 y]] w fun e w' => e = .returned (.agg (cellA (setQ lo q x) (setQ hi q y))) ∧ Below w.heap.size w w' := by
  have HB := Lib.hid ((((Below.refl w.heap.size w).alloc (Nat.le_refl _) (.cells (cellA (setQ lo q x) (setQ hi q y)) 25)).alloc (by simp) (.cells #[.int .i64 x, .int .i64 y] 23)).alloc (by simp; omega) (.cells (cellA (setQ lo q x) (setQ hi q y)) 25))
  rcases four_cases hq with rfl | rfl | rfl | rfl <;>
  · go_enter Tryd.func111, Tryd.ntmps111
    go_wp2_with fail
    refine bodyPost_ret (v := .agg (cellA (setQ lo _ x) (setQ hi _ y))) ?_ rfl ⟨rfl, HB.out⟩
    simp [results, Tryd.results111, go_sem, setQ]
theorem change_ref (rate hours : Int) (w : World) (h1 : 0 ≤ rate) (h2 : rate ≤ 1000) (h3 : 0 ≤ hours) (h4 : hours ≤ 10000) : Calls Tryd.prog 86 #[.int .i64 rate, .int .i64 hours] w fun e w' => e = .returned (.int .i64 (chg rate hours)) ∧ Below w.heap.size w w' := by
  have h5 : rate * hours ≤ 10000000 := by
    have := Int.mul_le_mul h2 h4 h3 (by omega); simpa using this
  have h6 : 0 ≤ rate * hours := Int.mul_nonneg h1 h3
  obtain ⟨p, hp⟩ : ∃ p, rate * hours = p := ⟨_, rfl⟩
  have hw1 : IntKind.i64.wrap (rate * hours) = p := by rw [hp, IntKind.wrap_i64]; omega
  have hd : p.tdiv 24 = p / 24 := Int.tdiv_eq_ediv_of_nonneg (by omega)
  have hw2 : IntKind.i64.wrap (p.tdiv 24) = p / 24 := by rw [hd, IntKind.wrap_i64]; omega
  have hw3 : IntKind.i64.wrap (p / 24 * 24) = p / 24 * 24 := by rw [IntKind.wrap_i64]; omega
  have hw4 : IntKind.i64.wrap (p / 24 + 1) = p / 24 + 1 := by rw [IntKind.wrap_i64]; omega
  by_cases hlt : p / 24 * 24 < p
  · have HC := Lib.hid (show chg rate hours = p / 24 + 1 by unfold chg; rw [hp]; omega)
    go_enter Tryd.func86, Tryd.ntmps86
    go_wp2_with fail
    go_ret
    exact ⟨by rw [HC.out]; rfl, Below.refl _ _⟩
  · have HC := Lib.hid (show chg rate hours = p / 24 by unfold chg; rw [hp]; omega)
    go_enter Tryd.func86, Tryd.ntmps86
    go_wp2_with fail
    go_ret
    exact ⟨by rw [HC.out]; rfl, Below.refl _ _⟩
theorem wrong_any (lo hi : Int) (q : Nat) (hq : q < 4) (w : World) : Calls Tryd.prog 59 #[.agg #[.int .i64 lo, .int .i64 hi], .int .i64 q] w fun e w' => e = .returned (.bool (!okSpan lo hi q)) ∧ Below w.heap.size w w' := by
  by_cases h1 : lo < 0
  · have e1 : decide (lo < 0) = true := decide_eq_true h1
    have HV := Lib.hid (show (!okSpan lo hi q) = true by rw [Bool.not_eq_eq_eq_not]; exact decide_eq_false (by omega))
    have k := block_new w (.cells #[.int .i64 lo, .int .i64 hi] 23)
    have AB := Lib.hid ((Below.refl w.heap.size w).alloc (Nat.le_refl _) (.cells #[.int .i64 lo, .int .i64 hi] 23))
    have s0 := (cell_of_block k 0).trans rfl
    have s1 := (cell_of_block k 1).trans rfl
    have hz : w.heap.size < (w.alloc (.cells #[.int .i64 lo, .int .i64 hi] 23)).heap.size := by simp
    go_enter Tryd.func59, Tryd.ntmps59
    go_wp2_with fail
    clear k
    generalize w.alloc (.cells #[.int .i64 lo, .int .i64 hi] 23) = V at *
    have t0 := later_cell hz s0
    have t1 := later_cell hz s1
    have HM := Lib.hid (fun (x : Later V) => Most_any q hq x.world)
    haveI : Nonempty (Later V) := ⟨⟨V, Below.refl _ _⟩⟩
    refine wp_region_later (by kernel_rfl) (by kernel_rfl) ?_
    repeat (go_big_quiet_step (first | (go_at_call 65; exact later_call (HM.out _))))
    refine wpQuiet_nil ?_
    intro X hw'
    obtain ⟨⟨Xq, hX0⟩, hXe⟩ := hw'
    change X = Xq at hXe
    rw [← hXe] at hX0
    clear hXe Xq
    have XB := Lib.hid (AB.out.trans (hX0.mono AB.out.size))
    clear hX0 AB s0 s1 t0 t1 HM
    go_wp2_with fail
    go_ret
    exact ⟨by rw [HV.out]; rfl, XB.out⟩
  · have e1 : decide (lo < 0) = false := decide_eq_false h1
    by_cases h2 : lim q < hi
    · have e2 : decide (lim q < hi) = true := decide_eq_true h2
      have HV := Lib.hid (show (!okSpan lo hi q) = true by rw [Bool.not_eq_eq_eq_not]; exact decide_eq_false (by omega))
      have k := block_new w (.cells #[.int .i64 lo, .int .i64 hi] 23)
      have AB := Lib.hid ((Below.refl w.heap.size w).alloc (Nat.le_refl _) (.cells #[.int .i64 lo, .int .i64 hi] 23))
      have s0 := (cell_of_block k 0).trans rfl
      have s1 := (cell_of_block k 1).trans rfl
      have hz : w.heap.size < (w.alloc (.cells #[.int .i64 lo, .int .i64 hi] 23)).heap.size := by simp
      go_enter Tryd.func59, Tryd.ntmps59
      go_wp2_with fail
      clear k
      generalize w.alloc (.cells #[.int .i64 lo, .int .i64 hi] 23) = V at *
      have t0 := later_cell hz s0
      have t1 := later_cell hz s1
      have HM := Lib.hid (fun (x : Later V) => Most_any q hq x.world)
      haveI : Nonempty (Later V) := ⟨⟨V, Below.refl _ _⟩⟩
      refine wp_region_later (by kernel_rfl) (by kernel_rfl) ?_
      repeat (go_big_quiet_step (first | (go_at_call 65; exact later_call (HM.out _))))
      refine wpQuiet_nil ?_
      intro X hw'
      obtain ⟨⟨Xq, hX0⟩, hXe⟩ := hw'
      change X = Xq at hXe
      rw [← hXe] at hX0
      clear hXe Xq
      have XB := Lib.hid (AB.out.trans (hX0.mono AB.out.size))
      clear hX0 AB s0 s1 t0 t1 HM
      go_wp2_with fail
      go_ret
      exact ⟨by rw [HV.out]; rfl, XB.out⟩
    · have e2 : decide (lim q < hi) = false := decide_eq_false h2
      by_cases h3 : hi < lo
      · have e3 : decide (hi < lo) = true := decide_eq_true h3
        have HV := Lib.hid (show (!okSpan lo hi q) = true by rw [Bool.not_eq_eq_eq_not]; exact decide_eq_false (by omega))
        have k := block_new w (.cells #[.int .i64 lo, .int .i64 hi] 23)
        have AB := Lib.hid ((Below.refl w.heap.size w).alloc (Nat.le_refl _) (.cells #[.int .i64 lo, .int .i64 hi] 23))
        have s0 := (cell_of_block k 0).trans rfl
        have s1 := (cell_of_block k 1).trans rfl
        have hz : w.heap.size < (w.alloc (.cells #[.int .i64 lo, .int .i64 hi] 23)).heap.size := by simp
        go_enter Tryd.func59, Tryd.ntmps59
        go_wp2_with fail
        clear k
        generalize w.alloc (.cells #[.int .i64 lo, .int .i64 hi] 23) = V at *
        have t0 := later_cell hz s0
        have t1 := later_cell hz s1
        have HM := Lib.hid (fun (x : Later V) => Most_any q hq x.world)
        haveI : Nonempty (Later V) := ⟨⟨V, Below.refl _ _⟩⟩
        refine wp_region_later (by kernel_rfl) (by kernel_rfl) ?_
        repeat (go_big_quiet_step (first | (go_at_call 65; exact later_call (HM.out _))))
        refine wpQuiet_nil ?_
        intro X hw'
        obtain ⟨⟨Xq, hX0⟩, hXe⟩ := hw'
        change X = Xq at hXe
        rw [← hXe] at hX0
        clear hXe Xq
        have XB := Lib.hid (AB.out.trans (hX0.mono AB.out.size))
        clear hX0 AB s0 s1 t0 t1 HM
        go_wp2_with fail
        go_ret
        exact ⟨by rw [HV.out]; rfl, XB.out⟩
      · have e3 : decide (hi < lo) = false := decide_eq_false h3
        have HV := Lib.hid (show (!okSpan lo hi q) = false by rw [Bool.not_eq_eq_eq_not]; exact decide_eq_true (by omega))
        have k := block_new w (.cells #[.int .i64 lo, .int .i64 hi] 23)
        have AB := Lib.hid ((Below.refl w.heap.size w).alloc (Nat.le_refl _) (.cells #[.int .i64 lo, .int .i64 hi] 23))
        have s0 := (cell_of_block k 0).trans rfl
        have s1 := (cell_of_block k 1).trans rfl
        have hz : w.heap.size < (w.alloc (.cells #[.int .i64 lo, .int .i64 hi] 23)).heap.size := by simp
        go_enter Tryd.func59, Tryd.ntmps59
        go_wp2_with fail
        clear k
        generalize w.alloc (.cells #[.int .i64 lo, .int .i64 hi] 23) = V at *
        have t0 := later_cell hz s0
        have t1 := later_cell hz s1
        have HM := Lib.hid (fun (x : Later V) => Most_any q hq x.world)
        haveI : Nonempty (Later V) := ⟨⟨V, Below.refl _ _⟩⟩
        refine wp_region_later (by kernel_rfl) (by kernel_rfl) ?_
        repeat (go_big_quiet_step (first | (go_at_call 65; exact later_call (HM.out _))))
        refine wpQuiet_nil ?_
        intro X hw'
        obtain ⟨⟨Xq, hX0⟩, hXe⟩ := hw'
        change X = Xq at hXe
        rw [← hXe] at hX0
        clear hXe Xq
        have XB := Lib.hid (AB.out.trans (hX0.mono AB.out.size))
        clear hX0 AB s0 s1 t0 t1 HM
        go_wp2_with fail
        go_ret
        exact ⟨by rw [HV.out]; rfl, XB.out⟩
/- Contracts of the reference's CheckCell, CheckIce, CheckRates, Contains, Apart. -/
theorem all_false {b : Nat → Bool} {k : Nat} (hk : k < 4) (h : b k = false) : allB b = false := by
  cases e : allB b with
  | false => rfl
  | true => rw [(allB_iff b).1 e k hk] at h; cases h
theorem okCell_false {lo hi : Nat → Int} {k : Nat} (hk : k < 4) (h : okSpan (lo k) (hi k) k = false) : okCell lo hi = false := all_false (b := fun q => okSpan (lo q) (hi q) q) hk h
theorem okIce_false {n : Nat → Int} {k : Nat} (hk : k < 4) (h : inB (n k) 0 (lim k) = false) : okIce n = false := all_false (b := fun q => inB (n q) 0 (lim q)) hk h
theorem okRates_false {u d : Nat → Int} {k : Nat} (hk : k < 4) (h : (inB (u k) 0 1000 && inB (d k) 0 1000) = false) : okRates u d = false := all_false (b := fun q => inB (u q) 0 1000 && inB (d q) 0 1000) hk h
theorem hasB_false {lo hi n : Nat → Int} {k : Nat} (hk : k < 4) (h : inB (n k) (lo k) (hi k) = false) : hasB lo hi n = false := all_false (b := fun q => inB (n q) (lo q) (hi q)) hk h
def apartB (lo hi lo' hi' : Nat → Int) : Bool := !allB fun q => decide (lo' q ≤ hi q ∧ lo q ≤ hi' q)
theorem apartB_true {lo hi lo' hi' : Nat → Int} {k : Nat} (hk : k < 4) (h : decide (lo' k ≤ hi k ∧ lo k ≤ hi' k) = false) : apartB lo hi lo' hi' = true := by
  unfold apartB
  rw [all_false (b := fun q => decide (lo' q ≤ hi q ∧ lo q ≤ hi' q)) hk h]
  rfl
theorem instr_field0 (x y : Int) (w : World) : (Instr.field 23 (.agg #[.int .i64 x, .int .i64 y]) 0).run Tryd.prog w = .ok (.int .i64 x) w := by kernel_rfl
theorem instr_field1 (x y : Int) (w : World) : (Instr.field 23 (.agg #[.int .i64 x, .int .i64 y]) 1).run Tryd.prog w = .ok (.int .i64 y) w := by kernel_rfl
theorem cells4' {W : World} {b : Nat} {t : TypeId} {n : Nat → Int} (h : W.heap[b]? = some (.cells (iceA n) t (0, 0))) : W.cell? ⟨b, 0, none⟩ = some (.int .i64 (n 0)) ∧ W.cell? ⟨b, 1, none⟩ = some (.int .i64 (n 1)) ∧ W.cell? ⟨b, 2, none⟩ = some (.int .i64 (n 2)) ∧ W.cell? ⟨b, 3, none⟩ = some (.int .i64 (n 3)) := (cells4 h).1
set_option maxHeartbeats 2000000 in
theorem CheckCell_ref (lo hi : Nat → Int) (w : World) : Calls Tryd.prog 12 #[.agg (cellA lo hi)] w fun e w' => e = .returned (.int .i64 (errB (okCell lo hi) 20)) ∧ Below w.heap.size w w' := by
  have KA := Lib.hid (block_new w (.cells (cellA lo hi) 25))
  have KB := Lib.hid ((Below.refl w.heap.size w).alloc (Nat.le_refl _) (.cells (cellA lo hi) 25))
  go_enter Tryd.func12, Tryd.ntmps12
  go_wp2_with fail
  generalize w.alloc (.cells (cellA lo hi) 25) = V at *
  go_loopw [3] (fun i wr => ∃ k : Nat, k ≤ 4 ∧ i = .int .i64 k ∧ Hid (∀ j, j < k → okSpan (lo j) (hi j) j = true) ∧ Hid (wr.heap[w.heap.size]? = some (.cells (cellA lo hi) 25 (0, 0))) ∧ Hid (Below w.heap.size w wr)) (fun i _ => 4 - (intOf i).toNat)
  case atStart => exact ⟨0, by omega, rfl, Lib.hid (fun j hj => absurd hj (Nat.not_lt_zero j)), KA, KB⟩
  case round =>
    clear KA KB
    obtain ⟨k, hk, rfl, hz, KA, KB⟩ := hrel
    by_cases hlt : k < 4
    · have hk4 : (k : Int) < 4 := by omega
      have hk0 : (0 : Int) ≤ (k : Int) := by omega
      have cA := (cells8 KA.out).1
      obtain ⟨a0, a1, a2, a3, a4, a5, a6, a7⟩ := cA
      go_wp2_with fail
      clear a0 a1 a2 a3 a4 a5 a6 a7
      refine (SpanOf_any lo hi k hlt wr).mono ?_
      rintro e W1 ⟨rfl, hb⟩
      replace KA := Lib.hid (keep_blk1 KA.out hb)
      replace KB := Lib.hid (keep_bl1 KB.out hb)
      clear hb
      go_wp2_with fail
      refine (wrong_any (lo k) (hi k) k hlt W1).mono ?_
      rintro e W2 ⟨rfl, hb⟩
      replace KA := Lib.hid (keep_blk1 KA.out hb)
      replace KB := Lib.hid (keep_bl1 KB.out hb)
      clear hb
      cases hS : okSpan (lo k) (hi k) k with
      | true =>
        have HS := Lib.hid hS
        clear hS
        simp only [Bool.not_true]
        go_wp2_with fail
        go_roundw
        case rel => exact ⟨k + 1, by omega, by go_num, Lib.hid (fun j hj => by by_cases e : j = k; (· rw [e]; exact HS.out); (· exact hz.out j (by omega))), KA, KB⟩
        case measure => simp [intOf]; omega
      | false =>
        have HF := Lib.hid (show errB (okCell lo hi) 20 = 20 by rw [okCell_false hlt hS]; rfl)
        clear hS
        simp only [Bool.not_false]
        go_wp2_with fail
        go_ret
        exact ⟨by rw [HF.out]; rfl, KB.out⟩
    · obtain rfl : k = 4 := by omega
      have HF := Lib.hid (show errB (okCell lo hi) 20 = 0 by unfold okCell; rw [(allB_iff _).2 hz.out]; rfl)
      go_wp2_with fail
      go_ret
      exact ⟨by rw [HF.out]; rfl, KB.out⟩
set_option maxHeartbeats 2000000 in
theorem CheckIce_ref (n : Nat → Int) (w : World) : Calls Tryd.prog 14 #[.agg (iceA n)] w fun e w' => e = .returned (.int .i64 (errB (okIce n) 20)) ∧ Below w.heap.size w w' := by
  have KA := Lib.hid (block_new w (.cells (iceA n) 27))
  have KB := Lib.hid ((Below.refl w.heap.size w).alloc (Nat.le_refl _) (.cells (iceA n) 27))
  go_enter Tryd.func14, Tryd.ntmps14
  go_wp2_with fail
  generalize w.alloc (.cells (iceA n) 27) = V at *
  go_loopw [3] (fun i wr => ∃ k : Nat, k ≤ 4 ∧ i = .int .i64 k ∧ Hid (∀ j, j < k → inB (n j) 0 (lim j) = true) ∧ Hid (wr.heap[w.heap.size]? = some (.cells (iceA n) 27 (0, 0))) ∧ Hid (Below w.heap.size w wr)) (fun i _ => 4 - (intOf i).toNat)
  case atStart => exact ⟨0, by omega, rfl, Lib.hid (fun j hj => absurd hj (Nat.not_lt_zero j)), KA, KB⟩
  case round =>
    clear KA KB
    obtain ⟨k, hk, rfl, hz, KA, KB⟩ := hrel
    by_cases hlt : k < 4
    · have hk4 : (k : Int) < 4 := by omega
      have hk0 : (0 : Int) ≤ (k : Int) := by omega
      have cA := (cells4 KA.out).1
      obtain ⟨a0, a1, a2, a3⟩ := cA
      go_wp2_with fail
      clear a0 a1 a2 a3
      refine (Number_any n k hlt wr).mono ?_
      rintro e W1 ⟨rfl, hb⟩
      replace KA := Lib.hid (keep_blk1 KA.out hb)
      replace KB := Lib.hid (keep_bl1 KB.out hb)
      clear hb
      by_cases h1 : n k < 0
      · have HF := Lib.hid (show errB (okIce n) 20 = 20 by rw [okIce_false hlt (by unfold inB; exact decide_eq_false (by omega))]; rfl)
        go_wp2_with fail
        go_ret
        exact ⟨by rw [HF.out]; rfl, KB.out⟩
      · have hd1 : decide (n k < 0) = false := decide_eq_false h1
        have cA := (cells4 KA.out).1
        obtain ⟨a0, a1, a2, a3⟩ := cA
        go_wp2_with fail
        clear a0 a1 a2 a3
        refine (Number_any n k hlt W1).mono ?_
        rintro e W2 ⟨rfl, hb⟩
        replace KA := Lib.hid (keep_blk1 KA.out hb)
        replace KB := Lib.hid (keep_bl1 KB.out hb)
        clear hb
        go_wp2_with fail
        refine (Most_any k hlt W2).mono ?_
        rintro e W3 ⟨rfl, hb⟩
        replace KA := Lib.hid (keep_blk1 KA.out hb)
        replace KB := Lib.hid (keep_bl1 KB.out hb)
        clear hb
        by_cases h2 : lim k < n k
        · have HF := Lib.hid (show errB (okIce n) 20 = 20 by rw [okIce_false hlt (by unfold inB; exact decide_eq_false (by omega))]; rfl)
          go_wp2_with fail
          go_ret
          exact ⟨by rw [HF.out]; rfl, KB.out⟩
        · have HS := Lib.hid (show inB (n k) 0 (lim k) = true by unfold inB; exact decide_eq_true (by omega))
          go_wp2_with fail
          go_roundw
          case rel => exact ⟨k + 1, by omega, by go_num, Lib.hid (fun j hj => by by_cases e : j = k; (· rw [e]; exact HS.out); (· exact hz.out j (by omega))), KA, KB⟩
          case measure => simp [intOf]; omega
    · obtain rfl : k = 4 := by omega
      have HF := Lib.hid (show errB (okIce n) 20 = 0 by unfold okIce; rw [(allB_iff _).2 hz.out]; rfl)
      go_wp2_with fail
      go_ret
      exact ⟨by rw [HF.out]; rfl, KB.out⟩
set_option maxHeartbeats 2000000 in
theorem CheckRates_ref (u d : Nat → Int) (w : World) : Calls Tryd.prog 17 #[.agg (ratesA u d)] w fun e w' => e = .returned (.int .i64 (errB (okRates u d) 6)) ∧ Below w.heap.size w w' := by
  have KA := Lib.hid (block_new w (.cells (ratesA u d) 29))
  have KB := Lib.hid ((Below.refl w.heap.size w).alloc (Nat.le_refl _) (.cells (ratesA u d) 29))
  go_enter Tryd.func17, Tryd.ntmps17
  go_wp2_with fail
  generalize w.alloc (.cells (ratesA u d) 29) = V at *
  go_loopw [3] (fun i wr => ∃ k : Nat, k ≤ 4 ∧ i = .int .i64 k ∧ Hid (∀ j, j < k → (inB (u j) 0 1000 && inB (d j) 0 1000) = true) ∧ Hid (wr.heap[w.heap.size]? = some (.cells (ratesA u d) 29 (0, 0))) ∧ Hid (Below w.heap.size w wr)) (fun i _ => 4 - (intOf i).toNat)
  case atStart => exact ⟨0, by omega, rfl, Lib.hid (fun j hj => absurd hj (Nat.not_lt_zero j)), KA, KB⟩
  case round =>
    clear KA KB
    obtain ⟨k, hk, rfl, hz, KA, KB⟩ := hrel
    by_cases hlt : k < 4
    · have hk4 : (k : Int) < 4 := by omega
      have hk0 : (0 : Int) ≤ (k : Int) := by omega
      go_wp2_with fail
      have HN := Lib.hid (fun (n : Nat → Int) (x : Later wr) => Number_any n k hlt x.world)
      have hlA := lt_of_block KA.out
      have cA := (cells8 KA.out).1
      obtain ⟨a0, a1, a2, a3, a4, a5, a6, a7⟩ := cA
      replace a0 := later_cell hlA a0
      replace a1 := later_cell hlA a1
      replace a2 := later_cell hlA a2
      replace a3 := later_cell hlA a3
      replace a4 := later_cell hlA a4
      replace a5 := later_cell hlA a5
      replace a6 := later_cell hlA a6
      replace a7 := later_cell hlA a7
      haveI : Nonempty (Later wr) := ⟨⟨wr, Below.refl _ _⟩⟩
      refine wp_region_later (by kernel_rfl) (by kernel_rfl) ?_
      repeat (go_big_quiet_step (first | (go_at_call 64; exact later_call (HN.out _ _))))
      refine wpQuiet_nil ?_
      intro X0 hw'
      obtain ⟨⟨Xq, hX0⟩, hXe⟩ := hw'
      change X0 = Xq at hXe
      rw [← hXe] at hX0
      clear hXe Xq a0 a1 a2 a3 a4 a5 a6 a7 HN
      clear hlA
      replace KA := Lib.hid (keep_blk1 KA.out hX0)
      replace KB := Lib.hid (keep_bl1 KB.out hX0)
      clear hX0
      by_cases h0 : u k < 0
      · have HF := Lib.hid (show errB (okRates u d) 6 = 6 by rw [okRates_false hlt (by unfold inB; rw [Bool.and_eq_false_iff, decide_eq_false_iff_not, decide_eq_false_iff_not]; omega)]; rfl)
        go_wp2_with fail
        go_ret
        exact ⟨by rw [HF.out]; rfl, KB.out⟩
      · have hd0 : decide (u k < 0) = false := decide_eq_false h0
        by_cases h1 : 1000 < u k
        · have HF := Lib.hid (show errB (okRates u d) 6 = 6 by rw [okRates_false hlt (by unfold inB; rw [Bool.and_eq_false_iff, decide_eq_false_iff_not, decide_eq_false_iff_not]; omega)]; rfl)
          go_wp2_with fail
          go_ret
          exact ⟨by rw [HF.out]; rfl, KB.out⟩
        · have hd1 : decide (1000 < u k) = false := decide_eq_false h1
          by_cases h2 : d k < 0
          · have HF := Lib.hid (show errB (okRates u d) 6 = 6 by rw [okRates_false hlt (by unfold inB; rw [Bool.and_eq_false_iff, decide_eq_false_iff_not, decide_eq_false_iff_not]; omega)]; rfl)
            go_wp2_with fail
            go_ret
            exact ⟨by rw [HF.out]; rfl, KB.out⟩
          · have hd2 : decide (d k < 0) = false := decide_eq_false h2
            by_cases h3 : 1000 < d k
            · have HF := Lib.hid (show errB (okRates u d) 6 = 6 by rw [okRates_false hlt (by unfold inB; rw [Bool.and_eq_false_iff, decide_eq_false_iff_not, decide_eq_false_iff_not]; omega)]; rfl)
              go_wp2_with fail
              go_ret
              exact ⟨by rw [HF.out]; rfl, KB.out⟩
            · have hd3 : decide (1000 < d k) = false := decide_eq_false h3
              have HS := Lib.hid (show (inB (u k) 0 1000 && inB (d k) 0 1000) = true by unfold inB; rw [Bool.and_eq_true, decide_eq_true_eq, decide_eq_true_eq]; omega)
              go_wp2_with fail
              go_roundw
              case rel => exact ⟨k + 1, by omega, by go_num, Lib.hid (fun j hj => by by_cases e : j = k; (· rw [e]; exact HS.out); (· exact hz.out j (by omega))), KA, KB⟩
              case measure => simp [intOf]; omega
    · obtain rfl : k = 4 := by omega
      have HF := Lib.hid (show errB (okRates u d) 6 = 0 by unfold okRates; rw [(allB_iff _).2 hz.out]; rfl)
      go_wp2_with fail
      go_ret
      exact ⟨by rw [HF.out]; rfl, KB.out⟩
set_option maxHeartbeats 2000000 in
theorem Contains_ref (lo hi n : Nat → Int) (w : World) : Calls Tryd.prog 71 #[.agg (cellA lo hi), .agg (iceA n)] w fun e w' => e = .returned (.bool (hasB lo hi n)) ∧ Below w.heap.size w w' := by
  obtain ⟨a1, a2, a4, a5⟩ := two_allocs w (.cells (cellA lo hi) 25) (.cells (iceA n) 27)
  have KA := Lib.hid a1
  have KN := Lib.hid a2
  have KB := Lib.hid a5
  clear a1 a2 a4 a5
  go_enter Tryd.func71, Tryd.ntmps71
  go_wp2_with fail
  generalize (w.alloc (.cells (cellA lo hi) 25)).alloc (.cells (iceA n) 27) = V at *
  go_loopw [5] (fun i wr => ∃ k : Nat, k ≤ 4 ∧ i = .int .i64 k ∧ Hid (∀ j, j < k → inB (n j) (lo j) (hi j) = true) ∧ Hid (wr.heap[w.heap.size]? = some (.cells (cellA lo hi) 25 (0, 0))) ∧ Hid (wr.heap[w.heap.size + 1]? = some (.cells (iceA n) 27 (0, 0))) ∧ Hid (Below w.heap.size w wr)) (fun i _ => 4 - (intOf i).toNat)
  case atStart => exact ⟨0, by omega, rfl, Lib.hid (fun j hj => absurd hj (Nat.not_lt_zero j)), KA, KN, KB⟩
  case round =>
    clear KA KN KB
    obtain ⟨k, hk, rfl, hz, KA, KN, KB⟩ := hrel
    by_cases hlt : k < 4
    · have hk4 : (k : Int) < 4 := by omega
      have hk0 : (0 : Int) ≤ (k : Int) := by omega
      by_cases h1 : n k < lo k
      · have hd1 : decide (n k < lo k) = true := decide_eq_true h1
        go_wp2_with fail
        have f0 := instr_field0
        have f1 := instr_field1
        have HN := Lib.hid (fun (x : Later wr) => Number_any n k hlt x.world)
        have HS := Lib.hid (fun (x : Later wr) => SpanOf_any lo hi k hlt x.world)
        have hlA := lt_of_block KA.out
        have cA := (cells8 KA.out).1
        obtain ⟨a0, a1, a2, a3, a4, a5, a6, a7⟩ := cA
        replace a0 := later_cell hlA a0
        replace a1 := later_cell hlA a1
        replace a2 := later_cell hlA a2
        replace a3 := later_cell hlA a3
        replace a4 := later_cell hlA a4
        replace a5 := later_cell hlA a5
        replace a6 := later_cell hlA a6
        replace a7 := later_cell hlA a7
        have hlN := lt_of_block KN.out
        have cN := (cells4 KN.out).1
        obtain ⟨n0, n1, n2, n3⟩ := cN
        replace n0 := later_cell hlN n0
        replace n1 := later_cell hlN n1
        replace n2 := later_cell hlN n2
        replace n3 := later_cell hlN n3
        haveI : Nonempty (Later wr) := ⟨⟨wr, Below.refl _ _⟩⟩
        refine wp_region_later (by kernel_rfl) (by kernel_rfl) ?_
        repeat (go_big_quiet_step (first | (go_at_call 64; exact later_call (HN.out _)) | (go_at_call 60; exact later_call (HS.out _))))
        refine wpQuiet_nil ?_
        intro X0 hw'
        obtain ⟨⟨Xq, hX0⟩, hXe⟩ := hw'
        change X0 = Xq at hXe
        rw [← hXe] at hX0
        clear hXe Xq a0 a1 a2 a3 a4 a5 a6 a7 n0 n1 n2 n3 HN HS
        clear hlA hlN
        replace KA := Lib.hid (keep_blk1 KA.out hX0)
        replace KN := Lib.hid (keep_blk1 KN.out hX0)
        replace KB := Lib.hid (keep_bl1 KB.out hX0)
        clear hX0
        clear f0 f1
        have HF := Lib.hid (show hasB lo hi n = false from hasB_false hlt (by unfold inB; exact decide_eq_false (by omega)))
        go_wp2_with fail
        go_ret
        exact ⟨by rw [HF.out]; rfl, KB.out⟩
      · have hd1 : decide (n k < lo k) = false := decide_eq_false h1
        by_cases h2 : hi k < n k
        · have hd2 : decide (hi k < n k) = true := decide_eq_true h2
          go_wp2_with fail
          have f0 := instr_field0
          have f1 := instr_field1
          have HN := Lib.hid (fun (x : Later wr) => Number_any n k hlt x.world)
          have HS := Lib.hid (fun (x : Later wr) => SpanOf_any lo hi k hlt x.world)
          have hlA := lt_of_block KA.out
          have cA := (cells8 KA.out).1
          obtain ⟨a0, a1, a2, a3, a4, a5, a6, a7⟩ := cA
          replace a0 := later_cell hlA a0
          replace a1 := later_cell hlA a1
          replace a2 := later_cell hlA a2
          replace a3 := later_cell hlA a3
          replace a4 := later_cell hlA a4
          replace a5 := later_cell hlA a5
          replace a6 := later_cell hlA a6
          replace a7 := later_cell hlA a7
          have hlN := lt_of_block KN.out
          have cN := (cells4 KN.out).1
          obtain ⟨n0, n1, n2, n3⟩ := cN
          replace n0 := later_cell hlN n0
          replace n1 := later_cell hlN n1
          replace n2 := later_cell hlN n2
          replace n3 := later_cell hlN n3
          haveI : Nonempty (Later wr) := ⟨⟨wr, Below.refl _ _⟩⟩
          refine wp_region_later (by kernel_rfl) (by kernel_rfl) ?_
          repeat (go_big_quiet_step (first | (go_at_call 64; exact later_call (HN.out _)) | (go_at_call 60; exact later_call (HS.out _))))
          refine wpQuiet_nil ?_
          intro X0 hw'
          obtain ⟨⟨Xq, hX0⟩, hXe⟩ := hw'
          change X0 = Xq at hXe
          rw [← hXe] at hX0
          clear hXe Xq a0 a1 a2 a3 a4 a5 a6 a7 n0 n1 n2 n3 HN HS
          clear hlA hlN
          replace KA := Lib.hid (keep_blk1 KA.out hX0)
          replace KN := Lib.hid (keep_blk1 KN.out hX0)
          replace KB := Lib.hid (keep_bl1 KB.out hX0)
          clear hX0
          clear f0 f1
          have HF := Lib.hid (show hasB lo hi n = false from hasB_false hlt (by unfold inB; exact decide_eq_false (by omega)))
          go_wp2_with fail
          go_ret
          exact ⟨by rw [HF.out]; rfl, KB.out⟩
        · have hd2 : decide (hi k < n k) = false := decide_eq_false h2
          go_wp2_with fail
          have f0 := instr_field0
          have f1 := instr_field1
          have HN := Lib.hid (fun (x : Later wr) => Number_any n k hlt x.world)
          have HS := Lib.hid (fun (x : Later wr) => SpanOf_any lo hi k hlt x.world)
          have hlA := lt_of_block KA.out
          have cA := (cells8 KA.out).1
          obtain ⟨a0, a1, a2, a3, a4, a5, a6, a7⟩ := cA
          replace a0 := later_cell hlA a0
          replace a1 := later_cell hlA a1
          replace a2 := later_cell hlA a2
          replace a3 := later_cell hlA a3
          replace a4 := later_cell hlA a4
          replace a5 := later_cell hlA a5
          replace a6 := later_cell hlA a6
          replace a7 := later_cell hlA a7
          have hlN := lt_of_block KN.out
          have cN := (cells4 KN.out).1
          obtain ⟨n0, n1, n2, n3⟩ := cN
          replace n0 := later_cell hlN n0
          replace n1 := later_cell hlN n1
          replace n2 := later_cell hlN n2
          replace n3 := later_cell hlN n3
          haveI : Nonempty (Later wr) := ⟨⟨wr, Below.refl _ _⟩⟩
          refine wp_region_later (by kernel_rfl) (by kernel_rfl) ?_
          repeat (go_big_quiet_step (first | (go_at_call 64; exact later_call (HN.out _)) | (go_at_call 60; exact later_call (HS.out _))))
          refine wpQuiet_nil ?_
          intro X0 hw'
          obtain ⟨⟨Xq, hX0⟩, hXe⟩ := hw'
          change X0 = Xq at hXe
          rw [← hXe] at hX0
          clear hXe Xq a0 a1 a2 a3 a4 a5 a6 a7 n0 n1 n2 n3 HN HS
          clear hlA hlN
          replace KA := Lib.hid (keep_blk1 KA.out hX0)
          replace KN := Lib.hid (keep_blk1 KN.out hX0)
          replace KB := Lib.hid (keep_bl1 KB.out hX0)
          clear hX0
          clear f0 f1
          have HI := Lib.hid (show inB (n k) (lo k) (hi k) = true by unfold inB; exact decide_eq_true (by omega))
          go_wp2_with fail
          go_roundw
          case rel => exact ⟨k + 1, by omega, by go_num, Lib.hid (fun j hj => by by_cases e : j = k; (· rw [e]; exact HI.out); (· exact hz.out j (by omega))), KA, KN, KB⟩
          case measure => simp [intOf]; omega
    · obtain rfl : k = 4 := by omega
      have HF := Lib.hid (show hasB lo hi n = true by unfold hasB; exact (allB_iff _).2 hz.out)
      go_wp2_with fail
      go_ret
      exact ⟨by rw [HF.out]; rfl, KB.out⟩
set_option maxHeartbeats 2000000 in
theorem Apart_ref (lo hi lo' hi' : Nat → Int) (w : World) : Calls Tryd.prog 77 #[.agg (cellA lo hi), .agg (cellA lo' hi')] w fun e w' => e = .returned (.bool (apartB lo hi lo' hi')) ∧ Below w.heap.size w w' := by
  obtain ⟨a1, a2, a4, a5⟩ := two_allocs w (.cells (cellA lo hi) 25) (.cells (cellA lo' hi') 25)
  have KA := Lib.hid a1
  have KC := Lib.hid a2
  have KB := Lib.hid a5
  clear a1 a2 a4 a5
  go_enter Tryd.func77, Tryd.ntmps77
  go_wp2_with fail
  generalize (w.alloc (.cells (cellA lo hi) 25)).alloc (.cells (cellA lo' hi') 25) = V at *
  go_loopw [5] (fun i wr => ∃ k : Nat, k ≤ 4 ∧ i = .int .i64 k ∧ Hid (∀ j, j < k → decide (lo' j ≤ hi j ∧ lo j ≤ hi' j) = true) ∧ Hid (wr.heap[w.heap.size]? = some (.cells (cellA lo hi) 25 (0, 0))) ∧ Hid (wr.heap[w.heap.size + 1]? = some (.cells (cellA lo' hi') 25 (0, 0))) ∧ Hid (Below w.heap.size w wr)) (fun i _ => 4 - (intOf i).toNat)
  case atStart => exact ⟨0, by omega, rfl, Lib.hid (fun j hj => absurd hj (Nat.not_lt_zero j)), KA, KC, KB⟩
  case round =>
    clear KA KC KB
    obtain ⟨k, hk, rfl, hz, KA, KC, KB⟩ := hrel
    by_cases hlt : k < 4
    · have hk4 : (k : Int) < 4 := by omega
      have hk0 : (0 : Int) ≤ (k : Int) := by omega
      by_cases h1 : hi k < lo' k
      · have hd1 : decide (hi k < lo' k) = true := decide_eq_true h1
        go_wp2_with fail
        have f0 := instr_field0
        have f1 := instr_field1
        have HS := Lib.hid (fun (lo hi : Nat → Int) (x : Later wr) => SpanOf_any lo hi k hlt x.world)
        have hlA := lt_of_block KA.out
        have cA := (cells8 KA.out).1
        obtain ⟨a0, a1, a2, a3, a4, a5, a6, a7⟩ := cA
        replace a0 := later_cell hlA a0
        replace a1 := later_cell hlA a1
        replace a2 := later_cell hlA a2
        replace a3 := later_cell hlA a3
        replace a4 := later_cell hlA a4
        replace a5 := later_cell hlA a5
        replace a6 := later_cell hlA a6
        replace a7 := later_cell hlA a7
        have hlC := lt_of_block KC.out
        have cC := (cells8 KC.out).1
        obtain ⟨c0, c1, c2, c3, c4, c5, c6, c7⟩ := cC
        replace c0 := later_cell hlC c0
        replace c1 := later_cell hlC c1
        replace c2 := later_cell hlC c2
        replace c3 := later_cell hlC c3
        replace c4 := later_cell hlC c4
        replace c5 := later_cell hlC c5
        replace c6 := later_cell hlC c6
        replace c7 := later_cell hlC c7
        haveI : Nonempty (Later wr) := ⟨⟨wr, Below.refl _ _⟩⟩
        refine wp_region_later (by kernel_rfl) (by kernel_rfl) ?_
        repeat (go_big_quiet_step (first | (go_at_call 60; exact later_call (HS.out _ _ _))))
        refine wpQuiet_nil ?_
        intro X0 hw'
        obtain ⟨⟨Xq, hX0⟩, hXe⟩ := hw'
        change X0 = Xq at hXe
        rw [← hXe] at hX0
        clear hXe Xq a0 a1 a2 a3 a4 a5 a6 a7 c0 c1 c2 c3 c4 c5 c6 c7 HS
        clear hlA hlC
        replace KA := Lib.hid (keep_blk1 KA.out hX0)
        replace KC := Lib.hid (keep_blk1 KC.out hX0)
        replace KB := Lib.hid (keep_bl1 KB.out hX0)
        clear hX0
        clear f0 f1
        have HF := Lib.hid (show apartB lo hi lo' hi' = true from apartB_true hlt (decide_eq_false (by omega)))
        go_wp2_with fail
        go_ret
        exact ⟨by rw [HF.out]; rfl, KB.out⟩
      · have hd1 : decide (hi k < lo' k) = false := decide_eq_false h1
        by_cases h2 : hi' k < lo k
        · have hd2 : decide (hi' k < lo k) = true := decide_eq_true h2
          go_wp2_with fail
          have f0 := instr_field0
          have f1 := instr_field1
          have HS := Lib.hid (fun (lo hi : Nat → Int) (x : Later wr) => SpanOf_any lo hi k hlt x.world)
          have hlA := lt_of_block KA.out
          have cA := (cells8 KA.out).1
          obtain ⟨a0, a1, a2, a3, a4, a5, a6, a7⟩ := cA
          replace a0 := later_cell hlA a0
          replace a1 := later_cell hlA a1
          replace a2 := later_cell hlA a2
          replace a3 := later_cell hlA a3
          replace a4 := later_cell hlA a4
          replace a5 := later_cell hlA a5
          replace a6 := later_cell hlA a6
          replace a7 := later_cell hlA a7
          have hlC := lt_of_block KC.out
          have cC := (cells8 KC.out).1
          obtain ⟨c0, c1, c2, c3, c4, c5, c6, c7⟩ := cC
          replace c0 := later_cell hlC c0
          replace c1 := later_cell hlC c1
          replace c2 := later_cell hlC c2
          replace c3 := later_cell hlC c3
          replace c4 := later_cell hlC c4
          replace c5 := later_cell hlC c5
          replace c6 := later_cell hlC c6
          replace c7 := later_cell hlC c7
          haveI : Nonempty (Later wr) := ⟨⟨wr, Below.refl _ _⟩⟩
          refine wp_region_later (by kernel_rfl) (by kernel_rfl) ?_
          repeat (go_big_quiet_step (first | (go_at_call 60; exact later_call (HS.out _ _ _))))
          refine wpQuiet_nil ?_
          intro X0 hw'
          obtain ⟨⟨Xq, hX0⟩, hXe⟩ := hw'
          change X0 = Xq at hXe
          rw [← hXe] at hX0
          clear hXe Xq a0 a1 a2 a3 a4 a5 a6 a7 c0 c1 c2 c3 c4 c5 c6 c7 HS
          clear hlA hlC
          replace KA := Lib.hid (keep_blk1 KA.out hX0)
          replace KC := Lib.hid (keep_blk1 KC.out hX0)
          replace KB := Lib.hid (keep_bl1 KB.out hX0)
          clear hX0
          clear f0 f1
          have HF := Lib.hid (show apartB lo hi lo' hi' = true from apartB_true hlt (decide_eq_false (by omega)))
          go_wp2_with fail
          go_ret
          exact ⟨by rw [HF.out]; rfl, KB.out⟩
        · have hd2 : decide (hi' k < lo k) = false := decide_eq_false h2
          go_wp2_with fail
          have f0 := instr_field0
          have f1 := instr_field1
          have HS := Lib.hid (fun (lo hi : Nat → Int) (x : Later wr) => SpanOf_any lo hi k hlt x.world)
          have hlA := lt_of_block KA.out
          have cA := (cells8 KA.out).1
          obtain ⟨a0, a1, a2, a3, a4, a5, a6, a7⟩ := cA
          replace a0 := later_cell hlA a0
          replace a1 := later_cell hlA a1
          replace a2 := later_cell hlA a2
          replace a3 := later_cell hlA a3
          replace a4 := later_cell hlA a4
          replace a5 := later_cell hlA a5
          replace a6 := later_cell hlA a6
          replace a7 := later_cell hlA a7
          have hlC := lt_of_block KC.out
          have cC := (cells8 KC.out).1
          obtain ⟨c0, c1, c2, c3, c4, c5, c6, c7⟩ := cC
          replace c0 := later_cell hlC c0
          replace c1 := later_cell hlC c1
          replace c2 := later_cell hlC c2
          replace c3 := later_cell hlC c3
          replace c4 := later_cell hlC c4
          replace c5 := later_cell hlC c5
          replace c6 := later_cell hlC c6
          replace c7 := later_cell hlC c7
          haveI : Nonempty (Later wr) := ⟨⟨wr, Below.refl _ _⟩⟩
          refine wp_region_later (by kernel_rfl) (by kernel_rfl) ?_
          repeat (go_big_quiet_step (first | (go_at_call 60; exact later_call (HS.out _ _ _))))
          refine wpQuiet_nil ?_
          intro X0 hw'
          obtain ⟨⟨Xq, hX0⟩, hXe⟩ := hw'
          change X0 = Xq at hXe
          rw [← hXe] at hX0
          clear hXe Xq a0 a1 a2 a3 a4 a5 a6 a7 c0 c1 c2 c3 c4 c5 c6 c7 HS
          clear hlA hlC
          replace KA := Lib.hid (keep_blk1 KA.out hX0)
          replace KC := Lib.hid (keep_blk1 KC.out hX0)
          replace KB := Lib.hid (keep_bl1 KB.out hX0)
          clear hX0
          clear f0 f1
          have HI := Lib.hid (show decide (lo' k ≤ hi k ∧ lo k ≤ hi' k) = true from decide_eq_true (by omega))
          go_wp2_with fail
          go_roundw
          case rel => exact ⟨k + 1, by omega, by go_num, Lib.hid (fun j hj => by by_cases e : j = k; (· rw [e]; exact HI.out); (· exact hz.out j (by omega))), KA, KC, KB⟩
          case measure => simp [intOf]; omega
    · obtain rfl : k = 4 := by omega
      have HF := Lib.hid (show apartB lo hi lo' hi' = false by unfold apartB; rw [(allB_iff _).2 hz.out]; rfl)
      go_wp2_with fail
      go_ret
      exact ⟨by rw [HF.out]; rfl, KB.out⟩
/- Contracts of the reference's Common, Cover. -/
/-- Below k the one, from k on the other one. -/
def upTo (k : Nat) (f g : Nat → Int) (q : Nat) : Int := if q < k then f q else g q
theorem upTo_self (k : Nat) (f g : Nat → Int) : upTo k f g k = g k := if_neg (Nat.lt_irrefl k)
theorem upTo_zero (f g : Nat → Int) : upTo 0 f g = g := funext fun q => if_neg (Nat.not_lt_zero q)
theorem upTo_succ (k : Nat) (f g : Nat → Int) : setQ (upTo k f g) k (f k) = upTo (k + 1) f g := funext fun q => by
  unfold setQ upTo
  by_cases e : q = k
  · subst e; rw [if_pos rfl, if_pos (Nat.lt_succ_self q)]
  · rw [if_neg e]
    by_cases h : q < k
    · rw [if_pos h, if_pos (by omega)]
    · rw [if_neg h, if_neg (by omega)]
theorem cellA_upTo (f g f' g' : Nat → Int) : cellA (upTo 4 f g) (upTo 4 f' g') = cellA f f' := rfl
section
variable {Q : Exit → Act → World → Prop} {ops : Array Oper} {o : Oper} {rest : List Oper} {a : Act} {W : World}
theorem list_store25 {s r b : Nat} {t : TypeId} {x0 x1 x2 x3 x4 x5 x6 x7 y0 y1 y2 y3 y4 y5 y6 y7 : Int} (hg : o.guard = none) (hd : o.dst = none) (hop : o.op = Op.store 25 (.tmp s) (.tmp r))
    (he : a.eval (.tmp s) = .pointer (some ⟨b, 0, none⟩)) (hv : a.eval (.tmp r) = .agg #[.int .i64 y0, .int .i64 y1, .int .i64 y2, .int .i64 y3, .int .i64 y4, .int .i64 y5, .int .i64 y6, .int .i64 y7])
    (hb : W.heap[b]? = some (.cells #[.int .i64 x0, .int .i64 x1, .int .i64 x2, .int .i64 x3, .int .i64 x4, .int .i64 x5, .int .i64 x6, .int .i64 x7] t (0, 0)))
    (hK : ∀ W', W'.heap[b]? = some (.cells #[.int .i64 y0, .int .i64 y1, .int .i64 y2, .int .i64 y3, .int .i64 y4, .int .i64 y5, .int .i64 y6, .int .i64 y7] t (0, 0)) → Chg b W W' → wpList Tryd.prog ops Q rest a W') : wpList Tryd.prog ops Q (o :: rest) a W := by
  obtain ⟨⟨c0, c1, c2, c3, c4, c5, c6, c7⟩, f0, f1, f2, f3, f4, f5, f6, f7⟩ := cells8 hb
  have he' : a.tmps[s]?.getD undef = .pointer (some ⟨b, 0, none⟩) := by simpa [Act.eval] using he
  have hv' : a.tmps[r]?.getD undef = .agg #[.int .i64 y0, .int .i64 y1, .int .i64 y2, .int .i64 y3, .int .i64 y4, .int .i64 y5, .int .i64 y6, .int .i64 y7] := by simpa [Act.eval] using hv
  refine list_store hg hd ?_ (hK (World.store8 W b (.int .i64 y0) (.int .i64 y1) (.int .i64 y2) (.int .i64 y3) (.int .i64 y4) (.int .i64 y5) (.int .i64 y6) (.int .i64 y7)) (store8_block hb _ _ _ _ _ _ _ _) (chg_store8 _ _ _ _ _ _ _ _ _ _))
  unfold execOp World.store8
  rw [hop]
  simp [go_sem, he', hv', c0, c1, c2, c3, c4, c5, c6, c7, f0, f1, f2, f3, f4, f5, f6, f7]
theorem list_store3 {s r b off : Nat} {t : TypeId} {cs : Array Value} {v : Int} (hg : o.guard = none) (hd : o.dst = none) (hop : o.op = Op.store 3 (.tmp s) (.tmp r))
    (he : a.eval (.tmp s) = .pointer (some ⟨b, off, none⟩)) (hv : a.eval (.tmp r) = .int .i64 v) (hb : W.heap[b]? = some (.cells cs t (0, 0))) (hlt : off < cs.size)
    (hK : ∀ W', W'.heap[b]? = some (.cells (cs.setIfInBounds off (.int .i64 v)) t (0, 0)) → Chg b W W' → wpList Tryd.prog ops Q rest a W') : wpList Tryd.prog ops Q (o :: rest) a W := by
  have c := (cell_of_block hb off).trans (Array.getElem?_eq_getElem hlt)
  have f := frozen_of_block hb off
  have he' : a.tmps[s]?.getD undef = .pointer (some ⟨b, off, none⟩) := by simpa [Act.eval] using he
  have hv' : a.tmps[r]?.getD undef = .int .i64 v := by simpa [Act.eval] using hv
  refine list_store hg hd ?_ (hK (W.setCell ⟨b, off, none⟩ (.int .i64 v)) (setCell_block hb off _) (chg_setCell W b off _))
  unfold execOp
  rw [hop]
  simp [go_sem, he', hv', c, f]
end
set_option maxHeartbeats 4000000 in
theorem Common_ref (lo hi lo' hi' : Nat → Int) (w : World) : Calls Tryd.prog 78 #[.agg (cellA lo hi), .agg (cellA lo' hi')] w fun e w' => e = .returned (.agg (cellA (mxF lo lo') (mnF hi hi'))) ∧ Below w.heap.size w w' := by
  obtain ⟨a1, a2, a3, a4, a5⟩ := three_allocs w (.cells (cellA lo hi) 25) (.cells (cellA lo' hi') 25) (.cells (cellA (fun _ => 0) (fun _ => 0)) 25)
  have KA := Lib.hid a1
  have KC := Lib.hid a2
  have KR := Lib.hid a3
  have KB := Lib.hid a5
  clear a1 a2 a3 a4 a5
  go_enter Tryd.func78, Tryd.ntmps78
  go_wp2_with fail
  generalize ((w.alloc (.cells (cellA lo hi) 25)).alloc (.cells (cellA lo' hi') 25)).alloc (.cells (cellA (fun _ => 0) (fun _ => 0)) 25) = V at *
  replace KA := Lib.hid (show V.heap[w.heap.size]? = some (.cells (cellA (upTo 0 (mxF lo lo') lo) (upTo 0 (mnF hi hi') hi)) 25 (0, 0)) from KA.out)
  go_loopw [5] (fun i wr => ∃ k : Nat, k ≤ 4 ∧ i = .int .i64 k ∧ Hid (wr.heap[w.heap.size]? = some (.cells (cellA (upTo k (mxF lo lo') lo) (upTo k (mnF hi hi') hi)) 25 (0, 0))) ∧ Hid (wr.heap[w.heap.size + 1]? = some (.cells (cellA lo' hi') 25 (0, 0))) ∧ Hid (wr.heap[w.heap.size + 1 + 1]? = some (.cells (cellA (fun _ => 0) (fun _ => 0)) 25 (0, 0))) ∧ Hid (Below w.heap.size w wr)) (fun i _ => 4 - (intOf i).toNat)
  case atStart => exact ⟨0, by omega, rfl, KA, KC, KR, KB⟩
  case round =>
    clear KA KC KR KB
    obtain ⟨k, hk, rfl, KA, KC, KR, KB⟩ := hrel
    by_cases hlt : k < 4
    · have hk4 : (k : Int) < 4 := by omega
      have hk0 : (0 : Int) ≤ (k : Int) := by omega
      have cA := (cells8 KA.out).1
      obtain ⟨a0, a1, a2, a3, a4, a5, a6, a7⟩ := cA
      go_wp2_with fail
      clear a0 a1 a2 a3 a4 a5 a6 a7
      have hcon := SpanOf_any (upTo k (mxF lo lo') lo) (upTo k (mnF hi hi') hi) k hlt wr
      rw [upTo_self, upTo_self] at hcon
      refine hcon.mono ?_
      clear hcon
      rintro e W1 ⟨rfl, hb⟩
      have NEA := Lib.hid (Nat.ne_of_lt (lt_of_block (keep_blk1 KA.out hb)))
      have NEC := Lib.hid (Nat.ne_of_lt (lt_of_block (keep_blk1 KC.out hb)))
      have NER := Lib.hid (Nat.ne_of_lt (lt_of_block (keep_blk1 KR.out hb)))
      have LB := Lib.hid (keep_bl1 KB.out hb).size
      replace KA := Lib.hid (keep_blk (o' := .cells #[.int .i64 (lo k), .int .i64 (hi k)] 23) KA.out hb)
      replace KC := Lib.hid (keep_blk (o' := .cells #[.int .i64 (lo k), .int .i64 (hi k)] 23) KC.out hb)
      replace KR := Lib.hid (keep_blk (o' := .cells #[.int .i64 (lo k), .int .i64 (hi k)] 23) KR.out hb)
      replace KB := Lib.hid (keep_bl (o' := .cells #[.int .i64 (lo k), .int .i64 (hi k)] 23) KB.out hb)
      clear hb
      have KS := Lib.hid (block_new W1 (.cells #[.int .i64 (lo k), .int .i64 (hi k)] 23))
      go_wp2_with fail
      generalize W1.alloc (.cells #[.int .i64 (lo k), .int .i64 (hi k)] 23) = V1 at *
      generalize W1.heap.size = BS at *
      by_cases d1 : lo k < lo' k
      · have e1 : decide (lo k < lo' k) = true := decide_eq_true d1
        have f0 := instr_field0
        have f1 := instr_field1
        have HS := Lib.hid (fun (x : Later V1) => SpanOf_any lo' hi' k hlt x.world)
        have hlC2 := lt_of_block KC.out
        have hlS2 := lt_of_block KS.out
        have cC := (cells8 KC.out).1
        obtain ⟨c0, c1, c2, c3, c4, c5, c6, c7⟩ := cC
        replace c0 := later_cell hlC2 c0
        replace c1 := later_cell hlC2 c1
        replace c2 := later_cell hlC2 c2
        replace c3 := later_cell hlC2 c3
        replace c4 := later_cell hlC2 c4
        replace c5 := later_cell hlC2 c5
        replace c6 := later_cell hlC2 c6
        replace c7 := later_cell hlC2 c7
        have s0 := later_cell hlS2 ((cell_of_block KS.out 0).trans rfl)
        have s1 := later_cell hlS2 ((cell_of_block KS.out 1).trans rfl)
        haveI : Nonempty (Later V1) := ⟨⟨V1, Below.refl _ _⟩⟩
        refine wp_region_later (by kernel_rfl) (by kernel_rfl) ?_
        repeat (go_big_quiet_step ((go_at_call 60; exact later_call (HS.out _))))
        refine wpQuiet_nil ?_
        intro X1 hw'
        obtain ⟨⟨Xq, hX0⟩, hXe⟩ := hw'
        change X1 = Xq at hXe
        rw [← hXe] at hX0
        clear hXe Xq c0 c1 c2 c3 c4 c5 c6 c7 s0 s1 HS f0 f1 hlC2 hlS2
        replace KA := Lib.hid (keep_blk1 KA.out hX0)
        replace KC := Lib.hid (keep_blk1 KC.out hX0)
        replace KR := Lib.hid (keep_blk1 KR.out hX0)
        replace KS := Lib.hid (keep_blk1 KS.out hX0)
        replace KB := Lib.hid (keep_bl1 KB.out hX0)
        clear hX0
        have f0 := instr_field0
        have f1 := instr_field1
        have cC := (cells8 KC.out).1
        obtain ⟨c0, c1, c2, c3, c4, c5, c6, c7⟩ := cC
        go_wp2_with fail
        clear c0 c1 c2 c3 c4 c5 c6 c7
        refine (SpanOf_any lo' hi' k hlt X1).mono ?_
        rintro e Y2 ⟨rfl, hb⟩
        replace KA := Lib.hid (keep_blk1 KA.out hb)
        replace KC := Lib.hid (keep_blk1 KC.out hb)
        replace KR := Lib.hid (keep_blk1 KR.out hb)
        replace KS := Lib.hid (keep_blk1 KS.out hb)
        replace KB := Lib.hid (keep_bl1 KB.out hb)
        clear hb
        go_wp2_with (refine list_store3 (v := lo' k) rfl rfl rfl rfl rfl KS.out (by simp) ?_; intro Z3 hz hc; have hz2 : Z3.heap[BS]? = some (.cells #[.int .i64 (lo' k), .int .i64 (hi k)] 23 (0, 0)) := hz; replace KA := Lib.hid ((hc.2.1 _ NEA.out).trans KA.out); replace KC := Lib.hid ((hc.2.1 _ NEC.out).trans KC.out); replace KR := Lib.hid ((hc.2.1 _ NER.out).trans KR.out); replace KS := Lib.hid hz2; replace KB := Lib.hid (KB.out.trans (hc.below LB.out)); clear hz hz2 hc)
        clear f0 f1
        by_cases d2 : hi' k < hi k
        · have e2 : decide (hi' k < hi k) = true := decide_eq_true d2
          have f0 := instr_field0
          have f1 := instr_field1
          have HS := Lib.hid (fun (x : Later Z3) => SpanOf_any lo' hi' k hlt x.world)
          have hlC2 := lt_of_block KC.out
          have hlS2 := lt_of_block KS.out
          have cC := (cells8 KC.out).1
          obtain ⟨c0, c1, c2, c3, c4, c5, c6, c7⟩ := cC
          replace c0 := later_cell hlC2 c0
          replace c1 := later_cell hlC2 c1
          replace c2 := later_cell hlC2 c2
          replace c3 := later_cell hlC2 c3
          replace c4 := later_cell hlC2 c4
          replace c5 := later_cell hlC2 c5
          replace c6 := later_cell hlC2 c6
          replace c7 := later_cell hlC2 c7
          have s0 := later_cell hlS2 ((cell_of_block KS.out 0).trans rfl)
          have s1 := later_cell hlS2 ((cell_of_block KS.out 1).trans rfl)
          haveI : Nonempty (Later Z3) := ⟨⟨Z3, Below.refl _ _⟩⟩
          refine wp_region_later (by kernel_rfl) (by kernel_rfl) ?_
          repeat (go_big_quiet_step ((go_at_call 60; exact later_call (HS.out _))))
          refine wpQuiet_nil ?_
          intro X4 hw'
          obtain ⟨⟨Xq, hX0⟩, hXe⟩ := hw'
          change X4 = Xq at hXe
          rw [← hXe] at hX0
          clear hXe Xq c0 c1 c2 c3 c4 c5 c6 c7 s0 s1 HS f0 f1 hlC2 hlS2
          replace KA := Lib.hid (keep_blk1 KA.out hX0)
          replace KC := Lib.hid (keep_blk1 KC.out hX0)
          replace KR := Lib.hid (keep_blk1 KR.out hX0)
          replace KS := Lib.hid (keep_blk1 KS.out hX0)
          replace KB := Lib.hid (keep_bl1 KB.out hX0)
          clear hX0
          have f0 := instr_field0
          have f1 := instr_field1
          have cC := (cells8 KC.out).1
          obtain ⟨c0, c1, c2, c3, c4, c5, c6, c7⟩ := cC
          go_wp2_with fail
          clear c0 c1 c2 c3 c4 c5 c6 c7
          refine (SpanOf_any lo' hi' k hlt X4).mono ?_
          rintro e Y5 ⟨rfl, hb⟩
          replace KA := Lib.hid (keep_blk1 KA.out hb)
          replace KC := Lib.hid (keep_blk1 KC.out hb)
          replace KR := Lib.hid (keep_blk1 KR.out hb)
          replace KS := Lib.hid (keep_blk1 KS.out hb)
          replace KB := Lib.hid (keep_bl1 KB.out hb)
          clear hb
          go_wp2_with (refine list_store3 (v := hi' k) rfl rfl rfl rfl rfl KS.out (by simp) ?_; intro Z6 hz hc; have hz2 : Z6.heap[BS]? = some (.cells #[.int .i64 (lo' k), .int .i64 (hi' k)] 23 (0, 0)) := hz; replace KA := Lib.hid ((hc.2.1 _ NEA.out).trans KA.out); replace KC := Lib.hid ((hc.2.1 _ NEC.out).trans KC.out); replace KR := Lib.hid ((hc.2.1 _ NER.out).trans KR.out); replace KS := Lib.hid hz2; replace KB := Lib.hid (KB.out.trans (hc.below LB.out)); clear hz hz2 hc; have cA := (cells8 KA.out).1; obtain ⟨a0, a1, a2, a3, a4, a5, a6, a7⟩ := cA; have s0 := (cell_of_block KS.out 0).trans rfl; have s1 := (cell_of_block KS.out 1).trans rfl)
          clear f0 f1 a0 a1 a2 a3 a4 a5 a6 a7 s0 s1
          have hcon := with_any (upTo k (mxF lo lo') lo) (upTo k (mnF hi hi') hi) (lo' k) (hi' k) k hlt Z6
          have g1 : lo' k = (mxF lo lo') k := by unfold mxF mx; omega
          have g2 : hi' k = (mnF hi hi') k := by unfold mnF mn; omega
          rw [show setQ (upTo k (mxF lo lo') lo) k (lo' k) = upTo (k + 1) (mxF lo lo') lo by rw [g1, upTo_succ], show setQ (upTo k (mnF hi hi') hi) k (hi' k) = upTo (k + 1) (mnF hi hi') hi by rw [g2, upTo_succ]] at hcon
          refine hcon.mono ?_
          clear hcon g1 g2
          rintro e Y ⟨rfl, hb⟩
          replace KA := Lib.hid (keep_blk1 KA.out hb)
          replace KC := Lib.hid (keep_blk1 KC.out hb)
          replace KR := Lib.hid (keep_blk1 KR.out hb)
          replace KB := Lib.hid (keep_bl1 KB.out hb)
          clear hb KS
          go_wp2_with (refine list_store25 (y0 := upTo (k + 1) (mxF lo lo') lo 0) (y1 := upTo (k + 1) (mnF hi hi') hi 0) (y2 := upTo (k + 1) (mxF lo lo') lo 1) (y3 := upTo (k + 1) (mnF hi hi') hi 1) (y4 := upTo (k + 1) (mxF lo lo') lo 2) (y5 := upTo (k + 1) (mnF hi hi') hi 2) (y6 := upTo (k + 1) (mxF lo lo') lo 3) (y7 := upTo (k + 1) (mnF hi hi') hi 3) rfl rfl rfl rfl rfl KA.out ?_; intro Z hz hc; replace KA := Lib.hid hz; replace KC := Lib.hid ((hc.2.1 _ (by omega)).trans KC.out); replace KR := Lib.hid ((hc.2.1 _ (by omega)).trans KR.out); replace KB := Lib.hid (KB.out.trans (hc.below (Nat.le_refl _))); clear hz hc)
          go_roundw
          case rel => exact ⟨k + 1, by omega, by go_num, KA, KC, KR, KB⟩
          case measure => simp [intOf]; omega
        · have e2 : decide (hi' k < hi k) = false := decide_eq_false d2
          have f0 := instr_field0
          have f1 := instr_field1
          have HS := Lib.hid (fun (x : Later Z3) => SpanOf_any lo' hi' k hlt x.world)
          have hlC2 := lt_of_block KC.out
          have hlS2 := lt_of_block KS.out
          have cC := (cells8 KC.out).1
          obtain ⟨c0, c1, c2, c3, c4, c5, c6, c7⟩ := cC
          replace c0 := later_cell hlC2 c0
          replace c1 := later_cell hlC2 c1
          replace c2 := later_cell hlC2 c2
          replace c3 := later_cell hlC2 c3
          replace c4 := later_cell hlC2 c4
          replace c5 := later_cell hlC2 c5
          replace c6 := later_cell hlC2 c6
          replace c7 := later_cell hlC2 c7
          have s0 := later_cell hlS2 ((cell_of_block KS.out 0).trans rfl)
          have s1 := later_cell hlS2 ((cell_of_block KS.out 1).trans rfl)
          haveI : Nonempty (Later Z3) := ⟨⟨Z3, Below.refl _ _⟩⟩
          refine wp_region_later (by kernel_rfl) (by kernel_rfl) ?_
          repeat (go_big_quiet_step ((go_at_call 60; exact later_call (HS.out _))))
          refine wpQuiet_nil ?_
          intro X7 hw'
          obtain ⟨⟨Xq, hX0⟩, hXe⟩ := hw'
          change X7 = Xq at hXe
          rw [← hXe] at hX0
          clear hXe Xq c0 c1 c2 c3 c4 c5 c6 c7 s0 s1 HS f0 f1 hlC2 hlS2
          replace KA := Lib.hid (keep_blk1 KA.out hX0)
          replace KC := Lib.hid (keep_blk1 KC.out hX0)
          replace KR := Lib.hid (keep_blk1 KR.out hX0)
          replace KS := Lib.hid (keep_blk1 KS.out hX0)
          replace KB := Lib.hid (keep_bl1 KB.out hX0)
          clear hX0
          have cA := (cells8 KA.out).1
          obtain ⟨a0, a1, a2, a3, a4, a5, a6, a7⟩ := cA
          have s0 := (cell_of_block KS.out 0).trans rfl
          have s1 := (cell_of_block KS.out 1).trans rfl
          go_wp2_with fail
          clear a0 a1 a2 a3 a4 a5 a6 a7 s0 s1
          have hcon := with_any (upTo k (mxF lo lo') lo) (upTo k (mnF hi hi') hi) (lo' k) (hi k) k hlt X7
          have g1 : lo' k = (mxF lo lo') k := by unfold mxF mx; omega
          have g2 : hi k = (mnF hi hi') k := by unfold mnF mn; omega
          rw [show setQ (upTo k (mxF lo lo') lo) k (lo' k) = upTo (k + 1) (mxF lo lo') lo by rw [g1, upTo_succ], show setQ (upTo k (mnF hi hi') hi) k (hi k) = upTo (k + 1) (mnF hi hi') hi by rw [g2, upTo_succ]] at hcon
          refine hcon.mono ?_
          clear hcon g1 g2
          rintro e Y ⟨rfl, hb⟩
          replace KA := Lib.hid (keep_blk1 KA.out hb)
          replace KC := Lib.hid (keep_blk1 KC.out hb)
          replace KR := Lib.hid (keep_blk1 KR.out hb)
          replace KB := Lib.hid (keep_bl1 KB.out hb)
          clear hb KS
          go_wp2_with (refine list_store25 (y0 := upTo (k + 1) (mxF lo lo') lo 0) (y1 := upTo (k + 1) (mnF hi hi') hi 0) (y2 := upTo (k + 1) (mxF lo lo') lo 1) (y3 := upTo (k + 1) (mnF hi hi') hi 1) (y4 := upTo (k + 1) (mxF lo lo') lo 2) (y5 := upTo (k + 1) (mnF hi hi') hi 2) (y6 := upTo (k + 1) (mxF lo lo') lo 3) (y7 := upTo (k + 1) (mnF hi hi') hi 3) rfl rfl rfl rfl rfl KA.out ?_; intro Z hz hc; replace KA := Lib.hid hz; replace KC := Lib.hid ((hc.2.1 _ (by omega)).trans KC.out); replace KR := Lib.hid ((hc.2.1 _ (by omega)).trans KR.out); replace KB := Lib.hid (KB.out.trans (hc.below (Nat.le_refl _))); clear hz hc)
          go_roundw
          case rel => exact ⟨k + 1, by omega, by go_num, KA, KC, KR, KB⟩
          case measure => simp [intOf]; omega
      · have e1 : decide (lo k < lo' k) = false := decide_eq_false d1
        have f0 := instr_field0
        have f1 := instr_field1
        have HS := Lib.hid (fun (x : Later V1) => SpanOf_any lo' hi' k hlt x.world)
        have hlC2 := lt_of_block KC.out
        have hlS2 := lt_of_block KS.out
        have cC := (cells8 KC.out).1
        obtain ⟨c0, c1, c2, c3, c4, c5, c6, c7⟩ := cC
        replace c0 := later_cell hlC2 c0
        replace c1 := later_cell hlC2 c1
        replace c2 := later_cell hlC2 c2
        replace c3 := later_cell hlC2 c3
        replace c4 := later_cell hlC2 c4
        replace c5 := later_cell hlC2 c5
        replace c6 := later_cell hlC2 c6
        replace c7 := later_cell hlC2 c7
        have s0 := later_cell hlS2 ((cell_of_block KS.out 0).trans rfl)
        have s1 := later_cell hlS2 ((cell_of_block KS.out 1).trans rfl)
        haveI : Nonempty (Later V1) := ⟨⟨V1, Below.refl _ _⟩⟩
        refine wp_region_later (by kernel_rfl) (by kernel_rfl) ?_
        repeat (go_big_quiet_step ((go_at_call 60; exact later_call (HS.out _))))
        refine wpQuiet_nil ?_
        intro X8 hw'
        obtain ⟨⟨Xq, hX0⟩, hXe⟩ := hw'
        change X8 = Xq at hXe
        rw [← hXe] at hX0
        clear hXe Xq c0 c1 c2 c3 c4 c5 c6 c7 s0 s1 HS f0 f1 hlC2 hlS2
        replace KA := Lib.hid (keep_blk1 KA.out hX0)
        replace KC := Lib.hid (keep_blk1 KC.out hX0)
        replace KR := Lib.hid (keep_blk1 KR.out hX0)
        replace KS := Lib.hid (keep_blk1 KS.out hX0)
        replace KB := Lib.hid (keep_bl1 KB.out hX0)
        clear hX0
        go_wp2_with fail
        by_cases d2 : hi' k < hi k
        · have e2 : decide (hi' k < hi k) = true := decide_eq_true d2
          have f0 := instr_field0
          have f1 := instr_field1
          have HS := Lib.hid (fun (x : Later X8) => SpanOf_any lo' hi' k hlt x.world)
          have hlC2 := lt_of_block KC.out
          have hlS2 := lt_of_block KS.out
          have cC := (cells8 KC.out).1
          obtain ⟨c0, c1, c2, c3, c4, c5, c6, c7⟩ := cC
          replace c0 := later_cell hlC2 c0
          replace c1 := later_cell hlC2 c1
          replace c2 := later_cell hlC2 c2
          replace c3 := later_cell hlC2 c3
          replace c4 := later_cell hlC2 c4
          replace c5 := later_cell hlC2 c5
          replace c6 := later_cell hlC2 c6
          replace c7 := later_cell hlC2 c7
          have s0 := later_cell hlS2 ((cell_of_block KS.out 0).trans rfl)
          have s1 := later_cell hlS2 ((cell_of_block KS.out 1).trans rfl)
          haveI : Nonempty (Later X8) := ⟨⟨X8, Below.refl _ _⟩⟩
          refine wp_region_later (by kernel_rfl) (by kernel_rfl) ?_
          repeat (go_big_quiet_step ((go_at_call 60; exact later_call (HS.out _))))
          refine wpQuiet_nil ?_
          intro X9 hw'
          obtain ⟨⟨Xq, hX0⟩, hXe⟩ := hw'
          change X9 = Xq at hXe
          rw [← hXe] at hX0
          clear hXe Xq c0 c1 c2 c3 c4 c5 c6 c7 s0 s1 HS f0 f1 hlC2 hlS2
          replace KA := Lib.hid (keep_blk1 KA.out hX0)
          replace KC := Lib.hid (keep_blk1 KC.out hX0)
          replace KR := Lib.hid (keep_blk1 KR.out hX0)
          replace KS := Lib.hid (keep_blk1 KS.out hX0)
          replace KB := Lib.hid (keep_bl1 KB.out hX0)
          clear hX0
          have f0 := instr_field0
          have f1 := instr_field1
          have cC := (cells8 KC.out).1
          obtain ⟨c0, c1, c2, c3, c4, c5, c6, c7⟩ := cC
          go_wp2_with fail
          clear c0 c1 c2 c3 c4 c5 c6 c7
          refine (SpanOf_any lo' hi' k hlt X9).mono ?_
          rintro e Y10 ⟨rfl, hb⟩
          replace KA := Lib.hid (keep_blk1 KA.out hb)
          replace KC := Lib.hid (keep_blk1 KC.out hb)
          replace KR := Lib.hid (keep_blk1 KR.out hb)
          replace KS := Lib.hid (keep_blk1 KS.out hb)
          replace KB := Lib.hid (keep_bl1 KB.out hb)
          clear hb
          go_wp2_with (refine list_store3 (v := hi' k) rfl rfl rfl rfl rfl KS.out (by simp) ?_; intro Z11 hz hc; have hz2 : Z11.heap[BS]? = some (.cells #[.int .i64 (lo k), .int .i64 (hi' k)] 23 (0, 0)) := hz; replace KA := Lib.hid ((hc.2.1 _ NEA.out).trans KA.out); replace KC := Lib.hid ((hc.2.1 _ NEC.out).trans KC.out); replace KR := Lib.hid ((hc.2.1 _ NER.out).trans KR.out); replace KS := Lib.hid hz2; replace KB := Lib.hid (KB.out.trans (hc.below LB.out)); clear hz hz2 hc; have cA := (cells8 KA.out).1; obtain ⟨a0, a1, a2, a3, a4, a5, a6, a7⟩ := cA; have s0 := (cell_of_block KS.out 0).trans rfl; have s1 := (cell_of_block KS.out 1).trans rfl)
          clear f0 f1 a0 a1 a2 a3 a4 a5 a6 a7 s0 s1
          have hcon := with_any (upTo k (mxF lo lo') lo) (upTo k (mnF hi hi') hi) (lo k) (hi' k) k hlt Z11
          have g1 : lo k = (mxF lo lo') k := by unfold mxF mx; omega
          have g2 : hi' k = (mnF hi hi') k := by unfold mnF mn; omega
          rw [show setQ (upTo k (mxF lo lo') lo) k (lo k) = upTo (k + 1) (mxF lo lo') lo by rw [g1, upTo_succ], show setQ (upTo k (mnF hi hi') hi) k (hi' k) = upTo (k + 1) (mnF hi hi') hi by rw [g2, upTo_succ]] at hcon
          refine hcon.mono ?_
          clear hcon g1 g2
          rintro e Y ⟨rfl, hb⟩
          replace KA := Lib.hid (keep_blk1 KA.out hb)
          replace KC := Lib.hid (keep_blk1 KC.out hb)
          replace KR := Lib.hid (keep_blk1 KR.out hb)
          replace KB := Lib.hid (keep_bl1 KB.out hb)
          clear hb KS
          go_wp2_with (refine list_store25 (y0 := upTo (k + 1) (mxF lo lo') lo 0) (y1 := upTo (k + 1) (mnF hi hi') hi 0) (y2 := upTo (k + 1) (mxF lo lo') lo 1) (y3 := upTo (k + 1) (mnF hi hi') hi 1) (y4 := upTo (k + 1) (mxF lo lo') lo 2) (y5 := upTo (k + 1) (mnF hi hi') hi 2) (y6 := upTo (k + 1) (mxF lo lo') lo 3) (y7 := upTo (k + 1) (mnF hi hi') hi 3) rfl rfl rfl rfl rfl KA.out ?_; intro Z hz hc; replace KA := Lib.hid hz; replace KC := Lib.hid ((hc.2.1 _ (by omega)).trans KC.out); replace KR := Lib.hid ((hc.2.1 _ (by omega)).trans KR.out); replace KB := Lib.hid (KB.out.trans (hc.below (Nat.le_refl _))); clear hz hc)
          go_roundw
          case rel => exact ⟨k + 1, by omega, by go_num, KA, KC, KR, KB⟩
          case measure => simp [intOf]; omega
        · have e2 : decide (hi' k < hi k) = false := decide_eq_false d2
          have f0 := instr_field0
          have f1 := instr_field1
          have HS := Lib.hid (fun (x : Later X8) => SpanOf_any lo' hi' k hlt x.world)
          have hlC2 := lt_of_block KC.out
          have hlS2 := lt_of_block KS.out
          have cC := (cells8 KC.out).1
          obtain ⟨c0, c1, c2, c3, c4, c5, c6, c7⟩ := cC
          replace c0 := later_cell hlC2 c0
          replace c1 := later_cell hlC2 c1
          replace c2 := later_cell hlC2 c2
          replace c3 := later_cell hlC2 c3
          replace c4 := later_cell hlC2 c4
          replace c5 := later_cell hlC2 c5
          replace c6 := later_cell hlC2 c6
          replace c7 := later_cell hlC2 c7
          have s0 := later_cell hlS2 ((cell_of_block KS.out 0).trans rfl)
          have s1 := later_cell hlS2 ((cell_of_block KS.out 1).trans rfl)
          haveI : Nonempty (Later X8) := ⟨⟨X8, Below.refl _ _⟩⟩
          refine wp_region_later (by kernel_rfl) (by kernel_rfl) ?_
          repeat (go_big_quiet_step ((go_at_call 60; exact later_call (HS.out _))))
          refine wpQuiet_nil ?_
          intro X12 hw'
          obtain ⟨⟨Xq, hX0⟩, hXe⟩ := hw'
          change X12 = Xq at hXe
          rw [← hXe] at hX0
          clear hXe Xq c0 c1 c2 c3 c4 c5 c6 c7 s0 s1 HS f0 f1 hlC2 hlS2
          replace KA := Lib.hid (keep_blk1 KA.out hX0)
          replace KC := Lib.hid (keep_blk1 KC.out hX0)
          replace KR := Lib.hid (keep_blk1 KR.out hX0)
          replace KS := Lib.hid (keep_blk1 KS.out hX0)
          replace KB := Lib.hid (keep_bl1 KB.out hX0)
          clear hX0
          have cA := (cells8 KA.out).1
          obtain ⟨a0, a1, a2, a3, a4, a5, a6, a7⟩ := cA
          have s0 := (cell_of_block KS.out 0).trans rfl
          have s1 := (cell_of_block KS.out 1).trans rfl
          go_wp2_with fail
          clear a0 a1 a2 a3 a4 a5 a6 a7 s0 s1
          have hcon := with_any (upTo k (mxF lo lo') lo) (upTo k (mnF hi hi') hi) (lo k) (hi k) k hlt X12
          have g1 : lo k = (mxF lo lo') k := by unfold mxF mx; omega
          have g2 : hi k = (mnF hi hi') k := by unfold mnF mn; omega
          rw [show setQ (upTo k (mxF lo lo') lo) k (lo k) = upTo (k + 1) (mxF lo lo') lo by rw [g1, upTo_succ], show setQ (upTo k (mnF hi hi') hi) k (hi k) = upTo (k + 1) (mnF hi hi') hi by rw [g2, upTo_succ]] at hcon
          refine hcon.mono ?_
          clear hcon g1 g2
          rintro e Y ⟨rfl, hb⟩
          replace KA := Lib.hid (keep_blk1 KA.out hb)
          replace KC := Lib.hid (keep_blk1 KC.out hb)
          replace KR := Lib.hid (keep_blk1 KR.out hb)
          replace KB := Lib.hid (keep_bl1 KB.out hb)
          clear hb KS
          go_wp2_with (refine list_store25 (y0 := upTo (k + 1) (mxF lo lo') lo 0) (y1 := upTo (k + 1) (mnF hi hi') hi 0) (y2 := upTo (k + 1) (mxF lo lo') lo 1) (y3 := upTo (k + 1) (mnF hi hi') hi 1) (y4 := upTo (k + 1) (mxF lo lo') lo 2) (y5 := upTo (k + 1) (mnF hi hi') hi 2) (y6 := upTo (k + 1) (mxF lo lo') lo 3) (y7 := upTo (k + 1) (mnF hi hi') hi 3) rfl rfl rfl rfl rfl KA.out ?_; intro Z hz hc; replace KA := Lib.hid hz; replace KC := Lib.hid ((hc.2.1 _ (by omega)).trans KC.out); replace KR := Lib.hid ((hc.2.1 _ (by omega)).trans KR.out); replace KB := Lib.hid (KB.out.trans (hc.below (Nat.le_refl _))); clear hz hc)
          go_roundw
          case rel => exact ⟨k + 1, by omega, by go_num, KA, KC, KR, KB⟩
          case measure => simp [intOf]; omega
    · obtain rfl : k = 4 := by omega
      replace KA := Lib.hid (show wr.heap[w.heap.size]? = some (.cells (cellA (mxF lo lo') (mnF hi hi')) 25 (0, 0)) from KA.out)
      have cA := (cells8 KA.out).1
      obtain ⟨a0, a1, a2, a3, a4, a5, a6, a7⟩ := cA
      go_wp2_with (refine list_store25 (y0 := (mxF lo lo') 0) (y1 := (mnF hi hi') 0) (y2 := (mxF lo lo') 1) (y3 := (mnF hi hi') 1) (y4 := (mxF lo lo') 2) (y5 := (mnF hi hi') 2) (y6 := (mxF lo lo') 3) (y7 := (mnF hi hi') 3) rfl rfl rfl rfl rfl KR.out ?_; intro Z hz hc)
      obtain ⟨⟨g0, g1, g2, g3, g4, g5, g6, g7⟩, _⟩ := cells8 hz
      refine bodyPost_ret (v := .agg (cellA (mxF lo lo') (mnF hi hi'))) ?_ rfl ⟨rfl, KB.out.trans (hc.below (by omega))⟩
      simp [results, Tryd.results78, go_sem, g0, g1, g2, g3, g4, g5, g6, g7]
set_option maxHeartbeats 4000000 in
theorem Cover_ref (lo hi lo' hi' : Nat → Int) (w : World) : Calls Tryd.prog 80 #[.agg (cellA lo hi), .agg (cellA lo' hi')] w fun e w' => e = .returned (.agg (cellA (mnF lo lo') (mxF hi hi'))) ∧ Below w.heap.size w w' := by
  obtain ⟨a1, a2, a3, a4, a5⟩ := three_allocs w (.cells (cellA lo hi) 25) (.cells (cellA lo' hi') 25) (.cells (cellA (fun _ => 0) (fun _ => 0)) 25)
  have KA := Lib.hid a1
  have KC := Lib.hid a2
  have KR := Lib.hid a3
  have KB := Lib.hid a5
  clear a1 a2 a3 a4 a5
  go_enter Tryd.func80, Tryd.ntmps80
  go_wp2_with fail
  generalize ((w.alloc (.cells (cellA lo hi) 25)).alloc (.cells (cellA lo' hi') 25)).alloc (.cells (cellA (fun _ => 0) (fun _ => 0)) 25) = V at *
  replace KA := Lib.hid (show V.heap[w.heap.size]? = some (.cells (cellA (upTo 0 (mnF lo lo') lo) (upTo 0 (mxF hi hi') hi)) 25 (0, 0)) from KA.out)
  go_loopw [5] (fun i wr => ∃ k : Nat, k ≤ 4 ∧ i = .int .i64 k ∧ Hid (wr.heap[w.heap.size]? = some (.cells (cellA (upTo k (mnF lo lo') lo) (upTo k (mxF hi hi') hi)) 25 (0, 0))) ∧ Hid (wr.heap[w.heap.size + 1]? = some (.cells (cellA lo' hi') 25 (0, 0))) ∧ Hid (wr.heap[w.heap.size + 1 + 1]? = some (.cells (cellA (fun _ => 0) (fun _ => 0)) 25 (0, 0))) ∧ Hid (Below w.heap.size w wr)) (fun i _ => 4 - (intOf i).toNat)
  case atStart => exact ⟨0, by omega, rfl, KA, KC, KR, KB⟩
  case round =>
    clear KA KC KR KB
    obtain ⟨k, hk, rfl, KA, KC, KR, KB⟩ := hrel
    by_cases hlt : k < 4
    · have hk4 : (k : Int) < 4 := by omega
      have hk0 : (0 : Int) ≤ (k : Int) := by omega
      have cA := (cells8 KA.out).1
      obtain ⟨a0, a1, a2, a3, a4, a5, a6, a7⟩ := cA
      go_wp2_with fail
      clear a0 a1 a2 a3 a4 a5 a6 a7
      have hcon := SpanOf_any (upTo k (mnF lo lo') lo) (upTo k (mxF hi hi') hi) k hlt wr
      rw [upTo_self, upTo_self] at hcon
      refine hcon.mono ?_
      clear hcon
      rintro e W1 ⟨rfl, hb⟩
      have NEA := Lib.hid (Nat.ne_of_lt (lt_of_block (keep_blk1 KA.out hb)))
      have NEC := Lib.hid (Nat.ne_of_lt (lt_of_block (keep_blk1 KC.out hb)))
      have NER := Lib.hid (Nat.ne_of_lt (lt_of_block (keep_blk1 KR.out hb)))
      have LB := Lib.hid (keep_bl1 KB.out hb).size
      replace KA := Lib.hid (keep_blk (o' := .cells #[.int .i64 (lo k), .int .i64 (hi k)] 23) KA.out hb)
      replace KC := Lib.hid (keep_blk (o' := .cells #[.int .i64 (lo k), .int .i64 (hi k)] 23) KC.out hb)
      replace KR := Lib.hid (keep_blk (o' := .cells #[.int .i64 (lo k), .int .i64 (hi k)] 23) KR.out hb)
      replace KB := Lib.hid (keep_bl (o' := .cells #[.int .i64 (lo k), .int .i64 (hi k)] 23) KB.out hb)
      clear hb
      have KS := Lib.hid (block_new W1 (.cells #[.int .i64 (lo k), .int .i64 (hi k)] 23))
      go_wp2_with fail
      generalize W1.alloc (.cells #[.int .i64 (lo k), .int .i64 (hi k)] 23) = V1 at *
      generalize W1.heap.size = BS at *
      by_cases d1 : lo' k < lo k
      · have e1 : decide (lo' k < lo k) = true := decide_eq_true d1
        have f0 := instr_field0
        have f1 := instr_field1
        have HS := Lib.hid (fun (x : Later V1) => SpanOf_any lo' hi' k hlt x.world)
        have hlC2 := lt_of_block KC.out
        have hlS2 := lt_of_block KS.out
        have cC := (cells8 KC.out).1
        obtain ⟨c0, c1, c2, c3, c4, c5, c6, c7⟩ := cC
        replace c0 := later_cell hlC2 c0
        replace c1 := later_cell hlC2 c1
        replace c2 := later_cell hlC2 c2
        replace c3 := later_cell hlC2 c3
        replace c4 := later_cell hlC2 c4
        replace c5 := later_cell hlC2 c5
        replace c6 := later_cell hlC2 c6
        replace c7 := later_cell hlC2 c7
        have s0 := later_cell hlS2 ((cell_of_block KS.out 0).trans rfl)
        have s1 := later_cell hlS2 ((cell_of_block KS.out 1).trans rfl)
        haveI : Nonempty (Later V1) := ⟨⟨V1, Below.refl _ _⟩⟩
        refine wp_region_later (by kernel_rfl) (by kernel_rfl) ?_
        repeat (go_big_quiet_step ((go_at_call 60; exact later_call (HS.out _))))
        refine wpQuiet_nil ?_
        intro X1 hw'
        obtain ⟨⟨Xq, hX0⟩, hXe⟩ := hw'
        change X1 = Xq at hXe
        rw [← hXe] at hX0
        clear hXe Xq c0 c1 c2 c3 c4 c5 c6 c7 s0 s1 HS f0 f1 hlC2 hlS2
        replace KA := Lib.hid (keep_blk1 KA.out hX0)
        replace KC := Lib.hid (keep_blk1 KC.out hX0)
        replace KR := Lib.hid (keep_blk1 KR.out hX0)
        replace KS := Lib.hid (keep_blk1 KS.out hX0)
        replace KB := Lib.hid (keep_bl1 KB.out hX0)
        clear hX0
        have f0 := instr_field0
        have f1 := instr_field1
        have cC := (cells8 KC.out).1
        obtain ⟨c0, c1, c2, c3, c4, c5, c6, c7⟩ := cC
        go_wp2_with fail
        clear c0 c1 c2 c3 c4 c5 c6 c7
        refine (SpanOf_any lo' hi' k hlt X1).mono ?_
        rintro e Y2 ⟨rfl, hb⟩
        replace KA := Lib.hid (keep_blk1 KA.out hb)
        replace KC := Lib.hid (keep_blk1 KC.out hb)
        replace KR := Lib.hid (keep_blk1 KR.out hb)
        replace KS := Lib.hid (keep_blk1 KS.out hb)
        replace KB := Lib.hid (keep_bl1 KB.out hb)
        clear hb
        go_wp2_with (refine list_store3 (v := lo' k) rfl rfl rfl rfl rfl KS.out (by simp) ?_; intro Z3 hz hc; have hz2 : Z3.heap[BS]? = some (.cells #[.int .i64 (lo' k), .int .i64 (hi k)] 23 (0, 0)) := hz; replace KA := Lib.hid ((hc.2.1 _ NEA.out).trans KA.out); replace KC := Lib.hid ((hc.2.1 _ NEC.out).trans KC.out); replace KR := Lib.hid ((hc.2.1 _ NER.out).trans KR.out); replace KS := Lib.hid hz2; replace KB := Lib.hid (KB.out.trans (hc.below LB.out)); clear hz hz2 hc)
        clear f0 f1
        by_cases d2 : hi k < hi' k
        · have e2 : decide (hi k < hi' k) = true := decide_eq_true d2
          have f0 := instr_field0
          have f1 := instr_field1
          have HS := Lib.hid (fun (x : Later Z3) => SpanOf_any lo' hi' k hlt x.world)
          have hlC2 := lt_of_block KC.out
          have hlS2 := lt_of_block KS.out
          have cC := (cells8 KC.out).1
          obtain ⟨c0, c1, c2, c3, c4, c5, c6, c7⟩ := cC
          replace c0 := later_cell hlC2 c0
          replace c1 := later_cell hlC2 c1
          replace c2 := later_cell hlC2 c2
          replace c3 := later_cell hlC2 c3
          replace c4 := later_cell hlC2 c4
          replace c5 := later_cell hlC2 c5
          replace c6 := later_cell hlC2 c6
          replace c7 := later_cell hlC2 c7
          have s0 := later_cell hlS2 ((cell_of_block KS.out 0).trans rfl)
          have s1 := later_cell hlS2 ((cell_of_block KS.out 1).trans rfl)
          haveI : Nonempty (Later Z3) := ⟨⟨Z3, Below.refl _ _⟩⟩
          refine wp_region_later (by kernel_rfl) (by kernel_rfl) ?_
          repeat (go_big_quiet_step ((go_at_call 60; exact later_call (HS.out _))))
          refine wpQuiet_nil ?_
          intro X4 hw'
          obtain ⟨⟨Xq, hX0⟩, hXe⟩ := hw'
          change X4 = Xq at hXe
          rw [← hXe] at hX0
          clear hXe Xq c0 c1 c2 c3 c4 c5 c6 c7 s0 s1 HS f0 f1 hlC2 hlS2
          replace KA := Lib.hid (keep_blk1 KA.out hX0)
          replace KC := Lib.hid (keep_blk1 KC.out hX0)
          replace KR := Lib.hid (keep_blk1 KR.out hX0)
          replace KS := Lib.hid (keep_blk1 KS.out hX0)
          replace KB := Lib.hid (keep_bl1 KB.out hX0)
          clear hX0
          have f0 := instr_field0
          have f1 := instr_field1
          have cC := (cells8 KC.out).1
          obtain ⟨c0, c1, c2, c3, c4, c5, c6, c7⟩ := cC
          go_wp2_with fail
          clear c0 c1 c2 c3 c4 c5 c6 c7
          refine (SpanOf_any lo' hi' k hlt X4).mono ?_
          rintro e Y5 ⟨rfl, hb⟩
          replace KA := Lib.hid (keep_blk1 KA.out hb)
          replace KC := Lib.hid (keep_blk1 KC.out hb)
          replace KR := Lib.hid (keep_blk1 KR.out hb)
          replace KS := Lib.hid (keep_blk1 KS.out hb)
          replace KB := Lib.hid (keep_bl1 KB.out hb)
          clear hb
          go_wp2_with (refine list_store3 (v := hi' k) rfl rfl rfl rfl rfl KS.out (by simp) ?_; intro Z6 hz hc; have hz2 : Z6.heap[BS]? = some (.cells #[.int .i64 (lo' k), .int .i64 (hi' k)] 23 (0, 0)) := hz; replace KA := Lib.hid ((hc.2.1 _ NEA.out).trans KA.out); replace KC := Lib.hid ((hc.2.1 _ NEC.out).trans KC.out); replace KR := Lib.hid ((hc.2.1 _ NER.out).trans KR.out); replace KS := Lib.hid hz2; replace KB := Lib.hid (KB.out.trans (hc.below LB.out)); clear hz hz2 hc; have cA := (cells8 KA.out).1; obtain ⟨a0, a1, a2, a3, a4, a5, a6, a7⟩ := cA; have s0 := (cell_of_block KS.out 0).trans rfl; have s1 := (cell_of_block KS.out 1).trans rfl)
          clear f0 f1 a0 a1 a2 a3 a4 a5 a6 a7 s0 s1
          have hcon := with_any (upTo k (mnF lo lo') lo) (upTo k (mxF hi hi') hi) (lo' k) (hi' k) k hlt Z6
          have g1 : lo' k = (mnF lo lo') k := by unfold mnF mn; omega
          have g2 : hi' k = (mxF hi hi') k := by unfold mxF mx; omega
          rw [show setQ (upTo k (mnF lo lo') lo) k (lo' k) = upTo (k + 1) (mnF lo lo') lo by rw [g1, upTo_succ], show setQ (upTo k (mxF hi hi') hi) k (hi' k) = upTo (k + 1) (mxF hi hi') hi by rw [g2, upTo_succ]] at hcon
          refine hcon.mono ?_
          clear hcon g1 g2
          rintro e Y ⟨rfl, hb⟩
          replace KA := Lib.hid (keep_blk1 KA.out hb)
          replace KC := Lib.hid (keep_blk1 KC.out hb)
          replace KR := Lib.hid (keep_blk1 KR.out hb)
          replace KB := Lib.hid (keep_bl1 KB.out hb)
          clear hb KS
          go_wp2_with (refine list_store25 (y0 := upTo (k + 1) (mnF lo lo') lo 0) (y1 := upTo (k + 1) (mxF hi hi') hi 0) (y2 := upTo (k + 1) (mnF lo lo') lo 1) (y3 := upTo (k + 1) (mxF hi hi') hi 1) (y4 := upTo (k + 1) (mnF lo lo') lo 2) (y5 := upTo (k + 1) (mxF hi hi') hi 2) (y6 := upTo (k + 1) (mnF lo lo') lo 3) (y7 := upTo (k + 1) (mxF hi hi') hi 3) rfl rfl rfl rfl rfl KA.out ?_; intro Z hz hc; replace KA := Lib.hid hz; replace KC := Lib.hid ((hc.2.1 _ (by omega)).trans KC.out); replace KR := Lib.hid ((hc.2.1 _ (by omega)).trans KR.out); replace KB := Lib.hid (KB.out.trans (hc.below (Nat.le_refl _))); clear hz hc)
          go_roundw
          case rel => exact ⟨k + 1, by omega, by go_num, KA, KC, KR, KB⟩
          case measure => simp [intOf]; omega
        · have e2 : decide (hi k < hi' k) = false := decide_eq_false d2
          have f0 := instr_field0
          have f1 := instr_field1
          have HS := Lib.hid (fun (x : Later Z3) => SpanOf_any lo' hi' k hlt x.world)
          have hlC2 := lt_of_block KC.out
          have hlS2 := lt_of_block KS.out
          have cC := (cells8 KC.out).1
          obtain ⟨c0, c1, c2, c3, c4, c5, c6, c7⟩ := cC
          replace c0 := later_cell hlC2 c0
          replace c1 := later_cell hlC2 c1
          replace c2 := later_cell hlC2 c2
          replace c3 := later_cell hlC2 c3
          replace c4 := later_cell hlC2 c4
          replace c5 := later_cell hlC2 c5
          replace c6 := later_cell hlC2 c6
          replace c7 := later_cell hlC2 c7
          have s0 := later_cell hlS2 ((cell_of_block KS.out 0).trans rfl)
          have s1 := later_cell hlS2 ((cell_of_block KS.out 1).trans rfl)
          haveI : Nonempty (Later Z3) := ⟨⟨Z3, Below.refl _ _⟩⟩
          refine wp_region_later (by kernel_rfl) (by kernel_rfl) ?_
          repeat (go_big_quiet_step ((go_at_call 60; exact later_call (HS.out _))))
          refine wpQuiet_nil ?_
          intro X7 hw'
          obtain ⟨⟨Xq, hX0⟩, hXe⟩ := hw'
          change X7 = Xq at hXe
          rw [← hXe] at hX0
          clear hXe Xq c0 c1 c2 c3 c4 c5 c6 c7 s0 s1 HS f0 f1 hlC2 hlS2
          replace KA := Lib.hid (keep_blk1 KA.out hX0)
          replace KC := Lib.hid (keep_blk1 KC.out hX0)
          replace KR := Lib.hid (keep_blk1 KR.out hX0)
          replace KS := Lib.hid (keep_blk1 KS.out hX0)
          replace KB := Lib.hid (keep_bl1 KB.out hX0)
          clear hX0
          have cA := (cells8 KA.out).1
          obtain ⟨a0, a1, a2, a3, a4, a5, a6, a7⟩ := cA
          have s0 := (cell_of_block KS.out 0).trans rfl
          have s1 := (cell_of_block KS.out 1).trans rfl
          go_wp2_with fail
          clear a0 a1 a2 a3 a4 a5 a6 a7 s0 s1
          have hcon := with_any (upTo k (mnF lo lo') lo) (upTo k (mxF hi hi') hi) (lo' k) (hi k) k hlt X7
          have g1 : lo' k = (mnF lo lo') k := by unfold mnF mn; omega
          have g2 : hi k = (mxF hi hi') k := by unfold mxF mx; omega
          rw [show setQ (upTo k (mnF lo lo') lo) k (lo' k) = upTo (k + 1) (mnF lo lo') lo by rw [g1, upTo_succ], show setQ (upTo k (mxF hi hi') hi) k (hi k) = upTo (k + 1) (mxF hi hi') hi by rw [g2, upTo_succ]] at hcon
          refine hcon.mono ?_
          clear hcon g1 g2
          rintro e Y ⟨rfl, hb⟩
          replace KA := Lib.hid (keep_blk1 KA.out hb)
          replace KC := Lib.hid (keep_blk1 KC.out hb)
          replace KR := Lib.hid (keep_blk1 KR.out hb)
          replace KB := Lib.hid (keep_bl1 KB.out hb)
          clear hb KS
          go_wp2_with (refine list_store25 (y0 := upTo (k + 1) (mnF lo lo') lo 0) (y1 := upTo (k + 1) (mxF hi hi') hi 0) (y2 := upTo (k + 1) (mnF lo lo') lo 1) (y3 := upTo (k + 1) (mxF hi hi') hi 1) (y4 := upTo (k + 1) (mnF lo lo') lo 2) (y5 := upTo (k + 1) (mxF hi hi') hi 2) (y6 := upTo (k + 1) (mnF lo lo') lo 3) (y7 := upTo (k + 1) (mxF hi hi') hi 3) rfl rfl rfl rfl rfl KA.out ?_; intro Z hz hc; replace KA := Lib.hid hz; replace KC := Lib.hid ((hc.2.1 _ (by omega)).trans KC.out); replace KR := Lib.hid ((hc.2.1 _ (by omega)).trans KR.out); replace KB := Lib.hid (KB.out.trans (hc.below (Nat.le_refl _))); clear hz hc)
          go_roundw
          case rel => exact ⟨k + 1, by omega, by go_num, KA, KC, KR, KB⟩
          case measure => simp [intOf]; omega
      · have e1 : decide (lo' k < lo k) = false := decide_eq_false d1
        have f0 := instr_field0
        have f1 := instr_field1
        have HS := Lib.hid (fun (x : Later V1) => SpanOf_any lo' hi' k hlt x.world)
        have hlC2 := lt_of_block KC.out
        have hlS2 := lt_of_block KS.out
        have cC := (cells8 KC.out).1
        obtain ⟨c0, c1, c2, c3, c4, c5, c6, c7⟩ := cC
        replace c0 := later_cell hlC2 c0
        replace c1 := later_cell hlC2 c1
        replace c2 := later_cell hlC2 c2
        replace c3 := later_cell hlC2 c3
        replace c4 := later_cell hlC2 c4
        replace c5 := later_cell hlC2 c5
        replace c6 := later_cell hlC2 c6
        replace c7 := later_cell hlC2 c7
        have s0 := later_cell hlS2 ((cell_of_block KS.out 0).trans rfl)
        have s1 := later_cell hlS2 ((cell_of_block KS.out 1).trans rfl)
        haveI : Nonempty (Later V1) := ⟨⟨V1, Below.refl _ _⟩⟩
        refine wp_region_later (by kernel_rfl) (by kernel_rfl) ?_
        repeat (go_big_quiet_step ((go_at_call 60; exact later_call (HS.out _))))
        refine wpQuiet_nil ?_
        intro X8 hw'
        obtain ⟨⟨Xq, hX0⟩, hXe⟩ := hw'
        change X8 = Xq at hXe
        rw [← hXe] at hX0
        clear hXe Xq c0 c1 c2 c3 c4 c5 c6 c7 s0 s1 HS f0 f1 hlC2 hlS2
        replace KA := Lib.hid (keep_blk1 KA.out hX0)
        replace KC := Lib.hid (keep_blk1 KC.out hX0)
        replace KR := Lib.hid (keep_blk1 KR.out hX0)
        replace KS := Lib.hid (keep_blk1 KS.out hX0)
        replace KB := Lib.hid (keep_bl1 KB.out hX0)
        clear hX0
        go_wp2_with fail
        by_cases d2 : hi k < hi' k
        · have e2 : decide (hi k < hi' k) = true := decide_eq_true d2
          have f0 := instr_field0
          have f1 := instr_field1
          have HS := Lib.hid (fun (x : Later X8) => SpanOf_any lo' hi' k hlt x.world)
          have hlC2 := lt_of_block KC.out
          have hlS2 := lt_of_block KS.out
          have cC := (cells8 KC.out).1
          obtain ⟨c0, c1, c2, c3, c4, c5, c6, c7⟩ := cC
          replace c0 := later_cell hlC2 c0
          replace c1 := later_cell hlC2 c1
          replace c2 := later_cell hlC2 c2
          replace c3 := later_cell hlC2 c3
          replace c4 := later_cell hlC2 c4
          replace c5 := later_cell hlC2 c5
          replace c6 := later_cell hlC2 c6
          replace c7 := later_cell hlC2 c7
          have s0 := later_cell hlS2 ((cell_of_block KS.out 0).trans rfl)
          have s1 := later_cell hlS2 ((cell_of_block KS.out 1).trans rfl)
          haveI : Nonempty (Later X8) := ⟨⟨X8, Below.refl _ _⟩⟩
          refine wp_region_later (by kernel_rfl) (by kernel_rfl) ?_
          repeat (go_big_quiet_step ((go_at_call 60; exact later_call (HS.out _))))
          refine wpQuiet_nil ?_
          intro X9 hw'
          obtain ⟨⟨Xq, hX0⟩, hXe⟩ := hw'
          change X9 = Xq at hXe
          rw [← hXe] at hX0
          clear hXe Xq c0 c1 c2 c3 c4 c5 c6 c7 s0 s1 HS f0 f1 hlC2 hlS2
          replace KA := Lib.hid (keep_blk1 KA.out hX0)
          replace KC := Lib.hid (keep_blk1 KC.out hX0)
          replace KR := Lib.hid (keep_blk1 KR.out hX0)
          replace KS := Lib.hid (keep_blk1 KS.out hX0)
          replace KB := Lib.hid (keep_bl1 KB.out hX0)
          clear hX0
          have f0 := instr_field0
          have f1 := instr_field1
          have cC := (cells8 KC.out).1
          obtain ⟨c0, c1, c2, c3, c4, c5, c6, c7⟩ := cC
          go_wp2_with fail
          clear c0 c1 c2 c3 c4 c5 c6 c7
          refine (SpanOf_any lo' hi' k hlt X9).mono ?_
          rintro e Y10 ⟨rfl, hb⟩
          replace KA := Lib.hid (keep_blk1 KA.out hb)
          replace KC := Lib.hid (keep_blk1 KC.out hb)
          replace KR := Lib.hid (keep_blk1 KR.out hb)
          replace KS := Lib.hid (keep_blk1 KS.out hb)
          replace KB := Lib.hid (keep_bl1 KB.out hb)
          clear hb
          go_wp2_with (refine list_store3 (v := hi' k) rfl rfl rfl rfl rfl KS.out (by simp) ?_; intro Z11 hz hc; have hz2 : Z11.heap[BS]? = some (.cells #[.int .i64 (lo k), .int .i64 (hi' k)] 23 (0, 0)) := hz; replace KA := Lib.hid ((hc.2.1 _ NEA.out).trans KA.out); replace KC := Lib.hid ((hc.2.1 _ NEC.out).trans KC.out); replace KR := Lib.hid ((hc.2.1 _ NER.out).trans KR.out); replace KS := Lib.hid hz2; replace KB := Lib.hid (KB.out.trans (hc.below LB.out)); clear hz hz2 hc; have cA := (cells8 KA.out).1; obtain ⟨a0, a1, a2, a3, a4, a5, a6, a7⟩ := cA; have s0 := (cell_of_block KS.out 0).trans rfl; have s1 := (cell_of_block KS.out 1).trans rfl)
          clear f0 f1 a0 a1 a2 a3 a4 a5 a6 a7 s0 s1
          have hcon := with_any (upTo k (mnF lo lo') lo) (upTo k (mxF hi hi') hi) (lo k) (hi' k) k hlt Z11
          have g1 : lo k = (mnF lo lo') k := by unfold mnF mn; omega
          have g2 : hi' k = (mxF hi hi') k := by unfold mxF mx; omega
          rw [show setQ (upTo k (mnF lo lo') lo) k (lo k) = upTo (k + 1) (mnF lo lo') lo by rw [g1, upTo_succ], show setQ (upTo k (mxF hi hi') hi) k (hi' k) = upTo (k + 1) (mxF hi hi') hi by rw [g2, upTo_succ]] at hcon
          refine hcon.mono ?_
          clear hcon g1 g2
          rintro e Y ⟨rfl, hb⟩
          replace KA := Lib.hid (keep_blk1 KA.out hb)
          replace KC := Lib.hid (keep_blk1 KC.out hb)
          replace KR := Lib.hid (keep_blk1 KR.out hb)
          replace KB := Lib.hid (keep_bl1 KB.out hb)
          clear hb KS
          go_wp2_with (refine list_store25 (y0 := upTo (k + 1) (mnF lo lo') lo 0) (y1 := upTo (k + 1) (mxF hi hi') hi 0) (y2 := upTo (k + 1) (mnF lo lo') lo 1) (y3 := upTo (k + 1) (mxF hi hi') hi 1) (y4 := upTo (k + 1) (mnF lo lo') lo 2) (y5 := upTo (k + 1) (mxF hi hi') hi 2) (y6 := upTo (k + 1) (mnF lo lo') lo 3) (y7 := upTo (k + 1) (mxF hi hi') hi 3) rfl rfl rfl rfl rfl KA.out ?_; intro Z hz hc; replace KA := Lib.hid hz; replace KC := Lib.hid ((hc.2.1 _ (by omega)).trans KC.out); replace KR := Lib.hid ((hc.2.1 _ (by omega)).trans KR.out); replace KB := Lib.hid (KB.out.trans (hc.below (Nat.le_refl _))); clear hz hc)
          go_roundw
          case rel => exact ⟨k + 1, by omega, by go_num, KA, KC, KR, KB⟩
          case measure => simp [intOf]; omega
        · have e2 : decide (hi k < hi' k) = false := decide_eq_false d2
          have f0 := instr_field0
          have f1 := instr_field1
          have HS := Lib.hid (fun (x : Later X8) => SpanOf_any lo' hi' k hlt x.world)
          have hlC2 := lt_of_block KC.out
          have hlS2 := lt_of_block KS.out
          have cC := (cells8 KC.out).1
          obtain ⟨c0, c1, c2, c3, c4, c5, c6, c7⟩ := cC
          replace c0 := later_cell hlC2 c0
          replace c1 := later_cell hlC2 c1
          replace c2 := later_cell hlC2 c2
          replace c3 := later_cell hlC2 c3
          replace c4 := later_cell hlC2 c4
          replace c5 := later_cell hlC2 c5
          replace c6 := later_cell hlC2 c6
          replace c7 := later_cell hlC2 c7
          have s0 := later_cell hlS2 ((cell_of_block KS.out 0).trans rfl)
          have s1 := later_cell hlS2 ((cell_of_block KS.out 1).trans rfl)
          haveI : Nonempty (Later X8) := ⟨⟨X8, Below.refl _ _⟩⟩
          refine wp_region_later (by kernel_rfl) (by kernel_rfl) ?_
          repeat (go_big_quiet_step ((go_at_call 60; exact later_call (HS.out _))))
          refine wpQuiet_nil ?_
          intro X12 hw'
          obtain ⟨⟨Xq, hX0⟩, hXe⟩ := hw'
          change X12 = Xq at hXe
          rw [← hXe] at hX0
          clear hXe Xq c0 c1 c2 c3 c4 c5 c6 c7 s0 s1 HS f0 f1 hlC2 hlS2
          replace KA := Lib.hid (keep_blk1 KA.out hX0)
          replace KC := Lib.hid (keep_blk1 KC.out hX0)
          replace KR := Lib.hid (keep_blk1 KR.out hX0)
          replace KS := Lib.hid (keep_blk1 KS.out hX0)
          replace KB := Lib.hid (keep_bl1 KB.out hX0)
          clear hX0
          have cA := (cells8 KA.out).1
          obtain ⟨a0, a1, a2, a3, a4, a5, a6, a7⟩ := cA
          have s0 := (cell_of_block KS.out 0).trans rfl
          have s1 := (cell_of_block KS.out 1).trans rfl
          go_wp2_with fail
          clear a0 a1 a2 a3 a4 a5 a6 a7 s0 s1
          have hcon := with_any (upTo k (mnF lo lo') lo) (upTo k (mxF hi hi') hi) (lo k) (hi k) k hlt X12
          have g1 : lo k = (mnF lo lo') k := by unfold mnF mn; omega
          have g2 : hi k = (mxF hi hi') k := by unfold mxF mx; omega
          rw [show setQ (upTo k (mnF lo lo') lo) k (lo k) = upTo (k + 1) (mnF lo lo') lo by rw [g1, upTo_succ], show setQ (upTo k (mxF hi hi') hi) k (hi k) = upTo (k + 1) (mxF hi hi') hi by rw [g2, upTo_succ]] at hcon
          refine hcon.mono ?_
          clear hcon g1 g2
          rintro e Y ⟨rfl, hb⟩
          replace KA := Lib.hid (keep_blk1 KA.out hb)
          replace KC := Lib.hid (keep_blk1 KC.out hb)
          replace KR := Lib.hid (keep_blk1 KR.out hb)
          replace KB := Lib.hid (keep_bl1 KB.out hb)
          clear hb KS
          go_wp2_with (refine list_store25 (y0 := upTo (k + 1) (mnF lo lo') lo 0) (y1 := upTo (k + 1) (mxF hi hi') hi 0) (y2 := upTo (k + 1) (mnF lo lo') lo 1) (y3 := upTo (k + 1) (mxF hi hi') hi 1) (y4 := upTo (k + 1) (mnF lo lo') lo 2) (y5 := upTo (k + 1) (mxF hi hi') hi 2) (y6 := upTo (k + 1) (mnF lo lo') lo 3) (y7 := upTo (k + 1) (mxF hi hi') hi 3) rfl rfl rfl rfl rfl KA.out ?_; intro Z hz hc; replace KA := Lib.hid hz; replace KC := Lib.hid ((hc.2.1 _ (by omega)).trans KC.out); replace KR := Lib.hid ((hc.2.1 _ (by omega)).trans KR.out); replace KB := Lib.hid (KB.out.trans (hc.below (Nat.le_refl _))); clear hz hc)
          go_roundw
          case rel => exact ⟨k + 1, by omega, by go_num, KA, KC, KR, KB⟩
          case measure => simp [intOf]; omega
    · obtain rfl : k = 4 := by omega
      replace KA := Lib.hid (show wr.heap[w.heap.size]? = some (.cells (cellA (mnF lo lo') (mxF hi hi')) 25 (0, 0)) from KA.out)
      have cA := (cells8 KA.out).1
      obtain ⟨a0, a1, a2, a3, a4, a5, a6, a7⟩ := cA
      go_wp2_with (refine list_store25 (y0 := (mnF lo lo') 0) (y1 := (mxF hi hi') 0) (y2 := (mnF lo lo') 1) (y3 := (mxF hi hi') 1) (y4 := (mnF lo lo') 2) (y5 := (mxF hi hi') 2) (y6 := (mnF lo lo') 3) (y7 := (mxF hi hi') 3) rfl rfl rfl rfl rfl KR.out ?_; intro Z hz hc)
      obtain ⟨⟨g0, g1, g2, g3, g4, g5, g6, g7⟩, _⟩ := cells8 hz
      refine bodyPost_ret (v := .agg (cellA (mnF lo lo') (mxF hi hi'))) ?_ rfl ⟨rfl, KB.out.trans (hc.below (by omega))⟩
      simp [results, Tryd.results80, go_sem, g0, g1, g2, g3, g4, g5, g6, g7]
/- Contracts of the reference's Whole, Has, Inside, Meet, Hull. -/
theorem apart_meet (lo hi lo' hi' : Nat → Int) (h : okCell lo hi = true) (h' : okCell lo' hi' = true) : apartB lo hi lo' hi' = !meetB lo hi lo' hi' := by
  rw [okCell_iff] at h h'
  unfold apartB
  congr 1
  rw [Bool.eq_iff_iff, allB_iff, meetB_iff]
  constructor <;> intro k q hq <;> have a := h q hq <;> have b := h' q hq <;> have c := k q hq <;> (try rw [decide_eq_true_eq] at *) <;> unfold mx mn at * <;> omega
theorem Whole_ref (w : World) : Calls Tryd.prog 19 #[] w fun e w' => e = .returned (.agg (cellA (fun _ => 0) lim)) ∧ Below w.heap.size w w' := by
  have HB := Lib.hid ((Below.refl w.heap.size w).alloc (Nat.le_refl _) (.cells (cellA (fun _ => 0) lim) 25))
  go_enter Tryd.func19, Tryd.ntmps19
  go_wp2_with fail
  refine bodyPost_ret (v := .agg (cellA (fun _ => 0) lim)) ?_ rfl ⟨rfl, HB.out⟩
  simp [results, Tryd.results19, go_sem, lim]
set_option maxHeartbeats 2000000 in
theorem two_ref (lo hi lo' hi' : Nat → Int) (w : World) : Calls Tryd.prog 74 #[.agg (cellA lo hi), .agg (cellA lo' hi')] w fun e w' => e = .returned (.int .i64 (twoE lo hi lo' hi')) ∧ Below w.heap.size w w' := by
  obtain ⟨a1, a2, a4, a5⟩ := two_allocs w (.cells (cellA lo hi) 25) (.cells (cellA lo' hi') 25)
  have KA := Lib.hid a1
  have KC := Lib.hid a2
  have KB := Lib.hid a5
  clear a1 a2 a4 a5
  go_enter Tryd.func74, Tryd.ntmps74
  have cA := (cells8 KA.out).1
  obtain ⟨a0, a1, a2, a3, a4, a5, a6, a7⟩ := cA
  have cC := (cells8 KC.out).1
  obtain ⟨c0, c1, c2, c3, c4, c5, c6, c7⟩ := cC
  go_wp2_with fail
  clear a0 a1 a2 a3 a4 a5 a6 a7 c0 c1 c2 c3 c4 c5 c6 c7
  generalize (w.alloc (.cells (cellA lo hi) 25)).alloc (.cells (cellA lo' hi') 25) = V at *
  refine (CheckCell_ref lo hi V).mono ?_
  rintro e W1 ⟨rfl, hb⟩
  replace KA := Lib.hid (keep_blk1 KA.out hb)
  replace KC := Lib.hid (keep_blk1 KC.out hb)
  replace KB := Lib.hid (keep_bl1 KB.out hb)
  clear hb
  cases h1 : okCell lo hi with
  | false =>
    have HF := Lib.hid (show twoE lo hi lo' hi' = 20 by unfold twoE; rw [h1]; rfl)
    clear h1
    simp only [errB, Bool.false_eq_true, if_false]
    go_wp2_with fail
    go_ret
    exact ⟨by rw [HF.out]; rfl, KB.out⟩
  | true =>
    have HF := Lib.hid (show twoE lo hi lo' hi' = errB (okCell lo' hi') 20 by unfold twoE; rw [h1, Bool.true_and])
    clear h1
    simp only [errB, if_true]
    have cC := (cells8 KC.out).1
    obtain ⟨c0, c1, c2, c3, c4, c5, c6, c7⟩ := cC
    go_wp2_with fail
    clear c0 c1 c2 c3 c4 c5 c6 c7
    refine (CheckCell_ref lo' hi' W1).mono ?_
    rintro e W2 ⟨rfl, hb⟩
    replace KA := Lib.hid (keep_blk1 KA.out hb)
    replace KC := Lib.hid (keep_blk1 KC.out hb)
    replace KB := Lib.hid (keep_bl1 KB.out hb)
    clear hb
    go_wp2_with fail
    go_ret
    exact ⟨by rw [HF.out]; rfl, KB.out⟩
set_option maxHeartbeats 2000000 in
theorem Has_ref (lo hi n : Nat → Int) (w : World) : Calls Tryd.prog 21 #[.agg (cellA lo hi), .agg (iceA n)] w fun e w' => e = .returned (hasRes lo hi n) ∧ Below w.heap.size w w' := by
  obtain ⟨a1, a2, a4, a5⟩ := two_allocs w (.cells (cellA lo hi) 25) (.cells (iceA n) 27)
  have KA := Lib.hid a1
  have KN := Lib.hid a2
  have KB := Lib.hid a5
  clear a1 a2 a4 a5
  go_enter Tryd.func21, Tryd.ntmps21
  have cA := (cells8 KA.out).1
  obtain ⟨a0, a1, a2, a3, a4, a5, a6, a7⟩ := cA
  go_wp2_with fail
  clear a0 a1 a2 a3 a4 a5 a6 a7
  generalize (w.alloc (.cells (cellA lo hi) 25)).alloc (.cells (iceA n) 27) = V at *
  refine (CheckCell_ref lo hi V).mono ?_
  rintro e W1 ⟨rfl, hb⟩
  replace KA := Lib.hid (keep_blk1 KA.out hb)
  replace KN := Lib.hid (keep_blk1 KN.out hb)
  replace KB := Lib.hid (keep_bl1 KB.out hb)
  clear hb
  cases h1 : okCell lo hi with
  | false =>
    have HF := Lib.hid (show hasRes lo hi n = .tuple #[.bool false, .int .i64 20] by have e0 : hasE lo hi n = 20 := (by unfold hasE orL errB; rw [h1]; rfl); unfold hasRes; rw [e0]; rfl)
    clear h1
    simp only [errB, Bool.false_eq_true, if_false]
    go_wp2_with fail
    refine bodyPost_ret (v := .tuple #[.bool false, .int .i64 20]) ?_ rfl ⟨by rw [HF.out], KB.out⟩
    simp [results, Tryd.results21, go_sem]
  | true =>
    have H1 := Lib.hid h1
    clear h1
    simp only [errB, if_true]
    have cN := (cells4 KN.out).1
    obtain ⟨n0, n1, n2, n3⟩ := cN
    go_wp2_with fail
    clear n0 n1 n2 n3
    refine (CheckIce_ref n W1).mono ?_
    rintro e W2 ⟨rfl, hb⟩
    replace KA := Lib.hid (keep_blk1 KA.out hb)
    replace KN := Lib.hid (keep_blk1 KN.out hb)
    replace KB := Lib.hid (keep_bl1 KB.out hb)
    clear hb
    cases h2 : okIce n with
    | false =>
      have HF := Lib.hid (show hasRes lo hi n = .tuple #[.bool false, .int .i64 20] by have e0 : hasE lo hi n = 20 := (by unfold hasE orL errB; rw [H1.out, h2]; rfl); unfold hasRes; rw [e0]; rfl)
      clear h2
      simp only [errB, Bool.false_eq_true, if_false]
      go_wp2_with fail
      refine bodyPost_ret (v := .tuple #[.bool false, .int .i64 20]) ?_ rfl ⟨by rw [HF.out], KB.out⟩
      simp [results, Tryd.results21, go_sem]
    | true =>
      have HF := Lib.hid (show hasRes lo hi n = .tuple #[.bool (hasB lo hi n), .int .i64 0] by have e0 : hasE lo hi n = 0 := (by unfold hasE orL errB; rw [H1.out, h2]; rfl); unfold hasRes; rw [e0]; rfl)
      clear h2
      simp only [errB, if_true]
      have cA := (cells8 KA.out).1
      obtain ⟨a0, a1, a2, a3, a4, a5, a6, a7⟩ := cA
      have cN := (cells4 KN.out).1
      obtain ⟨n0, n1, n2, n3⟩ := cN
      go_wp2_with fail
      clear a0 a1 a2 a3 a4 a5 a6 a7 n0 n1 n2 n3
      refine (Contains_ref lo hi n W2).mono ?_
      rintro e W3 ⟨rfl, hb⟩
      replace KA := Lib.hid (keep_blk1 KA.out hb)
      replace KN := Lib.hid (keep_blk1 KN.out hb)
      replace KB := Lib.hid (keep_bl1 KB.out hb)
      clear hb
      go_wp2_with fail
      refine bodyPost_ret (v := .tuple #[.bool (hasB lo hi n), .int .i64 0]) ?_ rfl ⟨by rw [HF.out], KB.out⟩
      simp [results, Tryd.results21, go_sem]
theorem inside_has (lo hi lo' hi' : Nat → Int) : insideB lo hi lo' hi' = (hasB lo' hi' lo && hasB lo' hi' hi) := by
  rw [Bool.eq_iff_iff, Bool.and_eq_true, insideB_iff, hasB_iff, hasB_iff]
  exact ⟨fun h => ⟨fun q hq => (h q hq).1, fun q hq => (h q hq).2⟩, fun h q hq => ⟨h.1 q hq, h.2 q hq⟩⟩
set_option maxHeartbeats 2000000 in
theorem within_ref (lo hi lo' hi' : Nat → Int) (w : World) : Calls Tryd.prog 75 #[.agg (cellA lo hi), .agg (cellA lo' hi')] w fun e w' => e = .returned (.bool (insideB lo hi lo' hi')) ∧ Below w.heap.size w w' := by
  obtain ⟨a1, a2, a4, a5⟩ := two_allocs w (.cells (cellA lo hi) 25) (.cells (cellA lo' hi') 25)
  have KA := Lib.hid a1
  have KC := Lib.hid a2
  have KB := Lib.hid a5
  clear a1 a2 a4 a5
  replace KB := Lib.hid ((KB.out.alloc (by simp; omega) (.cells (iceA lo) 27)).alloc (by simp; omega) (.cells (iceA hi) 27))
  have KL := Lib.hid ((Below.heap_alloc _ (.cells (iceA hi) 27) _ (by simp)).trans (block_new ((w.alloc (.cells (cellA lo hi) 25)).alloc (.cells (cellA lo' hi') 25)) (.cells (iceA lo) 27)))
  have KH := Lib.hid (block_new (((w.alloc (.cells (cellA lo hi) 25)).alloc (.cells (cellA lo' hi') 25)).alloc (.cells (iceA lo) 27)) (.cells (iceA hi) 27))
  have kc := (Below.heap_alloc _ (.cells (iceA hi) 27) _ (by simp)).trans ((Below.heap_alloc _ (.cells (iceA lo) 27) _ (by simp)).trans KC.out)
  simp only [World.size_alloc] at KL KH
  go_enter Tryd.func75, Tryd.ntmps75
  have cA := (cells8 KA.out).1
  obtain ⟨a0, a1, a2, a3, a4, a5, a6, a7⟩ := cA
  have kA := (Below.heap_alloc _ (.cells (iceA lo) 27) _ (by simp; omega)).trans KA.out
  have cA := (cells8 kA).1
  obtain ⟨b0, b1, b2, b3, b4, b5, b6, b7⟩ := cA
  have cC := (cells8 kc).1
  obtain ⟨c0, c1, c2, c3, c4, c5, c6, c7⟩ := cC
  have cL := (cells4 KL.out).1
  obtain ⟨d0, d1, d2, d3⟩ := cL
  replace KC := Lib.hid kc
  clear kc kA KA
  go_wp2_with fail
  clear a0 a1 a2 a3 a4 a5 a6 a7 b0 b1 b2 b3 b4 b5 b6 b7 c0 c1 c2 c3 c4 c5 c6 c7 d0 d1 d2 d3
  generalize (((w.alloc (.cells (cellA lo hi) 25)).alloc (.cells (cellA lo' hi') 25)).alloc (.cells (iceA lo) 27)).alloc (.cells (iceA hi) 27) = V at *
  clear KL
  refine (Contains_ref lo' hi' lo V).mono ?_
  rintro e W1 ⟨rfl, hb⟩
  replace KC := Lib.hid (keep_blk1 KC.out hb)
  replace KH := Lib.hid (keep_blk1 KH.out hb)
  replace KB := Lib.hid (keep_bl1 KB.out hb)
  clear hb
  cases h1 : hasB lo' hi' lo with
  | false =>
    have HF := Lib.hid (show insideB lo hi lo' hi' = false by rw [inside_has, h1]; rfl)
    clear h1
    go_wp2_with fail
    go_ret
    exact ⟨by rw [HF.out]; rfl, KB.out⟩
  | true =>
    have HF := Lib.hid (show insideB lo hi lo' hi' = hasB lo' hi' hi by rw [inside_has, h1]; rfl)
    clear h1
    have cC := (cells8 KC.out).1
    obtain ⟨c0, c1, c2, c3, c4, c5, c6, c7⟩ := cC
    have cH := (cells4 KH.out).1
    obtain ⟨h0, h1, h2, h3⟩ := cH
    go_wp2_with fail
    clear c0 c1 c2 c3 c4 c5 c6 c7 h0 h1 h2 h3
    refine (Contains_ref lo' hi' hi W1).mono ?_
    rintro e W2 ⟨rfl, hb⟩
    replace KC := Lib.hid (keep_blk1 KC.out hb)
    replace KH := Lib.hid (keep_blk1 KH.out hb)
    replace KB := Lib.hid (keep_bl1 KB.out hb)
    clear hb
    go_wp2_with fail
    go_ret
    exact ⟨by rw [HF.out]; rfl, KB.out⟩
theorem two_zero {lo hi lo' hi' : Nat → Int} (h : twoE lo hi lo' hi' = 0) : okCell lo hi = true ∧ okCell lo' hi' = true := by
  unfold twoE errB at h
  cases h1 : okCell lo hi with
  | false => rw [h1] at h; simp at h
  | true =>
    cases h2 : okCell lo' hi' with
    | false => rw [h1, h2] at h; simp at h
    | true => exact ⟨rfl, rfl⟩
set_option maxHeartbeats 2000000 in
theorem Inside_ref (lo hi lo' hi' : Nat → Int) (w : World) : Calls Tryd.prog 23 #[.agg (cellA lo hi), .agg (cellA lo' hi')] w fun e w' => e = .returned (insideRes lo hi lo' hi') ∧ Below w.heap.size w w' := by
  obtain ⟨a1, a2, a4, a5⟩ := two_allocs w (.cells (cellA lo hi) 25) (.cells (cellA lo' hi') 25)
  have KA := Lib.hid a1
  have KC := Lib.hid a2
  have KB := Lib.hid a5
  clear a1 a2 a4 a5
  go_enter Tryd.func23, Tryd.ntmps23
  have cA := (cells8 KA.out).1
  obtain ⟨a0, a1, a2, a3, a4, a5, a6, a7⟩ := cA
  have cC := (cells8 KC.out).1
  obtain ⟨c0, c1, c2, c3, c4, c5, c6, c7⟩ := cC
  go_wp2_with fail
  clear a0 a1 a2 a3 a4 a5 a6 a7 c0 c1 c2 c3 c4 c5 c6 c7
  generalize (w.alloc (.cells (cellA lo hi) 25)).alloc (.cells (cellA lo' hi') 25) = V at *
  refine (two_ref lo hi lo' hi' V).mono ?_
  rintro e W1 ⟨rfl, hb⟩
  replace KA := Lib.hid (keep_blk1 KA.out hb)
  replace KC := Lib.hid (keep_blk1 KC.out hb)
  replace KB := Lib.hid (keep_bl1 KB.out hb)
  clear hb
  by_cases hE : twoE lo hi lo' hi' = 0
  · have HR := Lib.hid (show insideRes lo hi lo' hi' = .tuple #[.bool (insideB lo hi lo' hi'), .int .i64 0] by unfold insideRes; rw [if_pos hE])
    have cA := (cells8 KA.out).1
    obtain ⟨a0, a1, a2, a3, a4, a5, a6, a7⟩ := cA
    have cC := (cells8 KC.out).1
    obtain ⟨c0, c1, c2, c3, c4, c5, c6, c7⟩ := cC
    go_wp2_with fail
    clear a0 a1 a2 a3 a4 a5 a6 a7 c0 c1 c2 c3 c4 c5 c6 c7
    refine (within_ref lo hi lo' hi' W1).mono ?_
    rintro e W2 ⟨rfl, hb⟩
    replace KA := Lib.hid (keep_blk1 KA.out hb)
    replace KC := Lib.hid (keep_blk1 KC.out hb)
    replace KB := Lib.hid (keep_bl1 KB.out hb)
    clear hb
    go_wp2_with fail
    refine bodyPost_ret (v := .tuple #[.bool (insideB lo hi lo' hi'), .int .i64 0]) ?_ rfl ⟨by rw [HR.out], KB.out⟩
    simp [results, Tryd.results23, go_sem]
  · have HR := Lib.hid (show insideRes lo hi lo' hi' = .tuple #[.bool false, .int .i64 (twoE lo hi lo' hi')] by unfold insideRes; rw [if_neg hE])
    go_wp2_with fail
    refine bodyPost_ret (v := .tuple #[.bool false, .int .i64 (twoE lo hi lo' hi')]) ?_ rfl ⟨by rw [HR.out], KB.out⟩
    simp [results, Tryd.results23, go_sem]
set_option maxHeartbeats 2000000 in
theorem Meet_ref (lo hi lo' hi' : Nat → Int) (w : World) : Calls Tryd.prog 25 #[.agg (cellA lo hi), .agg (cellA lo' hi')] w fun e w' => e = .returned (meetRes lo hi lo' hi') ∧ Below w.heap.size w w' := by
  obtain ⟨a1, a2, a3, a4, a5⟩ := three_allocs w (.cells (cellA lo hi) 25) (.cells (cellA lo' hi') 25) (.cells zero8 25)
  have KA := Lib.hid a1
  have KC := Lib.hid a2
  have KR := Lib.hid a3
  have KB := Lib.hid a5
  clear a1 a2 a3 a4 a5
  go_enter Tryd.func25, Tryd.ntmps25
  have cA := (cells8 KA.out).1
  obtain ⟨a0, a1, a2, a3, a4, a5, a6, a7⟩ := cA
  have cC := (cells8 KC.out).1
  obtain ⟨c0, c1, c2, c3, c4, c5, c6, c7⟩ := cC
  go_wp2_with fail
  clear a0 a1 a2 a3 a4 a5 a6 a7 c0 c1 c2 c3 c4 c5 c6 c7
  generalize ((w.alloc (.cells (cellA lo hi) 25)).alloc (.cells (cellA lo' hi') 25)).alloc (.cells zero8 25) = V at *
  refine (two_ref lo hi lo' hi' V).mono ?_
  rintro e W1 ⟨rfl, hb⟩
  replace KA := Lib.hid (keep_blk1 KA.out hb)
  replace KC := Lib.hid (keep_blk1 KC.out hb)
  replace KR := Lib.hid (keep_blk1 KR.out hb)
  replace KB := Lib.hid (keep_bl1 KB.out hb)
  clear hb
  by_cases hE : twoE lo hi lo' hi' = 0
  · have HE := Lib.hid hE
    have cA := (cells8 KA.out).1
    obtain ⟨a0, a1, a2, a3, a4, a5, a6, a7⟩ := cA
    have cC := (cells8 KC.out).1
    obtain ⟨c0, c1, c2, c3, c4, c5, c6, c7⟩ := cC
    go_wp2_with fail
    clear a0 a1 a2 a3 a4 a5 a6 a7 c0 c1 c2 c3 c4 c5 c6 c7 hE
    have hcon := Apart_ref lo hi lo' hi' W1
    rw [apart_meet lo hi lo' hi' (two_zero HE.out).1 (two_zero HE.out).2] at hcon
    refine hcon.mono ?_
    clear hcon
    rintro e W2 ⟨rfl, hb⟩
    replace KA := Lib.hid (keep_blk1 KA.out hb)
    replace KC := Lib.hid (keep_blk1 KC.out hb)
    replace KR := Lib.hid (keep_blk1 KR.out hb)
    replace KB := Lib.hid (keep_bl1 KB.out hb)
    clear hb
    cases hM : meetB lo hi lo' hi' with
    | true =>
      have HR := Lib.hid (show meetRes lo hi lo' hi' = .tuple #[.agg (cellA (mxF lo lo') (mnF hi hi')), .int .i64 0] by unfold meetRes; rw [if_pos HE.out, hM]; rfl)
      clear hM
      simp only [Bool.not_true]
      have cA := (cells8 KA.out).1
      obtain ⟨a0, a1, a2, a3, a4, a5, a6, a7⟩ := cA
      have cC := (cells8 KC.out).1
      obtain ⟨c0, c1, c2, c3, c4, c5, c6, c7⟩ := cC
      go_wp2_with fail
      clear a0 a1 a2 a3 a4 a5 a6 a7 c0 c1 c2 c3 c4 c5 c6 c7
      refine (Common_ref lo hi lo' hi' W2).mono ?_
      rintro e W3 ⟨rfl, hb⟩
      replace KA := Lib.hid (keep_blk1 KA.out hb)
      replace KC := Lib.hid (keep_blk1 KC.out hb)
      replace KR := Lib.hid (keep_blk1 KR.out hb)
      replace KB := Lib.hid (keep_bl1 KB.out hb)
      clear hb
      go_wp2_with (refine list_store25 (y0 := mxF lo lo' 0) (y1 := mnF hi hi' 0) (y2 := mxF lo lo' 1) (y3 := mnF hi hi' 1) (y4 := mxF lo lo' 2) (y5 := mnF hi hi' 2) (y6 := mxF lo lo' 3) (y7 := mnF hi hi' 3) rfl rfl rfl rfl rfl KR.out ?_; intro Z hz hc)
      obtain ⟨⟨g0, g1, g2, g3, g4, g5, g6, g7⟩, _⟩ := cells8 hz
      refine bodyPost_ret (v := .tuple #[.agg (cellA (mxF lo lo') (mnF hi hi')), .int .i64 0]) ?_ rfl ⟨by rw [HR.out], KB.out.trans (hc.below (by omega))⟩
      simp [results, Tryd.results25, go_sem, g0, g1, g2, g3, g4, g5, g6, g7]
    | false =>
      have HR := Lib.hid (show meetRes lo hi lo' hi' = .tuple #[.agg zero8, .int .i64 21] by unfold meetRes; rw [if_pos HE.out, hM]; rfl)
      clear hM
      simp only [Bool.not_false]
      go_wp2_with (refine list_store25 (y0 := 0) (y1 := 0) (y2 := 0) (y3 := 0) (y4 := 0) (y5 := 0) (y6 := 0) (y7 := 0) rfl rfl rfl rfl rfl KR.out ?_; intro Z hz hc)
      obtain ⟨⟨g0, g1, g2, g3, g4, g5, g6, g7⟩, _⟩ := cells8 hz
      refine bodyPost_ret (v := .tuple #[.agg zero8, .int .i64 21]) ?_ rfl ⟨by rw [HR.out], KB.out.trans (hc.below (by omega))⟩
      simp [results, Tryd.results25, go_sem, g0, g1, g2, g3, g4, g5, g6, g7]
  · have HR := Lib.hid (show meetRes lo hi lo' hi' = .tuple #[.agg zero8, .int .i64 (twoE lo hi lo' hi')] by unfold meetRes; rw [if_neg hE])
    go_wp2_with (refine list_store25 (y0 := 0) (y1 := 0) (y2 := 0) (y3 := 0) (y4 := 0) (y5 := 0) (y6 := 0) (y7 := 0) rfl rfl rfl rfl rfl KR.out ?_; intro Z hz hc)
    obtain ⟨⟨g0, g1, g2, g3, g4, g5, g6, g7⟩, _⟩ := cells8 hz
    refine bodyPost_ret (v := .tuple #[.agg zero8, .int .i64 (twoE lo hi lo' hi')]) ?_ rfl ⟨by rw [HR.out], KB.out.trans (hc.below (by omega))⟩
    simp [results, Tryd.results25, go_sem, g0, g1, g2, g3, g4, g5, g6, g7]
set_option maxHeartbeats 2000000 in
theorem Hull_ref (lo hi lo' hi' : Nat → Int) (w : World) : Calls Tryd.prog 27 #[.agg (cellA lo hi), .agg (cellA lo' hi')] w fun e w' => e = .returned (hullRes lo hi lo' hi') ∧ Below w.heap.size w w' := by
  obtain ⟨a1, a2, a3, a4, a5⟩ := three_allocs w (.cells (cellA lo hi) 25) (.cells (cellA lo' hi') 25) (.cells zero8 25)
  have KA := Lib.hid a1
  have KC := Lib.hid a2
  have KR := Lib.hid a3
  have KB := Lib.hid a5
  clear a1 a2 a3 a4 a5
  go_enter Tryd.func27, Tryd.ntmps27
  have cA := (cells8 KA.out).1
  obtain ⟨a0, a1, a2, a3, a4, a5, a6, a7⟩ := cA
  have cC := (cells8 KC.out).1
  obtain ⟨c0, c1, c2, c3, c4, c5, c6, c7⟩ := cC
  go_wp2_with fail
  clear a0 a1 a2 a3 a4 a5 a6 a7 c0 c1 c2 c3 c4 c5 c6 c7
  generalize ((w.alloc (.cells (cellA lo hi) 25)).alloc (.cells (cellA lo' hi') 25)).alloc (.cells zero8 25) = V at *
  refine (two_ref lo hi lo' hi' V).mono ?_
  rintro e W1 ⟨rfl, hb⟩
  replace KA := Lib.hid (keep_blk1 KA.out hb)
  replace KC := Lib.hid (keep_blk1 KC.out hb)
  replace KR := Lib.hid (keep_blk1 KR.out hb)
  replace KB := Lib.hid (keep_bl1 KB.out hb)
  clear hb
  by_cases hE : twoE lo hi lo' hi' = 0
  · have HR := Lib.hid (show hullRes lo hi lo' hi' = .tuple #[.agg (cellA (mnF lo lo') (mxF hi hi')), .int .i64 0] by unfold hullRes; rw [if_pos hE])
    have cA := (cells8 KA.out).1
    obtain ⟨a0, a1, a2, a3, a4, a5, a6, a7⟩ := cA
    have cC := (cells8 KC.out).1
    obtain ⟨c0, c1, c2, c3, c4, c5, c6, c7⟩ := cC
    go_wp2_with fail
    clear a0 a1 a2 a3 a4 a5 a6 a7 c0 c1 c2 c3 c4 c5 c6 c7
    refine (Cover_ref lo hi lo' hi' W1).mono ?_
    rintro e W2 ⟨rfl, hb⟩
    replace KA := Lib.hid (keep_blk1 KA.out hb)
    replace KC := Lib.hid (keep_blk1 KC.out hb)
    replace KR := Lib.hid (keep_blk1 KR.out hb)
    replace KB := Lib.hid (keep_bl1 KB.out hb)
    clear hb
    go_wp2_with (refine list_store25 (y0 := mnF lo lo' 0) (y1 := mxF hi hi' 0) (y2 := mnF lo lo' 1) (y3 := mxF hi hi' 1) (y4 := mnF lo lo' 2) (y5 := mxF hi hi' 2) (y6 := mnF lo lo' 3) (y7 := mxF hi hi' 3) rfl rfl rfl rfl rfl KR.out ?_; intro Z hz hc)
    obtain ⟨⟨g0, g1, g2, g3, g4, g5, g6, g7⟩, _⟩ := cells8 hz
    refine bodyPost_ret (v := .tuple #[.agg (cellA (mnF lo lo') (mxF hi hi')), .int .i64 0]) ?_ rfl ⟨by rw [HR.out], KB.out.trans (hc.below (by omega))⟩
    simp [results, Tryd.results27, go_sem, g0, g1, g2, g3, g4, g5, g6, g7]
  · have HR := Lib.hid (show hullRes lo hi lo' hi' = .tuple #[.agg zero8, .int .i64 (twoE lo hi lo' hi')] by unfold hullRes; rw [if_neg hE])
    go_wp2_with (refine list_store25 (y0 := 0) (y1 := 0) (y2 := 0) (y3 := 0) (y4 := 0) (y5 := 0) (y6 := 0) (y7 := 0) rfl rfl rfl rfl rfl KR.out ?_; intro Z hz hc)
    obtain ⟨⟨g0, g1, g2, g3, g4, g5, g6, g7⟩, _⟩ := cells8 hz
    refine bodyPost_ret (v := .tuple #[.agg zero8, .int .i64 (twoE lo hi lo' hi')]) ?_ rfl ⟨by rw [HR.out], KB.out.trans (hc.below (by omega))⟩
    simp [results, Tryd.results27, go_sem, g0, g1, g2, g3, g4, g5, g6, g7]
/- Contracts of the reference's Older, Age. -/
theorem eg64 : ∀ args w, (callFunc 64 args).run Tryd.prog w = .ok (.enter 64 args) w := Go.Proofs.enters_of Tryd.func64 (by kernel_rfl) rfl
theorem eg86 : ∀ args w, (callFunc 86 args).run Tryd.prog w = .ok (.enter 86 args) w := Go.Proofs.enters_of Tryd.func86 (by kernel_rfl) rfl
section
variable {Q : Exit → Act → World → Prop} {o : Oper} {a : Act} {W : World} {R : Value → World → Prop}
theorem opx_field29 {s g k d : Nat} (hop : o.op = Op.fieldAddr 29 (.tmp s) k) (he : a.eval (.tmp s) = .pointer (some ⟨g, 0, none⟩)) (hk : (k = 0 ∧ d = 0) ∨ (k = 1 ∧ d = 4))
    (hR : R (.pointer (some ⟨g, d, none⟩)) W) : o.wp Tryd.prog a W (fun a'' W'' => ∃ x, a'' = a.put o.dst x ∧ R x W'') Q := by
  have he' : a.tmps[s]?.getD undef = .pointer (some ⟨g, 0, none⟩) := by simpa [Act.eval] using he
  refine op_val ?_ hR
  unfold execOp
  rw [hop]
  rcases hk with ⟨rfl, rfl⟩ | ⟨rfl, rfl⟩ <;> simp [go_sem, he']
theorem opx_load27 {s g off : Nat} {x0 x1 x2 x3 : Value} (hop : o.op = Op.load 27 (.tmp s)) (he : a.eval (.tmp s) = .pointer (some ⟨g, off, none⟩))
    (c0 : W.cell? ⟨g, off, none⟩ = some x0) (c1 : W.cell? ⟨g, off + 1, none⟩ = some x1) (c2 : W.cell? ⟨g, off + 2, none⟩ = some x2) (c3 : W.cell? ⟨g, off + 3, none⟩ = some x3)
    (hR : R (.agg #[x0, x1, x2, x3]) W) : o.wp Tryd.prog a W (fun a'' W'' => ∃ x, a'' = a.put o.dst x ∧ R x W'') Q := by
  have he' : a.tmps[s]?.getD undef = .pointer (some ⟨g, off, none⟩) := by simpa [Act.eval] using he
  refine op_val ?_ hR
  unfold execOp
  rw [hop]
  simp [go_sem, he', c0, c1, c2, c3]
theorem opx_sub {s t : Nat} {x y : Int} (hop : o.op = Op.binOp .sub 3 (.tmp s) (.tmp t) 3) (he : a.eval (.tmp s) = .int .i64 x) (ht : a.eval (.tmp t) = .int .i64 y) (hw : IntKind.i64.wrap (x - y) = x - y) (hR : R (.int .i64 (x - y)) W) : o.wp Tryd.prog a W (fun a'' W'' => ∃ x, a'' = a.put o.dst x ∧ R x W'') Q := by
  have he' : a.tmps[s]?.getD undef = .int .i64 x := by simpa [Act.eval] using he
  have ht' : a.tmps[t]?.getD undef = .int .i64 y := by simpa [Act.eval] using ht
  refine op_val ?_ hR
  unfold execOp
  rw [hop]
  simp [go_sem, he', ht', hw]
theorem opx_addt {s t : Nat} {x y : Int} (hop : o.op = Op.binOp .add 3 (.tmp s) (.tmp t) 3) (he : a.eval (.tmp s) = .int .i64 x) (ht : a.eval (.tmp t) = .int .i64 y) (hw : IntKind.i64.wrap (x + y) = x + y) (hR : R (.int .i64 (x + y)) W) : o.wp Tryd.prog a W (fun a'' W'' => ∃ x, a'' = a.put o.dst x ∧ R x W'') Q := by
  have he' : a.tmps[s]?.getD undef = .int .i64 x := by simpa [Act.eval] using he
  have ht' : a.tmps[t]?.getD undef = .int .i64 y := by simpa [Act.eval] using ht
  refine op_val ?_ hR
  unfold execOp
  rw [hop]
  simp [go_sem, he', ht', hw]
theorem opx_store3 {s r b off : Nat} {t : TypeId} {cs : Array Value} {v : Int} (hop : o.op = Op.store 3 (.tmp s) (.tmp r)) (he : a.eval (.tmp s) = .pointer (some ⟨b, off, none⟩)) (hv : a.eval (.tmp r) = .int .i64 v) (hb : W.heap[b]? = some (.cells cs t (0, 0))) (hlt : off < cs.size)
    (hR : ∀ W', W'.heap[b]? = some (.cells (cs.setIfInBounds off (.int .i64 v)) t (0, 0)) → Chg b W W' → R undef W') : o.wp Tryd.prog a W (fun a'' W'' => ∃ x, a'' = a.put o.dst x ∧ R x W'') Q := by
  have c := (cell_of_block hb off).trans (Array.getElem?_eq_getElem hlt)
  have f := frozen_of_block hb off
  have he' : a.tmps[s]?.getD undef = .pointer (some ⟨b, off, none⟩) := by simpa [Act.eval] using he
  have hv' : a.tmps[r]?.getD undef = .int .i64 v := by simpa [Act.eval] using hv
  refine op_skip (W' := W.setCell ⟨b, off, none⟩ (.int .i64 v)) ?_ (hR _ (setCell_block hb off _) (chg_setCell W b off _))
  unfold execOp
  rw [hop]
  simp [go_sem, he', hv', c, f]
end
/-- What is known of each value while one end of a span is moved; lower: the least one. -/
def olPv (k BS BM f : Nat) (off : Nat) (r : Nat → Int) (v0 hours : Int) (res : Int) (j : Nat) (v : Value) : Prop :=
  match j with
  | 0 | 9 => v = .pointer (some ⟨BS, off, none⟩)
  | 1 => v = .int .i64 v0
  | 2 => v = .pointer (some ⟨BM, f, none⟩)
  | 3 => v = .agg (iceA r)
  | 4 => v = .int .i64 (k : Int)
  | 5 => v = .int .i64 (r k)
  | 6 => v = .int .i64 hours
  | 7 => v = .int .i64 (chg (r k) hours)
  | 8 => v = .int .i64 res
  | _ => True
structure OlWd (w : World) (BS : Nat) (KA KM KR : World → Prop) (s t : Array Value) (L : Nat → Bool) (X : World) : Prop where
  below : Below w.heap.size w X
  a : KA X
  m : KM X
  r : KR X
  s : X.heap[BS]? = some (.cells (if L 10 = true then t else s) 23 (0, 0))
  o8 : L 10 = true → L 8 = true
  o1 : L 8 = true → L 1 = true
theorem OlWd.next {w : World} {BS b0 b1 b2 : Nat} {c0 c1 c2 s t : Array Value} {t0 t1 t2 : TypeId} {L : Nat → Bool} {X X' : World} (h : OlWd w BS (fun X => X.heap[b0]? = some (.cells c0 t0 (0, 0))) (fun X => X.heap[b1]? = some (.cells c1 t1 (0, 0))) (fun X => X.heap[b2]? = some (.cells c2 t2 (0, 0))) s t L X) (hb : Below X.heap.size X X') {i : Nat} (n10 : 10 ≠ i) (h8 : 8 = i → L 1 = true) :
    OlWd w BS (fun X => X.heap[b0]? = some (.cells c0 t0 (0, 0))) (fun X => X.heap[b1]? = some (.cells c1 t1 (0, 0))) (fun X => X.heap[b2]? = some (.cells c2 t2 (0, 0))) s t (fun j => if j = i then true else L j) X' := by
  refine ⟨keep_bl1 h.below hb, keep_blk1 h.a hb, keep_blk1 h.m hb, keep_blk1 h.r hb, ?_, fun e => ?_, fun e => ?_⟩
  · simp only [if_neg n10]; exact keep_blk1 h.s hb
  · simp only [if_neg n10] at e
    by_cases e8 : 8 = i
    · rw [if_pos e8]
    · rw [if_neg e8]; exact h.o8 e
  · by_cases e1 : 1 = i
    · rw [if_pos e1]
    · rw [if_neg e1]
      by_cases e8 : 8 = i
      · exact h8 e8
      · rw [if_neg e8] at e; exact h.o1 e
theorem OlWd.old {w : World} {BS : Nat} {KA KM KR : World → Prop} {s t : Array Value} {L : Nat → Bool} {X : World} (h : OlWd w BS KA KM KR s t L X) (h1 : L 1 = false) : X.heap[BS]? = some (.cells s 23 (0, 0)) := by
  have h10 : L 10 = false := by
    cases e : L 10 with
    | false => rfl
    | true => have := h.o1 (h.o8 e); rw [h1] at this; cases this
  have := h.s
  rw [if_neg (by rw [h10]; decide)] at this
  exact this
theorem list_store3c {Q : Exit → Act → World → Prop} {ops : Array Oper} {o : Oper} {rest : List Oper} {a : Act} {W : World} {s b off : Nat} {t : TypeId} {cs : Array Value} {v : Int} (hg : o.guard = none) (hd : o.dst = none) (hop : o.op = Op.store 3 (.tmp s) (.const (.int .i64 v)))
    (he : a.eval (.tmp s) = .pointer (some ⟨b, off, none⟩)) (hb : W.heap[b]? = some (.cells cs t (0, 0))) (hlt : off < cs.size)
    (hK : ∀ W', W'.heap[b]? = some (.cells (cs.setIfInBounds off (.int .i64 v)) t (0, 0)) → Chg b W W' → wpList Tryd.prog ops Q rest a W') : wpList Tryd.prog ops Q (o :: rest) a W := by
  have c := (cell_of_block hb off).trans (Array.getElem?_eq_getElem hlt)
  have f := frozen_of_block hb off
  have he' : a.tmps[s]?.getD undef = .pointer (some ⟨b, off, none⟩) := by simpa [Act.eval] using he
  refine list_store hg hd ?_ (hK (W.setCell ⟨b, off, none⟩ (.int .i64 v)) (setCell_block hb off _) (chg_setCell W b off _))
  unfold execOp
  rw [hop]
  simp [go_sem, he', c, f]
set_option maxHeartbeats 8000000 in
theorem Older_ref (lo hi u d : Nat → Int) (hours : Int) (w : World) (hc : okCell lo hi = true) (hr : okRates u d = true) (h0 : 0 ≤ hours) (h1 : hours ≤ 10000) : Calls Tryd.prog 83 #[.agg (cellA lo hi), .agg (ratesA u d), .int .i64 hours] w fun e w' => e = .returned (.agg (cellA (agLo lo d hours) (agHi hi u hours))) ∧ Below w.heap.size w w' := by
  have HC := Lib.hid ((okCell_iff _ _).1 hc)
  have HD := Lib.hid (fun q hq => rates_bd hr q hq)
  clear hc hr
  obtain ⟨a1, a2, a3, a4, a5⟩ := three_allocs w (.cells (cellA lo hi) 25) (.cells (ratesA u d) 29) (.cells zero8 25)
  have KA := Lib.hid a1
  have KM := Lib.hid a2
  have KR := Lib.hid a3
  have KB := Lib.hid a5
  clear a1 a2 a3 a4 a5
  go_enter Tryd.func83, Tryd.ntmps83
  go_wp2_with fail
  generalize ((w.alloc (.cells (cellA lo hi) 25)).alloc (.cells (ratesA u d) 29)).alloc (.cells zero8 25) = V at *
  replace KA := Lib.hid (show V.heap[w.heap.size]? = some (.cells (cellA (upTo 0 (agLo lo d hours) lo) (upTo 0 (agHi hi u hours) hi)) 25 (0, 0)) from KA.out)
  go_loopw [7] (fun i wr => ∃ k : Nat, k ≤ 4 ∧ i = .int .i64 k ∧ Hid (wr.heap[w.heap.size]? = some (.cells (cellA (upTo k (agLo lo d hours) lo) (upTo k (agHi hi u hours) hi)) 25 (0, 0))) ∧ Hid (wr.heap[w.heap.size + 1]? = some (.cells (ratesA u d) 29 (0, 0))) ∧ Hid (wr.heap[w.heap.size + 1 + 1]? = some (.cells zero8 25 (0, 0))) ∧ Hid (Below w.heap.size w wr)) (fun i _ => 4 - (intOf i).toNat)
  case atStart => exact ⟨0, by omega, rfl, KA, KM, KR, KB⟩
  case round =>
    clear KA KM KR KB
    obtain ⟨k, hk, rfl, KA, KM, KR, KB⟩ := hrel
    by_cases hlt : k < 4
    · have hk4 : (k : Int) < 4 := by omega
      have hk0 : (0 : Int) ≤ (k : Int) := by omega
      have bc := HC.out k hlt
      have bl := lim_bd k
      have bd := HD.out k hlt
      have cu : 0 ≤ chg (u k) hours ∧ chg (u k) hours ≤ 500000 := by
        have h6 : 0 ≤ u k * hours := Int.mul_nonneg (by omega) h0
        have h5 : u k * hours ≤ 10000000 := by have := Int.mul_le_mul (show u k ≤ 1000 by omega) h1 h0 (by omega); simpa using this
        unfold chg; omega
      have cd : 0 ≤ chg (d k) hours ∧ chg (d k) hours ≤ 500000 := by
        have h6 : 0 ≤ d k * hours := Int.mul_nonneg (by omega) h0
        have h5 : d k * hours ≤ 10000000 := by have := Int.mul_le_mul (show d k ≤ 1000 by omega) h1 h0 (by omega); simpa using this
        unfold chg; omega
      have cA := (cells8 KA.out).1
      obtain ⟨a0, a1, a2, a3, a4, a5, a6, a7⟩ := cA
      go_wp2_with fail
      clear a0 a1 a2 a3 a4 a5 a6 a7
      have hcon := SpanOf_any (upTo k (agLo lo d hours) lo) (upTo k (agHi hi u hours) hi) k hlt wr
      rw [upTo_self, upTo_self] at hcon
      refine hcon.mono ?_
      clear hcon
      rintro e W1 ⟨rfl, hb⟩
      have NEA := Lib.hid (Nat.ne_of_lt (lt_of_block (keep_blk1 KA.out hb)))
      have NEM := Lib.hid (Nat.ne_of_lt (lt_of_block (keep_blk1 KM.out hb)))
      have NER := Lib.hid (Nat.ne_of_lt (lt_of_block (keep_blk1 KR.out hb)))
      have LB := Lib.hid (keep_bl1 KB.out hb).size
      replace KA := Lib.hid (keep_blk (o' := .cells #[.int .i64 (lo k), .int .i64 (hi k)] 23) KA.out hb)
      replace KM := Lib.hid (keep_blk (o' := .cells #[.int .i64 (lo k), .int .i64 (hi k)] 23) KM.out hb)
      replace KR := Lib.hid (keep_blk (o' := .cells #[.int .i64 (lo k), .int .i64 (hi k)] 23) KR.out hb)
      replace KB := Lib.hid (keep_bl (o' := .cells #[.int .i64 (lo k), .int .i64 (hi k)] 23) KB.out hb)
      clear hb
      have KS := Lib.hid (block_new W1 (.cells #[.int .i64 (lo k), .int .i64 (hi k)] 23))
      go_wp2_with fail
      generalize W1.alloc (.cells #[.int .i64 (lo k), .int .i64 (hi k)] 23) = V1 at *
      generalize W1.heap.size = BS at *
      have HCH := Lib.hid (show 0 ≤ u k ∧ u k ≤ 1000 ∧ 0 ≤ d k ∧ d k ≤ 1000 by omega)
      refine wp_region_valsL [16, 17, 18, 19, 20, 21, 22, 23, 24, 25, 1000] (OlWd w BS (fun X => X.heap[w.heap.size]? = some (.cells (cellA (upTo k (agLo lo d hours) lo) (upTo k (agHi hi u hours) hi)) 25 (0, 0))) (fun X => X.heap[w.heap.size + 1]? = some (.cells (ratesA u d) 29 (0, 0))) (fun X => X.heap[w.heap.size + 1 + 1]? = some (.cells zero8 25 (0, 0))) #[.int .i64 (lo k), .int .i64 (hi k)] #[.int .i64 (lo k - chg (d k) hours), .int .i64 (hi k)]) (fun j v _ => olPv k BS (w.heap.size + 1) 4 (0 + 0) d (lo k) hours (lo k - chg (d k) hours) j v)
        (by kernel_rfl) (by kernel_rfl) (fun s hs h => by simp at hs ⊢; omega) (by simp) ⟨⟨KB.out.os, KB.out.tape, KB.out.output, KB.out.size, KB.out.block⟩, KA.out, KM.out, KR.out, KS.out, (fun h => by cases h), (fun h => by cases h)⟩ ?val ?fin
      case val =>
        intro j
        match j with
        | 0 => intro o L ho hLi hd a' X hX hfr hdp; obtain rfl := Option.some.inj ho; exact opx_field rfl (hfr 8 (by decide)) (.inr (.inr ⟨rfl, .inl ⟨rfl, rfl⟩⟩)) ⟨hX.next (Below.refl _ _) (by decide) (fun e => by simp at e), rfl, fun _ _ _ h => h⟩
        | 1 => intro o L ho hLi hd a' X hX hfr hdp; obtain rfl := Option.some.inj ho; exact opx_load3 rfl (hdp 0 16 (by decide) rfl (by kernel_rfl)) ((cell_of_block (hX.old hLi) 0).trans rfl) ⟨hX.next (Below.refl _ _) (by decide) (fun e => by simp at e), rfl, fun _ _ _ h => h⟩
        | 2 => intro o L ho hLi hd a' X hX hfr hdp; obtain rfl := Option.some.inj ho; exact opx_field29 rfl (hfr 4 (by decide)) (.inr ⟨rfl, rfl⟩) ⟨hX.next (Below.refl _ _) (by decide) (fun e => by simp at e), rfl, fun _ _ _ h => h⟩
        | 3 => intro o L ho hLi hd a' X hX hfr hdp; obtain rfl := Option.some.inj ho; exact opx_load27 rfl (hdp 2 18 (by decide) rfl (by kernel_rfl)) ((cell_of_block hX.m 4).trans rfl) ((cell_of_block hX.m 5).trans rfl) ((cell_of_block hX.m 6).trans rfl) ((cell_of_block hX.m 7).trans rfl) ⟨hX.next (Below.refl _ _) (by decide) (fun e => by simp at e), rfl, fun _ _ _ h => h⟩
        | 4 => intro o L ho hLi hd a' X hX hfr hdp; obtain rfl := Option.some.inj ho; exact opx_move rfl (hfr 7 (by decide)) ⟨hX.next (Below.refl _ _) (by decide) (fun e => by simp at e), rfl, fun _ _ _ h => h⟩
        | 5 =>
          intro o L ho hLi hd a' X hX hfr hdp; obtain rfl := Option.some.inj ho
          refine opx_call2 rfl (hdp 3 19 (by decide) rfl (by kernel_rfl)) (hdp 4 20 (by decide) rfl (by kernel_rfl)) eg64 ((Number_any d k hlt X).mono ?_)
          rintro e W' ⟨rfl, hb⟩
          exact ⟨_, rfl, hX.next hb (by decide) (fun e => by simp at e), rfl, fun _ _ _ h => h⟩
        | 6 => intro o L ho hLi hd a' X hX hfr hdp; obtain rfl := Option.some.inj ho; exact opx_move rfl (hfr 2 (by decide)) ⟨hX.next (Below.refl _ _) (by decide) (fun e => by simp at e), rfl, fun _ _ _ h => h⟩
        | 7 =>
          intro o L ho hLi hd a' X hX hfr hdp; obtain rfl := Option.some.inj ho
          refine opx_call2 rfl (hdp 5 21 (by decide) rfl (by kernel_rfl)) (hdp 6 22 (by decide) rfl (by kernel_rfl)) eg86 ((change_ref (d k) hours X HCH.out.2.2.1 HCH.out.2.2.2 h0 h1).mono ?_)
          rintro e W' ⟨rfl, hb⟩
          exact ⟨_, rfl, hX.next hb (by decide) (fun e => by simp at e), rfl, fun _ _ _ h => h⟩
        | 8 => intro o L ho hLi hd a' X hX hfr hdp; obtain rfl := Option.some.inj ho; exact opx_sub rfl (hdp 1 17 (by decide) rfl (by kernel_rfl)) (hdp 7 23 (by decide) rfl (by kernel_rfl)) (by rw [IntKind.wrap_i64]; omega) ⟨hX.next (Below.refl _ _) (by decide) (fun _ => hd 1 (by kernel_rfl)), rfl, fun _ _ _ h => h⟩
        | 9 => intro o L ho hLi hd a' X hX hfr hdp; obtain rfl := Option.some.inj ho; exact opx_field rfl (hfr 8 (by decide)) (.inr (.inr ⟨rfl, .inl ⟨rfl, rfl⟩⟩)) ⟨hX.next (Below.refl _ _) (by decide) (fun e => by simp at e), rfl, fun _ _ _ h => h⟩
        | 10 =>
          intro o L ho hLi hd a' X hX hfr hdp; obtain rfl := Option.some.inj ho
          have hs := hX.s
          rw [if_neg (by rw [hLi]; decide)] at hs
          refine opx_store3 rfl (hdp 9 25 (by decide) rfl (by kernel_rfl)) (hdp 8 24 (by decide) rfl (by kernel_rfl)) hs (by simp) ?_
          intro X' hz hc
          refine ⟨⟨hX.below.trans (hc.below LB.out), (hc.2.1 _ NEA.out).trans hX.a, (hc.2.1 _ NEM.out).trans hX.m, (hc.2.1 _ NER.out).trans hX.r, ?_, fun _ => by simpa using hd 8 (by kernel_rfl), fun e => by simpa using hX.o1 (by simpa using e)⟩, trivial, fun _ _ _ h => h⟩
          simp only [if_true]
          exact hz
        | j + 11 => intro o L ho; simp at ho
      case fin =>
        intro X1 L Vv hLL hX hV
        have hs := hX.s
        rw [if_pos (hLL 10 (by decide))] at hs
        replace KA := Lib.hid hX.a
        replace KM := Lib.hid hX.m
        replace KR := Lib.hid hX.r
        replace KB := Lib.hid hX.below
        replace KS := Lib.hid hs
        clear hX hLL hV hs
        simp only [fill, Act.put, List.setIfInBounds_toArray, List.set_cons_zero, List.set_cons_succ, Nat.reduceAdd]
        go_wp2_with fail
        refine wp_region_valsL [26, 27, 28, 29, 30, 31, 32, 33, 34, 35, 1000] (OlWd w BS (fun X => X.heap[w.heap.size]? = some (.cells (cellA (upTo k (agLo lo d hours) lo) (upTo k (agHi hi u hours) hi)) 25 (0, 0))) (fun X => X.heap[w.heap.size + 1]? = some (.cells (ratesA u d) 29 (0, 0))) (fun X => X.heap[w.heap.size + 1 + 1]? = some (.cells zero8 25 (0, 0))) #[.int .i64 (lo k - chg (d k) hours), .int .i64 (hi k)] #[.int .i64 (lo k - chg (d k) hours), .int .i64 (hi k + chg (u k) hours)]) (fun j v _ => olPv k BS (w.heap.size + 1) 0 (0 + 1) u (hi k) hours (hi k + chg (u k) hours) j v)
          (by kernel_rfl) (by kernel_rfl) (fun s hs h => by simp at hs ⊢; omega) (by simp) ⟨⟨KB.out.os, KB.out.tape, KB.out.output, KB.out.size, KB.out.block⟩, KA.out, KM.out, KR.out, KS.out, (fun h => by cases h), (fun h => by cases h)⟩ ?val ?fin
        case val =>
          intro j
          match j with
          | 0 => intro o L ho hLi hd a' X hX hfr hdp; obtain rfl := Option.some.inj ho; exact opx_field rfl (hfr 8 (by decide)) (.inr (.inr ⟨rfl, .inr ⟨rfl, rfl⟩⟩)) ⟨hX.next (Below.refl _ _) (by decide) (fun e => by simp at e), rfl, fun _ _ _ h => h⟩
          | 1 => intro o L ho hLi hd a' X hX hfr hdp; obtain rfl := Option.some.inj ho; exact opx_load3 rfl (hdp 0 26 (by decide) rfl (by kernel_rfl)) ((cell_of_block (hX.old hLi) 1).trans rfl) ⟨hX.next (Below.refl _ _) (by decide) (fun e => by simp at e), rfl, fun _ _ _ h => h⟩
          | 2 => intro o L ho hLi hd a' X hX hfr hdp; obtain rfl := Option.some.inj ho; exact opx_field29 rfl (hfr 4 (by decide)) (.inl ⟨rfl, rfl⟩) ⟨hX.next (Below.refl _ _) (by decide) (fun e => by simp at e), rfl, fun _ _ _ h => h⟩
          | 3 => intro o L ho hLi hd a' X hX hfr hdp; obtain rfl := Option.some.inj ho; exact opx_load27 rfl (hdp 2 28 (by decide) rfl (by kernel_rfl)) ((cell_of_block hX.m 0).trans rfl) ((cell_of_block hX.m 1).trans rfl) ((cell_of_block hX.m 2).trans rfl) ((cell_of_block hX.m 3).trans rfl) ⟨hX.next (Below.refl _ _) (by decide) (fun e => by simp at e), rfl, fun _ _ _ h => h⟩
          | 4 => intro o L ho hLi hd a' X hX hfr hdp; obtain rfl := Option.some.inj ho; exact opx_move rfl (hfr 7 (by decide)) ⟨hX.next (Below.refl _ _) (by decide) (fun e => by simp at e), rfl, fun _ _ _ h => h⟩
          | 5 =>
            intro o L ho hLi hd a' X hX hfr hdp; obtain rfl := Option.some.inj ho
            refine opx_call2 rfl (hdp 3 29 (by decide) rfl (by kernel_rfl)) (hdp 4 30 (by decide) rfl (by kernel_rfl)) eg64 ((Number_any u k hlt X).mono ?_)
            rintro e W' ⟨rfl, hb⟩
            exact ⟨_, rfl, hX.next hb (by decide) (fun e => by simp at e), rfl, fun _ _ _ h => h⟩
          | 6 => intro o L ho hLi hd a' X hX hfr hdp; obtain rfl := Option.some.inj ho; exact opx_move rfl (hfr 2 (by decide)) ⟨hX.next (Below.refl _ _) (by decide) (fun e => by simp at e), rfl, fun _ _ _ h => h⟩
          | 7 =>
            intro o L ho hLi hd a' X hX hfr hdp; obtain rfl := Option.some.inj ho
            refine opx_call2 rfl (hdp 5 31 (by decide) rfl (by kernel_rfl)) (hdp 6 32 (by decide) rfl (by kernel_rfl)) eg86 ((change_ref (u k) hours X HCH.out.1 HCH.out.2.1 h0 h1).mono ?_)
            rintro e W' ⟨rfl, hb⟩
            exact ⟨_, rfl, hX.next hb (by decide) (fun e => by simp at e), rfl, fun _ _ _ h => h⟩
          | 8 => intro o L ho hLi hd a' X hX hfr hdp; obtain rfl := Option.some.inj ho; exact opx_addt rfl (hdp 1 27 (by decide) rfl (by kernel_rfl)) (hdp 7 33 (by decide) rfl (by kernel_rfl)) (by rw [IntKind.wrap_i64]; omega) ⟨hX.next (Below.refl _ _) (by decide) (fun _ => hd 1 (by kernel_rfl)), rfl, fun _ _ _ h => h⟩
          | 9 => intro o L ho hLi hd a' X hX hfr hdp; obtain rfl := Option.some.inj ho; exact opx_field rfl (hfr 8 (by decide)) (.inr (.inr ⟨rfl, .inr ⟨rfl, rfl⟩⟩)) ⟨hX.next (Below.refl _ _) (by decide) (fun e => by simp at e), rfl, fun _ _ _ h => h⟩
          | 10 =>
            intro o L ho hLi hd a' X hX hfr hdp; obtain rfl := Option.some.inj ho
            have hs := hX.s
            rw [if_neg (by rw [hLi]; decide)] at hs
            refine opx_store3 rfl (hdp 9 35 (by decide) rfl (by kernel_rfl)) (hdp 8 34 (by decide) rfl (by kernel_rfl)) hs (by simp) ?_
            intro X' hz hc
            refine ⟨⟨hX.below.trans (hc.below LB.out), (hc.2.1 _ NEA.out).trans hX.a, (hc.2.1 _ NEM.out).trans hX.m, (hc.2.1 _ NER.out).trans hX.r, ?_, fun _ => by simpa using hd 8 (by kernel_rfl), fun e => by simpa using hX.o1 (by simpa using e)⟩, trivial, fun _ _ _ h => h⟩
            simp only [if_true]
            exact hz
          | j + 11 => intro o L ho; simp at ho
        case fin =>
          intro X2 L Vv hLL hX hV
          have hs := hX.s
          rw [if_pos (hLL 10 (by decide))] at hs
          replace KA := Lib.hid hX.a
          replace KM := Lib.hid hX.m
          replace KR := Lib.hid hX.r
          replace KB := Lib.hid hX.below
          replace KS := Lib.hid hs
          clear hX hLL hV hs
          simp only [fill, Act.put, List.setIfInBounds_toArray, List.set_cons_zero, List.set_cons_succ, Nat.reduceAdd]
          by_cases d1 : lo k - chg (d k) hours < 0
          · have e1 : decide (lo k - chg (d k) hours < 0) = true := decide_eq_true d1
            have s0 := (cell_of_block KS.out 0).trans rfl
            go_wp2_with (refine list_store3c (v := 0) rfl rfl rfl rfl KS.out (by simp) ?_; intro Z1 hz hc; have hz2 : Z1.heap[BS]? = some (.cells #[.int .i64 (0), .int .i64 (hi k + chg (u k) hours)] 23 (0, 0)) := hz; replace KA := Lib.hid ((hc.2.1 _ NEA.out).trans KA.out); replace KM := Lib.hid ((hc.2.1 _ NEM.out).trans KM.out); replace KR := Lib.hid ((hc.2.1 _ NER.out).trans KR.out); replace KS := Lib.hid hz2; replace KB := Lib.hid (KB.out.trans (hc.below LB.out)); clear hz hz2 hc)
            clear s0
            by_cases d2 : lim k < hi k + chg (u k) hours
            · have e2 : decide (lim k < hi k + chg (u k) hours) = true := decide_eq_true d2
              have hlS2 := lt_of_block KS.out
              have s1 := later_cell hlS2 ((cell_of_block KS.out 1).trans rfl)
              have HM := Lib.hid (fun (x : Later Z1) => Most_any k hlt x.world)
              haveI : Nonempty (Later Z1) := ⟨⟨Z1, Below.refl _ _⟩⟩
              refine wp_region_later (by kernel_rfl) (by kernel_rfl) ?_
              repeat (go_big_quiet_step ((go_at_call 65; exact later_call (HM.out _))))
              refine wpQuiet_nil ?_
              intro X12 hw'
              obtain ⟨⟨Xq, hX0⟩, hXe⟩ := hw'
              change X12 = Xq at hXe
              rw [← hXe] at hX0
              clear hXe Xq s1 HM hlS2
              replace KA := Lib.hid (keep_blk1 KA.out hX0)
              replace KM := Lib.hid (keep_blk1 KM.out hX0)
              replace KR := Lib.hid (keep_blk1 KR.out hX0)
              replace KS := Lib.hid (keep_blk1 KS.out hX0)
              replace KB := Lib.hid (keep_bl1 KB.out hX0)
              clear hX0
              go_wp2_with fail
              refine (Most_any k hlt X12).mono ?_
              rintro e Ym ⟨rfl, hb⟩
              replace KA := Lib.hid (keep_blk1 KA.out hb)
              replace KM := Lib.hid (keep_blk1 KM.out hb)
              replace KR := Lib.hid (keep_blk1 KR.out hb)
              replace KS := Lib.hid (keep_blk1 KS.out hb)
              replace KB := Lib.hid (keep_bl1 KB.out hb)
              clear hb
              go_wp2_with (refine list_store3 (v := lim k) rfl rfl rfl rfl rfl KS.out (by simp) ?_; intro Z3 hz hc; have hz2 : Z3.heap[BS]? = some (.cells #[.int .i64 (0), .int .i64 (lim k)] 23 (0, 0)) := hz; replace KA := Lib.hid ((hc.2.1 _ NEA.out).trans KA.out); replace KM := Lib.hid ((hc.2.1 _ NEM.out).trans KM.out); replace KR := Lib.hid ((hc.2.1 _ NER.out).trans KR.out); replace KS := Lib.hid hz2; replace KB := Lib.hid (KB.out.trans (hc.below LB.out)); clear hz hz2 hc; have cA := (cells8 KA.out).1; obtain ⟨a0, a1, a2, a3, a4, a5, a6, a7⟩ := cA; have s0 := (cell_of_block KS.out 0).trans rfl; have s1 := (cell_of_block KS.out 1).trans rfl)
              clear a0 a1 a2 a3 a4 a5 a6 a7 s0 s1
              have hcon := with_any (upTo k (agLo lo d hours) lo) (upTo k (agHi hi u hours) hi) (0) (lim k) k hlt Z3
              have g1 : 0 = (agLo lo d hours) k := by unfold agLo mx; omega
              have g2 : lim k = (agHi hi u hours) k := by unfold agHi mn; omega
              rw [show setQ (upTo k (agLo lo d hours) lo) k (0) = upTo (k + 1) (agLo lo d hours) lo by rw [g1, upTo_succ], show setQ (upTo k (agHi hi u hours) hi) k (lim k) = upTo (k + 1) (agHi hi u hours) hi by rw [g2, upTo_succ]] at hcon
              refine hcon.mono ?_
              clear hcon g1 g2
              rintro e Y ⟨rfl, hb⟩
              replace KA := Lib.hid (keep_blk1 KA.out hb)
              replace KM := Lib.hid (keep_blk1 KM.out hb)
              replace KR := Lib.hid (keep_blk1 KR.out hb)
              replace KB := Lib.hid (keep_bl1 KB.out hb)
              clear hb KS
              go_wp2_with (refine list_store25 (y0 := upTo (k + 1) (agLo lo d hours) lo 0) (y1 := upTo (k + 1) (agHi hi u hours) hi 0) (y2 := upTo (k + 1) (agLo lo d hours) lo 1) (y3 := upTo (k + 1) (agHi hi u hours) hi 1) (y4 := upTo (k + 1) (agLo lo d hours) lo 2) (y5 := upTo (k + 1) (agHi hi u hours) hi 2) (y6 := upTo (k + 1) (agLo lo d hours) lo 3) (y7 := upTo (k + 1) (agHi hi u hours) hi 3) rfl rfl rfl rfl rfl KA.out ?_; intro Z hz hc; replace KA := Lib.hid hz; replace KM := Lib.hid ((hc.2.1 _ (by omega)).trans KM.out); replace KR := Lib.hid ((hc.2.1 _ (by omega)).trans KR.out); replace KB := Lib.hid (KB.out.trans (hc.below (Nat.le_refl _))); clear hz hc)
              go_roundw
              case rel => exact ⟨k + 1, by omega, by go_num, KA, KM, KR, KB⟩
              case measure => simp [intOf]; omega
            · have e2 : decide (lim k < hi k + chg (u k) hours) = false := decide_eq_false d2
              have hlS2 := lt_of_block KS.out
              have s1 := later_cell hlS2 ((cell_of_block KS.out 1).trans rfl)
              have HM := Lib.hid (fun (x : Later Z1) => Most_any k hlt x.world)
              haveI : Nonempty (Later Z1) := ⟨⟨Z1, Below.refl _ _⟩⟩
              refine wp_region_later (by kernel_rfl) (by kernel_rfl) ?_
              repeat (go_big_quiet_step ((go_at_call 65; exact later_call (HM.out _))))
              refine wpQuiet_nil ?_
              intro X14 hw'
              obtain ⟨⟨Xq, hX0⟩, hXe⟩ := hw'
              change X14 = Xq at hXe
              rw [← hXe] at hX0
              clear hXe Xq s1 HM hlS2
              replace KA := Lib.hid (keep_blk1 KA.out hX0)
              replace KM := Lib.hid (keep_blk1 KM.out hX0)
              replace KR := Lib.hid (keep_blk1 KR.out hX0)
              replace KS := Lib.hid (keep_blk1 KS.out hX0)
              replace KB := Lib.hid (keep_bl1 KB.out hX0)
              clear hX0
              have cA := (cells8 KA.out).1
              obtain ⟨a0, a1, a2, a3, a4, a5, a6, a7⟩ := cA
              have s0 := (cell_of_block KS.out 0).trans rfl
              have s1 := (cell_of_block KS.out 1).trans rfl
              go_wp2_with fail
              clear a0 a1 a2 a3 a4 a5 a6 a7 s0 s1
              have hcon := with_any (upTo k (agLo lo d hours) lo) (upTo k (agHi hi u hours) hi) (0) (hi k + chg (u k) hours) k hlt X14
              have g1 : 0 = (agLo lo d hours) k := by unfold agLo mx; omega
              have g2 : hi k + chg (u k) hours = (agHi hi u hours) k := by unfold agHi mn; omega
              rw [show setQ (upTo k (agLo lo d hours) lo) k (0) = upTo (k + 1) (agLo lo d hours) lo by rw [g1, upTo_succ], show setQ (upTo k (agHi hi u hours) hi) k (hi k + chg (u k) hours) = upTo (k + 1) (agHi hi u hours) hi by rw [g2, upTo_succ]] at hcon
              refine hcon.mono ?_
              clear hcon g1 g2
              rintro e Y ⟨rfl, hb⟩
              replace KA := Lib.hid (keep_blk1 KA.out hb)
              replace KM := Lib.hid (keep_blk1 KM.out hb)
              replace KR := Lib.hid (keep_blk1 KR.out hb)
              replace KB := Lib.hid (keep_bl1 KB.out hb)
              clear hb KS
              go_wp2_with (refine list_store25 (y0 := upTo (k + 1) (agLo lo d hours) lo 0) (y1 := upTo (k + 1) (agHi hi u hours) hi 0) (y2 := upTo (k + 1) (agLo lo d hours) lo 1) (y3 := upTo (k + 1) (agHi hi u hours) hi 1) (y4 := upTo (k + 1) (agLo lo d hours) lo 2) (y5 := upTo (k + 1) (agHi hi u hours) hi 2) (y6 := upTo (k + 1) (agLo lo d hours) lo 3) (y7 := upTo (k + 1) (agHi hi u hours) hi 3) rfl rfl rfl rfl rfl KA.out ?_; intro Z hz hc; replace KA := Lib.hid hz; replace KM := Lib.hid ((hc.2.1 _ (by omega)).trans KM.out); replace KR := Lib.hid ((hc.2.1 _ (by omega)).trans KR.out); replace KB := Lib.hid (KB.out.trans (hc.below (Nat.le_refl _))); clear hz hc)
              go_roundw
              case rel => exact ⟨k + 1, by omega, by go_num, KA, KM, KR, KB⟩
              case measure => simp [intOf]; omega
          · have e1 : decide (lo k - chg (d k) hours < 0) = false := decide_eq_false d1
            have s0 := (cell_of_block KS.out 0).trans rfl
            go_wp2_with fail
            clear s0
            by_cases d2 : lim k < hi k + chg (u k) hours
            · have e2 : decide (lim k < hi k + chg (u k) hours) = true := decide_eq_true d2
              have hlS2 := lt_of_block KS.out
              have s1 := later_cell hlS2 ((cell_of_block KS.out 1).trans rfl)
              have HM := Lib.hid (fun (x : Later X2) => Most_any k hlt x.world)
              haveI : Nonempty (Later X2) := ⟨⟨X2, Below.refl _ _⟩⟩
              refine wp_region_later (by kernel_rfl) (by kernel_rfl) ?_
              repeat (go_big_quiet_step ((go_at_call 65; exact later_call (HM.out _))))
              refine wpQuiet_nil ?_
              intro X15 hw'
              obtain ⟨⟨Xq, hX0⟩, hXe⟩ := hw'
              change X15 = Xq at hXe
              rw [← hXe] at hX0
              clear hXe Xq s1 HM hlS2
              replace KA := Lib.hid (keep_blk1 KA.out hX0)
              replace KM := Lib.hid (keep_blk1 KM.out hX0)
              replace KR := Lib.hid (keep_blk1 KR.out hX0)
              replace KS := Lib.hid (keep_blk1 KS.out hX0)
              replace KB := Lib.hid (keep_bl1 KB.out hX0)
              clear hX0
              go_wp2_with fail
              refine (Most_any k hlt X15).mono ?_
              rintro e Ym ⟨rfl, hb⟩
              replace KA := Lib.hid (keep_blk1 KA.out hb)
              replace KM := Lib.hid (keep_blk1 KM.out hb)
              replace KR := Lib.hid (keep_blk1 KR.out hb)
              replace KS := Lib.hid (keep_blk1 KS.out hb)
              replace KB := Lib.hid (keep_bl1 KB.out hb)
              clear hb
              go_wp2_with (refine list_store3 (v := lim k) rfl rfl rfl rfl rfl KS.out (by simp) ?_; intro Z6 hz hc; have hz2 : Z6.heap[BS]? = some (.cells #[.int .i64 (lo k - chg (d k) hours), .int .i64 (lim k)] 23 (0, 0)) := hz; replace KA := Lib.hid ((hc.2.1 _ NEA.out).trans KA.out); replace KM := Lib.hid ((hc.2.1 _ NEM.out).trans KM.out); replace KR := Lib.hid ((hc.2.1 _ NER.out).trans KR.out); replace KS := Lib.hid hz2; replace KB := Lib.hid (KB.out.trans (hc.below LB.out)); clear hz hz2 hc; have cA := (cells8 KA.out).1; obtain ⟨a0, a1, a2, a3, a4, a5, a6, a7⟩ := cA; have s0 := (cell_of_block KS.out 0).trans rfl; have s1 := (cell_of_block KS.out 1).trans rfl)
              clear a0 a1 a2 a3 a4 a5 a6 a7 s0 s1
              have hcon := with_any (upTo k (agLo lo d hours) lo) (upTo k (agHi hi u hours) hi) (lo k - chg (d k) hours) (lim k) k hlt Z6
              have g1 : lo k - chg (d k) hours = (agLo lo d hours) k := by unfold agLo mx; omega
              have g2 : lim k = (agHi hi u hours) k := by unfold agHi mn; omega
              rw [show setQ (upTo k (agLo lo d hours) lo) k (lo k - chg (d k) hours) = upTo (k + 1) (agLo lo d hours) lo by rw [g1, upTo_succ], show setQ (upTo k (agHi hi u hours) hi) k (lim k) = upTo (k + 1) (agHi hi u hours) hi by rw [g2, upTo_succ]] at hcon
              refine hcon.mono ?_
              clear hcon g1 g2
              rintro e Y ⟨rfl, hb⟩
              replace KA := Lib.hid (keep_blk1 KA.out hb)
              replace KM := Lib.hid (keep_blk1 KM.out hb)
              replace KR := Lib.hid (keep_blk1 KR.out hb)
              replace KB := Lib.hid (keep_bl1 KB.out hb)
              clear hb KS
              go_wp2_with (refine list_store25 (y0 := upTo (k + 1) (agLo lo d hours) lo 0) (y1 := upTo (k + 1) (agHi hi u hours) hi 0) (y2 := upTo (k + 1) (agLo lo d hours) lo 1) (y3 := upTo (k + 1) (agHi hi u hours) hi 1) (y4 := upTo (k + 1) (agLo lo d hours) lo 2) (y5 := upTo (k + 1) (agHi hi u hours) hi 2) (y6 := upTo (k + 1) (agLo lo d hours) lo 3) (y7 := upTo (k + 1) (agHi hi u hours) hi 3) rfl rfl rfl rfl rfl KA.out ?_; intro Z hz hc; replace KA := Lib.hid hz; replace KM := Lib.hid ((hc.2.1 _ (by omega)).trans KM.out); replace KR := Lib.hid ((hc.2.1 _ (by omega)).trans KR.out); replace KB := Lib.hid (KB.out.trans (hc.below (Nat.le_refl _))); clear hz hc)
              go_roundw
              case rel => exact ⟨k + 1, by omega, by go_num, KA, KM, KR, KB⟩
              case measure => simp [intOf]; omega
            · have e2 : decide (lim k < hi k + chg (u k) hours) = false := decide_eq_false d2
              have hlS2 := lt_of_block KS.out
              have s1 := later_cell hlS2 ((cell_of_block KS.out 1).trans rfl)
              have HM := Lib.hid (fun (x : Later X2) => Most_any k hlt x.world)
              haveI : Nonempty (Later X2) := ⟨⟨X2, Below.refl _ _⟩⟩
              refine wp_region_later (by kernel_rfl) (by kernel_rfl) ?_
              repeat (go_big_quiet_step ((go_at_call 65; exact later_call (HM.out _))))
              refine wpQuiet_nil ?_
              intro X17 hw'
              obtain ⟨⟨Xq, hX0⟩, hXe⟩ := hw'
              change X17 = Xq at hXe
              rw [← hXe] at hX0
              clear hXe Xq s1 HM hlS2
              replace KA := Lib.hid (keep_blk1 KA.out hX0)
              replace KM := Lib.hid (keep_blk1 KM.out hX0)
              replace KR := Lib.hid (keep_blk1 KR.out hX0)
              replace KS := Lib.hid (keep_blk1 KS.out hX0)
              replace KB := Lib.hid (keep_bl1 KB.out hX0)
              clear hX0
              have cA := (cells8 KA.out).1
              obtain ⟨a0, a1, a2, a3, a4, a5, a6, a7⟩ := cA
              have s0 := (cell_of_block KS.out 0).trans rfl
              have s1 := (cell_of_block KS.out 1).trans rfl
              go_wp2_with fail
              clear a0 a1 a2 a3 a4 a5 a6 a7 s0 s1
              have hcon := with_any (upTo k (agLo lo d hours) lo) (upTo k (agHi hi u hours) hi) (lo k - chg (d k) hours) (hi k + chg (u k) hours) k hlt X17
              have g1 : lo k - chg (d k) hours = (agLo lo d hours) k := by unfold agLo mx; omega
              have g2 : hi k + chg (u k) hours = (agHi hi u hours) k := by unfold agHi mn; omega
              rw [show setQ (upTo k (agLo lo d hours) lo) k (lo k - chg (d k) hours) = upTo (k + 1) (agLo lo d hours) lo by rw [g1, upTo_succ], show setQ (upTo k (agHi hi u hours) hi) k (hi k + chg (u k) hours) = upTo (k + 1) (agHi hi u hours) hi by rw [g2, upTo_succ]] at hcon
              refine hcon.mono ?_
              clear hcon g1 g2
              rintro e Y ⟨rfl, hb⟩
              replace KA := Lib.hid (keep_blk1 KA.out hb)
              replace KM := Lib.hid (keep_blk1 KM.out hb)
              replace KR := Lib.hid (keep_blk1 KR.out hb)
              replace KB := Lib.hid (keep_bl1 KB.out hb)
              clear hb KS
              go_wp2_with (refine list_store25 (y0 := upTo (k + 1) (agLo lo d hours) lo 0) (y1 := upTo (k + 1) (agHi hi u hours) hi 0) (y2 := upTo (k + 1) (agLo lo d hours) lo 1) (y3 := upTo (k + 1) (agHi hi u hours) hi 1) (y4 := upTo (k + 1) (agLo lo d hours) lo 2) (y5 := upTo (k + 1) (agHi hi u hours) hi 2) (y6 := upTo (k + 1) (agLo lo d hours) lo 3) (y7 := upTo (k + 1) (agHi hi u hours) hi 3) rfl rfl rfl rfl rfl KA.out ?_; intro Z hz hc; replace KA := Lib.hid hz; replace KM := Lib.hid ((hc.2.1 _ (by omega)).trans KM.out); replace KR := Lib.hid ((hc.2.1 _ (by omega)).trans KR.out); replace KB := Lib.hid (KB.out.trans (hc.below (Nat.le_refl _))); clear hz hc)
              go_roundw
              case rel => exact ⟨k + 1, by omega, by go_num, KA, KM, KR, KB⟩
              case measure => simp [intOf]; omega
    · obtain rfl : k = 4 := by omega
      replace KA := Lib.hid (show wr.heap[w.heap.size]? = some (.cells (cellA (agLo lo d hours) (agHi hi u hours)) 25 (0, 0)) from KA.out)
      have cA := (cells8 KA.out).1
      obtain ⟨a0, a1, a2, a3, a4, a5, a6, a7⟩ := cA
      go_wp2_with (refine list_store25 (y0 := (agLo lo d hours) 0) (y1 := (agHi hi u hours) 0) (y2 := (agLo lo d hours) 1) (y3 := (agHi hi u hours) 1) (y4 := (agLo lo d hours) 2) (y5 := (agHi hi u hours) 2) (y6 := (agLo lo d hours) 3) (y7 := (agHi hi u hours) 3) rfl rfl rfl rfl rfl KR.out ?_; intro Z hz hc)
      obtain ⟨⟨g0, g1, g2, g3, g4, g5, g6, g7⟩, _⟩ := cells8 hz
      refine bodyPost_ret (v := .agg (cellA (agLo lo d hours) (agHi hi u hours))) ?_ rfl ⟨rfl, KB.out.trans (hc.below (by omega))⟩
      simp [results, Tryd.results83, go_sem, g0, g1, g2, g3, g4, g5, g6, g7]
/- Contracts of ice.canBecome and of the reference's Age. -/
/-- Whether a quantity changes by no more than rates allow. -/
def canQ (x y u d : Nat → Int) (h : Int) (q : Nat) : Bool := inB (y q - x q) (-chg (d q) h) (chg (u q) h)
def canB (x y u d : Nat → Int) (h : Int) : Bool := allB (canQ x y u d h)
theorem eg115 : ∀ args w, (callFunc 115 args).run Tryd.prog w = .ok (.enter 115 args) w := Go.Proofs.enters_of Tryd.func115 (by kernel_rfl) rfl
theorem eg61' : ∀ args w, (callFunc 61 args).run Tryd.prog w = .ok (.enter 61 args) w := Go.Proofs.enters_of Tryd.func61 (by kernel_rfl) rfl
set_option maxHeartbeats 2000000 in
theorem can1 (T F D H U : Nat) (x y u d : Nat → Int) (hours : Int) (q : Nat) (hq : q < 4) (w : World) (lT : T < w.heap.size) (lF : F < w.heap.size) (lD : D < w.heap.size) (lH : H < w.heap.size) (lU : U < w.heap.size)
    (hy : Nums w T y) (hx : Nums w F x) (hd : Nums w D d) (hu : Nums w U u) (hh : w.cell? ⟨H, 0, none⟩ = some (.int .i64 hours)) (h0 : 0 ≤ hours) (h1 : hours ≤ 10000)
    (b1 : 0 ≤ y q ∧ y q ≤ 400) (b2 : 0 ≤ x q ∧ x q ≤ 400) (b3 : 0 ≤ d q ∧ d q ≤ 1000) (b4 : 0 ≤ u q ∧ u q ≤ 1000) :
    Calls Tryd.prog 115 #[.int .i64 q, .pointer (some ⟨T, 0, none⟩), .pointer (some ⟨F, 0, none⟩), .pointer (some ⟨D, 0, none⟩), .pointer (some ⟨H, 0, none⟩), .pointer (some ⟨U, 0, none⟩)] w fun e w' => e = .returned (.bool (canQ x y u d hours q)) ∧ Below w.heap.size w w' := by
  have hq' : (q : Int) < 4 := by omega
  have hq0 : (0 : Int) ≤ (q : Int) := by omega
  have k1 := chg_bd b3.1 b3.2 h0 h1
  have k2 := chg_bd b4.1 b4.2 h0 h1
  have w1 : IntKind.i64.wrap (y q - x q) = y q - x q := by rw [IntKind.wrap_i64]; omega
  have w2 : IntKind.i64.wrap (-chg (d q) hours) = -chg (d q) hours := by rw [IntKind.wrap_i64]; omega
  go_enter Tryd.func115, Tryd.ntmps115
  go_wp2_with fail
  have c1 := later_cell lT (hy q hq)
  have c2 := later_cell lF (hx q hq)
  have c3 := later_cell lD (hd q hq)
  have c4 := later_cell lU (hu q hq)
  have c5 := later_cell lH hh
  have HC := Lib.hid (fun (r : Int) (hr : 0 ≤ r ∧ r ≤ 1000) (X : Later w) => show Calls Tryd.prog 114 #[.int .i64 r, .int .i64 hours] X.world (fun e w' => e = .returned (.int .i64 (chg r hours)) ∧ Below X.world.heap.size X.world w') from (change_any r hours X.world hr.1 hr.2 h0 h1).mono (fun e w' ⟨h2, h3⟩ => ⟨h2, by rw [← h3]; exact Below.refl _ _⟩))
  have HW := Lib.hid (fun (a b c : Int) (X : Later w) => show Calls Tryd.prog 63 #[.int .i64 a, .int .i64 b, .int .i64 c] X.world (fun e w' => e = .returned (.bool (inB a b c)) ∧ Below X.world.heap.size X.world w') from (within_any a b c X.world).mono (fun e w' ⟨h2, h3⟩ => ⟨h2, by rw [← h3]; exact Below.refl _ _⟩))
  haveI : Nonempty (Later w) := ⟨⟨w, Below.refl _ _⟩⟩
  refine wp_region_later (by kernel_rfl) (by kernel_rfl) ?_
  repeat (go_big_quiet_step (first | (go_at_call 114; exact later_call (HC.out _ (by assumption) _)) | (go_at_call 63; exact later_call (HW.out _ _ _ _))))
  refine wpQuiet_nil ?_
  intro X0 hw'
  obtain ⟨⟨Xq, hX0⟩, hXe⟩ := hw'
  change X0 = Xq at hXe
  rw [← hXe] at hX0
  clear hXe Xq c1 c2 c3 c4 c5 HC HW
  have HX := Lib.hid hX0
  clear hX0
  go_wp2_with fail
  go_ret
  exact ⟨rfl, HX.out⟩
theorem four_allocs (w : World) (o1 o2 o3 o4 : Obj) : ((((w.alloc o1).alloc o2).alloc o3).alloc o4).heap[w.heap.size]? = some o1 ∧ ((((w.alloc o1).alloc o2).alloc o3).alloc o4).heap[w.heap.size + 1]? = some o2 ∧ ((((w.alloc o1).alloc o2).alloc o3).alloc o4).heap[w.heap.size + 1 + 1]? = some o3 ∧
    ((((w.alloc o1).alloc o2).alloc o3).alloc o4).heap[w.heap.size + 1 + 1 + 1]? = some o4 ∧ ((((w.alloc o1).alloc o2).alloc o3).alloc o4).heap.size = w.heap.size + 1 + 1 + 1 + 1 ∧ Below w.heap.size w ((((w.alloc o1).alloc o2).alloc o3).alloc o4) := by
  obtain ⟨h1, h2, h3, h4, h5⟩ := three_allocs w o1 o2 o3
  generalize ((w.alloc o1).alloc o2).alloc o3 = V at *
  refine ⟨(Below.heap_alloc V o4 _ (by omega)).trans h1, (Below.heap_alloc V o4 _ (by omega)).trans h2, (Below.heap_alloc V o4 _ (by omega)).trans h3, ?_, by rw [World.size_alloc]; omega, h5.alloc h5.size _⟩
  have := block_new V o4
  rwa [h4] at this
set_option maxHeartbeats 4000000 in
theorem canBecome_any (x y u d : Nat → Int) (hours : Int) (w : World) (hx : okIce x = true) (hy : okIce y = true) (hr : okRates u d = true) (h0 : 0 ≤ hours) (h1 : hours ≤ 10000) : Calls Tryd.prog 85 #[.agg (iceA x), .agg (iceA y), .agg (ratesA u d), .int .i64 hours] w fun e w' => e = .returned (.bool (canB x y u d hours)) ∧ Below w.heap.size w w' := by
  have HX := Lib.hid ((allB_iff _).1 hx)
  have HY := Lib.hid ((allB_iff _).1 hy)
  have HR := Lib.hid (fun q hq => rates_bd hr q hq)
  clear hx hy hr
  go_enter Tryd.func85, Tryd.ntmps85
  go_wp2_with fail
  have h4 := four_allocs w (.cells (iceA x) 37) (.cells (iceA y) 37) (.cells (ratesA u d) 41) (.cells #[.int .i64 hours] 3)
  generalize (((w.alloc (.cells (iceA x) 37)).alloc (.cells (iceA y) 37)).alloc (.cells (ratesA u d) 41)).alloc (.cells #[.int .i64 hours] 3) = w1 at *
  obtain ⟨hA, hC, hM, hH, hs0, hb0⟩ := h4
  obtain ⟨⟨ca0, ca1, ca2, ca3, cb0, cb1, cb2, cb3⟩, _⟩ := cells8 hM
  refine wp_region_multi 14 [13, 14, 15, 16, 17, 18, 19, 20, 21, 22, 9, 10, 11, 12] (fun i => decide (10 ≤ i)) (fun i => ([(.agg (iceA x)), (.agg (iceA x)), (.agg (iceA y)), (.agg (iceA y)), (.pointer (some ⟨w.heap.size + 1 + 1, 0, none⟩)), (.agg (iceA u)), (.agg (iceA u)), (.pointer (some ⟨w.heap.size + 1 + 1, 4, none⟩)), (.agg (iceA d)), (.agg (iceA d))] : List Value).getD i undef) (fun _ => .cells #[.int .i64 0, .int .i64 0, .int .i64 0, .int .i64 0] 114) (by kernel_rfl) (by kernel_rfl) (fun s hs => by simp at hs ⊢; omega) ?val ?al ?fin
  case val =>
    intro i
    match i with
    | 0 => intro o hlt hal ho a' W hb hfr hdp; obtain rfl := Option.some.inj ho; exact op_load4b rfl (hfr 4 (by decide)) ((hb.block _ (by omega)).trans hA)
    | 1 => intro o hlt hal ho a' W hb hfr hdp; obtain rfl := Option.some.inj ho; exact op_call rfl (hdp 0 13 (by decide) rfl rfl (by kernel_rfl)) eg61' (numbersOf_any _ _ _ _ _)
    | 2 => intro o hlt hal ho a' W hb hfr hdp; obtain rfl := Option.some.inj ho; exact op_load4b rfl (hfr 5 (by decide)) ((hb.block _ (by omega)).trans hC)
    | 3 => intro o hlt hal ho a' W hb hfr hdp; obtain rfl := Option.some.inj ho; exact op_call rfl (hdp 2 15 (by decide) rfl rfl (by kernel_rfl)) eg61' (numbersOf_any _ _ _ _ _)
    | 4 => intro o hlt hal ho a' W hb hfr hdp; obtain rfl := Option.some.inj ho; exact op_field rfl (hfr 6 (by decide)) (.inl ⟨rfl, rfl⟩)
    | 5 => intro o hlt hal ho a' W hb hfr hdp; obtain rfl := Option.some.inj ho; have k := (cells8 ((hb.block _ (by omega)).trans hM)).1; exact op_load4 rfl (hdp 4 17 (by decide) rfl rfl (by kernel_rfl)) k.1 k.2.1 k.2.2.1 k.2.2.2.1
    | 6 => intro o hlt hal ho a' W hb hfr hdp; obtain rfl := Option.some.inj ho; exact op_call rfl (hdp 5 18 (by decide) rfl rfl (by kernel_rfl)) eg61' (numbersOf_any _ _ _ _ _)
    | 7 => intro o hlt hal ho a' W hb hfr hdp; obtain rfl := Option.some.inj ho; exact op_field rfl (hfr 6 (by decide)) (.inr ⟨rfl, rfl⟩)
    | 8 => intro o hlt hal ho a' W hb hfr hdp; obtain rfl := Option.some.inj ho; have k := (cells8 ((hb.block _ (by omega)).trans hM)).1; exact op_load4 rfl (hdp 7 20 (by decide) rfl rfl (by kernel_rfl)) k.2.2.2.2.1 k.2.2.2.2.2.1 k.2.2.2.2.2.2.1 k.2.2.2.2.2.2.2
    | 9 => intro o hlt hal ho a' W hb hfr hdp; obtain rfl := Option.some.inj ho; exact op_call rfl (hdp 8 21 (by decide) rfl rfl (by kernel_rfl)) eg61' (numbersOf_any _ _ _ _ _)
    | 10 => intro o hlt hal; cases hal
    | 11 => intro o hlt hal; cases hal
    | 12 => intro o hlt hal; cases hal
    | 13 => intro o hlt hal; cases hal
    | m + 14 => intro o hlt; omega
  case al =>
    intro i
    match i with
    | 0 | 1 | 2 | 3 | 4 | 5 | 6 | 7 | 8 | 9 => intro o hlt hal; cases hal
    | 10 => intro o hlt hal ho a' W; obtain rfl := Option.some.inj ho; exact op_alloc114 rfl
    | 11 => intro o hlt hal ho a' W; obtain rfl := Option.some.inj ho; exact op_alloc114 rfl
    | 12 => intro o hlt hal ho a' W; obtain rfl := Option.some.inj ho; exact op_alloc114 rfl
    | 13 => intro o hlt hal ho a' W; obtain rfl := Option.some.inj ho; exact op_alloc114 rfl
    | m + 14 => intro o hlt; omega
  case fin =>
    intro W B hb hB hne
    obtain ⟨hn0, hB0⟩ := hB 10 (by decide) rfl
    obtain ⟨hn1, hB1⟩ := hB 11 (by decide) rfl
    obtain ⟨hn2, hB2⟩ := hB 12 (by decide) rfl
    obtain ⟨hn3, hB3⟩ := hB 13 (by decide) rfl
    have ne01 : B 10 ≠ B 11 := hne 10 11 (by decide) (by decide) rfl rfl (by decide)
    have ne02 : B 10 ≠ B 12 := hne 10 12 (by decide) (by decide) rfl rfl (by decide)
    have ne03 : B 10 ≠ B 13 := hne 10 13 (by decide) (by decide) rfl rfl (by decide)
    have ne10 : B 11 ≠ B 10 := hne 11 10 (by decide) (by decide) rfl rfl (by decide)
    have ne12 : B 11 ≠ B 12 := hne 11 12 (by decide) (by decide) rfl rfl (by decide)
    have ne13 : B 11 ≠ B 13 := hne 11 13 (by decide) (by decide) rfl rfl (by decide)
    have ne20 : B 12 ≠ B 10 := hne 12 10 (by decide) (by decide) rfl rfl (by decide)
    have ne21 : B 12 ≠ B 11 := hne 12 11 (by decide) (by decide) rfl rfl (by decide)
    have ne23 : B 12 ≠ B 13 := hne 12 13 (by decide) (by decide) rfl rfl (by decide)
    have ne30 : B 13 ≠ B 10 := hne 13 10 (by decide) (by decide) rfl rfl (by decide)
    have ne31 : B 13 ≠ B 11 := hne 13 11 (by decide) (by decide) rfl rfl (by decide)
    have ne32 : B 13 ≠ B 12 := hne 13 12 (by decide) (by decide) rfl rfl (by decide)
    have g00 : W.heap[B 10]? = some (.cells #[.int .i64 0, .int .i64 0, .int .i64 0, .int .i64 0] 114 (0, 0)) := hB0
    have g10 : W.heap[B 11]? = some (.cells #[.int .i64 0, .int .i64 0, .int .i64 0, .int .i64 0] 114 (0, 0)) := hB1
    have g20 : W.heap[B 12]? = some (.cells #[.int .i64 0, .int .i64 0, .int .i64 0, .int .i64 0] 114 (0, 0)) := hB2
    have g30 : W.heap[B 13]? = some (.cells #[.int .i64 0, .int .i64 0, .int .i64 0, .int .i64 0] 114 (0, 0)) := hB3
    clear hB hne hB0 hB1 hB2 hB3
    simp only [List.drop_succ_cons, List.drop_zero, fill, uAll, Act.put, List.setIfInBounds_toArray, List.set_cons_zero, List.set_cons_succ, Nat.reduceAdd, Nat.reduceLeDiff, decide_true, decide_false, if_true, if_false, Bool.false_eq_true, List.getD_cons_zero, List.getD_cons_succ, ptr]
    generalize B 10 = p0 at *
    generalize B 11 = p1 at *
    generalize B 12 = p2 at *
    generalize B 13 = p3 at *
    refine list_store4 rfl rfl rfl (.inr rfl) rfl rfl g00 ?_
    intro W1 g01 hc0
    have g11 := (hc0.2.1 p1 ne10).trans g10
    have g21 := (hc0.2.1 p2 ne20).trans g20
    have g31 := (hc0.2.1 p3 ne30).trans g30
    refine list_store4 rfl rfl rfl (.inr rfl) rfl rfl g11 ?_
    intro W2 g12 hc1
    have g02 := (hc1.2.1 p0 ne01).trans g01
    have g22 := (hc1.2.1 p2 ne21).trans g21
    have g32 := (hc1.2.1 p3 ne31).trans g31
    refine list_store4 rfl rfl rfl (.inr rfl) rfl rfl g22 ?_
    intro W3 g23 hc2
    have g03 := (hc2.2.1 p0 ne02).trans g02
    have g13 := (hc2.2.1 p1 ne12).trans g12
    have g33 := (hc2.2.1 p3 ne32).trans g32
    refine list_store4 rfl rfl rfl (.inr rfl) rfl rfl g33 ?_
    intro W4 g34 hc3
    have g04 := (hc3.2.1 p0 ne03).trans g03
    have g14 := (hc3.2.1 p1 ne13).trans g13
    have g24 := (hc3.2.1 p2 ne23).trans g23
    have b4 : Below w1.heap.size w1 W4 := (((hb.trans (hc0.below hn0)).trans (hc1.below hn1)).trans (hc2.below hn2)).trans (hc3.below hn3)
    have Sx := Lib.hid (nums_of_block (n := x) g04)
    have l0 := lt_of_block g04
    have Sy := Lib.hid (nums_of_block (n := y) g14)
    have l1 := lt_of_block g14
    have Su := Lib.hid (nums_of_block (n := u) g24)
    have l2 := lt_of_block g24
    have Sd := Lib.hid (nums_of_block (n := d) g34)
    have l3 := lt_of_block g34
    have hHc := Lib.hid (show W4.cell? ⟨w.heap.size + 1 + 1 + 1, 0, none⟩ = some (.int .i64 hours) by rw [cell_of_block ((b4.block (w.heap.size + 1 + 1 + 1) (by omega)).trans hH)]; rfl)
    have lH : w.heap.size + 1 + 1 + 1 < W4.heap.size := by have := b4.size; omega
    have B0 := Lib.hid (hb0.trans (b4.mono hb0.size))
    have HQ := Lib.hid (fun q hq W (hW : Below W4.heap.size W4 W) => can1 p1 p0 p3 (w.heap.size + 1 + 1 + 1) p2 x y u d hours q hq W (Nat.lt_of_lt_of_le l1 hW.size) (Nat.lt_of_lt_of_le l0 hW.size) (Nat.lt_of_lt_of_le l3 hW.size) (Nat.lt_of_lt_of_le lH hW.size) (Nat.lt_of_lt_of_le l2 hW.size)
      (nums_below hW l1 Sy.out) (nums_below hW l0 Sx.out) (nums_below hW l3 Sd.out) (nums_below hW l2 Su.out) ((hW.cell (p := ⟨w.heap.size + 1 + 1 + 1, 0, none⟩) lH).trans hHc.out) h0 h1
      (by have := HY.out q hq; have b := lim_bd q; unfold inB at this; rw [decide_eq_true_eq] at this; omega) (by have := HX.out q hq; have b := lim_bd q; unfold inB at this; rw [decide_eq_true_eq] at this; omega) (HR.out q hq).2 (HR.out q hq).1)
    clear hA hC hM hH hs0 hb0 hb b4 hc0 hc1 hc2 hc3 ca0 ca1 ca2 ca3 cb0 cb1 cb2 cb3 Sx Sy Su Sd hHc HX HY HR lH l0 l1 l2 l3 hn0 hn1 hn2 hn3 g00 g01 g02 g03 g04 g10 g11 g12 g13 g14 g20 g21 g22 g23 g24 g30 g31 g32 g33 g34 ne01 ne02 ne03 ne10 ne12 ne13 ne20 ne21 ne23 ne30 ne31 ne32
    go_wp2_with fail
    refine (every_later 115 _ eg115 (canQ x y u d hours) _ ?_).mono ?_
    · intro q W hq hW
      exact HQ.out q hq W hW
    rintro e W5 ⟨rfl, h5⟩
    have H5 := Lib.hid (B0.out.trans (h5.mono B0.out.size))
    clear h5
    go_wp2_with fail
    go_ret
    exact ⟨rfl, H5.out⟩
set_option maxHeartbeats 2000000 in
theorem Age_ref (lo hi u d : Nat → Int) (hours : Int) (w : World) : Calls Tryd.prog 29 #[.agg (cellA lo hi), .agg (ratesA u d), .int .i64 hours] w fun e w' => e = .returned (ageRes lo hi u d hours) ∧ Below w.heap.size w w' := by
  obtain ⟨a1, a2, a3, a4, a5⟩ := three_allocs w (.cells (cellA lo hi) 25) (.cells (ratesA u d) 29) (.cells zero8 25)
  have KA := Lib.hid a1
  have KM := Lib.hid a2
  have KR := Lib.hid a3
  have KB := Lib.hid a5
  clear a1 a2 a3 a4 a5
  go_enter Tryd.func29, Tryd.ntmps29
  have cA := (cells8 KA.out).1
  obtain ⟨a0, a1, a2, a3, a4, a5, a6, a7⟩ := cA
  go_wp2_with fail
  clear a0 a1 a2 a3 a4 a5 a6 a7
  generalize ((w.alloc (.cells (cellA lo hi) 25)).alloc (.cells (ratesA u d) 29)).alloc (.cells zero8 25) = V at *
  refine (CheckCell_ref lo hi V).mono ?_
  rintro e W1 ⟨rfl, hb⟩
  replace KA := Lib.hid (keep_blk1 KA.out hb)
  replace KM := Lib.hid (keep_blk1 KM.out hb)
  replace KR := Lib.hid (keep_blk1 KR.out hb)
  replace KB := Lib.hid (keep_bl1 KB.out hb)
  clear hb
  cases hc : okCell lo hi with
  | false =>
    have HR := Lib.hid (show ageRes lo hi u d hours = .tuple #[.agg zero8, .int .i64 20] by have e0 : ageE lo hi u d hours = 20 := (by unfold ageE orL errB; rw [hc]; rfl); unfold ageRes; rw [e0]; rfl)
    clear hc
    simp only [errB, Bool.false_eq_true, if_false]
    go_wp2_with (refine list_store25 (y0 := 0) (y1 := 0) (y2 := 0) (y3 := 0) (y4 := 0) (y5 := 0) (y6 := 0) (y7 := 0) rfl rfl rfl rfl rfl KR.out ?_; intro Z hz hc)
    obtain ⟨⟨g0, g1, g2, g3, g4, g5, g6, g7⟩, _⟩ := cells8 hz
    refine bodyPost_ret (v := .tuple #[.agg zero8, .int .i64 20]) ?_ rfl ⟨by rw [HR.out], KB.out.trans (hc.below (by omega))⟩
    simp [results, Tryd.results29, go_sem, g0, g1, g2, g3, g4, g5, g6, g7]
  | true =>
    have HC := Lib.hid hc
    clear hc
    simp only [errB, if_true]
    have cM := (cells8 KM.out).1
    obtain ⟨m0, m1, m2, m3, m4, m5, m6, m7⟩ := cM
    go_wp2_with fail
    clear m0 m1 m2 m3 m4 m5 m6 m7
    refine (CheckRates_ref u d W1).mono ?_
    rintro e W2 ⟨rfl, hb⟩
    replace KA := Lib.hid (keep_blk1 KA.out hb)
    replace KM := Lib.hid (keep_blk1 KM.out hb)
    replace KR := Lib.hid (keep_blk1 KR.out hb)
    replace KB := Lib.hid (keep_bl1 KB.out hb)
    clear hb
    cases hk : okRates u d with
    | false =>
      have HR := Lib.hid (show ageRes lo hi u d hours = .tuple #[.agg zero8, .int .i64 6] by have e0 : ageE lo hi u d hours = 6 := (by unfold ageE orL errB; rw [HC.out, hk]; rfl); unfold ageRes; rw [e0]; rfl)
      clear hk
      simp only [errB, Bool.false_eq_true, if_false]
      go_wp2_with (refine list_store25 (y0 := 0) (y1 := 0) (y2 := 0) (y3 := 0) (y4 := 0) (y5 := 0) (y6 := 0) (y7 := 0) rfl rfl rfl rfl rfl KR.out ?_; intro Z hz hc)
      obtain ⟨⟨g0, g1, g2, g3, g4, g5, g6, g7⟩, _⟩ := cells8 hz
      refine bodyPost_ret (v := .tuple #[.agg zero8, .int .i64 6]) ?_ rfl ⟨by rw [HR.out], KB.out.trans (hc.below (by omega))⟩
      simp [results, Tryd.results29, go_sem, g0, g1, g2, g3, g4, g5, g6, g7]
    | true =>
      have HK := Lib.hid hk
      clear hk
      simp only [errB, if_true]
      by_cases d1 : hours < 0
      · have HR := Lib.hid (show ageRes lo hi u d hours = .tuple #[.agg zero8, .int .i64 6] by have e0 : ageE lo hi u d hours = 6 := (by unfold ageE orL errB hourE; rw [HC.out, HK.out, if_neg (show ¬ (0 ≤ hours ∧ hours ≤ 10000) by omega)]; rfl); unfold ageRes; rw [e0]; rfl)
        go_wp2_with (refine list_store25 (y0 := 0) (y1 := 0) (y2 := 0) (y3 := 0) (y4 := 0) (y5 := 0) (y6 := 0) (y7 := 0) rfl rfl rfl rfl rfl KR.out ?_; intro Z hz hc)
        obtain ⟨⟨g0, g1, g2, g3, g4, g5, g6, g7⟩, _⟩ := cells8 hz
        refine bodyPost_ret (v := .tuple #[.agg zero8, .int .i64 6]) ?_ rfl ⟨by rw [HR.out], KB.out.trans (hc.below (by omega))⟩
        simp [results, Tryd.results29, go_sem, g0, g1, g2, g3, g4, g5, g6, g7]
      · by_cases d2 : 10000 < hours
        · have HR := Lib.hid (show ageRes lo hi u d hours = .tuple #[.agg zero8, .int .i64 6] by have e0 : ageE lo hi u d hours = 6 := (by unfold ageE orL errB hourE; rw [HC.out, HK.out, if_neg (show ¬ (0 ≤ hours ∧ hours ≤ 10000) by omega)]; rfl); unfold ageRes; rw [e0]; rfl)
          go_wp2_with (refine list_store25 (y0 := 0) (y1 := 0) (y2 := 0) (y3 := 0) (y4 := 0) (y5 := 0) (y6 := 0) (y7 := 0) rfl rfl rfl rfl rfl KR.out ?_; intro Z hz hc)
          obtain ⟨⟨g0, g1, g2, g3, g4, g5, g6, g7⟩, _⟩ := cells8 hz
          refine bodyPost_ret (v := .tuple #[.agg zero8, .int .i64 6]) ?_ rfl ⟨by rw [HR.out], KB.out.trans (hc.below (by omega))⟩
          simp [results, Tryd.results29, go_sem, g0, g1, g2, g3, g4, g5, g6, g7]
        · have HR := Lib.hid (show ageRes lo hi u d hours = .tuple #[.agg (cellA (agLo lo d hours) (agHi hi u hours)), .int .i64 0] by have e0 : ageE lo hi u d hours = 0 := (by unfold ageE orL errB hourE; rw [HC.out, HK.out, if_pos (show 0 ≤ hours ∧ hours ≤ 10000 by omega)]; rfl); unfold ageRes; rw [e0]; rfl)
          have cA := (cells8 KA.out).1
          obtain ⟨a0, a1, a2, a3, a4, a5, a6, a7⟩ := cA
          have cM := (cells8 KM.out).1
          obtain ⟨m0, m1, m2, m3, m4, m5, m6, m7⟩ := cM
          go_wp2_with fail
          clear a0 a1 a2 a3 a4 a5 a6 a7 m0 m1 m2 m3 m4 m5 m6 m7
          refine (Older_ref lo hi u d hours W2 HC.out HK.out (by omega) (by omega)).mono ?_
          rintro e W3 ⟨rfl, hb⟩
          replace KA := Lib.hid (keep_blk1 KA.out hb)
          replace KM := Lib.hid (keep_blk1 KM.out hb)
          replace KR := Lib.hid (keep_blk1 KR.out hb)
          replace KB := Lib.hid (keep_bl1 KB.out hb)
          clear hb
          go_wp2_with (refine list_store25 (y0 := agLo lo d hours 0) (y1 := agHi hi u hours 0) (y2 := agLo lo d hours 1) (y3 := agHi hi u hours 1) (y4 := agLo lo d hours 2) (y5 := agHi hi u hours 2) (y6 := agLo lo d hours 3) (y7 := agHi hi u hours 3) rfl rfl rfl rfl rfl KR.out ?_; intro Z hz hc)
          obtain ⟨⟨g0, g1, g2, g3, g4, g5, g6, g7⟩, _⟩ := cells8 hz
          refine bodyPost_ret (v := .tuple #[.agg (cellA (agLo lo d hours) (agHi hi u hours)), .int .i64 0]) ?_ rfl ⟨by rw [HR.out], KB.out.trans (hc.below (by omega))⟩
          simp [results, Tryd.results29, go_sem, g0, g1, g2, g3, g4, g5, g6, g7]
end Go.Proofs.YtdcpmdigihbdpaaDoor
