/- The contracts of hull.plus, sailing.resistance, hull.thrust, hull.level, hull.load. A right ship, right ice, a speed from 0 to 250. -/
import Derived.Test.YtcoiklolgilhaaaGreatDoorPf
namespace Go.Proofs.YtcoiklolgilhaaaGreatDoor
open Go.RowKit
set_option maxRecDepth 100000
theorem low_facts {p : Int × Int} (h0 : 0 ≤ p.1) (h1 : 0 < p.2) : 0 ≤ (lowP p).1 ∧ (lowP p).1 ≤ p.1 ∧ 0 < (lowP p).2 ∧ (lowP p).2 ≤ p.2 ∧ FEq (lowP p).1 (lowP p).2 p.1 p.2 := by
  obtain ⟨a, ha⟩ := Int.gcd_dvd_left p.1 p.2
  obtain ⟨b, hb⟩ := Int.gcd_dvd_right p.1 p.2
  have hg : 0 < (Int.gcd p.1 p.2 : Int) := by
    have : Int.gcd p.1 p.2 ≠ 0 := by
      intro e
      rw [Int.gcd_eq_zero_iff] at e
      omega
    omega
  have e1 : (lowP p).1 = a := by
    unfold lowP
    simp only
    conv => lhs; lhs; rw [ha]
    exact Int.mul_ediv_cancel_left a (by omega)
  have e2 : (lowP p).2 = b := by
    unfold lowP
    simp only
    conv => lhs; lhs; rw [hb]
    exact Int.mul_ediv_cancel_left b (by omega)
  rw [e1, e2]
  generalize (Int.gcd p.1 p.2 : Int) = k at *
  have ha0 : 0 ≤ a := by
    rcases Int.lt_or_le a 0 with h | h
    · have := Int.mul_neg_of_pos_of_neg hg h
      omega
    · exact h
  have hb0 : 0 < b := by
    rcases Int.lt_or_le 0 b with h | h
    · exact h
    · have := Int.mul_le_mul_of_nonneg_left h (Int.le_of_lt hg)
      omega
  have m1 := Int.mul_le_mul_of_nonneg_right (show 1 ≤ k by omega) ha0
  have m2 := Int.mul_le_mul_of_nonneg_right (show 1 ≤ k by omega) (Int.le_of_lt hb0)
  refine ⟨ha0, by omega, hb0, by omega, ?_⟩
  unfold FEq
  grind
theorem plus_any (a b c d : Int) (h1 : 0 ≤ a * d ∧ a * d ≤ 2000000000000000000) (h2 : 0 ≤ c * b ∧ c * b ≤ 2000000000000000000) (h3 : 0 ≤ b * d ∧ b * d ≤ 2000000000000000000) (w : World) :
    Calls Tryz.prog 130 #[.agg #[.int .i64 a, .int .i64 b], .agg #[.int .i64 c, .int .i64 d]] w fun e w' => e = .returned (.agg #[.int .i64 (a * d + c * b), .int .i64 (b * d)]) ∧ Below w.heap.size w w' := by
  obtain ⟨p1, p2⟩ := h1
  obtain ⟨p3, p4⟩ := h2
  obtain ⟨p5, p6⟩ := h3
  go_enter Tryz.func130, Tryz.ntmps130
  go_wp2
  refine bodyPost_ret (v := .agg #[.int .i64 (a * d + c * b), .int .i64 (b * d)]) ?_ rfl ⟨rfl, ?_⟩
  · simp [results, Tryz.results130, go_sem]
  · exact (((Below.refl _ _).alloc (Nat.le_refl _) _).alloc (by simp) _).alloc (by simp; omega) _
theorem thr_low {s : Sh} (g : IsCv s.th) {v : Int} (hv : 0 ≤ v) : (lowP (valP s.th v)).1 / (lowP (valP s.th v)).2 = thrP s v := by
  have bd := (valP_at g hv).bd g
  have lf := low_facts bd.1 bd.2.2.1
  exact Int.le_antisymm (ediv_le_fr lf.2.2.1 bd.2.2.1 lf.2.2.2.2.le) (ediv_le_fr bd.2.2.1 lf.2.2.1 lf.2.2.2.2.ge)
theorem thrust_any (s : Sh) (m : Mem3) (g : IsCv s.th) (v : Int) (hv : 0 ≤ v) (w : World) (h : ShipIn w s m) :
    Calls Tryz.prog 133 #[.agg (shipA s m), .int .i64 v] w fun e w' => e = .returned (.int .i64 (thrP s v)) ∧ Below w.heap.size w w' := by
  have hb0 := (Below.refl w.heap.size w).alloc (Nat.le_refl _) (.cells (shipA s m) 24)
  have HB0 := Lib.hid hb0
  have HV := Lib.hid (value_any m.pt s.th.n m.ct s.th rfl g v hv h.ct _ (h.t.later hb0))
  have bd := (valP_at g hv).bd g
  have lf := low_facts bd.1 bd.2.2.1
  obtain ⟨l0, l1, l2, l3, _⟩ := lf
  have HT := Lib.hid (thr_low g hv)
  obtain ⟨b0, b1, b2, b3⟩ := bd
  clear h hb0
  generalize (lowP (valP s.th v)).1 = N at *
  generalize (lowP (valP s.th v)).2 = D at *
  have hq0 := Int.ediv_nonneg l0 (Int.le_of_lt l2)
  have hq1 := Int.ediv_le_self D l0
  have hD : D ≠ 0 := by omega
  have hwr : wrap64 (N.tdiv D) = N / D := by
    rw [Int.tdiv_eq_ediv_of_nonneg l0]
    exact w64 _ (by omega)
  go_enter Tryz.func133, Tryz.ntmps133
  go_wp2_with fail
  refine HV.out.mono ?_
  rintro e W1 ⟨rfl, hb1⟩
  have HB1 := Lib.hid (HB0.out.trans (hb1.mono HB0.out.size))
  have hz : w.heap.size < W1.heap.size := by have := hb1.size; simp at this; omega
  clear hb1
  go_wp2_with fail
  go_ret
  exact ⟨by rw [← HT.out]; simp, HB1.out.alloc HB1.out.size _⟩
abbrev iceV (i : Ic) : Array Value := #[.int .i64 i.conc, .int .i64 i.thick, .int .i64 i.ridge, .int .i64 i.press]
theorem level_any (t : Int) (w : World) : Calls Tryz.prog 106 #[.int .i64 t] w fun e w' => e = .returned (.agg (iceV ⟨100, t, 0, 0⟩)) ∧ Below w.heap.size w w' := by
  go_enter Tryz.func106, Tryz.ntmps106
  go_wp2
  refine bodyPost_ret (v := .agg (iceV ⟨100, t, 0, 0⟩)) ?_ rfl ⟨rfl, ?_⟩
  · simp [results, Tryz.results106, go_sem]
  · exact (Below.refl _ _).alloc (Nat.le_refl _) _
theorem load_any (i : Ic) (gi : GoodI i) (v : Int) (hv : 0 ≤ v) (hv' : v ≤ 250) (ch : Bool) (w : World) : Calls Tryz.prog 77 #[.agg (iceV i), .int .i64 v, .bool ch] w fun e w' => e = .returned (.int .i64 (loadP i v ch)) ∧ Below w.heap.size w w' := by
  have hb0 := Lib.hid ((Below.refl w.heap.size w).alloc (Nat.le_refl _) (.cells (iceV i) 26))
  obtain ⟨q1, q2⟩ := gi.conc
  obtain ⟨q3, q4⟩ := gi.thick
  obtain ⟨q5, q6⟩ := gi.ridge
  obtain ⟨q7, q8⟩ := gi.press
  have m1 := Int.mul_le_mul q4 (show 100 + v ≤ 350 by omega) (by omega) (by omega)
  have m0 := Int.mul_nonneg q3 (show 0 ≤ 100 + v by omega)
  clear gi
  by_cases hc : i.conc = 0
  · have HE := Lib.hid (show loadP i v ch = 0 by unfold loadP; rw [if_pos hc])
    have hc' : (i.conc == 0) = true := by simp [hc]
    clear hc
    go_enter Tryz.func77, Tryz.ntmps77
    go_wp2_with fail
    go_ret
    exact ⟨by rw [HE.out]; rfl, hb0.out⟩
  · have hc' : (i.conc == 0) = false := by simp [hc]
    cases ch with
    | false =>
      have HE := Lib.hid (show loadP i v false = i.thick * (100 + v) + 300 * i.ridge + 2000 * i.press by unfold loadP riP; rw [if_neg hc]; simp)
      clear hc
      go_enter Tryz.func77, Tryz.ntmps77
      go_wp2_with fail
      go_quiet (fail)
      go_wp2_with fail
      go_ret
      exact ⟨by rw [HE.out]; rfl, below_drewN hb0.out _⟩
    | true =>
      have HE := Lib.hid (show loadP i v true = cdiv (i.thick * (100 + v)) 2 + 300 * 0 + 2000 * i.press by unfold loadP riP; rw [if_neg hc]; simp [cdiv]; omega)
      have d0 : 0 ≤ cdiv (i.thick * (100 + v)) 2 ∧ cdiv (i.thick * (100 + v)) 2 ≤ 140000 := by unfold cdiv; omega
      obtain ⟨d1, d2⟩ := d0
      clear hc
      go_enter Tryz.func77, Tryz.ntmps77
      go_wp2_with fail
      go_quiet (fail)
      go_wp2_with fail
      refine (roundedUp_any _ _ (by omega) (by omega) (by omega) (by omega) _).mono ?_
      rintro e W1 ⟨rfl, rfl⟩
      go_wp2_with fail
      go_ret
      exact ⟨by rw [HE.out]; simp, below_drewN hb0.out _⟩
end Go.Proofs.YtcoiklolgilhaaaGreatDoor
