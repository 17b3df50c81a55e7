/- Pure facts: what is found by trying all is what is found by halving. The contract of the reference's resistance. The contracts of the reference's whole, asked, makes, speed, Limit, Slower. The contract of the reference's Slower: for any two ships. The law HullBounds: both ships are copied. The law HullBounds behind its arguments. -/
import Derived.Test.YtcoiklolgilhaaaGreatDoorQi
import Derived.Test.YtcoiklolgilhaaaGreatDoorUk
import Derived.Test.YtcoiklolgilhaaaGreatDoorPi
import Derived.Test.YtcoiklolgilhaaaGreatDoorUl
import Derived.Test.YtcoiklolgilhaaaGreatDoorTk
import Derived.Test.YtcoiklolgilhaaaGreatDoorVh
import Derived.Test.YtcoiklolgilhaaaGreatDoorQd
namespace Go.Proofs.YtcoiklolgilhaaaGreatDoor
open Go.RowKit
set_option maxRecDepth 100000
structure Gr (f : Nat → Bool) (most G : Nat) : Prop where
  anti : ∀ a b, a ≤ b → b ≤ most → f b = true → f a = true
  le : G ≤ most
  top : f 0 = true → f G = true
  off : ∀ k, G < k → k ≤ most → f k = false
/-- the last of the first n numbers of which f is so -/
def lastN (f : Nat → Bool) (G n : Nat) (z : Int) : Int := if n = 0 ∨ f 0 = false then z else if G < n then (G : Int) else (n : Int) - 1
theorem lastN_zero (f : Nat → Bool) (G : Nat) (z : Int) : lastN f G 0 z = z := by simp [lastN]
theorem lastN_yes {f : Nat → Bool} {most G n : Nat} (g : Gr f most G) (z : Int) (hn : n ≤ most) (h : f n = true) : lastN f G (n + 1) z = (n : Int) := by
  have h0 := g.anti 0 n (Nat.zero_le _) hn h
  have hG : n ≤ G := by
    rcases Nat.lt_or_ge G n with e | e
    · rw [g.off n e hn] at h; cases h
    · exact e
  unfold lastN
  rw [if_neg (by simp [h0])]
  split <;> omega
theorem lastN_no {f : Nat → Bool} {most G n : Nat} (g : Gr f most G) (z : Int) (_hn : n ≤ most) (h : f n = false) : lastN f G (n + 1) z = lastN f G n z := by
  unfold lastN
  by_cases h0 : f 0 = false
  · rw [if_pos (.inr h0), if_pos (.inr h0)]
  · have h0' : f 0 = true := by simpa using h0
    have hn0 : n ≠ 0 := fun e => by rw [e, h0'] at h; cases h
    have hG : G < n := by
      rcases Nat.lt_or_ge G n with e | e
      · exact e
      · rw [g.anti n G e g.le (g.top h0')] at h; cases h
    rw [if_neg (by simp [h0']), if_pos (show G < n + 1 by omega), if_neg (by simp [h0', hn0]), if_pos hG]
theorem lastN_all {f : Nat → Bool} {most G : Nat} (g : Gr f most G) (z : Int) : lastN f G (most + 1) z = if f 0 = true then (G : Int) else z := by
  unfold lastN
  have := g.le
  by_cases h0 : f 0 = true
  · rw [if_neg (by simp [h0]), if_pos (by omega), if_pos h0]
  · have : f 0 = false := by simpa using h0
    rw [if_pos (.inr this), if_neg h0]
theorem gr_of {f : Nat → Bool} {most : Nat} (anti : ∀ a b, a ≤ b → b ≤ most → f b = true → f a = true) : Gr f most (greatP f most) :=
  ⟨anti, (great_spec anti).1, (great_spec anti).2.1, (great_spec anti).2.2⟩
/-- the speeds that a ship makes, of all up to 250 -/
theorem gr_speed {s : Sh} (g : Good s) {i : Ic} (gi : GoodI i) (ch : Bool) : Gr (fun v => makesP s i ch (v : Int)) 250 (speedP s i ch) := by
  have t1 := g.top
  have k := great_spec (makes_anti g gi ch (lastXP s.th).toNat)
  refine ⟨fun a b h hb hm => ?_, ?_, k.2.1, fun v h1 h2 => ?_⟩
  · have hbl : (b : Int) ≤ lastXP s.th := by
      simp only [makesP, Bool.and_eq_true, decide_eq_true_eq] at hm
      exact hm.1
    exact makes_anti g gi ch (lastXP s.th).toNat a b h (by omega) hm
  · have := k.1
    unfold speedP
    omega
  · by_cases hl : (v : Int) ≤ lastXP s.th
    · exact k.2.2 v h1 (by omega)
    · have : makesP s i ch (v : Int) = false := by simp [makesP, hl]
      exact this
theorem speed_none {s : Sh} {i : Ic} {ch : Bool} (h : makesP s i ch ((0 : Nat) : Int) = false) : speedP s i ch = 0 := by
  unfold speedP greatP
  simp only [h]
  simp
end Go.Proofs.YtcoiklolgilhaaaGreatDoor
namespace Go.Proofs.YtcoiklolgilhaaaGreatDoor
open Go.RowKit
set_option maxRecDepth 100000
theorem cdiv_by {n d : Int} (hd : 0 < d) : cdiv n d = if n / d * d < n then n / d + 1 else n / d := by
  have h1 := Int.emod_nonneg n (show d ≠ 0 by omega)
  have h2 := Int.emod_lt_of_pos n hd
  have h3 := Int.mul_ediv_add_emod n d
  have h4 : n / d * d = d * (n / d) := Int.mul_comm _ _
  unfold cdiv
  split
  · rename_i h
    rw [show n + d - 1 = (n % d + d - 1) + d * (n / d) by omega, Int.add_mul_ediv_left _ _ (by omega)]
    have : (n % d + d - 1) / d = 1 := by
      rw [show n % d + d - 1 = (n % d - 1) + d * 1 by omega, Int.add_mul_ediv_left _ _ (by omega), Int.ediv_eq_zero_of_lt (by omega) (by omega)]
      rfl
    omega
  · rename_i h
    rw [show n + d - 1 = (n % d + d - 1) + d * (n / d) by omega, Int.add_mul_ediv_left _ _ (by omega)]
    have : (n % d + d - 1) / d = 0 := Int.ediv_eq_zero_of_lt (by omega) (by omega)
    omega
set_option maxHeartbeats 4000000 in
theorem rres_no (s : Sh) (m : Mem3) (i : Ic) (g : Good s) (gi : GoodI i) (v : Int) (hv : 0 ≤ v) (hv' : v ≤ 250) (w : World) (h : ShipIn w s m) :
    Calls Tryz.prog 72 #[.agg (shipA s m), .agg (iceV i), .int .i64 v, .bool false] w fun e w' => e = .returned (.int .i64 (resP s i v false)) ∧ Below w.heap.size w w' := by
  obtain ⟨t0, t1, hz, hbl⟩ := two_allocs w (.cells (shipA s m) 36) (.cells (iceV i) 38)
  have HB := Lib.hid hbl
  have HK4 := Lib.hid t0
  have HK5 := Lib.hid t1
  have HS := Lib.hid (h.later hbl)
  have HV1 := Lib.hid (fun (W : World) (hW : ShipIn W s m) => fraction_any m.pw s.wa.n m.cw s.wa rfl g.wa v hv (by omega) hW.cw W hW.w)
  have HV2 := Lib.hid (fun (W : World) (hW : ShipIn W s m) => fraction_any m.pi s.ic.n m.ci s.ic rfl g.ic i.thick gi.thick.1 (by have := gi.thick.2; omega) hW.ci W hW.i)
  obtain ⟨_, w2, w0, w1, w3⟩ := rf_eq g.wa hv
  obtain ⟨_, l2, l0, l1, l3⟩ := rf_eq g.ic gi.thick.1
  have hr := (rres_eq g gi hv false).symm
  simp only [rresP, brP, riP, Bool.false_eq_true, ↓reduceIte] at hr
  have HR := Lib.hid hr
  clear hr h t0 t1 hbl
  generalize (rfP s.wa v).1 = W1 at *
  generalize (rfP s.wa v).2 = WD at *
  generalize (rfP s.ic i.thick).1 = L1 at *
  generalize (rfP s.ic i.thick).2 = LD at *
  have w1' : W1 ≤ 8000000 := by omega
  have l1' : L1 ≤ 8000000 := by omega
  obtain ⟨sl0, sl1⟩ := mulbd g.slow.1 g.slow.2 hv hv'
  obtain ⟨a10, a11⟩ := mulbd gi.conc.1 gi.conc.2 l0 l1'
  obtain ⟨a20, a21⟩ := mulbd a10 a11 (show 0 ≤ 1000 + s.slow * v by omega) (show 1000 + s.slow * v ≤ 6000 by omega)
  obtain ⟨a30, a31⟩ := mulbd a20 a21 (show 0 ≤ 100 by first | omega | exact g.brash.1) (show 100 ≤ 100 by first | omega | exact g.brash.2)
  obtain ⟨a40, a41⟩ := mulbd a30 a31 (Int.le_of_lt w2) w3
  obtain ⟨b10, b11⟩ := mulbd gi.conc.1 gi.conc.2 g.ridge.1 g.ridge.2
  obtain ⟨b20, b21⟩ := mulbd b10 b11 (show 0 ≤ i.ridge by first | omega | exact gi.ridge.1) (show i.ridge ≤ 100 by first | omega | exact gi.ridge.2)
  obtain ⟨A0, A1⟩ := mulbd (Int.le_of_lt w2) w3 (Int.le_of_lt l2) l3
  have A2 := Int.mul_pos w2 l2
  obtain ⟨b30, b31⟩ := mulbd b20 b21 (show 0 ≤ WD * LD * 100000 by omega) (show WD * LD * 100000 ≤ 16000000000 by omega)
  obtain ⟨c10, c11⟩ := mulbd g.press.1 g.press.2 gi.press.1 gi.press.2
  obtain ⟨c20, c21⟩ := mulbd c10 c11 (show 0 ≤ WD * LD * 10000000 by omega) (show WD * LD * 10000000 ≤ 1600000000000 by omega)
  obtain ⟨n00, n01⟩ := mulbd w0 w1' (show 0 ≤ LD * 10000000 by omega) (show LD * 10000000 ≤ 4000000000 by omega)
  have e1 : WD * LD * 10000000 / WD = LD * 10000000 := by
    rw [Int.mul_assoc]
    exact Int.mul_ediv_cancel_left _ (by omega)
  have e2 : WD * LD * 10000000 / 100 = WD * LD * 100000 := by omega
  have hWD : WD ≠ 0 := by omega
  have hD : 0 < WD * LD * 10000000 := by omega
  have hD' : WD * LD * 10000000 ≠ 0 := by omega
  have hN0 : 0 ≤ W1 * (LD * 10000000) + i.conc * L1 * (1000 + s.slow * v) * 100 * WD + i.conc * s.ridge * i.ridge * (WD * LD * 100000) + s.press * i.press * (WD * LD * 10000000) := by omega
  have hq0 := Int.ediv_nonneg hN0 (Int.le_of_lt hD)
  have hq1 := Int.ediv_le_self (WD * LD * 10000000) hN0
  have hq2 := Int.ediv_mul_le (W1 * (LD * 10000000) + i.conc * L1 * (1000 + s.slow * v) * 100 * WD + i.conc * s.ridge * i.ridge * (WD * LD * 100000) + s.press * i.press * (WD * LD * 10000000)) hD'
  have hq3 := Int.mul_nonneg hq0 (Int.le_of_lt hD)
  obtain ⟨c0, c1, c2, c3, c4, c5, c6, c7, c8, c9, c10'⟩ := cells11 HK4.out
  obtain ⟨⟨d0, d1, d2, d3⟩, _⟩ := cells4 HK5.out
  go_enter Tryz.func72, Tryz.ntmps72
  go_wp2_with fail
  refine (HV1.out _ HS.out).mono ?_
  rintro e V1 ⟨rfl, hb⟩
  clear c0 c1 c2 c3 c4 c5 c6 c7 c8 c9 c10' d0 d1 d2 d3
  replace HK4 := Lib.hid ((hb.block _ (lt_of_block HK4.out)).trans HK4.out)
  replace HK5 := Lib.hid ((hb.block _ (lt_of_block HK5.out)).trans HK5.out)
  replace HS := Lib.hid (HS.out.later hb)
  replace HB := Lib.hid (HB.out.trans (hb.mono HB.out.size))
  clear hb
  obtain ⟨c0, c1, c2, c3, c4, c5, c6, c7, c8, c9, c10'⟩ := cells11 HK4.out
  obtain ⟨⟨d0, d1, d2, d3⟩, _⟩ := cells4 HK5.out
  go_wp2_with fail
  refine (HV2.out _ HS.out).mono ?_
  rintro e V2 ⟨rfl, hb⟩
  clear c0 c1 c2 c3 c4 c5 c6 c7 c8 c9 c10' d0 d1 d2 d3
  replace HK4 := Lib.hid ((hb.block _ (lt_of_block HK4.out)).trans HK4.out)
  replace HK5 := Lib.hid ((hb.block _ (lt_of_block HK5.out)).trans HK5.out)
  replace HB := Lib.hid (HB.out.trans (hb.mono HB.out.size))
  clear hb HS
  obtain ⟨c0, c1, c2, c3, c4, c5, c6, c7, c8, c9, c10'⟩ := cells11 HK4.out
  obtain ⟨⟨d0, d1, d2, d3⟩, _⟩ := cells4 HK5.out
  go_wp2_with fail
  go_region
  have hb : Below V2.heap.size V2 V2.drew := below_drawn V2
  clear c0 c1 c2 c3 c4 c5 c6 c7 c8 c9 c10' d0 d1 d2 d3
  replace HK4 := Lib.hid ((hb.block _ (lt_of_block HK4.out)).trans HK4.out)
  replace HK5 := Lib.hid ((hb.block _ (lt_of_block HK5.out)).trans HK5.out)
  replace HB := Lib.hid (HB.out.trans (hb.mono HB.out.size))
  clear hb
  generalize V2.drew = V3 at *
  obtain ⟨c0, c1, c2, c3, c4, c5, c6, c7, c8, c9, c10'⟩ := cells11 HK4.out
  obtain ⟨⟨d0, d1, d2, d3⟩, _⟩ := cells4 HK5.out
  have HC := Lib.hid (cdiv_by (n := W1 * (LD * 10000000) + i.conc * L1 * (1000 + s.slow * v) * 100 * WD + i.conc * s.ridge * i.ridge * (WD * LD * 100000) + s.press * i.press * (WD * LD * 10000000)) hD)
  by_cases hlt : (W1 * (LD * 10000000) + i.conc * L1 * (1000 + s.slow * v) * 100 * WD + i.conc * s.ridge * i.ridge * (WD * LD * 100000) + s.press * i.press * (WD * LD * 10000000)) / (WD * LD * 10000000) * (WD * LD * 10000000) < W1 * (LD * 10000000) + i.conc * L1 * (1000 + s.slow * v) * 100 * WD + i.conc * s.ridge * i.ridge * (WD * LD * 100000) + s.press * i.press * (WD * LD * 10000000)
  · have HC2 := Lib.hid (HR.out.trans (HC.out.trans (if_pos hlt)))
    go_wp2_with fail
    go_ret
    exact ⟨by rw [HC2.out]; rfl, HB.out⟩
  · have HC2 := Lib.hid (HR.out.trans (HC.out.trans (if_neg hlt)))
    go_wp2_with fail
    go_ret
    exact ⟨by rw [HC2.out]; rfl, HB.out⟩
set_option maxHeartbeats 4000000 in
theorem rres_yes (s : Sh) (m : Mem3) (i : Ic) (g : Good s) (gi : GoodI i) (v : Int) (hv : 0 ≤ v) (hv' : v ≤ 250) (w : World) (h : ShipIn w s m) :
    Calls Tryz.prog 72 #[.agg (shipA s m), .agg (iceV i), .int .i64 v, .bool true] w fun e w' => e = .returned (.int .i64 (resP s i v true)) ∧ Below w.heap.size w w' := by
  obtain ⟨t0, t1, hz, hbl⟩ := two_allocs w (.cells (shipA s m) 36) (.cells (iceV i) 38)
  have HB := Lib.hid hbl
  have HK4 := Lib.hid t0
  have HK5 := Lib.hid t1
  have HS := Lib.hid (h.later hbl)
  have HV1 := Lib.hid (fun (W : World) (hW : ShipIn W s m) => fraction_any m.pw s.wa.n m.cw s.wa rfl g.wa v hv (by omega) hW.cw W hW.w)
  have HV2 := Lib.hid (fun (W : World) (hW : ShipIn W s m) => fraction_any m.pi s.ic.n m.ci s.ic rfl g.ic i.thick gi.thick.1 (by have := gi.thick.2; omega) hW.ci W hW.i)
  obtain ⟨_, w2, w0, w1, w3⟩ := rf_eq g.wa hv
  obtain ⟨_, l2, l0, l1, l3⟩ := rf_eq g.ic gi.thick.1
  have hr := (rres_eq g gi hv true).symm
  simp only [rresP, brP, riP, ↓reduceIte, Int.mul_zero, Int.zero_mul, Int.add_zero] at hr
  have HR := Lib.hid hr
  clear hr h t0 t1 hbl
  generalize (rfP s.wa v).1 = W1 at *
  generalize (rfP s.wa v).2 = WD at *
  generalize (rfP s.ic i.thick).1 = L1 at *
  generalize (rfP s.ic i.thick).2 = LD at *
  have w1' : W1 ≤ 8000000 := by omega
  have l1' : L1 ≤ 8000000 := by omega
  obtain ⟨sl0, sl1⟩ := mulbd g.slow.1 g.slow.2 hv hv'
  obtain ⟨a10, a11⟩ := mulbd gi.conc.1 gi.conc.2 l0 l1'
  obtain ⟨a20, a21⟩ := mulbd a10 a11 (show 0 ≤ 1000 + s.slow * v by omega) (show 1000 + s.slow * v ≤ 6000 by omega)
  obtain ⟨a30, a31⟩ := mulbd a20 a21 (show 0 ≤ s.brash by first | omega | exact g.brash.1) (show s.brash ≤ 100 by first | omega | exact g.brash.2)
  obtain ⟨a40, a41⟩ := mulbd a30 a31 (Int.le_of_lt w2) w3
  obtain ⟨b10, b11⟩ := mulbd gi.conc.1 gi.conc.2 g.ridge.1 g.ridge.2
  obtain ⟨b20, b21⟩ := mulbd b10 b11 (show 0 ≤ 0 by first | omega | exact gi.ridge.1) (show 0 ≤ 100 by first | omega | exact gi.ridge.2)
  obtain ⟨A0, A1⟩ := mulbd (Int.le_of_lt w2) w3 (Int.le_of_lt l2) l3
  have A2 := Int.mul_pos w2 l2
  obtain ⟨b30, b31⟩ := mulbd b20 b21 (show 0 ≤ WD * LD * 100000 by omega) (show WD * LD * 100000 ≤ 16000000000 by omega)
  obtain ⟨c10, c11⟩ := mulbd g.press.1 g.press.2 gi.press.1 gi.press.2
  obtain ⟨c20, c21⟩ := mulbd c10 c11 (show 0 ≤ WD * LD * 10000000 by omega) (show WD * LD * 10000000 ≤ 1600000000000 by omega)
  obtain ⟨n00, n01⟩ := mulbd w0 w1' (show 0 ≤ LD * 10000000 by omega) (show LD * 10000000 ≤ 4000000000 by omega)
  have e1 : WD * LD * 10000000 / WD = LD * 10000000 := by
    rw [Int.mul_assoc]
    exact Int.mul_ediv_cancel_left _ (by omega)
  have e2 : WD * LD * 10000000 / 100 = WD * LD * 100000 := by omega
  have hWD : WD ≠ 0 := by omega
  have hD : 0 < WD * LD * 10000000 := by omega
  have hD' : WD * LD * 10000000 ≠ 0 := by omega
  have hN0 : 0 ≤ W1 * (LD * 10000000) + i.conc * L1 * (1000 + s.slow * v) * s.brash * WD + s.press * i.press * (WD * LD * 10000000) := by omega
  have hq0 := Int.ediv_nonneg hN0 (Int.le_of_lt hD)
  have hq1 := Int.ediv_le_self (WD * LD * 10000000) hN0
  have hq2 := Int.ediv_mul_le (W1 * (LD * 10000000) + i.conc * L1 * (1000 + s.slow * v) * s.brash * WD + s.press * i.press * (WD * LD * 10000000)) hD'
  have hq3 := Int.mul_nonneg hq0 (Int.le_of_lt hD)
  obtain ⟨c0, c1, c2, c3, c4, c5, c6, c7, c8, c9, c10'⟩ := cells11 HK4.out
  obtain ⟨⟨d0, d1, d2, d3⟩, _⟩ := cells4 HK5.out
  go_enter Tryz.func72, Tryz.ntmps72
  go_wp2_with fail
  refine (HV1.out _ HS.out).mono ?_
  rintro e V1 ⟨rfl, hb⟩
  clear c0 c1 c2 c3 c4 c5 c6 c7 c8 c9 c10' d0 d1 d2 d3
  replace HK4 := Lib.hid ((hb.block _ (lt_of_block HK4.out)).trans HK4.out)
  replace HK5 := Lib.hid ((hb.block _ (lt_of_block HK5.out)).trans HK5.out)
  replace HS := Lib.hid (HS.out.later hb)
  replace HB := Lib.hid (HB.out.trans (hb.mono HB.out.size))
  clear hb
  obtain ⟨c0, c1, c2, c3, c4, c5, c6, c7, c8, c9, c10'⟩ := cells11 HK4.out
  obtain ⟨⟨d0, d1, d2, d3⟩, _⟩ := cells4 HK5.out
  go_wp2_with fail
  refine (HV2.out _ HS.out).mono ?_
  rintro e V2 ⟨rfl, hb⟩
  clear c0 c1 c2 c3 c4 c5 c6 c7 c8 c9 c10' d0 d1 d2 d3
  replace HK4 := Lib.hid ((hb.block _ (lt_of_block HK4.out)).trans HK4.out)
  replace HK5 := Lib.hid ((hb.block _ (lt_of_block HK5.out)).trans HK5.out)
  replace HB := Lib.hid (HB.out.trans (hb.mono HB.out.size))
  clear hb HS
  obtain ⟨c0, c1, c2, c3, c4, c5, c6, c7, c8, c9, c10'⟩ := cells11 HK4.out
  obtain ⟨⟨d0, d1, d2, d3⟩, _⟩ := cells4 HK5.out
  go_wp2_with fail
  go_region
  have hb : Below V2.heap.size V2 V2.drew := below_drawn V2
  clear c0 c1 c2 c3 c4 c5 c6 c7 c8 c9 c10' d0 d1 d2 d3
  replace HK4 := Lib.hid ((hb.block _ (lt_of_block HK4.out)).trans HK4.out)
  replace HK5 := Lib.hid ((hb.block _ (lt_of_block HK5.out)).trans HK5.out)
  replace HB := Lib.hid (HB.out.trans (hb.mono HB.out.size))
  clear hb
  generalize V2.drew = V3 at *
  obtain ⟨c0, c1, c2, c3, c4, c5, c6, c7, c8, c9, c10'⟩ := cells11 HK4.out
  obtain ⟨⟨d0, d1, d2, d3⟩, _⟩ := cells4 HK5.out
  have HC := Lib.hid (cdiv_by (n := W1 * (LD * 10000000) + i.conc * L1 * (1000 + s.slow * v) * s.brash * WD + s.press * i.press * (WD * LD * 10000000)) hD)
  by_cases hlt : (W1 * (LD * 10000000) + i.conc * L1 * (1000 + s.slow * v) * s.brash * WD + s.press * i.press * (WD * LD * 10000000)) / (WD * LD * 10000000) * (WD * LD * 10000000) < W1 * (LD * 10000000) + i.conc * L1 * (1000 + s.slow * v) * s.brash * WD + s.press * i.press * (WD * LD * 10000000)
  · have HC2 := Lib.hid (HR.out.trans (HC.out.trans (if_pos hlt)))
    go_wp2_with fail
    go_ret
    exact ⟨by rw [HC2.out]; rfl, HB.out⟩
  · have HC2 := Lib.hid (HR.out.trans (HC.out.trans (if_neg hlt)))
    go_wp2_with fail
    go_ret
    exact ⟨by rw [HC2.out]; rfl, HB.out⟩
theorem rresistance_any (s : Sh) (m : Mem3) (i : Ic) (ch : Bool) (g : Good s) (gi : GoodI i) (v : Int) (hv : 0 ≤ v) (hv' : v ≤ 250) (w : World) (h : ShipIn w s m) :
    Calls Tryz.prog 72 #[.agg (shipA s m), .agg (iceV i), .int .i64 v, .bool ch] w fun e w' => e = .returned (.int .i64 (resP s i v ch)) ∧ Below w.heap.size w w' := by
  cases ch with
  | false => exact rres_no s m i g gi v hv hv' w h
  | true => exact rres_yes s m i g gi v hv hv' w h
end Go.Proofs.YtcoiklolgilhaaaGreatDoor
namespace Go.Proofs.YtcoiklolgilhaaaGreatDoor
open Go.RowKit
set_option maxRecDepth 100000
theorem rwhole_ok (i : Ic) (gi : GoodI i) (w : World) : Calls Tryz.prog 78 #[.agg (iceV i)] w fun e w' => e = .returned (.bool true) ∧ Below w.heap.size w w' := by
  obtain ⟨t0, hz, hbl⟩ := one_alloc w (.cells (iceV i) 38)
  have HB := Lib.hid hbl
  obtain ⟨⟨d0, d1, d2, d3⟩, _⟩ := cells4 t0
  have g0 := Lib.hid gi.conc
  have g1 := Lib.hid gi.thick
  have g2 := Lib.hid gi.ridge
  have g3 := Lib.hid gi.press
  clear t0 hbl gi
  go_enter Tryz.func78, Tryz.ntmps78
  go_wp2_with fail
  refine (rin_is _ _ _ true (decide_eq_true g0.out) _).mono ?_
  rintro e w' ⟨rfl, rfl⟩
  go_wp2_with fail
  refine (rin_is _ _ _ true (decide_eq_true g1.out) _).mono ?_
  rintro e w' ⟨rfl, rfl⟩
  go_wp2_with fail
  refine (rin_is _ _ _ true (decide_eq_true g2.out) _).mono ?_
  rintro e w' ⟨rfl, rfl⟩
  go_wp2_with fail
  refine (rin_is _ _ _ true (decide_eq_true g3.out) _).mono ?_
  rintro e w' ⟨rfl, rfl⟩
  go_wp2_with fail
  go_ret
  exact ⟨rfl, HB.out⟩
def askE (s : Sh) (v : Int) : Int := if chkP s = 0 then (if 0 ≤ v ∧ v ≤ 250 then 0 else 6) else chkP s
theorem askE_or (s : Sh) (v : Int) : askE s v = orL [chkP s, errS v] := by
  unfold askE orL errS
  by_cases h : chkP s = 0
  · by_cases hv : 0 ≤ v ∧ v ≤ 250
    · simp [h, hv]
    · simp [h, hv]
  · simp [h]
theorem rasked_ok (s : Sh) (m : Mem3) (i : Ic) (gi : GoodI i) (v : Int) (w : World) (h : ShipIn w s m) :
    Calls Tryz.prog 71 #[.agg (shipA s m), .agg (iceV i), .int .i64 v] w fun e w' => e = .returned (.int .i64 (askE s v)) ∧ Below w.heap.size w w' := by
  obtain ⟨t0, t1, hz, hbl⟩ := two_allocs w (.cells (shipA s m) 36) (.cells (iceV i) 38)
  have HB := Lib.hid hbl
  have HK4 := Lib.hid t0
  have HK5 := Lib.hid t1
  have HS := Lib.hid (h.later hbl)
  have HG := Lib.hid gi
  clear t0 t1 hbl h gi
  obtain ⟨c0, c1, c2, c3, c4, c5, c6, c7, c8, c9, c10⟩ := cells11 HK4.out
  obtain ⟨⟨d0, d1, d2, d3⟩, _⟩ := cells4 HK5.out
  go_enter Tryz.func71, Tryz.ntmps71
  go_wp2_with fail
  refine (rCheck_any s m _ HS.out).mono ?_
  rintro e V1 ⟨rfl, hb⟩
  clear c0 c1 c2 c3 c4 c5 c6 c7 c8 c9 c10 d0 d1 d2 d3
  replace HK5 := Lib.hid ((hb.block _ (lt_of_block HK5.out)).trans HK5.out)
  replace HB := Lib.hid (HB.out.trans (hb.mono HB.out.size))
  clear hb HS HK4
  obtain ⟨⟨d0, d1, d2, d3⟩, _⟩ := cells4 HK5.out
  by_cases hc : chkP s = 0
  · have HE := Lib.hid (show askE s v = if 0 ≤ v ∧ v ≤ 250 then 0 else 6 by unfold askE; rw [if_pos hc])
    rw [hc]
    clear hc
    go_wp2_with fail
    refine (rwhole_ok i HG.out _).mono ?_
    rintro e V2 ⟨rfl, hb⟩
    replace HB := Lib.hid (HB.out.trans (hb.mono HB.out.size))
    clear hb d0 d1 d2 d3
    by_cases hv : 0 ≤ v ∧ v ≤ 250
    · have HE2 := Lib.hid (HE.out.trans (if_pos hv))
      have HW := Lib.hid (rin_is v 0 250 true (decide_eq_true hv))
      clear hv
      go_wp2_with fail
      refine (HW.out _).mono ?_
      rintro e w' ⟨rfl, rfl⟩
      go_wp2_with fail
      go_ret
      exact ⟨by rw [HE2.out]; rfl, HB.out⟩
    · have HE2 := Lib.hid (HE.out.trans (if_neg hv))
      have HW := Lib.hid (rin_is v 0 250 false (decide_eq_false hv))
      clear hv
      go_wp2_with fail
      refine (HW.out _).mono ?_
      rintro e w' ⟨rfl, rfl⟩
      go_wp2_with fail
      go_ret
      exact ⟨by rw [HE2.out]; rfl, HB.out⟩
  · have HE := Lib.hid (show askE s v = chkP s by unfold askE; rw [if_neg hc])
    have hc' : (chkP s != 0) = true := by simpa using hc
    go_wp2_with fail
    go_ret
    exact ⟨by rw [HE.out]; rfl, HB.out⟩

set_option maxHeartbeats 4000000 in
theorem rmakes_any (s : Sh) (m : Mem3) (i : Ic) (ch : Bool) (g : Good s) (gi : GoodI i) (v : Int) (hv : 0 ≤ v) (hv' : v ≤ 250) (w : World) (h : ShipIn w s m) :
    Calls Tryz.prog 74 #[.agg (shipA s m), .agg (iceV i), .int .i64 v, .bool ch] w fun e w' => e = .returned (.bool (makesP s i ch v)) ∧ Below w.heap.size w w' := by
  obtain ⟨pt, pw, pi, ct, cw, ci⟩ := m
  have ht2 := g.th.two
  obtain ⟨b0, o0, e0, hb0, x0, _⟩ := h.t (s.th.n - 1) (by omega)
  simp only at e0
  subst e0
  obtain ⟨t0, t1, hz, hbl⟩ := two_allocs w (.cells (shipA s ⟨some ⟨b0, o0, none⟩, pw, pi, ct, cw, ci⟩) 36) (.cells (iceV i) 38)
  have HB := Lib.hid hbl
  have HS := Lib.hid (h.later hbl)
  generalize hX : (w.alloc (.cells (shipA s ⟨some ⟨b0, o0, none⟩, pw, pi, ct, cw, ci⟩) 36)).alloc (.cells (iceV i) 38) = X at *
  have HX := Lib.hid hX
  have HT := Lib.hid (fun (x : Later X) => rthrust_any s ⟨some ⟨b0, o0, none⟩, pw, pi, ct, cw, ci⟩ g.th v hv (by omega) x.world (HS.out.later x.below))
  have HR := Lib.hid (fun (x : Later X) => rresistance_any s ⟨some ⟨b0, o0, none⟩, pw, pi, ct, cw, ci⟩ i ch g gi v hv hv' x.world (HS.out.later x.below))
  haveI : Nonempty (Later X) := ⟨⟨_, Below.refl _ _⟩⟩
  have x0' := (hbl.cell (p := ⟨b0, o0 + (s.th.n - 1) * 2, none⟩) hb0).trans x0
  have hbX : b0 < X.heap.size := Nat.lt_of_lt_of_le hb0 hbl.size
  have m0 : (s.th.n : Int) - 1 = ((s.th.n - 1 : Nat) : Int) := by omega
  have l0 : ((s.th.n - 1 : Nat) : Int) < s.th.n := by omega
  have ht8 := g.th.eight
  have hwm : wrap64 ((s.th.n - 1 : Nat) : Int) = ((s.th.n - 1 : Nat) : Int) := w64 _ (by omega)
  obtain ⟨c0, c1, c2, c3, c4, c5, c6, c7, c8, c9, c10⟩ := cells11 t0
  obtain ⟨⟨d0, d1, d2, d3⟩, _⟩ := cells4 t1
  have hz4 := lt_of_block t0
  have hz5 := lt_of_block t1
  replace x0' := later_cell hbX x0'

  replace c0 := later_cell hz4 c0
  replace c1 := later_cell hz4 c1
  replace c2 := later_cell hz4 c2
  replace c3 := later_cell hz4 c3
  replace c4 := later_cell hz4 c4
  replace c5 := later_cell hz4 c5
  replace c6 := later_cell hz4 c6
  replace c7 := later_cell hz4 c7
  replace c8 := later_cell hz4 c8
  replace c9 := later_cell hz4 c9
  replace c10 := later_cell hz4 c10
  replace d0 := later_cell hz5 d0
  replace d1 := later_cell hz5 d1
  replace d2 := later_cell hz5 d2
  replace d3 := later_cell hz5 d3
  clear h hbl g gi t0 t1 x0
  by_cases h1 : v ≤ lastXP s.th
  · have d1' := decide_eq_true h1
    have h1' : v ≤ s.th.x (s.th.n - 1) := h1
    by_cases h2 : resP s i v ch ≤ thrP s v
    · have d2' := decide_eq_true h2
      have HE := Lib.hid (show makesP s i ch v = true by simp [makesP, h1, h2])
      go_enter Tryz.func74, Tryz.ntmps74
      go_wp2_with fail
      refine wp_region_later (by kernel_rfl) (by kernel_rfl) ?_
      repeat (go_big_quiet_step (first | (go_at_call 134; exact later_call (HT.out _)) | (go_at_call 72; exact later_call (HR.out _))))
      refine wpQuiet_nil ?_
      intro _ hw'
      obtain ⟨⟨W, hW⟩, rfl⟩ := hw'
      have HW := Lib.hid (HB.out.trans (hW.mono HB.out.size))
      clear hW
      go_wp2_with fail
      go_ret
      exact ⟨by rw [HE.out]; rfl, HW.out⟩
    · have d2' := decide_eq_false h2
      have HE := Lib.hid (show makesP s i ch v = false by simp [makesP, h1, h2])
      go_enter Tryz.func74, Tryz.ntmps74
      go_wp2_with fail
      refine wp_region_later (by kernel_rfl) (by kernel_rfl) ?_
      repeat (go_big_quiet_step (first | (go_at_call 134; exact later_call (HT.out _)) | (go_at_call 72; exact later_call (HR.out _))))
      refine wpQuiet_nil ?_
      intro _ hw'
      obtain ⟨⟨W, hW⟩, rfl⟩ := hw'
      have HW := Lib.hid (HB.out.trans (hW.mono HB.out.size))
      clear hW
      go_wp2_with fail
      go_ret
      exact ⟨by rw [HE.out]; rfl, HW.out⟩
  · have h1' : ¬ v ≤ s.th.x (s.th.n - 1) := h1
    have d1' := decide_eq_false h1'
    have HE := Lib.hid (show makesP s i ch v = false by simp [makesP, h1])
    go_enter Tryz.func74, Tryz.ntmps74
    go_wp2_with fail
    refine wp_region_later (by kernel_rfl) (by kernel_rfl) ?_
    repeat (go_big_quiet_step (first | (go_at_call 134; exact later_call (HT.out _)) | (go_at_call 72; exact later_call (HR.out _))))
    refine wpQuiet_nil ?_
    intro _ hw'
    obtain ⟨⟨W, hW⟩, rfl⟩ := hw'
    have HW := Lib.hid (HB.out.trans (hW.mono HB.out.size))
    clear hW
    go_wp2_with fail
    go_ret
    exact ⟨by rw [HE.out]; rfl, HW.out⟩
set_option maxHeartbeats 8000000 in
theorem rspeed_any (s : Sh) (m : Mem3) (i : Ic) (ch : Bool) (g : Good s) (gi : GoodI i) (w : World) (h : ShipIn w s m) :
    Calls Tryz.prog 76 #[.agg (shipA s m), .agg (iceV i), .bool ch] w fun e w' => e = .returned (.int .i64 (speedP s i ch : Nat)) ∧ Below w.heap.size w w' := by
  obtain ⟨t0, t1, hz, hbl⟩ := two_allocs w (.cells (shipA s m) 36) (.cells (iceV i) 38)
  have HB := Lib.hid hbl
  have HK4 := Lib.hid t0
  have HK5 := Lib.hid t1
  have HS := Lib.hid (h.later hbl)
  have HGR := Lib.hid (gr_speed g gi ch)
  have HMK := Lib.hid (fun (k : Nat) (hk : k ≤ 250) (W : World) (hW : ShipIn W s m) => rmakes_any s m i ch g gi (k : Int) (by omega) (by omega) W hW)
  have HEND := Lib.hid (show lastN (fun v => makesP s i ch (v : Int)) (speedP s i ch) 251 0 = (speedP s i ch : Int) from by
    rw [lastN_all (gr_speed g gi ch)]
    split
    · rfl
    · rename_i hn
      rw [speed_none (by simpa using hn)]
      rfl)
  clear t0 t1 hbl h g gi
  obtain ⟨c0, c1, c2, c3, c4, c5, c6, c7, c8, c9, c10⟩ := cells11 HK4.out
  obtain ⟨⟨d0, d1, d2, d3⟩, _⟩ := cells4 HK5.out
  go_enter Tryz.func76, Tryz.ntmps76
  go_wp2_with fail
  generalize (w.alloc (.cells (shipA s m) 36)).alloc (.cells (iceV i) 38) = X at *
  clear c0 c1 c2 c3 c4 c5 c6 c7 c8 c9 c10 d0 d1 d2 d3
  go_loopw [7, 8] (fun o v wr => ∃ (k : Nat) (O : Int), v = .int .i64 k ∧ o = .int .i64 O ∧ k ≤ 251 ∧ Hid (O = lastN (fun v => makesP s i ch (v : Int)) (speedP s i ch) k 0) ∧ Hid (Below w.heap.size w wr) ∧ Hid (ShipIn wr s m) ∧ Hid (wr.heap[w.heap.size]? = some (.cells (shipA s m) 36 (0, 0))) ∧ Hid (wr.heap[w.heap.size + 1]? = some (.cells (iceV i) 38 (0, 0)))) (fun _ v _ => 251 - (intOf v).toNat)
  case atStart => exact ⟨0, 0, rfl, rfl, by omega, Lib.hid (lastN_zero _ _ _).symm, HB, HS, HK4, HK5⟩
  case round =>
    clear HB HS HK4 HK5
    obtain ⟨k, O, rfl, rfl, hk, hO, hB, hS, hK4, hK5⟩ := hrel
    have HO := Lib.hid hO.out
    have HB := Lib.hid hB.out
    have HS := Lib.hid hS.out
    have HK4 := Lib.hid hK4.out
    have HK5 := Lib.hid hK5.out
    clear hO hB hS hK4 hK5
    by_cases hlt : k ≤ 250
    · have hlt' : (k : Int) ≤ 250 := by omega
      obtain ⟨c0, c1, c2, c3, c4, c5, c6, c7, c8, c9, c10⟩ := cells11 HK4.out
      obtain ⟨⟨d0, d1, d2, d3⟩, _⟩ := cells4 HK5.out
      go_wp2_with fail
      refine (HMK.out k hlt _ HS.out).mono ?_
      rintro e W1 ⟨rfl, hb⟩
      clear c0 c1 c2 c3 c4 c5 c6 c7 c8 c9 c10 d0 d1 d2 d3
      replace HK4 := Lib.hid ((hb.block _ (lt_of_block HK4.out)).trans HK4.out)
      replace HK5 := Lib.hid ((hb.block _ (lt_of_block HK5.out)).trans HK5.out)
      replace HS := Lib.hid (HS.out.later hb)
      replace HB := Lib.hid (HB.out.trans (hb.mono HB.out.size))
      clear hb
      cases hm : makesP s i ch (k : Int) with
      | true =>
        have HN := Lib.hid (lastN_yes HGR.out 0 hlt hm)
        clear hm
        go_wp2_with fail
        refine ⟨⟨k + 1, (k : Int), by go_num, rfl, by omega, Lib.hid HN.out.symm, HB, HS, HK4, HK5⟩, by simp only [intOf]; omega⟩
      | false =>
        have HN := Lib.hid (lastN_no HGR.out 0 hlt hm)
        clear hm
        go_wp2_with fail
        refine ⟨⟨k + 1, O, by go_num, rfl, by omega, Lib.hid (HO.out.trans HN.out.symm), HB, HS, HK4, HK5⟩, by simp only [intOf]; omega⟩
    · obtain rfl : k = 251 := by omega
      have HO2 := Lib.hid (HO.out.trans HEND.out)
      clear HO HEND
      go_wp2_with fail
      go_ret
      exact ⟨by rw [HO2.out]; rfl, HB.out⟩
theorem gr_lim {s : Sh} (g : Good s) {v : Int} (hv : 0 ≤ v) (ch : Bool) : Gr (limG s v ch) 400 (greatP (limG s v ch) 400) :=
  gr_of fun a b hab hb hm => makes_le g (good_lvl (by omega) (by omega)) (good_lvl (by omega) (by omega)) (show LeI (lvl (a : Int)) (lvl (b : Int)) from ⟨Int.le_refl _, by show (a : Int) ≤ (b : Int); omega, Int.le_refl _, Int.le_refl _⟩) hv (Int.le_refl _) (fun h => h) hm
def zeroI : Ic := ⟨0, 0, 0, 0⟩
theorem good_zero : GoodI zeroI := ⟨by decide, by decide, by decide, by decide⟩
set_option maxHeartbeats 8000000 in
theorem rLimit_any (s : Sh) (m : Mem3) (v : Int) (ch : Bool) (w : World) (h : ShipIn w s m) :
    Calls Tryz.prog 43 #[.agg (shipA s m), .int .i64 v, .bool ch] w fun e w' => e = .returned (LimitRes s v ch) ∧ Below w.heap.size w w' := by
  obtain ⟨t0, hz, hbl⟩ := one_alloc w (.cells (shipA s m) 36)
  have HB := Lib.hid hbl
  have HK4 := Lib.hid t0
  have HS := Lib.hid (h.later hbl)
  clear t0 hbl h
  obtain ⟨c0, c1, c2, c3, c4, c5, c6, c7, c8, c9, c10⟩ := cells11 HK4.out
  go_enter Tryz.func43, Tryz.ntmps43
  go_wp2_with fail
  refine (rasked_ok s m zeroI good_zero v _ HS.out).mono ?_
  rintro e V1 ⟨rfl, hb⟩
  clear c0 c1 c2 c3 c4 c5 c6 c7 c8 c9 c10
  replace HK4 := Lib.hid ((hb.block _ (lt_of_block HK4.out)).trans HK4.out)
  replace HS := Lib.hid (HS.out.later hb)
  replace HB := Lib.hid (HB.out.trans (hb.mono HB.out.size))
  clear hb
  have HE := Lib.hid (askE_or s v)
  by_cases hc : askE s v = 0
  · have hor : orL [chkP s, errS v] = 0 := by rw [← HE.out]; exact hc
    have hchk : chkP s = 0 := (orL1 hor).1
    have hv : 0 ≤ v ∧ v ≤ 250 := by
      have := (orL1 (orL1 hor).2).1
      unfold errS at this
      by_cases h : 0 ≤ v ∧ v ≤ 250
      · exact h
      · rw [if_neg h] at this; cases this
    have g := good_of hchk
    have HR := Lib.hid (show LimitRes s v ch = if limG s v ch 0 = true then .tuple #[.int .i64 (greatP (limG s v ch) 400), .int .i64 0] else .tuple #[.int .i64 0, .int .i64 4] by unfold LimitRes; rw [if_pos hor])
    have HGR := Lib.hid (gr_lim g hv.1 ch)
    have HMK := Lib.hid (fun (k : Nat) (hk : k ≤ 400) (W : World) (hW : ShipIn W s m) => rmakes_any s m (lvl (k : Int)) ch g (good_lvl (by omega) (by omega)) v hv.1 hv.2 W hW)
    have HEND := Lib.hid (lastN_all (gr_lim g hv.1 ch) (-1))
    rw [hc]
    clear hc hor hchk hv g HE
    go_wp2_with fail
    go_loopw [9, 10] (fun o n wr => ∃ (k : Nat) (O : Int), n = .int .i64 k ∧ o = .int .i64 O ∧ k ≤ 401 ∧ Hid (O = lastN (limG s v ch) (greatP (limG s v ch) 400) k (-1)) ∧ Hid (Below w.heap.size w wr) ∧ Hid (ShipIn wr s m) ∧ Hid (wr.heap[w.heap.size]? = some (.cells (shipA s m) 36 (0, 0)))) (fun _ n _ => 401 - (intOf n).toNat)
    case atStart => exact ⟨0, -1, rfl, rfl, by omega, Lib.hid (lastN_zero _ _ _).symm, HB, HS, HK4⟩
    case round =>
      clear HB HS HK4
      obtain ⟨k, O, rfl, rfl, hk, hO, hB, hS, hK4⟩ := hrel
      have HO := Lib.hid hO.out
      have HB := Lib.hid hB.out
      have HS := Lib.hid hS.out
      have HK4 := Lib.hid hK4.out
      clear hO hB hS hK4
      by_cases hlt : k ≤ 400
      · have hlt' : (k : Int) ≤ 400 := by omega
        obtain ⟨c0, c1, c2, c3, c4, c5, c6, c7, c8, c9, c10⟩ := cells11 HK4.out
        go_wp2_with fail
        refine (HMK.out k hlt _ HS.out).mono ?_
        rintro e W1 ⟨rfl, hb⟩
        clear c0 c1 c2 c3 c4 c5 c6 c7 c8 c9 c10
        replace HK4 := Lib.hid ((hb.block _ (lt_of_block HK4.out)).trans HK4.out)
        replace HS := Lib.hid (HS.out.later hb)
        replace HB := Lib.hid (HB.out.trans (hb.mono HB.out.size))
        clear hb
        cases hm : makesP s (lvl (k : Int)) ch v with
        | true =>
          have HN := Lib.hid (lastN_yes HGR.out (-1) hlt hm)
          clear hm
          go_wp2_with fail
          refine ⟨⟨k + 1, (k : Int), by go_num, rfl, by omega, Lib.hid HN.out.symm, HB, HS, HK4⟩, by simp only [intOf]; omega⟩
        | false =>
          have HN := Lib.hid (lastN_no HGR.out (-1) hlt hm)
          clear hm
          go_wp2_with fail
          refine ⟨⟨k + 1, O, by go_num, rfl, by omega, Lib.hid (HO.out.trans HN.out.symm), HB, HS, HK4⟩, by simp only [intOf]; omega⟩
      · obtain rfl : k = 401 := by omega
        have hO2 := HO.out.trans HEND.out
        cases h0 : limG s v ch 0 with
        | true =>
          rw [h0, if_pos rfl] at hO2
          have HR2 := Lib.hid (HR.out.trans (if_pos h0))
          have hpo : ¬ O < 0 := by omega
          have HO2 := Lib.hid hO2
          clear HO HEND HR hO2 h0
          go_wp2_with fail
          go_ret2
          exact ⟨by rw [HR2.out, HO2.out]; rfl, HB.out⟩
        | false =>
          rw [h0, if_neg (by simp)] at hO2
          have HR2 := Lib.hid (HR.out.trans (if_neg (by simp [h0])))
          have hpo : O < 0 := by omega
          clear HO HEND HR hO2 h0
          go_wp2_with fail
          go_ret2
          exact ⟨by rw [HR2.out]; rfl, HB.out⟩
  · have HR := Lib.hid (show LimitRes s v ch = .tuple #[.int .i64 0, .int .i64 (askE s v)] by unfold LimitRes; rw [← HE.out, if_neg hc])
    have hc' : (askE s v != 0) = true := by simpa using hc
    go_wp2_with fail
    go_ret2
    exact ⟨by rw [HR.out]; rfl, HB.out⟩
end Go.Proofs.YtcoiklolgilhaaaGreatDoor
namespace Go.Proofs.YtcoiklolgilhaaaGreatDoor
open Go.RowKit
set_option maxRecDepth 100000
section
variable {Q : Exit → Act → World → Prop} {o : Oper} {a' : Act} {W : World} {Rq : Value → World → Prop}
theorem op_load36 {s b : Nat} {t : TypeId} {x0 x1 x2 x3 x4 x5 x6 x7 x8 x9 x10 : Value} (hop : o.op = Op.load 36 (.tmp s)) (he : a'.eval (.tmp s) = .pointer (some ⟨b, 0, none⟩)) (hb : W.heap[b]? = some (.cells #[x0, x1, x2, x3, x4, x5, x6, x7, x8, x9, x10] t (0, 0))) :
    o.wp Tryz.prog a' W (fun a'' W' => a'' = a'.put o.dst (.agg #[x0, x1, x2, x3, x4, x5, x6, x7, x8, x9, x10]) ∧ Below W.heap.size W W') Q := by
  obtain ⟨c0, c1, c2, c3, c4, c5, c6, c7, c8, c9, c10⟩ := cells11 hb
  have hr := Below.refl W.heap.size W
  have he' : a'.tmps[s]?.getD undef = .pointer (some ⟨b, 0, none⟩) := by simpa [Act.eval] using he
  unfold Oper.wp execOp
  rw [hop]
  simp [go_sem, he', c0, c1, c2, c3, c4, c5, c6, c7, c8, c9, c10, hr]
theorem op_load38 {s b : Nat} {t : TypeId} {x0 x1 x2 x3 : Value} (hop : o.op = Op.load 38 (.tmp s)) (he : a'.eval (.tmp s) = .pointer (some ⟨b, 0, none⟩)) (hb : W.heap[b]? = some (.cells #[x0, x1, x2, x3] t (0, 0))) :
    o.wp Tryz.prog a' W (fun a'' W' => a'' = a'.put o.dst (.agg #[x0, x1, x2, x3]) ∧ Below W.heap.size W W') Q := by
  obtain ⟨⟨c0, c1, c2, c3⟩, _⟩ := cells4 hb
  have hr := Below.refl W.heap.size W
  have he' : a'.tmps[s]?.getD undef = .pointer (some ⟨b, 0, none⟩) := by simpa [Act.eval] using he
  unfold Oper.wp execOp
  rw [hop]
  simp [go_sem, he', c0, c1, c2, c3, hr]
theorem opx_call2f {f s t : Nat} {v u : Value} {bb : Bool} {ts : Array TypeId} (hop : o.op = Op.call { callee := .value (.func f), args := #[.tmp s, .tmp t, .const (.bool bb)], argTypes := ts })
    (he : a'.eval (.tmp s) = v) (ht : a'.eval (.tmp t) = u) (eg : ∀ args w, (callFunc f args).run Tryz.prog w = .ok (.enter f args) w) (hc : Calls Tryz.prog f #[v, u, .bool bb] W fun e W' => ∃ r, e = .returned r ∧ Rq r W') :
    o.wp Tryz.prog a' W (fun a'' W' => ∃ x, a'' = a'.put o.dst x ∧ Rq x W') Q := by
  have he' : a'.tmps[s]?.getD undef = v := by simpa [Act.eval] using he
  have ht' : a'.tmps[t]?.getD undef = u := by simpa [Act.eval] using ht
  unfold Oper.wp execOp
  rw [hop]
  simp [go_sem, he', ht', eg]
  refine hc.mono ?_
  rintro e w' ⟨r, rfl, hb⟩
  exact ⟨r, rfl, hb⟩
end
theorem eg76c : ∀ args w, (callFunc 76 args).run Tryz.prog w = .ok (.enter 76 args) w := Go.Proofs.enters_of Tryz.func76 (by kernel_rfl) rfl
def slF11 (a b : Sh) (ma mb : Mem3) (i : Ic) : Nat → Value → Prop
  | 0, v => v = .agg (shipA a ma)
  | 1, v => v = .agg (iceV i)
  | 2, v => v = .int .i64 (speedP a i false : Nat)
  | 3, v => v = .agg (shipA b mb)
  | 4, v => v = .agg (iceV i)
  | 5, v => v = .int .i64 (speedP b i false : Nat)
  | 6, v => v = .bool (decide ((speedP a i false : Int) < (speedP b i false : Int)))
  | _, _ => True
set_option maxHeartbeats 8000000 in
theorem rSlower_any (a : Sh) (ma : Mem3) (b : Sh) (mb : Mem3) (w : World) (ha : ShipIn w a ma) (hb : ShipIn w b mb) :
    Calls Tryz.prog 45 #[.agg (shipA a ma), .agg (shipA b mb)] w fun e w' => e = .returned (SlowerRes a b) ∧ Below w.heap.size w w' := by
  obtain ⟨t0, t1, hz, hbl⟩ := two_allocs w (.cells (shipA a ma) 36) (.cells (shipA b mb) 36)
  have HB := Lib.hid hbl
  have HK2 := Lib.hid t0
  have HK3 := Lib.hid t1
  have HSa := Lib.hid (ha.later hbl)
  have HSb := Lib.hid (hb.later hbl)
  clear t0 t1 hbl ha hb
  obtain ⟨c0, c1, c2, c3, c4, c5, c6, c7, c8, c9, c10⟩ := cells11 HK2.out
  go_enter Tryz.func45, Tryz.ntmps45
  go_wp2_with fail
  refine (rCheck_any a ma _ HSa.out).mono ?_
  rintro e V1 ⟨rfl, hb⟩
  clear c0 c1 c2 c3 c4 c5 c6 c7 c8 c9 c10
  replace HK2 := Lib.hid ((hb.block _ (lt_of_block HK2.out)).trans HK2.out)
  replace HK3 := Lib.hid ((hb.block _ (lt_of_block HK3.out)).trans HK3.out)
  replace HSa := Lib.hid (HSa.out.later hb)
  replace HSb := Lib.hid (HSb.out.later hb)
  replace HB := Lib.hid (HB.out.trans (hb.mono HB.out.size))
  clear hb
  by_cases hca : chkP a = 0
  · rw [hca]
    have HCA := Lib.hid hca
    clear hca
    obtain ⟨e0, e1, e2, e3, e4, e5, e6, e7, e8, e9, e10⟩ := cells11 HK3.out
    go_wp2_with fail
    refine (rCheck_any b mb _ HSb.out).mono ?_
    rintro e V2 ⟨rfl, hb⟩
    clear e0 e1 e2 e3 e4 e5 e6 e7 e8 e9 e10
    replace HK2 := Lib.hid ((hb.block _ (lt_of_block HK2.out)).trans HK2.out)
    replace HK3 := Lib.hid ((hb.block _ (lt_of_block HK3.out)).trans HK3.out)
    replace HSa := Lib.hid (HSa.out.later hb)
    replace HSb := Lib.hid (HSb.out.later hb)
    replace HB := Lib.hid (HB.out.trans (hb.mono HB.out.size))
    clear hb
    by_cases hcb : chkP b = 0
    · have hor : orL [chkP a, chkP b] = 0 := by rw [HCA.out, hcb]; rfl
      have ga := Lib.hid (good_of HCA.out)
      have gb := Lib.hid (good_of hcb)
      have HR := Lib.hid (show SlowerRes a b = if fstN (slowG a b) 401 0 < 0 then .tuple #[.int .i64 0, .int .i64 4] else .tuple #[.int .i64 (fstN (slowG a b) 401 0), .int .i64 0] by unfold SlowerRes; rw [if_pos hor])
      rw [hcb]
      clear hcb hor HCA
      go_wp2_with fail
      go_loopw [8] (fun n wr => ∃ k : Nat, n = .int .i64 k ∧ k ≤ 401 ∧ Hid (∀ j, j < k → slowG a b j = false) ∧ Hid (Below w.heap.size w wr) ∧ Hid (ShipIn wr a ma) ∧ Hid (ShipIn wr b mb) ∧ Hid (wr.heap[w.heap.size]? = some (.cells (shipA a ma) 36 (0, 0))) ∧ Hid (wr.heap[w.heap.size + 1]? = some (.cells (shipA b mb) 36 (0, 0)))) (fun n _ => 401 - (intOf n).toNat)
      case atStart => exact ⟨0, rfl, by omega, Lib.hid (fun j hj => by omega), HB, HSa, HSb, HK2, HK3⟩
      case round =>
        clear HB HSa HSb HK2 HK3
        obtain ⟨k, rfl, hk, hF, hB, hSa, hSb, hK2, hK3⟩ := hrel
        have HF := Lib.hid hF.out
        have HB := Lib.hid hB.out
        have HSa := Lib.hid hSa.out
        have HSb := Lib.hid hSb.out
        have HK2 := Lib.hid hK2.out
        have HK3 := Lib.hid hK3.out
        clear hF hB hSa hSb hK2 hK3
        by_cases hlt : k ≤ 400
        · have hlt' : (k : Int) ≤ 400 := by omega
          have hba := (Below.refl wr.heap.size wr).alloc (Nat.le_refl _) (.cells #[.int .i64 100, .int .i64 (k : Int), .int .i64 0, .int .i64 0] 38)
          have t9 := block_new wr (.cells #[.int .i64 100, .int .i64 (k : Int), .int .i64 0, .int .i64 0] 38)
          have t2 := (hba.block _ (lt_of_block HK2.out)).trans HK2.out
          have t3 := (hba.block _ (lt_of_block HK3.out)).trans HK3.out
          go_wp2_with fail
          generalize wr.alloc (.cells #[.int .i64 100, .int .i64 (k : Int), .int .i64 0, .int .i64 0] 38) = X at *
          have HK9 := Lib.hid t9
          have HK22 := Lib.hid t2
          have HK32 := Lib.hid t3
          have HSa2 := Lib.hid (HSa.out.later hba)
          have HSb2 := Lib.hid (HSb.out.later hba)
          have HBA := Lib.hid hba
          clear t2 t3 t9 hba
          refine wp_region_fi [26, 27, 28, 29, 30, 31, 32] (slF11 a b ma mb (lvl (k : Int))) (fun _ _ W => Below X.heap.size X W) (by kernel_rfl) (by kernel_rfl) ?sz ?ts ?z ?val ?fin
          case sz => intro s hs h; simp at hs ⊢; omega
          case ts => simp
          case z => exact below_drawn X
          case val =>
            intro jj
            match jj with
            | 0 => intro o L V ho hL hd a' W hX hfr hdp; obtain rfl := Option.some.inj ho; exact opx_of (op_load36 rfl (hfr 2 (by decide)) ((hX.block _ (lt_of_block HK22.out)).trans HK22.out)) fun W' hb => ⟨rfl, hX.trans (hb.mono hX.size)⟩
            | 1 => intro o L V ho hL hd a' W hX hfr hdp; obtain rfl := Option.some.inj ho; exact opx_of (op_load38 rfl (hfr 9 (by decide)) ((hX.block _ (lt_of_block HK9.out)).trans HK9.out)) fun W' hb => ⟨rfl, hX.trans (hb.mono hX.size)⟩
            | 2 =>
              intro o L V ho hL hd a' W hX hfr hdp; obtain rfl := Option.some.inj ho
              refine opx_call2f rfl (Dp (hdp 0 26 (by decide) rfl (by kernel_rfl)) id) (Dp (hdp 1 27 (by decide) rfl (by kernel_rfl)) id) eg76c ((rspeed_any a ma (lvl (k : Int)) false ga.out (good_lvl (by omega) (by omega)) W (HSa2.out.later hX)).mono ?_)
              rintro e W' ⟨rfl, hb⟩
              exact ⟨_, rfl, rfl, hX.trans (hb.mono hX.size)⟩
            | 3 => intro o L V ho hL hd a' W hX hfr hdp; obtain rfl := Option.some.inj ho; exact opx_of (op_load36 rfl (hfr 3 (by decide)) ((hX.block _ (lt_of_block HK32.out)).trans HK32.out)) fun W' hb => ⟨rfl, hX.trans (hb.mono hX.size)⟩
            | 4 => intro o L V ho hL hd a' W hX hfr hdp; obtain rfl := Option.some.inj ho; exact opx_of (op_load38 rfl (hfr 9 (by decide)) ((hX.block _ (lt_of_block HK9.out)).trans HK9.out)) fun W' hb => ⟨rfl, hX.trans (hb.mono hX.size)⟩
            | 5 =>
              intro o L V ho hL hd a' W hX hfr hdp; obtain rfl := Option.some.inj ho
              refine opx_call2f rfl (Dp (hdp 3 29 (by decide) rfl (by kernel_rfl)) id) (Dp (hdp 4 30 (by decide) rfl (by kernel_rfl)) id) eg76c ((rspeed_any b mb (lvl (k : Int)) false gb.out (good_lvl (by omega) (by omega)) W (HSb2.out.later hX)).mono ?_)
              rintro e W' ⟨rfl, hb⟩
              exact ⟨_, rfl, rfl, hX.trans (hb.mono hX.size)⟩
            | 6 => intro o L V ho hL hd a' W hX hfr hdp; obtain rfl := Option.some.inj ho; exact opx_of (op_lsst rfl (Dp (hdp 2 28 (by decide) rfl (by kernel_rfl)) id) (Dp (hdp 5 31 (by decide) rfl (by kernel_rfl)) id)) fun W' hb => ⟨rfl, hX.trans (hb.mono hX.size)⟩
            | j + 7 => intro o L V ho; simp at ho
          case fin =>
            intro W1 L V hL hF hI
            have e6 : V 6 = .bool (decide ((speedP a (lvl (k : Int)) false : Int) < (speedP b (lvl (k : Int)) false : Int))) := hF 6 (by decide)
            have hb := HBA.out.trans (hI.mono HBA.out.size)
            clear hF hL hI HK9 HK22 HK32 HSa2 HSb2 HBA
            simp only [fill, Act.put, List.setIfInBounds_toArray, List.set_cons_zero, List.set_cons_succ, Nat.reduceAdd]
            rw [e6]
            generalize V 0 = v0, V 1 = v1, V 2 = v2, V 3 = v3, V 4 = v4, V 5 = v5 at *
            clear e6 V
            by_cases hs : (speedP a (lvl (k : Int)) false : Int) < (speedP b (lvl (k : Int)) false : Int)
            · have HFS := Lib.hid (show fstN (slowG a b) 401 0 = (k : Int) from fstN_at (by omega) (decide_eq_true hs) HF.out)
              have HR2 := Lib.hid (HR.out.trans (if_neg (by rw [HFS.out]; omega)))
              rw [decide_eq_true hs]
              have HBE := Lib.hid (HB.out.trans (hb.mono HB.out.size))
              go_wp2_with fail
              go_ret2
              exact ⟨by rw [HR2.out, HFS.out]; rfl, HBE.out⟩
            · have HFS := Lib.hid (show slowG a b k = false from decide_eq_false hs)
              rw [decide_eq_false hs]
              replace HK2 := Lib.hid ((hb.block _ (lt_of_block HK2.out)).trans HK2.out)
              replace HK3 := Lib.hid ((hb.block _ (lt_of_block HK3.out)).trans HK3.out)
              replace HSa := Lib.hid (HSa.out.later hb)
              replace HSb := Lib.hid (HSb.out.later hb)
              replace HB := Lib.hid (HB.out.trans (hb.mono HB.out.size))
              clear hb
              go_wp2_with fail
              refine ⟨⟨k + 1, by go_num, by omega, Lib.hid (fun j hj => by
                by_cases e : j = k
                · rw [e]; exact HFS.out
                · exact HF.out j (by omega)), HB, HSa, HSb, HK2, HK3⟩, by simp only [intOf]; omega⟩
        · obtain rfl : k = 401 := by omega
          have HFS := Lib.hid (show fstN (slowG a b) 401 0 = -1 from fstN_no HF.out)
          have HR2 := Lib.hid (HR.out.trans (if_pos (by rw [HFS.out]; omega)))
          go_wp2_with fail
          go_ret2
          exact ⟨by rw [HR2.out]; rfl, HB.out⟩
    · have HR := Lib.hid (show SlowerRes a b = .tuple #[.int .i64 0, .int .i64 (chkP b)] by
        have e : orL [chkP a, chkP b] = chkP b := by rw [HCA.out]; simp [orL, hcb]
        unfold SlowerRes
        rw [e, if_neg hcb])
      have hc' : (chkP b != 0) = true := by simpa using hcb
      go_wp2_with fail
      go_ret2
      exact ⟨by rw [HR.out]; rfl, HB.out⟩
  · have HR := Lib.hid (show SlowerRes a b = .tuple #[.int .i64 0, .int .i64 (chkP a)] by
      have e : orL [chkP a, chkP b] = chkP a := by simp [orL, hca]
      unfold SlowerRes
      rw [e, if_neg hca])
    have hc' : (chkP a != 0) = true := by simpa using hca
    go_wp2_with fail
    go_ret2
    exact ⟨by rw [HR.out]; rfl, HB.out⟩
end Go.Proofs.YtcoiklolgilhaaaGreatDoor
namespace Go.Proofs.YtcoiklolgilhaaaGreatDoor
open Go.RowKit
set_option maxRecDepth 100000
/-- the points of a ship lie in new memory -/
structure NewM (n : Nat) (m : Mem3) : Prop where
  t : ∀ a, m.pt = some a → n ≤ a.block
  w : ∀ a, m.pw = some a → n ≤ a.block
  i : ∀ a, m.pi = some a → n ≤ a.block
theorem crow_new {W : World} {base : Nat} {p : Option Addr} {n k : Nat} {c : Cv} (h : CRow W base (.slice p n k) c) : ∀ a, p = some a → base ≤ a.block := by
  obtain ⟨q, k', e, _, _, hn⟩ := h
  cases e
  exact hn
set_option maxHeartbeats 4000000 in
theorem CopyShip_new (s : Sh) (m : Mem3) (n2 : s.th.n ≤ 1000) (n4 : s.wa.n ≤ 1000) (n6 : s.ic.n ≤ 1000) (w : World) (hs : ShipIn w s m) :
    Calls Tryz.prog 11 #[.agg (shipA s m)] w fun e w' => ∃ m' : Mem3, e = .returned (.agg (shipA s m')) ∧ ShipIn w' s m' ∧ NewM w.heap.size m' ∧ Below w.heap.size w w' := by
  have HS := Lib.hid hs
  have HN := Lib.hid (And.intro n2 (And.intro n4 n6))
  clear n2 n4 n6
  obtain ⟨t1, t2, tz, tb⟩ := two_allocs w (.cells (shipA s m) 24) (.cells #[.int .i64 0, .int .i64 0, .int .i64 0, .int .i64 0, .slice none 0 0, .slice none 0 0, .slice none 0 0, .int .i64 0, .int .i64 0, .int .i64 0, .int .i64 0] 24)
  have H1 := Lib.hid t1
  have H2 := Lib.hid t2
  have HB := Lib.hid tb
  clear t1 t2 tb hs
  go_enter Tryz.func11, Tryz.ntmps11
  go_wp2_with fail
  generalize (w.alloc (.cells (shipA s m) 24)).alloc (.cells #[.int .i64 0, .int .i64 0, .int .i64 0, .int .i64 0, .slice none 0 0, .slice none 0 0, .slice none 0 0, .int .i64 0, .int .i64 0, .int .i64 0, .int .i64 0] 24) = X at *
  refine wp_region_fi [3, 4, 5, 6, 7, 8, 9, 10, 11, 12, 1000, 13, 1001, 14, 1002] (cpF s m w.heap.size) (Cq w s m) (by kernel_rfl) (by kernel_rfl) ?sz ?ts ?z ?val ?fin
  case sz => intro s hs h; simp at hs ⊢; omega
  case ts => simp
  case z => exact Cq.later ⟨HB.out, H2.out, H1.out, (fun e => by cases e), (fun e => by cases e), (fun e => by cases e), (fun e => by cases e), (fun e => by cases e), (fun e => by cases e)⟩ (below_drawn X)
  case val =>
    intro jj
    match jj with
    | 0 => intro o L V ho hL hd a' W hX hfr hdp; obtain rfl := Option.some.inj ho; exact opx_of (op_fa24k rfl (hfr 1 (by decide)) (by decide)) fun W' hb => ⟨rfl, (hX.later hb).set 0 (by decide) _⟩
    | 1 =>
      intro o L V ho hL hd a' W hX hfr hdp; obtain rfl := Option.some.inj ho
      obtain ⟨u0, u1, u2⟩ := hX.off (i := 1) (by decide) hL
      have hc := hX.c
      rw [u0, u1, u2] at hc
      simp only [if_neg (show ¬ false = true by simp)] at hc
      exact opx_of (op_load22 rfl (Dp (hdp 0 3 (by decide) rfl (by kernel_rfl)) id) ((cell_of_block hc 4).trans rfl)) fun W' hb => ⟨rfl, (hX.later hb).set 1 (by decide) _⟩
    | 2 =>
      intro o L V ho hL hd a' W hX hfr hdp; obtain rfl := Option.some.inj ho
      have hf : L 10 = false := by
        cases e : L 10 with
        | false => rfl
        | true => have := (hX.n10 e).2.2.2; rw [hL] at this; cases this
      refine opx_callu rfl (Dp (hdp 1 4 (by decide) rfl (by kernel_rfl)) id) eg13 ((Clone_in m.pt s.th.n _ s.th rfl HN.out.1 W ((by have := HS.out.t; exact this.later hX.low))).mono ?_)
      rintro e W' ⟨q', k', rfl, hk, hp, hnew, hb⟩
      have hr : CRow W' W.heap.size (.slice q' s.th.n k') s.th := ⟨q', k', rfl, hk, hp, hnew⟩
      have hc := (hb.block _ (lt_of_block hX.c)).trans hX.c
      refine ⟨_, rfl, trivial, hX.low.trans (hb.mono hX.low.size), (hb.block _ (lt_of_block hX.z)).trans hX.z, ?_, fun _ => CRow.weak (by simpa using hr) (by have := hX.sz; omega), by simpa using fun e => (hX.r5 e).later hb, by simpa using fun e => (hX.r8 e).later hb, ?_, ?_, ?_⟩
      · rw [hc]; simp [hf]
      · intro e; have := hX.n10 (by simpa using e); simp [this]
      · intro e; have := hX.n12 (by simpa using e); simp [this]
      · intro e; have := hX.n14 (by simpa using e); simp [this]
    | 3 => intro o L V ho hL hd a' W hX hfr hdp; obtain rfl := Option.some.inj ho; exact opx_of (op_fa24k rfl (hfr 1 (by decide)) (by decide)) fun W' hb => ⟨rfl, (hX.later hb).set 3 (by decide) _⟩
    | 4 =>
      intro o L V ho hL hd a' W hX hfr hdp; obtain rfl := Option.some.inj ho
      obtain ⟨u0, u1, u2⟩ := hX.off (i := 4) (by decide) hL
      have hc := hX.c
      rw [u0, u1, u2] at hc
      simp only [if_neg (show ¬ false = true by simp)] at hc
      exact opx_of (op_load22 rfl (Dp (hdp 3 6 (by decide) rfl (by kernel_rfl)) id) ((cell_of_block hc 5).trans rfl)) fun W' hb => ⟨rfl, (hX.later hb).set 4 (by decide) _⟩
    | 5 =>
      intro o L V ho hL hd a' W hX hfr hdp; obtain rfl := Option.some.inj ho
      have hf : L 12 = false := by
        cases e : L 12 with
        | false => rfl
        | true => have := (hX.n12 e).2.2.2; rw [hL] at this; cases this
      refine opx_callu rfl (Dp (hdp 4 7 (by decide) rfl (by kernel_rfl)) id) eg13 ((Clone_in m.pw s.wa.n _ s.wa rfl HN.out.2.1 W ((by have := HS.out.w; exact this.later hX.low))).mono ?_)
      rintro e W' ⟨q', k', rfl, hk, hp, hnew, hb⟩
      have hr : CRow W' W.heap.size (.slice q' s.wa.n k') s.wa := ⟨q', k', rfl, hk, hp, hnew⟩
      have hc := (hb.block _ (lt_of_block hX.c)).trans hX.c
      refine ⟨_, rfl, trivial, hX.low.trans (hb.mono hX.low.size), (hb.block _ (lt_of_block hX.z)).trans hX.z, ?_, by simpa using fun e => (hX.r2 e).later hb, fun _ => CRow.weak (by simpa using hr) (by have := hX.sz; omega), by simpa using fun e => (hX.r8 e).later hb, ?_, ?_, ?_⟩
      · rw [hc]; simp [hf]
      · intro e; have := hX.n10 (by simpa using e); simp [this]
      · intro e; have := hX.n12 (by simpa using e); simp [this]
      · intro e; have := hX.n14 (by simpa using e); simp [this]
    | 6 => intro o L V ho hL hd a' W hX hfr hdp; obtain rfl := Option.some.inj ho; exact opx_of (op_fa24k rfl (hfr 1 (by decide)) (by decide)) fun W' hb => ⟨rfl, (hX.later hb).set 6 (by decide) _⟩
    | 7 =>
      intro o L V ho hL hd a' W hX hfr hdp; obtain rfl := Option.some.inj ho
      obtain ⟨u0, u1, u2⟩ := hX.off (i := 7) (by decide) hL
      have hc := hX.c
      rw [u0, u1, u2] at hc
      simp only [if_neg (show ¬ false = true by simp)] at hc
      exact opx_of (op_load22 rfl (Dp (hdp 6 9 (by decide) rfl (by kernel_rfl)) id) ((cell_of_block hc 6).trans rfl)) fun W' hb => ⟨rfl, (hX.later hb).set 7 (by decide) _⟩
    | 8 =>
      intro o L V ho hL hd a' W hX hfr hdp; obtain rfl := Option.some.inj ho
      have hf : L 14 = false := by
        cases e : L 14 with
        | false => rfl
        | true => have := (hX.n14 e).2.2.2; rw [hL] at this; cases this
      refine opx_callu rfl (Dp (hdp 7 10 (by decide) rfl (by kernel_rfl)) id) eg13 ((Clone_in m.pi s.ic.n _ s.ic rfl HN.out.2.2 W ((by have := HS.out.i; exact this.later hX.low))).mono ?_)
      rintro e W' ⟨q', k', rfl, hk, hp, hnew, hb⟩
      have hr : CRow W' W.heap.size (.slice q' s.ic.n k') s.ic := ⟨q', k', rfl, hk, hp, hnew⟩
      have hc := (hb.block _ (lt_of_block hX.c)).trans hX.c
      refine ⟨_, rfl, trivial, hX.low.trans (hb.mono hX.low.size), (hb.block _ (lt_of_block hX.z)).trans hX.z, ?_, by simpa using fun e => (hX.r2 e).later hb, by simpa using fun e => (hX.r5 e).later hb, fun _ => CRow.weak (by simpa using hr) (by have := hX.sz; omega), ?_, ?_, ?_⟩
      · rw [hc]; simp [hf]
      · intro e; have := hX.n10 (by simpa using e); simp [this]
      · intro e; have := hX.n12 (by simpa using e); simp [this]
      · intro e; have := hX.n14 (by simpa using e); simp [this]
    | 9 => intro o L V ho hL hd a' W hX hfr hdp; obtain rfl := Option.some.inj ho; exact opx_of (op_fa24k rfl (hfr 1 (by decide)) (by decide)) fun W' hb => ⟨rfl, (hX.later hb).set 9 (by decide) _⟩
    | 10 =>
      intro o L V ho hL hd a' W hX hfr hdp; obtain rfl := Option.some.inj ho
      have hv := (hdp 2 5 (by decide) rfl (by kernel_rfl)).1
      have hr := hX.r2 (hd 2 (by kernel_rfl))
      obtain ⟨q, c, e0, _⟩ := hr
      rw [e0] at hv
      have k1 := hd 1 (by kernel_rfl)
      have k4 := hd 4 (by kernel_rfl)
      have k7 := hd 7 (by kernel_rfl)
      have k2 := hd 2 (by kernel_rfl)
      have hs2 := hX.sz
      refine opx_store22 rfl rfl (Dp (hdp 9 12 (by decide) rfl (by kernel_rfl)) id) hv hX.c (by simp) fun W' hb hc => ⟨trivial, hX.low.trans (hc.below (Nat.le_refl _)), (hc.2.1 _ (by omega)).trans hX.z, ?_, ?_, ?_, ?_, ?_, ?_, ?_⟩
      · rw [hb, ← e0]; simp
      · simpa using fun e => (hX.r2 e).sto hc (by omega)
      · simpa using fun e => (hX.r5 e).sto hc (by omega)
      · simpa using fun e => (hX.r8 e).sto hc (by omega)
      · simp [k1, k4, k7, k2]
      · simpa using hX.n12
      · simpa using hX.n14
    | 11 => intro o L V ho hL hd a' W hX hfr hdp; obtain rfl := Option.some.inj ho; exact opx_of (op_fa24k rfl (hfr 1 (by decide)) (by decide)) fun W' hb => ⟨rfl, (hX.later hb).set 11 (by decide) _⟩
    | 12 =>
      intro o L V ho hL hd a' W hX hfr hdp; obtain rfl := Option.some.inj ho
      have hv := (hdp 5 8 (by decide) rfl (by kernel_rfl)).1
      have hr := hX.r5 (hd 5 (by kernel_rfl))
      obtain ⟨q, c, e0, _⟩ := hr
      rw [e0] at hv
      have k1 := hd 1 (by kernel_rfl)
      have k4 := hd 4 (by kernel_rfl)
      have k7 := hd 7 (by kernel_rfl)
      have k2 := hd 5 (by kernel_rfl)
      have hs2 := hX.sz
      refine opx_store22 rfl rfl (Dp (hdp 11 13 (by decide) rfl (by kernel_rfl)) id) hv hX.c (by simp) fun W' hb hc => ⟨trivial, hX.low.trans (hc.below (Nat.le_refl _)), (hc.2.1 _ (by omega)).trans hX.z, ?_, ?_, ?_, ?_, ?_, ?_, ?_⟩
      · rw [hb, ← e0]; simp
      · simpa using fun e => (hX.r2 e).sto hc (by omega)
      · simpa using fun e => (hX.r5 e).sto hc (by omega)
      · simpa using fun e => (hX.r8 e).sto hc (by omega)
      · simpa using hX.n10
      · simp [k1, k4, k7, k2]
      · simpa using hX.n14
    | 13 => intro o L V ho hL hd a' W hX hfr hdp; obtain rfl := Option.some.inj ho; exact opx_of (op_fa24k rfl (hfr 1 (by decide)) (by decide)) fun W' hb => ⟨rfl, (hX.later hb).set 13 (by decide) _⟩
    | 14 =>
      intro o L V ho hL hd a' W hX hfr hdp; obtain rfl := Option.some.inj ho
      have hv := (hdp 8 11 (by decide) rfl (by kernel_rfl)).1
      have hr := hX.r8 (hd 8 (by kernel_rfl))
      obtain ⟨q, c, e0, _⟩ := hr
      rw [e0] at hv
      have k1 := hd 1 (by kernel_rfl)
      have k4 := hd 4 (by kernel_rfl)
      have k7 := hd 7 (by kernel_rfl)
      have k2 := hd 8 (by kernel_rfl)
      have hs2 := hX.sz
      refine opx_store22 rfl rfl (Dp (hdp 13 14 (by decide) rfl (by kernel_rfl)) id) hv hX.c (by simp) fun W' hb hc => ⟨trivial, hX.low.trans (hc.below (Nat.le_refl _)), (hc.2.1 _ (by omega)).trans hX.z, ?_, ?_, ?_, ?_, ?_, ?_, ?_⟩
      · rw [hb, ← e0]; simp
      · simpa using fun e => (hX.r2 e).sto hc (by omega)
      · simpa using fun e => (hX.r5 e).sto hc (by omega)
      · simpa using fun e => (hX.r8 e).sto hc (by omega)
      · simpa using hX.n10
      · simpa using hX.n12
      · simp [k1, k4, k7, k2]
    | j + 15 => intro o L V ho; simp at ho
  case fin =>
    intro W1 L V hL hF hI
    have r2 := hI.r2 (hL 2 (by decide))
    have r5 := hI.r5 (hL 5 (by decide))
    have r8 := hI.r8 (hL 8 (by decide))
    have hc := hI.c
    rw [hL 10 (by decide), hL 12 (by decide), hL 14 (by decide)] at hc
    simp only [if_true] at hc
    have hz := hI.z
    have HL := Lib.hid hI.low
    obtain ⟨q4, c4, f4, _⟩ := id r2
    obtain ⟨q5, c5, f5, _⟩ := id r5
    obtain ⟨q6, c6, f6, _⟩ := id r8
    rw [f4, f5, f6] at hc
    rw [f4] at r2
    rw [f5] at r5
    rw [f6] at r8
    have HR2 := Lib.hid r2
    have HR5 := Lib.hid r5
    have HR8 := Lib.hid r8
    have HC := Lib.hid hc
    have HZ := Lib.hid hz
    clear hI hF hL hc hz r2 r5 r8 H1 H2 HB
    simp only [fill, Act.put, List.setIfInBounds_toArray, List.set_cons_zero, List.set_cons_succ, List.set_nil, Nat.reduceAdd]
    generalize V 0 = v0, V 1 = v1, V 2 = v2, V 3 = v3, V 4 = v4, V 5 = v5, V 6 = v6, V 7 = v7, V 8 = v8, V 9 = v9, V 10 = v10, V 11 = v11, V 12 = v12, V 13 = v13, V 14 = v14 at *
    clear V f4 f5 f6
    obtain ⟨k0, k1, k2, k3, k4, k5, k6, k7, k8, k9, k10⟩ := cells11 HC.out
    go_wp2_with (refine list_store24 rfl rfl rfl rfl rfl HZ.out ?_; intro V9 hz hc; have HLE := Lib.hid (HL.out.trans (hc.below (by omega))); have HQ2 := Lib.hid (HR2.out.sto hc (by omega)); have HQ5 := Lib.hid (HR5.out.sto hc (by omega)); have HQ8 := Lib.hid (HR8.out.sto hc (by omega)); obtain ⟨m0, m1, m2, m3, m4, m5, m6, m7, m8, m9, m10⟩ := cells11 hz; clear hz hc HC HZ HL HR2 HR5 HR8)
    refine bodyPost_ret (v := .agg (shipA s ⟨q4, q5, q6, c4, c5, c6⟩)) (by simp [results, Tryz.results11, go_sem, m0, m1, m2, m3, m4, m5, m6, m7, m8, m9, m10]) rfl ⟨⟨q4, q5, q6, c4, c5, c6⟩, rfl, ⟨(crow_pts HQ2.out).1, (crow_pts HQ5.out).1, (crow_pts HQ8.out).1, (crow_pts HQ2.out).2, (crow_pts HQ5.out).2, (crow_pts HQ8.out).2, HS.out.nt, HS.out.nw, HS.out.ni⟩, ⟨fun a e => by have := crow_new HQ2.out a e; omega, fun a e => by have := crow_new HQ5.out a e; omega, fun a e => by have := crow_new HQ8.out a e; omega⟩, HLE.out⟩
/-- none of a ship's points lies in the block -/
structure OffB (s : Sh) (m : Mem3) (B : Nat) : Prop where
  t : s.th.n = 0 ∨ ∀ a, m.pt = some a → a.block ≠ B
  w : s.wa.n = 0 ∨ ∀ a, m.pw = some a → a.block ≠ B
  i : s.ic.n = 0 ∨ ∀ a, m.pi = some a → a.block ≠ B
theorem NewM.off {n : Nat} {m : Mem3} (h : NewM n m) (s : Sh) {B : Nat} (hB : B < n) : OffB s m B :=
  ⟨.inr fun a e => by have := h.t a e; omega, .inr fun a e => by have := h.w a e; omega, .inr fun a e => by have := h.i a e; omega⟩
theorem pts_off {W : World} {p : Option Addr} {c : Cv} (h : Pts W p c) : c.n = 0 ∨ ∀ a, p = some a → a.block ≠ W.heap.size := by
  rcases Nat.eq_zero_or_pos c.n with e | e
  · exact .inl e
  · obtain ⟨b, o, e1, hlt, _⟩ := h 0 e
    refine .inr fun a e2 => ?_
    obtain rfl := Option.some.inj (e1.symm.trans e2)
    show b ≠ W.heap.size
    omega
theorem ship_off {W : World} {s : Sh} {m : Mem3} (h : ShipIn W s m) : OffB s m W.heap.size := ⟨pts_off h.t, pts_off h.w, pts_off h.i⟩
theorem pts_chg {W W' : World} {p : Option Addr} {c : Cv} {B : Nat} (h : Pts W p c) (ho : c.n = 0 ∨ ∀ a, p = some a → a.block ≠ B) (hc : Chg B W W') : Pts W' p c := fun i hi => by
  obtain ⟨b, o, e, hlt, h1, h2⟩ := h i hi
  have hne : b ≠ B := by
    rcases ho with e0 | ho
    · omega
    · exact ho _ e
  exact ⟨b, o, e, by rw [hc.1]; exact hlt, by rw [chg_cell hc hne]; exact h1, by rw [chg_cell hc hne]; exact h2⟩
theorem ShipIn.chg {W W' : World} {s : Sh} {m : Mem3} {B : Nat} (h : ShipIn W s m) (ho : OffB s m B) (hc : Chg B W W') : ShipIn W' s m :=
  ⟨pts_chg h.t ho.t hc, pts_chg h.w ho.w hc, pts_chg h.i ho.i hc, h.ct, h.cw, h.ci, h.nt, h.nw, h.ni⟩
section
variable {Q : Exit → Act → World → Prop} {o : Oper} {a' : Act} {W : World}
theorem opx_store24s {s r b : Nat} {t : TypeId} {x0 x1 x2 x3 x4 x5 x6 x7 x8 x9 x10 : Value} {y0 y1 y2 y3 y7 y8 y9 y10 : Int} {q4 q5 q6 : Option Addr} {n4 c4 n5 c5 n6 c6 : Nat} {Rq : Value → World → Prop} (hd : o.dst = none) (hop : o.op = Op.store 24 (.tmp s) (.tmp r))
    (he : a'.eval (.tmp s) = .pointer (some ⟨b, 0, none⟩)) (hv : a'.eval (.tmp r) = .agg #[.int .i64 y0, .int .i64 y1, .int .i64 y2, .int .i64 y3, .slice q4 n4 c4, .slice q5 n5 c5, .slice q6 n6 c6, .int .i64 y7, .int .i64 y8, .int .i64 y9, .int .i64 y10]) (hb : W.heap[b]? = some (.cells #[x0, x1, x2, x3, x4, x5, x6, x7, x8, x9, x10] t (0, 0)))
    (hR : ∀ W', W'.heap[b]? = some (.cells #[.int .i64 y0, .int .i64 y1, .int .i64 y2, .int .i64 y3, .slice q4 n4 c4, .slice q5 n5 c5, .slice q6 n6 c6, .int .i64 y7, .int .i64 y8, .int .i64 y9, .int .i64 y10] t (0, 0)) → Chg b W W' → Rq undef W') :
    o.wp Tryz.prog a' W (fun a'' W' => ∃ x, a'' = a'.put o.dst x ∧ Rq x W') Q := by
  obtain ⟨k0, k1, k2, k3, k4, k5, k6, k7, k8, k9, k10⟩ := cells11 hb
  have f := fun o => frozen_of_block hb o
  have he' : a'.tmps[s]?.getD undef = .pointer (some ⟨b, 0, none⟩) := by simpa [Act.eval] using he
  have hv' : a'.tmps[r]?.getD undef = .agg #[.int .i64 y0, .int .i64 y1, .int .i64 y2, .int .i64 y3, .slice q4 n4 c4, .slice q5 n5 c5, .slice q6 n6 c6, .int .i64 y7, .int .i64 y8, .int .i64 y9, .int .i64 y10] := by simpa [Act.eval] using hv
  have hfin := hR (World.store11 W b (.int .i64 y0) (.int .i64 y1) (.int .i64 y2) (.int .i64 y3) (.slice q4 n4 c4) (.slice q5 n5 c5) (.slice q6 n6 c6) (.int .i64 y7) (.int .i64 y8) (.int .i64 y9) (.int .i64 y10)) (store11_block hb _ _ _ _ _ _ _ _ _ _ _) (chg_store11 _ _ _ _ _ _ _ _ _ _ _ _ _)
  unfold World.store11 at hfin
  unfold Oper.wp execOp
  rw [hop]
  simp [go_sem, he', hv', k0, k1, k2, k3, k4, k5, k6, k7, k8, k9, k10, f, hd]
  exact ⟨_, hfin⟩
theorem opx_alloc24 {Rq : Value → World → Prop} (hop : o.op = Op.alloc 24) (hR : Rq (.pointer (some ⟨W.heap.size, 0, none⟩)) (W.alloc (.cells #[.int .i64 0, .int .i64 0, .int .i64 0, .int .i64 0, .slice none 0 0, .slice none 0 0, .slice none 0 0, .int .i64 0, .int .i64 0, .int .i64 0, .int .i64 0] 24))) :
    o.wp Tryz.prog a' W (fun a'' W' => ∃ x, a'' = a'.put o.dst x ∧ Rq x W') Q := by
  unfold Oper.wp execOp
  rw [hop]
  simp [go_sem]
  exact ⟨_, rfl, hR⟩
end
theorem eg11c : ∀ args w, (callFunc 11 args).run Tryz.prog w = .ok (.enter 11 args) w := Go.Proofs.enters_of Tryz.func11 (by kernel_rfl) rfl
def cv0 : Cv := ⟨0, fun _ => 0, fun _ => 0⟩
def zeroS : Sh := ⟨0, 0, 0, 0, cv0, cv0, cv0, 0, 0, 0, 0⟩
def zeroM : Mem3 := ⟨none, none, none, 0, 0, 0⟩
structure B3 (w : World) (a b : Sh) (L : Nat → Bool) (V : Nat → Value) (W : World) : Prop where
  low : Below w.heap.size w W
  s1 : L 1 = true → ∃ m', V 1 = .agg (shipA a m') ∧ ShipIn W a m' ∧ (∀ B, L 4 = true → V 4 = .pointer (some ⟨B, 0, none⟩) → OffB a m' B) ∧ (∀ B, L 5 = true → V 5 = .pointer (some ⟨B, 0, none⟩) → OffB a m' B)
  s3 : L 3 = true → ∃ m', V 3 = .agg (shipA b m') ∧ ShipIn W b m' ∧ (∀ B, L 4 = true → V 4 = .pointer (some ⟨B, 0, none⟩) → OffB b m' B) ∧ (∀ B, L 5 = true → V 5 = .pointer (some ⟨B, 0, none⟩) → OffB b m' B)
  b4 : L 4 = true → ∃ B sx mx, V 4 = .pointer (some ⟨B, 0, none⟩) ∧ w.heap.size ≤ B ∧ W.heap[B]? = some (.cells (shipA sx mx) 24 (0, 0)) ∧ (L 6 = true → V 1 = .agg (shipA sx mx))
  b5 : L 5 = true → ∃ B sx mx, V 5 = .pointer (some ⟨B, 0, none⟩) ∧ w.heap.size ≤ B ∧ W.heap[B]? = some (.cells (shipA sx mx) 24 (0, 0)) ∧ (L 7 = true → V 3 = .agg (shipA sx mx))
  ne : L 4 = true → L 5 = true → V 4 ≠ V 5
  d6 : L 6 = true → L 4 = true ∧ L 1 = true
  d7 : L 7 = true → L 5 = true ∧ L 3 = true
section
variable {w : World} {a b : Sh} {L : Nat → Bool} {V : Nat → Value} {W W' : World}
theorem B3.later (h : B3 w a b L V W) (hb : Below W.heap.size W W') : B3 w a b L V W' := by
  refine ⟨h.low.trans (hb.mono h.low.size), fun e => ?_, fun e => ?_, fun e => ?_, fun e => ?_, h.ne, h.d6, h.d7⟩
  · obtain ⟨m', h1, h2, h3, h4⟩ := h.s1 e
    exact ⟨m', h1, h2.later hb, h3, h4⟩
  · obtain ⟨m', h1, h2, h3, h4⟩ := h.s3 e
    exact ⟨m', h1, h2.later hb, h3, h4⟩
  · obtain ⟨B, sx, mx, h1, h2, h3, h4⟩ := h.b4 e
    exact ⟨B, sx, mx, h1, h2, (hb.block _ (lt_of_block h3)).trans h3, h4⟩
  · obtain ⟨B, sx, mx, h1, h2, h3, h4⟩ := h.b5 e
    exact ⟨B, sx, mx, h1, h2, (hb.block _ (lt_of_block h3)).trans h3, h4⟩
theorem B3.set (h : B3 w a b L V W) (i : Nat) (hi : i = 0 ∨ i = 2) (x : Value) : B3 w a b (fun j => if j = i then true else L j) (fun j => if j = i then x else V j) W := by
  rcases hi with rfl | rfl
  · exact ⟨h.low, by simpa using h.s1, by simpa using h.s3, by simpa using h.b4, by simpa using h.b5, by simpa using h.ne, by simpa using h.d6, by simpa using h.d7⟩
  · exact ⟨h.low, by simpa using h.s1, by simpa using h.s3, by simpa using h.b4, by simpa using h.b5, by simpa using h.ne, by simpa using h.d6, by simpa using h.d7⟩
end
end Go.Proofs.YtcoiklolgilhaaaGreatDoor
namespace Go.Proofs.YtcoiklolgilhaaaGreatDoor
open Go.RowKit
set_option maxRecDepth 100000
theorem LimitRes_ex (s : Sh) (v : Int) (ch : Bool) : ∃ n e : Int, LimitRes s v ch = .tuple #[.int .i64 n, .int .i64 e] := by
  unfold LimitRes
  split
  · split <;> exact ⟨_, _, rfl⟩
  · exact ⟨_, _, rfl⟩
theorem SlowerRes_ex (a b : Sh) : ∃ n e : Int, SlowerRes a b = .tuple #[.int .i64 n, .int .i64 e] := by
  unfold SlowerRes
  split
  · split <;> exact ⟨_, _, rfl⟩
  · exact ⟨_, _, rfl⟩
theorem eg12c : ∀ args w, (callFunc 12 args).run Tryz.prog w = .ok (.enter 12 args) w := Go.Proofs.enters_of Tryz.func12 (by kernel_rfl) rfl
theorem eg45c : ∀ args w, (callFunc 45 args).run Tryz.prog w = .ok (.enter 45 args) w := Go.Proofs.enters_of Tryz.func45 (by kernel_rfl) rfl
def bF3 (a b : Sh) (ma mb : Mem3) : Nat → Value → Prop
  | 0, v => v = .agg (shipA a ma)
  | 2, v => v = .agg (shipA b mb)
  | _, _ => True
def bF9 (a b : Sh) (ma mb : Mem3) (n e : Int) : Nat → Value → Prop
  | 0, v => v = .agg (shipA a ma)
  | 2, v => v = .agg (shipA b mb)
  | 4, v => v = .tuple #[.int .i64 n, .int .i64 e]
  | 5, v => v = .tuple #[.int .i64 n, .int .i64 e]
  | 6, v => v = .int .i64 n
  | 7, v => v = .int .i64 e
  | 8, v => v = .int .i64 n
  | 9, v => v = .int .i64 e
  | _, _ => True
structure B9 (w : World) (a b : Sh) (L : Nat → Bool) (V : Nat → Value) (W : World) : Prop where
  low : Below w.heap.size w W
  s1 : L 1 = true → ∃ m', V 1 = .agg (shipA a m') ∧ ShipIn W a m'
  s3 : L 3 = true → ∃ m', V 3 = .agg (shipA b m') ∧ ShipIn W b m'
theorem B9.later {w : World} {a b : Sh} {L : Nat → Bool} {V : Nat → Value} {W W' : World} (h : B9 w a b L V W) (hb : Below W.heap.size W W') : B9 w a b L V W' := by
  refine ⟨h.low.trans (hb.mono h.low.size), fun e => ?_, fun e => ?_⟩
  · obtain ⟨m', h1, h2⟩ := h.s1 e
    exact ⟨m', h1, h2.later hb⟩
  · obtain ⟨m', h1, h2⟩ := h.s3 e
    exact ⟨m', h1, h2.later hb⟩
theorem B9.set {w : World} {a b : Sh} {L : Nat → Bool} {V : Nat → Value} {W : World} (h : B9 w a b L V W) (i : Nat) (hi : i ≠ 1 ∧ i ≠ 3) (x : Value) : B9 w a b (fun j => if j = i then true else L j) (fun j => if j = i then x else V j) W := by
  obtain ⟨h1, h3⟩ := hi
  refine ⟨h.low, ?_, ?_⟩
  · simp only [if_neg (Ne.symm h1)]; exact h.s1
  · simp only [if_neg (Ne.symm h3)]; exact h.s3

set_option maxHeartbeats 32000000 in
theorem Bounds_law (a : Sh) (ma : Mem3) (b : Sh) (mb : Mem3) (v : Int) (ch : Bool) (w : World) (hl : Lim w) (hst : Str w) (ha : ShipAt w a ma) (hb : ShipAt w b mb) :
    Calls Tryz.prog 5 #[.agg (shipA a ma), .agg (shipA b mb), .int .i64 v, .bool ch] w fun e w' => e = .returned (.bool true) ∧ Below w.heap.size w w' := by
  obtain ⟨ln, le, hLR⟩ := LimitRes_ex a v ch
  have HLR := Lib.hid hLR
  obtain ⟨sn, se, hSR⟩ := SlowerRes_ex a b
  have HSR := Lib.hid hSR
  have HLM := Lib.hid hl
  have HST := Lib.hid hst
  have hpos := hl.pos
  have hpos1 := hst.pos
  obtain ⟨t0, t1, hz, hbl⟩ := two_allocs w (.cells (shipA a ma) 24) (.cells (shipA b mb) 24)
  have HB := Lib.hid hbl
  have HK4 := Lib.hid t0
  have HK5 := Lib.hid t1
  have HSa := Lib.hid (ha.later hbl)
  have HSb := Lib.hid (hb.later hbl)
  clear hl hst ha hb hLR hSR t0 t1 hbl hz
  obtain ⟨c0, c1, c2, c3, c4, c5, c6, c7, c8, c9, c10⟩ := cells11 HK4.out
  obtain ⟨d0, d1, d2, d3, d4, d5, d6, d7, d8, d9, d10⟩ := cells11 HK5.out
  go_enter Tryz.func5, Tryz.ntmps5
  go_wp2_with fail
  generalize (w.alloc (.cells (shipA a ma) 24)).alloc (.cells (shipA b mb) 24) = X at *
  refine (heavy_any a ma X).mono ?_
  rintro e V1 ⟨rfl, hb⟩
  clear c0 c1 c2 c3 c4 c5 c6 c7 c8 c9 c10 d0 d1 d2 d3 d4 d5 d6 d7 d8 d9 d10
  replace HK4 := Lib.hid ((hb.block _ (lt_of_block HK4.out)).trans HK4.out)
  replace HK5 := Lib.hid ((hb.block _ (lt_of_block HK5.out)).trans HK5.out)
  replace HSa := Lib.hid (HSa.out.later hb)
  replace HSb := Lib.hid (HSb.out.later hb)
  replace HB := Lib.hid (HB.out.trans (hb.mono HB.out.size))
  clear hb
  obtain ⟨c0, c1, c2, c3, c4, c5, c6, c7, c8, c9, c10⟩ := cells11 HK4.out
  obtain ⟨d0, d1, d2, d3, d4, d5, d6, d7, d8, d9, d10⟩ := cells11 HK5.out
  generalize hv : heavyB a = hv1
  cases hv1 with
  | true =>
    clear hv
    go_wp2_with fail
    refine (awake_any V1 (HLM.out.below hpos HB.out) (HST.out.below hpos1 HB.out)).mono ?_
    rintro e We ⟨rfl, hb⟩
    have HBE := Lib.hid (HB.out.trans (hb.mono HB.out.size))
    clear hb
    go_wp2_with fail
    go_ret
    exact ⟨rfl, HBE.out⟩
  | false =>
    have hv2 := of_decide_eq_false hv
    have n1 : a.th.n ≤ 1000 := by omega
    have n2 : a.wa.n ≤ 1000 := by omega
    have n3 : a.ic.n ≤ 1000 := by omega
    have HNa := Lib.hid (And.intro n1 (And.intro n2 n3))
    replace HSa := Lib.hid (HSa.out.ship n1 n2 n3)
    clear hv hv2 n1 n2 n3
    go_wp2_with fail
    refine (heavy_any b mb _).mono ?_
    rintro e V2 ⟨rfl, hb⟩
    clear c0 c1 c2 c3 c4 c5 c6 c7 c8 c9 c10 d0 d1 d2 d3 d4 d5 d6 d7 d8 d9 d10
    replace HK4 := Lib.hid ((hb.block _ (lt_of_block HK4.out)).trans HK4.out)
    replace HK5 := Lib.hid ((hb.block _ (lt_of_block HK5.out)).trans HK5.out)
    replace HSa := Lib.hid (HSa.out.later hb)
    replace HSb := Lib.hid (HSb.out.later hb)
    replace HB := Lib.hid (HB.out.trans (hb.mono HB.out.size))
    clear hb
    obtain ⟨c0, c1, c2, c3, c4, c5, c6, c7, c8, c9, c10⟩ := cells11 HK4.out
    obtain ⟨d0, d1, d2, d3, d4, d5, d6, d7, d8, d9, d10⟩ := cells11 HK5.out
    generalize hv : heavyB b = hv1
    cases hv1 with
    | true =>
      clear hv
      go_wp2_with fail
      refine (awake_any V2 (HLM.out.below hpos HB.out) (HST.out.below hpos1 HB.out)).mono ?_
      rintro e We ⟨rfl, hb⟩
      have HBE := Lib.hid (HB.out.trans (hb.mono HB.out.size))
      clear hb
      go_wp2_with fail
      go_ret
      exact ⟨rfl, HBE.out⟩
    | false =>
      have hv2 := of_decide_eq_false hv
      have n1 : b.th.n ≤ 1000 := by omega
      have n2 : b.wa.n ≤ 1000 := by omega
      have n3 : b.ic.n ≤ 1000 := by omega
      have HNb := Lib.hid (And.intro n1 (And.intro n2 n3))
      replace HSb := Lib.hid (HSb.out.ship n1 n2 n3)
      clear hv hv2 n1 n2 n3
      go_wp2_with fail
      refine wp_region_fi [22, 23, 24, 25, 9, 10, 1000, 1001] (bF3 a b ma mb) (B3 V2 a b) (by kernel_rfl) (by kernel_rfl) ?sz ?ts ?z ?val ?fin
      case sz => intro s hs h; simp at hs ⊢; omega
      case ts => simp
      case z => exact ⟨below_drawn V2, (fun e => by cases e), (fun e => by cases e), (fun e => by cases e), (fun e => by cases e), (fun e => by cases e), (fun e => by cases e), (fun e => by cases e)⟩
      case val =>
        intro jj
        match jj with
        | 0 => intro o L V ho hL hd a' W hX hfr hdp; obtain rfl := Option.some.inj ho; exact opx_of (op_load11 rfl (hfr 4 (by decide)) ((hX.low.block _ (lt_of_block HK4.out)).trans HK4.out)) fun W' hb => ⟨rfl, (hX.later hb).set 0 (.inl rfl) _⟩
        | 1 =>
          intro o L V ho hL hd a' W hX hfr hdp; obtain rfl := Option.some.inj ho
          refine opx_callu rfl (Dp (hdp 0 22 (by decide) rfl (by kernel_rfl)) id) eg11c ((CopyShip_new a ma HNa.out.1 HNa.out.2.1 HNa.out.2.2 W (HSa.out.later hX.low)).mono ?_)
          rintro e W' ⟨m', rfl, hin, hnew, hb⟩
          have hY := hX.later hb
          have u6 : L 6 = false := by
            cases e : L 6 with
            | false => rfl
            | true => have k := (hX.d6 e).2; rw [hL] at k; cases k
          exact ⟨_, rfl, trivial, hY.low, fun _ => ⟨m', by simp, hin, fun B hL4 hV4 => hnew.off a (by obtain ⟨B', sx, mx, e1, _, e3, _⟩ := hX.b4 (by simpa using hL4); rw [e1] at hV4; cases hV4; exact lt_of_block e3), fun B hL5 hV5 => hnew.off a (by obtain ⟨B', sx, mx, e1, _, e3, _⟩ := hX.b5 (by simpa using hL5); rw [e1] at hV5; cases hV5; exact lt_of_block e3)⟩, by simpa using hY.s3, fun e => by obtain ⟨B, sx, mx, h1, h2, h3, _⟩ := hY.b4 (by simpa using e); exact ⟨B, sx, mx, by simpa using h1, h2, h3, fun e6 => by simp [u6] at e6⟩, by simpa using hY.b5, by simpa using hY.ne, fun e => by simp [u6] at e, by simpa using hY.d7⟩
        | 2 => intro o L V ho hL hd a' W hX hfr hdp; obtain rfl := Option.some.inj ho; exact opx_of (op_load11 rfl (hfr 5 (by decide)) ((hX.low.block _ (lt_of_block HK5.out)).trans HK5.out)) fun W' hb => ⟨rfl, (hX.later hb).set 2 (.inr rfl) _⟩
        | 3 =>
          intro o L V ho hL hd a' W hX hfr hdp; obtain rfl := Option.some.inj ho
          refine opx_callu rfl (Dp (hdp 2 24 (by decide) rfl (by kernel_rfl)) id) eg11c ((CopyShip_new b mb HNb.out.1 HNb.out.2.1 HNb.out.2.2 W (HSb.out.later hX.low)).mono ?_)
          rintro e W' ⟨m', rfl, hin, hnew, hb⟩
          have hY := hX.later hb
          have u6 : L 7 = false := by
            cases e : L 7 with
            | false => rfl
            | true => have k := (hX.d7 e).2; rw [hL] at k; cases k
          exact ⟨_, rfl, trivial, hY.low, by simpa using hY.s1, fun _ => ⟨m', by simp, hin, fun B hL4 hV4 => hnew.off b (by obtain ⟨B', sx, mx, e1, _, e3, _⟩ := hX.b4 (by simpa using hL4); rw [e1] at hV4; cases hV4; exact lt_of_block e3), fun B hL5 hV5 => hnew.off b (by obtain ⟨B', sx, mx, e1, _, e3, _⟩ := hX.b5 (by simpa using hL5); rw [e1] at hV5; cases hV5; exact lt_of_block e3)⟩, by simpa using hY.b4, fun e => by obtain ⟨B, sx, mx, h1, h2, h3, _⟩ := hY.b5 (by simpa using e); exact ⟨B, sx, mx, by simpa using h1, h2, h3, fun e6 => by simp [u6] at e6⟩, by simpa using hY.ne, by simpa using hY.d6, fun e => by simp [u6] at e⟩
        | 4 =>
          intro o L V ho hL hd a' W hX hfr hdp; obtain rfl := Option.some.inj ho
          have u6 : L 6 = false := by
            cases e : L 6 with
            | false => rfl
            | true => have k := (hX.d6 e).1; rw [hL] at k; cases k
          have hbl := (Below.refl W.heap.size W).alloc (Nat.le_refl _) (.cells (shipA zeroS zeroM) 24)
          have hY := hX.later hbl
          exact opx_alloc24 rfl ⟨trivial, hY.low, fun e => by obtain ⟨m', h1, h2, h3, h4⟩ := hX.s1 (by simpa using e); exact ⟨m', by simpa using h1, h2.later hbl, fun B _ hV => by simp only [if_true] at hV; cases hV; exact ship_off h2, fun B hL hV => h4 B (by simpa using hL) (by simpa using hV)⟩, fun e => by obtain ⟨m', h1, h2, h3, h4⟩ := hX.s3 (by simpa using e); exact ⟨m', by simpa using h1, h2.later hbl, fun B _ hV => by simp only [if_true] at hV; cases hV; exact ship_off h2, fun B hL hV => h4 B (by simpa using hL) (by simpa using hV)⟩, fun _ => ⟨W.heap.size, zeroS, zeroM, by simp, hX.low.size, block_new W _, fun e => by simp [u6] at e⟩, fun e => by obtain ⟨B, sx, mx, h1, h2, h3, h4⟩ := hY.b5 (by simpa using e); exact ⟨B, sx, mx, by simpa using h1, h2, h3, by simpa using h4⟩, fun h4 h5 => by obtain ⟨B, sx, mx, e1, _, e3, _⟩ := hX.b5 (by simpa using h5); have := lt_of_block e3; simp [e1] <;> omega, fun e => by simp [u6] at e, by simpa using hY.d7⟩
        | 5 =>
          intro o L V ho hL hd a' W hX hfr hdp; obtain rfl := Option.some.inj ho
          have u6 : L 7 = false := by
            cases e : L 7 with
            | false => rfl
            | true => have k := (hX.d7 e).1; rw [hL] at k; cases k
          have hbl := (Below.refl W.heap.size W).alloc (Nat.le_refl _) (.cells (shipA zeroS zeroM) 24)
          have hY := hX.later hbl
          exact opx_alloc24 rfl ⟨trivial, hY.low, fun e => by obtain ⟨m', h1, h2, h3, h4⟩ := hX.s1 (by simpa using e); exact ⟨m', by simpa using h1, h2.later hbl, fun B hL hV => h3 B (by simpa using hL) (by simpa using hV), fun B _ hV => by simp only [if_true] at hV; cases hV; exact ship_off h2⟩, fun e => by obtain ⟨m', h1, h2, h3, h4⟩ := hX.s3 (by simpa using e); exact ⟨m', by simpa using h1, h2.later hbl, fun B hL hV => h3 B (by simpa using hL) (by simpa using hV), fun B _ hV => by simp only [if_true] at hV; cases hV; exact ship_off h2⟩, fun e => by obtain ⟨B, sx, mx, h1, h2, h3, h4⟩ := hY.b4 (by simpa using e); exact ⟨B, sx, mx, by simpa using h1, h2, h3, by simpa using h4⟩, fun _ => ⟨W.heap.size, zeroS, zeroM, by simp, hX.low.size, block_new W _, fun e => by simp [u6] at e⟩, fun h4 h5 => by obtain ⟨B, sx, mx, e1, _, e3, _⟩ := hX.b4 (by simpa using h4); have := lt_of_block e3; simp [e1] <;> omega, by simpa using hY.d6, fun e => by simp [u6] at e⟩
        | 6 =>
          intro o L V ho hL hd a' W hX hfr hdp; obtain rfl := Option.some.inj ho
          have k4 := hd 4 (by kernel_rfl)
          have k1 := hd 1 (by kernel_rfl)
          obtain ⟨B, sx, mx, e1, e2, e3, _⟩ := hX.b4 k4
          obtain ⟨m1, g1, g2, g3, g4⟩ := hX.s1 k1
          exact opx_store24s rfl rfl ((hdp 4 9 (by decide) rfl (by kernel_rfl)).1.trans e1) ((hdp 1 23 (by decide) rfl (by kernel_rfl)).1.trans g1) e3 fun W' hb' hc => ⟨trivial, hX.low.trans (hc.below e2), fun e => by obtain ⟨m', h1, h2, h3, h4⟩ := hX.s1 (by simpa using e); exact ⟨m', by simpa using h1, h2.chg (h3 B k4 e1) hc, by simpa using h3, by simpa using h4⟩, fun e => by obtain ⟨m', h1, h2, h3, h4⟩ := hX.s3 (by simpa using e); exact ⟨m', by simpa using h1, h2.chg (h3 B k4 e1) hc, by simpa using h3, by simpa using h4⟩, fun _ => ⟨B, a, m1, by simpa using e1, e2, hb', fun _ => by simpa using g1⟩, fun e => by obtain ⟨B2, sx2, mx2, f1, f2, f3, f4⟩ := hX.b5 (by simpa using e); exact ⟨B2, sx2, mx2, by simpa using f1, f2, (hc.2.1 _ (fun h => by subst h; exact hX.ne k4 (by simpa using e) (e1.trans f1.symm))).trans f3, by simpa using f4⟩, by simpa using hX.ne, fun _ => by simp [k4, k1], by simpa using hX.d7⟩
        | 7 =>
          intro o L V ho hL hd a' W hX hfr hdp; obtain rfl := Option.some.inj ho
          have k4 := hd 5 (by kernel_rfl)
          have k1 := hd 3 (by kernel_rfl)
          obtain ⟨B, sx, mx, e1, e2, e3, _⟩ := hX.b5 k4
          obtain ⟨m1, g1, g2, g3, g4⟩ := hX.s3 k1
          exact opx_store24s rfl rfl ((hdp 5 10 (by decide) rfl (by kernel_rfl)).1.trans e1) ((hdp 3 25 (by decide) rfl (by kernel_rfl)).1.trans g1) e3 fun W' hb' hc => ⟨trivial, hX.low.trans (hc.below e2), fun e => by obtain ⟨m', h1, h2, h3, h4⟩ := hX.s1 (by simpa using e); exact ⟨m', by simpa using h1, h2.chg (h4 B k4 e1) hc, by simpa using h3, by simpa using h4⟩, fun e => by obtain ⟨m', h1, h2, h3, h4⟩ := hX.s3 (by simpa using e); exact ⟨m', by simpa using h1, h2.chg (h4 B k4 e1) hc, by simpa using h3, by simpa using h4⟩, fun e => by obtain ⟨B2, sx2, mx2, f1, f2, f3, f4⟩ := hX.b4 (by simpa using e); exact ⟨B2, sx2, mx2, by simpa using f1, f2, (hc.2.1 _ (fun h => by subst h; exact hX.ne (by simpa using e) k4 (f1.trans e1.symm))).trans f3, by simpa using f4⟩, fun _ => ⟨B, b, m1, by simpa using e1, e2, hb', fun _ => by simpa using g1⟩, by simpa using hX.ne, by simpa using hX.d6, fun _ => by simp [k4, k1]⟩
        | j + 8 => intro o L V ho; simp at ho
      case fin =>
        intro W1 L V hL hF hI
        obtain ⟨m1, g1, g2, z1, z2⟩ := hI.s1 (hL 1 (by decide))
        obtain ⟨m2, r1, r2, z3, z4⟩ := hI.s3 (hL 3 (by decide))
        obtain ⟨P9, sx, mx, e1, _, e3, e4⟩ := hI.b4 (hL 4 (by decide))
        obtain ⟨P10, sy, my, f1, _, f3, f4⟩ := hI.b5 (hL 5 (by decide))
        have e5 := e4 (hL 6 (by decide))
        have f5 := f4 (hL 7 (by decide))
        rw [g1] at e5
        rw [r1] at f5
        rw [← Value.agg.inj e5] at e3
        rw [← Value.agg.inj f5] at f3
        have HK9 := Lib.hid e3
        have HK10 := Lib.hid f3
        have HTa := Lib.hid g2
        have HTb := Lib.hid r2
        have hb := hI.low
        clear e3 f3 g2 r2 e4 f4 e5 f5 hL hF hI z1 z2 z3 z4
        clear c0 c1 c2 c3 c4 c5 c6 c7 c8 c9 c10 d0 d1 d2 d3 d4 d5 d6 d7 d8 d9 d10
        replace HK4 := Lib.hid ((hb.block _ (lt_of_block HK4.out)).trans HK4.out)
        replace HK5 := Lib.hid ((hb.block _ (lt_of_block HK5.out)).trans HK5.out)
        replace HSa := Lib.hid (HSa.out.later hb)
        replace HSb := Lib.hid (HSb.out.later hb)
        replace HB := Lib.hid (HB.out.trans (hb.mono HB.out.size))
        clear hb
        simp only [fill, Act.put, List.setIfInBounds_toArray, List.set_cons_zero, List.set_cons_succ, Nat.reduceAdd]
        rw [e1, f1]
        generalize V 0 = v0, V 1 = v1, V 2 = v2, V 3 = v3, V 6 = v6, V 7 = v7 at *
        clear e1 f1 g1 r1 V
        obtain ⟨c0, c1, c2, c3, c4, c5, c6, c7, c8, c9, c10⟩ := cells11 HK4.out
        obtain ⟨d0, d1, d2, d3, d4, d5, d6, d7, d8, d9, d10⟩ := cells11 HK5.out
        obtain ⟨g0, g1, g2, g3, g4, g5, g6, g7, g8, g9, g10⟩ := cells11 HK9.out
        obtain ⟨h0, h1, h2, h3, h4, h5, h6, h7, h8, h9, h10⟩ := cells11 HK10.out
        go_wp2_with fail
        refine (Limit_any a m1 v ch _ HTa.out).mono ?_
        rw [HLR.out]
        rintro e V4 ⟨rfl, hb⟩
        clear c0 c1 c2 c3 c4 c5 c6 c7 c8 c9 c10 d0 d1 d2 d3 d4 d5 d6 d7 d8 d9 d10 g0 g1 g2 g3 g4 g5 g6 g7 g8 g9 g10 h0 h1 h2 h3 h4 h5 h6 h7 h8 h9 h10
        replace HK4 := Lib.hid ((hb.block _ (lt_of_block HK4.out)).trans HK4.out)
        replace HK5 := Lib.hid ((hb.block _ (lt_of_block HK5.out)).trans HK5.out)
        replace HK9 := Lib.hid ((hb.block _ (lt_of_block HK9.out)).trans HK9.out)
        replace HK10 := Lib.hid ((hb.block _ (lt_of_block HK10.out)).trans HK10.out)
        replace HSa := Lib.hid (HSa.out.later hb)
        replace HSb := Lib.hid (HSb.out.later hb)
        replace HB := Lib.hid (HB.out.trans (hb.mono HB.out.size))
        replace HTa := Lib.hid (HTa.out.later hb)
        replace HTb := Lib.hid (HTb.out.later hb)
        clear hb
        obtain ⟨c0, c1, c2, c3, c4, c5, c6, c7, c8, c9, c10⟩ := cells11 HK4.out
        obtain ⟨d0, d1, d2, d3, d4, d5, d6, d7, d8, d9, d10⟩ := cells11 HK5.out
        obtain ⟨g0, g1, g2, g3, g4, g5, g6, g7, g8, g9, g10⟩ := cells11 HK9.out
        obtain ⟨h0, h1, h2, h3, h4, h5, h6, h7, h8, h9, h10⟩ := cells11 HK10.out
        go_wp2_with fail
        refine (Ship_any a ma HNa.out.1 HNa.out.2.1 HNa.out.2.2 _ HSa.out).mono ?_
        rintro e V5 ⟨mm, rfl, h2, hb⟩
        have Hh2 := Lib.hid h2
        clear h2
        clear c0 c1 c2 c3 c4 c5 c6 c7 c8 c9 c10 d0 d1 d2 d3 d4 d5 d6 d7 d8 d9 d10 g0 g1 g2 g3 g4 g5 g6 g7 g8 g9 g10 h0 h1 h2 h3 h4 h5 h6 h7 h8 h9 h10
        replace HK4 := Lib.hid ((hb.block _ (lt_of_block HK4.out)).trans HK4.out)
        replace HK5 := Lib.hid ((hb.block _ (lt_of_block HK5.out)).trans HK5.out)
        replace HK9 := Lib.hid ((hb.block _ (lt_of_block HK9.out)).trans HK9.out)
        replace HK10 := Lib.hid ((hb.block _ (lt_of_block HK10.out)).trans HK10.out)
        replace HSa := Lib.hid (HSa.out.later hb)
        replace HSb := Lib.hid (HSb.out.later hb)
        replace HB := Lib.hid (HB.out.trans (hb.mono HB.out.size))
        replace HTa := Lib.hid (HTa.out.later hb)
        replace HTb := Lib.hid (HTb.out.later hb)
        clear hb
        obtain ⟨c0, c1, c2, c3, c4, c5, c6, c7, c8, c9, c10⟩ := cells11 HK4.out
        obtain ⟨d0, d1, d2, d3, d4, d5, d6, d7, d8, d9, d10⟩ := cells11 HK5.out
        obtain ⟨g0, g1, g2, g3, g4, g5, g6, g7, g8, g9, g10⟩ := cells11 HK9.out
        obtain ⟨h0, h1, h2, h3, h4, h5, h6, h7, h8, h9, h10⟩ := cells11 HK10.out
        go_wp2_with fail
        refine (rLimit_any a mm v ch _ Hh2.out).mono ?_
        rw [HLR.out]
        rintro e V6 ⟨rfl, hb⟩
        clear c0 c1 c2 c3 c4 c5 c6 c7 c8 c9 c10 d0 d1 d2 d3 d4 d5 d6 d7 d8 d9 d10 g0 g1 g2 g3 g4 g5 g6 g7 g8 g9 g10 h0 h1 h2 h3 h4 h5 h6 h7 h8 h9 h10
        replace HK4 := Lib.hid ((hb.block _ (lt_of_block HK4.out)).trans HK4.out)
        replace HK5 := Lib.hid ((hb.block _ (lt_of_block HK5.out)).trans HK5.out)
        replace HK9 := Lib.hid ((hb.block _ (lt_of_block HK9.out)).trans HK9.out)
        replace HK10 := Lib.hid ((hb.block _ (lt_of_block HK10.out)).trans HK10.out)
        replace HSa := Lib.hid (HSa.out.later hb)
        replace HSb := Lib.hid (HSb.out.later hb)
        replace HB := Lib.hid (HB.out.trans (hb.mono HB.out.size))
        replace HTa := Lib.hid (HTa.out.later hb)
        replace HTb := Lib.hid (HTb.out.later hb)
        clear hb
        obtain ⟨c0, c1, c2, c3, c4, c5, c6, c7, c8, c9, c10⟩ := cells11 HK4.out
        obtain ⟨d0, d1, d2, d3, d4, d5, d6, d7, d8, d9, d10⟩ := cells11 HK5.out
        obtain ⟨g0, g1, g2, g3, g4, g5, g6, g7, g8, g9, g10⟩ := cells11 HK9.out
        obtain ⟨h0, h1, h2, h3, h4, h5, h6, h7, h8, h9, h10⟩ := cells11 HK10.out
        go_wp2_with fail
        refine (Slower_any a m1 b m2 _ HTa.out HTb.out).mono ?_
        rw [HSR.out]
        rintro e V7 ⟨rfl, hb⟩
        clear c0 c1 c2 c3 c4 c5 c6 c7 c8 c9 c10 d0 d1 d2 d3 d4 d5 d6 d7 d8 d9 d10 g0 g1 g2 g3 g4 g5 g6 g7 g8 g9 g10 h0 h1 h2 h3 h4 h5 h6 h7 h8 h9 h10
        replace HK4 := Lib.hid ((hb.block _ (lt_of_block HK4.out)).trans HK4.out)
        replace HK5 := Lib.hid ((hb.block _ (lt_of_block HK5.out)).trans HK5.out)
        replace HK9 := Lib.hid ((hb.block _ (lt_of_block HK9.out)).trans HK9.out)
        replace HK10 := Lib.hid ((hb.block _ (lt_of_block HK10.out)).trans HK10.out)
        replace HSa := Lib.hid (HSa.out.later hb)
        replace HSb := Lib.hid (HSb.out.later hb)
        replace HB := Lib.hid (HB.out.trans (hb.mono HB.out.size))
        replace HTa := Lib.hid (HTa.out.later hb)
        replace HTb := Lib.hid (HTb.out.later hb)
        clear hb
        obtain ⟨c0, c1, c2, c3, c4, c5, c6, c7, c8, c9, c10⟩ := cells11 HK4.out
        obtain ⟨d0, d1, d2, d3, d4, d5, d6, d7, d8, d9, d10⟩ := cells11 HK5.out
        obtain ⟨g0, g1, g2, g3, g4, g5, g6, g7, g8, g9, g10⟩ := cells11 HK9.out
        obtain ⟨h0, h1, h2, h3, h4, h5, h6, h7, h8, h9, h10⟩ := cells11 HK10.out
        go_wp2_with fail
        clear c0 c1 c2 c3 c4 c5 c6 c7 c8 c9 c10 d0 d1 d2 d3 d4 d5 d6 d7 d8 d9 d10 g0 g1 g2 g3 g4 g5 g6 g7 g8 g9 g10 h0 h1 h2 h3 h4 h5 h6 h7 h8 h9 h10
        refine wp_region_fi [56, 57, 58, 59, 60, 55, 61, 62, 13, 14] (bF9 a b ma mb sn se) (B9 V7 a b) (by kernel_rfl) (by kernel_rfl) ?sz ?ts ?z ?val ?fin
        case sz => intro s hs h; simp at hs ⊢; omega
        case ts => simp
        case z => exact ⟨below_drawn V7, (fun e => by cases e), (fun e => by cases e)⟩
        case val =>
          intro jj
          match jj with
          | 0 => intro o L V ho hL hd a' W hX hfr hdp; obtain rfl := Option.some.inj ho; exact opx_of (op_load11 rfl (hfr 4 (by decide)) ((hX.low.block _ (lt_of_block HK4.out)).trans HK4.out)) fun W' hb => ⟨rfl, (hX.later hb).set 0 (by decide) _⟩
          | 1 =>
            intro o L V ho hL hd a' W hX hfr hdp; obtain rfl := Option.some.inj ho
            refine opx_callu rfl (Dp (hdp 0 56 (by decide) rfl (by kernel_rfl)) id) eg12c ((Ship_any a ma HNa.out.1 HNa.out.2.1 HNa.out.2.2 W (HSa.out.later hX.low)).mono ?_)
            rintro e W' ⟨m', rfl, hin, hb⟩
            have hY := hX.later hb
            exact ⟨_, rfl, trivial, hY.low, fun _ => ⟨m', by simp, hin⟩, by simpa using hY.s3⟩
          | 2 => intro o L V ho hL hd a' W hX hfr hdp; obtain rfl := Option.some.inj ho; exact opx_of (op_load11 rfl (hfr 5 (by decide)) ((hX.low.block _ (lt_of_block HK5.out)).trans HK5.out)) fun W' hb => ⟨rfl, (hX.later hb).set 2 (by decide) _⟩
          | 3 =>
            intro o L V ho hL hd a' W hX hfr hdp; obtain rfl := Option.some.inj ho
            refine opx_callu rfl (Dp (hdp 2 58 (by decide) rfl (by kernel_rfl)) id) eg12c ((Ship_any b mb HNb.out.1 HNb.out.2.1 HNb.out.2.2 W (HSb.out.later hX.low)).mono ?_)
            rintro e W' ⟨m', rfl, hin, hb⟩
            have hY := hX.later hb
            exact ⟨_, rfl, trivial, hY.low, by simpa using hY.s1, fun _ => ⟨m', by simp, hin⟩⟩
          | 4 =>
            intro o L V ho hL hd a' W hX hfr hdp; obtain rfl := Option.some.inj ho
            obtain ⟨p1, e1, g1⟩ := hX.s1 (hd 1 (by kernel_rfl))
            obtain ⟨p2, e2, g2⟩ := hX.s3 (hd 3 (by kernel_rfl))
            have hc := rSlower_any a p1 b p2 W g1 g2
            rw [HSR.out] at hc
            exact opx_of (op_call2 rfl ((hdp 1 57 (by decide) rfl (by kernel_rfl)).1.trans e1) ((hdp 3 59 (by decide) rfl (by kernel_rfl)).1.trans e2) eg45c hc) fun W' hb => ⟨rfl, (hX.later hb).set 4 (by decide) _⟩
          | 5 => intro o L V ho hL hd a' W hX hfr hdp; obtain rfl := Option.some.inj ho; exact opx_of (op_move rfl (Dp (hdp 4 60 (by decide) rfl (by kernel_rfl)) id)) fun W' hb => ⟨rfl, (hX.later hb).set 5 (by decide) _⟩
          | 6 => intro o L V ho hL hd a' W hX hfr hdp; obtain rfl := Option.some.inj ho; exact opx_extract rfl (Dp (hdp 5 55 (by decide) rfl (by kernel_rfl)) id) rfl ⟨rfl, hX.set 6 (by decide) _⟩
          | 7 => intro o L V ho hL hd a' W hX hfr hdp; obtain rfl := Option.some.inj ho; exact opx_extract rfl (Dp (hdp 5 55 (by decide) rfl (by kernel_rfl)) id) rfl ⟨rfl, hX.set 7 (by decide) _⟩
          | 8 => intro o L V ho hL hd a' W hX hfr hdp; obtain rfl := Option.some.inj ho; exact opx_of (op_assign rfl (Dp (hdp 6 61 (by decide) rfl (by kernel_rfl)) id)) fun W' hb => ⟨rfl, (hX.later hb).set 8 (by decide) _⟩
          | 9 => intro o L V ho hL hd a' W hX hfr hdp; obtain rfl := Option.some.inj ho; exact opx_of (op_assign rfl (Dp (hdp 7 62 (by decide) rfl (by kernel_rfl)) id)) fun W' hb => ⟨rfl, (hX.later hb).set 9 (by decide) _⟩
          | j + 10 => intro o L V ho; simp at ho
        case fin =>
          intro W8 L V hL hF hI
          have e8 : V 8 = .int .i64 sn := hF 8 (by decide)
          have e9 : V 9 = .int .i64 se := hF 9 (by decide)
          have hb := hI.low
          clear hF hL hI
          replace HK4 := Lib.hid ((hb.block _ (lt_of_block HK4.out)).trans HK4.out)
          replace HK5 := Lib.hid ((hb.block _ (lt_of_block HK5.out)).trans HK5.out)
          replace HK9 := Lib.hid ((hb.block _ (lt_of_block HK9.out)).trans HK9.out)
          replace HK10 := Lib.hid ((hb.block _ (lt_of_block HK10.out)).trans HK10.out)
          replace HSa := Lib.hid (HSa.out.later hb)
          replace HSb := Lib.hid (HSb.out.later hb)
          replace HB := Lib.hid (HB.out.trans (hb.mono HB.out.size))
          replace HTa := Lib.hid (HTa.out.later hb)
          replace HTb := Lib.hid (HTb.out.later hb)
          clear hb
          obtain ⟨c0, c1, c2, c3, c4, c5, c6, c7, c8, c9, c10⟩ := cells11 HK4.out
          obtain ⟨d0, d1, d2, d3, d4, d5, d6, d7, d8, d9, d10⟩ := cells11 HK5.out
          obtain ⟨g0, g1, g2, g3, g4, g5, g6, g7, g8, g9, g10⟩ := cells11 HK9.out
          obtain ⟨h0, h1, h2, h3, h4, h5, h6, h7, h8, h9, h10⟩ := cells11 HK10.out
          simp only [fill, Act.put, List.setIfInBounds_toArray, List.set_cons_zero, List.set_cons_succ, Nat.reduceAdd]
          rw [e8, e9]
          generalize V 0 = v0, V 1 = v1, V 2 = v2, V 3 = v3, V 4 = v4, V 5 = v5, V 6 = v6, V 7 = v7 at *
          clear e8 e9 V
          go_wp2_with fail
          refine (sameShip_any a ma m1 _ HSa.out HTa.out).mono ?_
          rintro e V9 ⟨rfl, hb⟩
          clear c0 c1 c2 c3 c4 c5 c6 c7 c8 c9 c10 d0 d1 d2 d3 d4 d5 d6 d7 d8 d9 d10 g0 g1 g2 g3 g4 g5 g6 g7 g8 g9 g10 h0 h1 h2 h3 h4 h5 h6 h7 h8 h9 h10
          replace HK4 := Lib.hid ((hb.block _ (lt_of_block HK4.out)).trans HK4.out)
          replace HK5 := Lib.hid ((hb.block _ (lt_of_block HK5.out)).trans HK5.out)
          replace HK9 := Lib.hid ((hb.block _ (lt_of_block HK9.out)).trans HK9.out)
          replace HK10 := Lib.hid ((hb.block _ (lt_of_block HK10.out)).trans HK10.out)
          replace HSa := Lib.hid (HSa.out.later hb)
          replace HSb := Lib.hid (HSb.out.later hb)
          replace HB := Lib.hid (HB.out.trans (hb.mono HB.out.size))
          replace HTa := Lib.hid (HTa.out.later hb)
          replace HTb := Lib.hid (HTb.out.later hb)
          clear hb
          obtain ⟨c0, c1, c2, c3, c4, c5, c6, c7, c8, c9, c10⟩ := cells11 HK4.out
          obtain ⟨d0, d1, d2, d3, d4, d5, d6, d7, d8, d9, d10⟩ := cells11 HK5.out
          obtain ⟨g0, g1, g2, g3, g4, g5, g6, g7, g8, g9, g10⟩ := cells11 HK9.out
          obtain ⟨h0, h1, h2, h3, h4, h5, h6, h7, h8, h9, h10⟩ := cells11 HK10.out
          go_wp2_with fail
          refine (sameShip_any b mb m2 _ HSb.out HTb.out).mono ?_
          rintro e V10 ⟨rfl, hb⟩
          clear c0 c1 c2 c3 c4 c5 c6 c7 c8 c9 c10 d0 d1 d2 d3 d4 d5 d6 d7 d8 d9 d10 g0 g1 g2 g3 g4 g5 g6 g7 g8 g9 g10 h0 h1 h2 h3 h4 h5 h6 h7 h8 h9 h10
          replace HK4 := Lib.hid ((hb.block _ (lt_of_block HK4.out)).trans HK4.out)
          replace HK5 := Lib.hid ((hb.block _ (lt_of_block HK5.out)).trans HK5.out)
          replace HK9 := Lib.hid ((hb.block _ (lt_of_block HK9.out)).trans HK9.out)
          replace HK10 := Lib.hid ((hb.block _ (lt_of_block HK10.out)).trans HK10.out)
          replace HSa := Lib.hid (HSa.out.later hb)
          replace HSb := Lib.hid (HSb.out.later hb)
          replace HB := Lib.hid (HB.out.trans (hb.mono HB.out.size))
          replace HTa := Lib.hid (HTa.out.later hb)
          replace HTb := Lib.hid (HTb.out.later hb)
          clear hb
          obtain ⟨c0, c1, c2, c3, c4, c5, c6, c7, c8, c9, c10⟩ := cells11 HK4.out
          obtain ⟨d0, d1, d2, d3, d4, d5, d6, d7, d8, d9, d10⟩ := cells11 HK5.out
          obtain ⟨g0, g1, g2, g3, g4, g5, g6, g7, g8, g9, g10⟩ := cells11 HK9.out
          obtain ⟨h0, h1, h2, h3, h4, h5, h6, h7, h8, h9, h10⟩ := cells11 HK10.out
          go_wp2_with fail
          refine (awake_any V10 (HLM.out.below hpos HB.out) (HST.out.below hpos1 HB.out)).mono ?_
          rintro e We ⟨rfl, hb⟩
          have HBE := Lib.hid (HB.out.trans (hb.mono HB.out.size))
          clear hb
          go_wp2_with fail
          go_ret
          exact ⟨rfl, HBE.out⟩
end Go.Proofs.YtcoiklolgilhaaaGreatDoor
