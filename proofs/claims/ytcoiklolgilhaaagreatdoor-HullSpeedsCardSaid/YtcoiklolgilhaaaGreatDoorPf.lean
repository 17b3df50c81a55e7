/- The contracts of hull.faults, of all that it asks, and of hull.Check. -/
import Derived.Test.YtcoiklolgilhaaaGreatDoorPe
namespace Go.Proofs.YtcoiklolgilhaaaGreatDoor
open Go.RowKit
set_option maxRecDepth 100000
/-- where a ship's three curves lie -/
structure Mem3 where
  pt : Option Addr
  pw : Option Addr
  pi : Option Addr
  ct : Nat
  cw : Nat
  ci : Nat
abbrev shipA (s : Sh) (m : Mem3) : Array Value := #[.int .i64 s.cls, .int .i64 s.pow, .int .i64 s.dra, .int .i64 s.ton, .slice m.pt s.th.n m.ct, .slice m.pw s.wa.n m.cw, .slice m.pi s.ic.n m.ci, .int .i64 s.slow, .int .i64 s.brash, .int .i64 s.ridge, .int .i64 s.press]
structure ShipIn (W : World) (s : Sh) (m : Mem3) : Prop where
  t : Pts W m.pt s.th
  w : Pts W m.pw s.wa
  i : Pts W m.pi s.ic
  ct : s.th.n ≤ m.ct
  cw : s.wa.n ≤ m.cw
  ci : s.ic.n ≤ m.ci
  nt : s.th.n ≤ 1000000
  nw : s.wa.n ≤ 1000000
  ni : s.ic.n ≤ 1000000
theorem ShipIn.later {w W : World} {s : Sh} {m : Mem3} (h : ShipIn w s m) (hb : Below w.heap.size w W) : ShipIn W s m :=
  ⟨h.t.later hb, h.w.later hb, h.i.later hb, h.ct, h.cw, h.ci, h.nt, h.nw, h.ni⟩
theorem cells11 {W : World} {b : Nat} {x0 x1 x2 x3 x4 x5 x6 x7 x8 x9 x10 : Value} {t : TypeId} (h : W.heap[b]? = some (.cells #[x0, x1, x2, x3, x4, x5, x6, x7, x8, x9, x10] t (0, 0))) :
    W.cell? ⟨b, 0, none⟩ = some x0 ∧ W.cell? ⟨b, 1, none⟩ = some x1 ∧ W.cell? ⟨b, 2, none⟩ = some x2 ∧ W.cell? ⟨b, 3, none⟩ = some x3 ∧ W.cell? ⟨b, 4, none⟩ = some x4 ∧ W.cell? ⟨b, 5, none⟩ = some x5 ∧ W.cell? ⟨b, 6, none⟩ = some x6 ∧ W.cell? ⟨b, 7, none⟩ = some x7 ∧ W.cell? ⟨b, 8, none⟩ = some x8 ∧ W.cell? ⟨b, 9, none⟩ = some x9 ∧ W.cell? ⟨b, 10, none⟩ = some x10 := by
  refine ⟨?_, ?_, ?_, ?_, ?_, ?_, ?_, ?_, ?_, ?_, ?_⟩ <;> (rw [cell_of_block h]; rfl)
def flt (s : Sh) : Nat → Bool
  | 0 => !inB s.cls 1 6
  | 1 => !inB s.pow 100 100000
  | 2 => !inB s.dra 10 2000
  | 3 => !inB s.ton 10 500000
  | 4 => !(okCv s.th && decB s.th)
  | 5 => !inB (lastXP s.th) 10 250
  | 6 => !(okCv s.wa && incB s.wa)
  | 7 => decide (250 < lastXP s.wa)
  | 8 => !(okCv s.ic && incB s.ic)
  | 9 => !(decide (s.ic.y 0 = 0) && decide (lastXP s.ic = 400))
  | 10 => !inB s.slow 0 20
  | 11 => !inB s.brash 0 100
  | 12 => !inB s.ridge 0 500
  | _ => !inB s.press 0 5000
theorem fault0_any (s : Sh) (m : Mem3) (w : World) : Calls Tryz.prog 161 #[.agg (shipA s m)] w fun e w' => e = .returned (.bool (flt s 0)) ∧ Below w.heap.size w w' := by
  have HB := Lib.hid ((Below.refl w.heap.size w).alloc (Nat.le_refl _) (.cells (shipA s m) 24))
  go_enter Tryz.func161, Tryz.ntmps161
  go_wp2_with fail
  refine (hwithin_any _ _ _ _).mono ?_
  rintro e w' ⟨rfl, rfl⟩
  go_wp2_with fail
  go_ret
  exact ⟨by simp [flt], HB.out⟩
theorem fault1_any (s : Sh) (m : Mem3) (w : World) : Calls Tryz.prog 162 #[.agg (shipA s m)] w fun e w' => e = .returned (.bool (flt s 1)) ∧ Below w.heap.size w w' := by
  have HB := Lib.hid ((Below.refl w.heap.size w).alloc (Nat.le_refl _) (.cells (shipA s m) 24))
  go_enter Tryz.func162, Tryz.ntmps162
  go_wp2_with fail
  refine (hwithin_any _ _ _ _).mono ?_
  rintro e w' ⟨rfl, rfl⟩
  go_wp2_with fail
  go_ret
  exact ⟨by simp [flt], HB.out⟩
theorem fault2_any (s : Sh) (m : Mem3) (w : World) : Calls Tryz.prog 163 #[.agg (shipA s m)] w fun e w' => e = .returned (.bool (flt s 2)) ∧ Below w.heap.size w w' := by
  have HB := Lib.hid ((Below.refl w.heap.size w).alloc (Nat.le_refl _) (.cells (shipA s m) 24))
  go_enter Tryz.func163, Tryz.ntmps163
  go_wp2_with fail
  refine (hwithin_any _ _ _ _).mono ?_
  rintro e w' ⟨rfl, rfl⟩
  go_wp2_with fail
  go_ret
  exact ⟨by simp [flt], HB.out⟩
theorem fault3_any (s : Sh) (m : Mem3) (w : World) : Calls Tryz.prog 164 #[.agg (shipA s m)] w fun e w' => e = .returned (.bool (flt s 3)) ∧ Below w.heap.size w w' := by
  have HB := Lib.hid ((Below.refl w.heap.size w).alloc (Nat.le_refl _) (.cells (shipA s m) 24))
  go_enter Tryz.func164, Tryz.ntmps164
  go_wp2_with fail
  refine (hwithin_any _ _ _ _).mono ?_
  rintro e w' ⟨rfl, rfl⟩
  go_wp2_with fail
  go_ret
  exact ⟨by simp [flt], HB.out⟩
theorem fault4_any (s : Sh) (m : Mem3) (w : World) (h : ShipIn w s m) : Calls Tryz.prog 165 #[.agg (shipA s m)] w fun e w' => e = .returned (.bool (flt s 4)) ∧ Below w.heap.size w w' := by
  have HS := Lib.hid (h.later ((Below.refl w.heap.size w).alloc (Nat.le_refl _) (.cells (shipA s m) 24)))
  have HB := Lib.hid ((Below.refl w.heap.size w).alloc (Nat.le_refl _) (.cells (shipA s m) 24))
  have HI := Lib.hid (isCurve_any m.pt s.th.n m.ct s.th rfl h.nt _ HS.out.t)
  clear h
  have hc := cells11 (block_new w (.cells (shipA s m) 24))
  cases hok : okCv s.th with
  | false =>
    have HE := Lib.hid (show flt s 4 = true by simp [flt, hok])
    have HI' := Lib.hid (by have := HI.out; rw [hok] at this; exact this)
    clear HI
    go_enter Tryz.func165, Tryz.ntmps165
    go_wp2_with fail
    refine HI'.out.mono ?_
    rintro e W1 ⟨rfl, hb1⟩
    have HB1 := Lib.hid (HB.out.trans (hb1.mono HB.out.size))
    clear hb1
    go_wp2_with fail
    go_ret
    exact ⟨by rw [HE.out]; rfl, HB1.out⟩
  | true =>
    have HI' := Lib.hid (by have := HI.out; rw [hok] at this; exact this)
    have g := okCv_iff.1 hok
    have H2 := Lib.hid (fun (W : World) (hW : Below (w.alloc (.cells (shipA s m) 24)).heap.size (w.alloc (.cells (shipA s m) 24)) W) => rises_any m.pt s.th.n m.ct s.th rfl (by have := g.two; omega) HS.out.nt W (HS.out.t.later hW))
    have hcell := (cells11 (block_new w (.cells (shipA s m) 24))).2.2.2.2.1
    clear HI g hc
    go_enter Tryz.func165, Tryz.ntmps165
    go_wp2_with fail
    refine HI'.out.mono ?_
    rintro e W1 ⟨rfl, hb1⟩
    have HB1 := Lib.hid (HB.out.trans (hb1.mono HB.out.size))
    have HH := Lib.hid (H2.out W1 hb1)
    have hcell1 := (hb1.cell (p := ⟨w.heap.size, 4, none⟩) (by simp)).trans hcell
    have hz := hb1.size
    have hz' : w.heap.size < W1.heap.size := by simp at hz; omega
    clear hb1 hcell hz
    cases hd : decB s.th with
    | false =>
      have HE := Lib.hid (show flt s 4 = true by simp [flt, hok, hd])
      have HH' := Lib.hid (by have := HH.out; rw [hd] at this; exact this)
      clear HH H2
      go_wp2_with fail
      refine HH'.out.mono ?_
      rintro e W2 ⟨rfl, hb2⟩
      have HB2 := Lib.hid (HB1.out.trans (hb2.mono HB1.out.size))
      clear hb2
      go_wp2_with fail
      go_ret
      exact ⟨by rw [HE.out]; rfl, HB2.out⟩
    | true =>
      have HE := Lib.hid (show flt s 4 = false by simp [flt, hok, hd])
      have HH' := Lib.hid (by have := HH.out; rw [hd] at this; exact this)
      clear HH H2
      go_wp2_with fail
      refine HH'.out.mono ?_
      rintro e W2 ⟨rfl, hb2⟩
      have HB2 := Lib.hid (HB1.out.trans (hb2.mono HB1.out.size))
      clear hb2
      go_wp2_with fail
      go_ret
      exact ⟨by rw [HE.out]; rfl, HB2.out⟩
theorem fault5_any (s : Sh) (m : Mem3) (g : IsCv s.th) (w : World) (h : ShipIn w s m) : Calls Tryz.prog 167 #[.agg (shipA s m)] w fun e w' => e = .returned (.bool (flt s 5)) ∧ Below w.heap.size w w' := by
  have HS := Lib.hid (h.later ((Below.refl w.heap.size w).alloc (Nat.le_refl _) (.cells (shipA s m) 24)))
  have HB := Lib.hid ((Below.refl w.heap.size w).alloc (Nat.le_refl _) (.cells (shipA s m) 24))
  have HL := Lib.hid (lastX_any m.pt s.th.n m.ct s.th rfl (by have := g.two; omega) (by have := g.eight; omega) _ HS.out.t)
  clear h g
  go_enter Tryz.func167, Tryz.ntmps167
  go_wp2_with fail
  refine HL.out.mono ?_
  rintro e W1 ⟨rfl, rfl⟩
  go_wp2_with fail
  refine (hwithin_any _ _ _ _).mono ?_
  rintro e w' ⟨rfl, rfl⟩
  go_wp2_with fail
  go_ret
  exact ⟨by simp [flt], HB.out⟩
theorem fault6_any (s : Sh) (m : Mem3) (w : World) (h : ShipIn w s m) : Calls Tryz.prog 168 #[.agg (shipA s m)] w fun e w' => e = .returned (.bool (flt s 6)) ∧ Below w.heap.size w w' := by
  have HS := Lib.hid (h.later ((Below.refl w.heap.size w).alloc (Nat.le_refl _) (.cells (shipA s m) 24)))
  have HB := Lib.hid ((Below.refl w.heap.size w).alloc (Nat.le_refl _) (.cells (shipA s m) 24))
  have HI := Lib.hid (isCurve_any m.pw s.wa.n m.cw s.wa rfl h.nw _ HS.out.w)
  clear h
  have hc := cells11 (block_new w (.cells (shipA s m) 24))
  cases hok : okCv s.wa with
  | false =>
    have HE := Lib.hid (show flt s 6 = true by simp [flt, hok])
    have HI' := Lib.hid (by have := HI.out; rw [hok] at this; exact this)
    clear HI
    go_enter Tryz.func168, Tryz.ntmps168
    go_wp2_with fail
    refine HI'.out.mono ?_
    rintro e W1 ⟨rfl, hb1⟩
    have HB1 := Lib.hid (HB.out.trans (hb1.mono HB.out.size))
    clear hb1
    go_wp2_with fail
    go_ret
    exact ⟨by rw [HE.out]; rfl, HB1.out⟩
  | true =>
    have HI' := Lib.hid (by have := HI.out; rw [hok] at this; exact this)
    have g := okCv_iff.1 hok
    have H2 := Lib.hid (fun (W : World) (hW : Below (w.alloc (.cells (shipA s m) 24)).heap.size (w.alloc (.cells (shipA s m) 24)) W) => falls_any m.pw s.wa.n m.cw s.wa rfl (by have := g.two; omega) HS.out.nw W (HS.out.w.later hW))
    have hcell := (cells11 (block_new w (.cells (shipA s m) 24))).2.2.2.2.2.1
    clear HI g hc
    go_enter Tryz.func168, Tryz.ntmps168
    go_wp2_with fail
    refine HI'.out.mono ?_
    rintro e W1 ⟨rfl, hb1⟩
    have HB1 := Lib.hid (HB.out.trans (hb1.mono HB.out.size))
    have HH := Lib.hid (H2.out W1 hb1)
    have hcell1 := (hb1.cell (p := ⟨w.heap.size, 5, none⟩) (by simp)).trans hcell
    have hz := hb1.size
    have hz' : w.heap.size < W1.heap.size := by simp at hz; omega
    clear hb1 hcell hz
    cases hd : incB s.wa with
    | false =>
      have HE := Lib.hid (show flt s 6 = true by simp [flt, hok, hd])
      have HH' := Lib.hid (by have := HH.out; rw [hd] at this; exact this)
      clear HH H2
      go_wp2_with fail
      refine HH'.out.mono ?_
      rintro e W2 ⟨rfl, hb2⟩
      have HB2 := Lib.hid (HB1.out.trans (hb2.mono HB1.out.size))
      clear hb2
      go_wp2_with fail
      go_ret
      exact ⟨by rw [HE.out]; rfl, HB2.out⟩
    | true =>
      have HE := Lib.hid (show flt s 6 = false by simp [flt, hok, hd])
      have HH' := Lib.hid (by have := HH.out; rw [hd] at this; exact this)
      clear HH H2
      go_wp2_with fail
      refine HH'.out.mono ?_
      rintro e W2 ⟨rfl, hb2⟩
      have HB2 := Lib.hid (HB1.out.trans (hb2.mono HB1.out.size))
      clear hb2
      go_wp2_with fail
      go_ret
      exact ⟨by rw [HE.out]; rfl, HB2.out⟩
theorem fault7_any (s : Sh) (m : Mem3) (g : IsCv s.wa) (w : World) (h : ShipIn w s m) : Calls Tryz.prog 170 #[.agg (shipA s m)] w fun e w' => e = .returned (.bool (flt s 7)) ∧ Below w.heap.size w w' := by
  have HS := Lib.hid (h.later ((Below.refl w.heap.size w).alloc (Nat.le_refl _) (.cells (shipA s m) 24)))
  have HB := Lib.hid ((Below.refl w.heap.size w).alloc (Nat.le_refl _) (.cells (shipA s m) 24))
  have HL := Lib.hid (lastX_any m.pw s.wa.n m.cw s.wa rfl (by have := g.two; omega) (by have := g.eight; omega) _ HS.out.w)
  clear h g
  go_enter Tryz.func170, Tryz.ntmps170
  go_wp2_with fail
  refine HL.out.mono ?_
  rintro e W1 ⟨rfl, rfl⟩
  go_wp2_with fail
  go_ret
  exact ⟨by simp [flt], HB.out⟩
theorem fault8_any (s : Sh) (m : Mem3) (w : World) (h : ShipIn w s m) : Calls Tryz.prog 171 #[.agg (shipA s m)] w fun e w' => e = .returned (.bool (flt s 8)) ∧ Below w.heap.size w w' := by
  have HS := Lib.hid (h.later ((Below.refl w.heap.size w).alloc (Nat.le_refl _) (.cells (shipA s m) 24)))
  have HB := Lib.hid ((Below.refl w.heap.size w).alloc (Nat.le_refl _) (.cells (shipA s m) 24))
  have HI := Lib.hid (isCurve_any m.pi s.ic.n m.ci s.ic rfl h.ni _ HS.out.i)
  clear h
  have hc := cells11 (block_new w (.cells (shipA s m) 24))
  cases hok : okCv s.ic with
  | false =>
    have HE := Lib.hid (show flt s 8 = true by simp [flt, hok])
    have HI' := Lib.hid (by have := HI.out; rw [hok] at this; exact this)
    clear HI
    go_enter Tryz.func171, Tryz.ntmps171
    go_wp2_with fail
    refine HI'.out.mono ?_
    rintro e W1 ⟨rfl, hb1⟩
    have HB1 := Lib.hid (HB.out.trans (hb1.mono HB.out.size))
    clear hb1
    go_wp2_with fail
    go_ret
    exact ⟨by rw [HE.out]; rfl, HB1.out⟩
  | true =>
    have HI' := Lib.hid (by have := HI.out; rw [hok] at this; exact this)
    have g := okCv_iff.1 hok
    have H2 := Lib.hid (fun (W : World) (hW : Below (w.alloc (.cells (shipA s m) 24)).heap.size (w.alloc (.cells (shipA s m) 24)) W) => falls_any m.pi s.ic.n m.ci s.ic rfl (by have := g.two; omega) HS.out.ni W (HS.out.i.later hW))
    have hcell := (cells11 (block_new w (.cells (shipA s m) 24))).2.2.2.2.2.2.1
    clear HI g hc
    go_enter Tryz.func171, Tryz.ntmps171
    go_wp2_with fail
    refine HI'.out.mono ?_
    rintro e W1 ⟨rfl, hb1⟩
    have HB1 := Lib.hid (HB.out.trans (hb1.mono HB.out.size))
    have HH := Lib.hid (H2.out W1 hb1)
    have hcell1 := (hb1.cell (p := ⟨w.heap.size, 6, none⟩) (by simp)).trans hcell
    have hz := hb1.size
    have hz' : w.heap.size < W1.heap.size := by simp at hz; omega
    clear hb1 hcell hz
    cases hd : incB s.ic with
    | false =>
      have HE := Lib.hid (show flt s 8 = true by simp [flt, hok, hd])
      have HH' := Lib.hid (by have := HH.out; rw [hd] at this; exact this)
      clear HH H2
      go_wp2_with fail
      refine HH'.out.mono ?_
      rintro e W2 ⟨rfl, hb2⟩
      have HB2 := Lib.hid (HB1.out.trans (hb2.mono HB1.out.size))
      clear hb2
      go_wp2_with fail
      go_ret
      exact ⟨by rw [HE.out]; rfl, HB2.out⟩
    | true =>
      have HE := Lib.hid (show flt s 8 = false by simp [flt, hok, hd])
      have HH' := Lib.hid (by have := HH.out; rw [hd] at this; exact this)
      clear HH H2
      go_wp2_with fail
      refine HH'.out.mono ?_
      rintro e W2 ⟨rfl, hb2⟩
      have HB2 := Lib.hid (HB1.out.trans (hb2.mono HB1.out.size))
      clear hb2
      go_wp2_with fail
      go_ret
      exact ⟨by rw [HE.out]; rfl, HB2.out⟩
theorem fault9_any (s : Sh) (m : Mem3) (g : IsCv s.ic) (w : World) (h : ShipIn w s m) : Calls Tryz.prog 172 #[.agg (shipA s m)] w fun e w' => e = .returned (.bool (flt s 9)) ∧ Below w.heap.size w w' := by
  have HS := Lib.hid (h.later ((Below.refl w.heap.size w).alloc (Nat.le_refl _) (.cells (shipA s m) 24)))
  have HB := Lib.hid ((Below.refl w.heap.size w).alloc (Nat.le_refl _) (.cells (shipA s m) 24))
  have HL := Lib.hid (lastX_any m.pi s.ic.n m.ci s.ic rfl (by have := g.two; omega) (by have := g.eight; omega) _ HS.out.i)
  obtain ⟨b, o, e, hlt, _, hy⟩ := HS.out.i 0 (by have := g.two; omega)
  have hn : (0 : Int) < (s.ic.n : Int) := by have := g.two; omega
  have hcell := (cells11 (block_new w (.cells (shipA s m) 24))).2.2.2.2.2.2.1
  clear h g
  rw [e] at hcell HL
  have HEQ := Lib.hid e
  simp only [Nat.zero_mul, Nat.add_zero] at hy
  by_cases h0 : s.ic.y 0 = 0
  · by_cases h4 : lastXP s.ic = 400
    · have HE := Lib.hid (show flt s 9 = false by simp [flt, h0, h4])
      have h0' : (s.ic.y 0 != 0) = false := by simp [h0]
      have h4' : (lastXP s.ic != 400) = false := by simp [h4]
      clear h0 h4
      go_enter Tryz.func172, Tryz.ntmps172
      go_wp2_with fail
      refine HL.out.mono ?_
      rintro e W1 ⟨rfl, rfl⟩
      go_wp2_with fail
      go_ret
      exact ⟨by rw [HE.out]; rfl, HB.out⟩
    · have HE := Lib.hid (show flt s 9 = true by simp [flt, h0, h4])
      have h0' : (s.ic.y 0 != 0) = false := by simp [h0]
      have h4' : (lastXP s.ic != 400) = true := by simp [h4]
      clear h0 h4
      go_enter Tryz.func172, Tryz.ntmps172
      go_wp2_with fail
      refine HL.out.mono ?_
      rintro e W1 ⟨rfl, rfl⟩
      go_wp2_with fail
      go_ret
      exact ⟨by rw [HE.out]; rfl, HB.out⟩
  · have HE := Lib.hid (show flt s 9 = true by simp [flt, h0])
    have h0' : (s.ic.y 0 != 0) = true := by simp [h0]
    clear h0
    go_enter Tryz.func172, Tryz.ntmps172
    go_wp2_with fail
    go_ret
    exact ⟨by rw [HE.out]; rfl, HB.out⟩
theorem fault10_any (s : Sh) (m : Mem3) (w : World) : Calls Tryz.prog 173 #[.agg (shipA s m)] w fun e w' => e = .returned (.bool (flt s 10)) ∧ Below w.heap.size w w' := by
  have HB := Lib.hid ((Below.refl w.heap.size w).alloc (Nat.le_refl _) (.cells (shipA s m) 24))
  go_enter Tryz.func173, Tryz.ntmps173
  go_wp2_with fail
  refine (hwithin_any _ _ _ _).mono ?_
  rintro e w' ⟨rfl, rfl⟩
  go_wp2_with fail
  go_ret
  exact ⟨by simp [flt], HB.out⟩
theorem fault11_any (s : Sh) (m : Mem3) (w : World) : Calls Tryz.prog 174 #[.agg (shipA s m)] w fun e w' => e = .returned (.bool (flt s 11)) ∧ Below w.heap.size w w' := by
  have HB := Lib.hid ((Below.refl w.heap.size w).alloc (Nat.le_refl _) (.cells (shipA s m) 24))
  go_enter Tryz.func174, Tryz.ntmps174
  go_wp2_with fail
  refine (hwithin_any _ _ _ _).mono ?_
  rintro e w' ⟨rfl, rfl⟩
  go_wp2_with fail
  go_ret
  exact ⟨by simp [flt], HB.out⟩
theorem fault12_any (s : Sh) (m : Mem3) (w : World) : Calls Tryz.prog 175 #[.agg (shipA s m)] w fun e w' => e = .returned (.bool (flt s 12)) ∧ Below w.heap.size w w' := by
  have HB := Lib.hid ((Below.refl w.heap.size w).alloc (Nat.le_refl _) (.cells (shipA s m) 24))
  go_enter Tryz.func175, Tryz.ntmps175
  go_wp2_with fail
  refine (hwithin_any _ _ _ _).mono ?_
  rintro e w' ⟨rfl, rfl⟩
  go_wp2_with fail
  go_ret
  exact ⟨by simp [flt], HB.out⟩
theorem fault13_any (s : Sh) (m : Mem3) (w : World) : Calls Tryz.prog 176 #[.agg (shipA s m)] w fun e w' => e = .returned (.bool (flt s 13)) ∧ Below w.heap.size w w' := by
  have HB := Lib.hid ((Below.refl w.heap.size w).alloc (Nat.le_refl _) (.cells (shipA s m) 24))
  go_enter Tryz.func176, Tryz.ntmps176
  go_wp2_with fail
  refine (hwithin_any _ _ _ _).mono ?_
  rintro e w' ⟨rfl, rfl⟩
  go_wp2_with fail
  go_ret
  exact ⟨by simp [flt], HB.out⟩
end Go.Proofs.YtcoiklolgilhaaaGreatDoor
