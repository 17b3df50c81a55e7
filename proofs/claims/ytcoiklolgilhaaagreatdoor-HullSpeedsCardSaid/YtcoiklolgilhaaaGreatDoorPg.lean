/- The contracts of hull.faults and of hull.Check: it answers chkP. -/
import Derived.Test.YtcoiklolgilhaaaGreatDoorPf
namespace Go.Proofs.YtcoiklolgilhaaaGreatDoor
open Go.RowKit
set_option maxRecDepth 100000
abbrev fltA : Array Value := #[.int .i64 41, .func (.func 161) #[] #[], .int .i64 40, .func (.func 162) #[] #[], .int .i64 40, .func (.func 163) #[] #[], .int .i64 40, .func (.func 164) #[] #[], .int .i64 40, .func (.func 165) #[] #[], .int .i64 40, .func (.func 167) #[] #[], .int .i64 40, .func (.func 168) #[] #[], .int .i64 40, .func (.func 170) #[] #[], .int .i64 40, .func (.func 171) #[] #[], .int .i64 40, .func (.func 172) #[] #[], .int .i64 40, .func (.func 173) #[] #[], .int .i64 40, .func (.func 174) #[] #[], .int .i64 40, .func (.func 175) #[] #[], .int .i64 40, .func (.func 176) #[] #[]]
theorem faults_any (w : World) : Calls Tryz.prog 125 #[] w fun e w' => e = .returned (.slice (some ⟨w.heap.size, 0, none⟩) 14 14) ∧ w' = w.alloc (.cells fltA 188) := by
  go_enter Tryz.func125, Tryz.ntmps125
  go_wp2_with fail
  go_ret
  exact ⟨rfl, rfl⟩
theorem store_func1 (W : World) (e : Int) (f : Nat) : (store ⟨W.heap.size, 1, none⟩ (.func (.func f) #[] #[])).run Tryz.prog (W.alloc (.cells #[.int .i64 e, .nilFunc] 188)) = .ok () (W.alloc (.cells #[.int .i64 e, .func (.func f) #[] #[]] 188)) := by
  rw [run_store _ _ _ _ _ rfl]
  simp [go_sem]
theorem okHull_eq (s : Sh) : okHull s = (!flt s 1 && !flt s 2 && !flt s 3 && !flt s 4 && !flt s 5 && !flt s 6 && !flt s 7 && !flt s 8 && !flt s 9 && !flt s 10 && !flt s 11 && !flt s 12 && !flt s 13) := by
  have e : decide (lastXP s.wa ≤ 250) = !decide (250 < lastXP s.wa) := by
    by_cases h : lastXP s.wa ≤ 250
    · rw [decide_eq_true h, decide_eq_false (by omega)]; rfl
    · rw [decide_eq_false h, decide_eq_true (by omega)]; rfl
  simp only [okHull, flt, inB, e, Bool.not_not]
theorem chk_bad {s : Sh} {k : Nat} (hk : k < 14) (h : flt s k = true) (hu : ∀ j, j < k → flt s j = false) : chkP s = if k = 0 then 41 else 40 := by
  unfold chkP
  by_cases h0 : k = 0
  · subst h0
    rw [if_pos rfl, if_neg (by simp only [flt, inB, Bool.not_eq_true', decide_eq_false_iff_not] at h; exact h)]
  · have hc := hu 0 (by omega)
    have hcl : 1 ≤ s.cls ∧ s.cls ≤ 6 := by simpa [flt, inB] using hc
    rw [if_pos hcl, if_neg h0, if_neg]
    rw [okHull_eq]
    match k, hk, h0 with
    | 1, _, _ | 2, _, _ | 3, _, _ | 4, _, _ | 5, _, _ | 6, _, _ | 7, _, _ | 8, _, _ | 9, _, _ | 10, _, _ | 11, _, _ | 12, _, _ | 13, _, _ => simp [h]
theorem chk_ok {s : Sh} (hu : ∀ j, j < 14 → flt s j = false) : chkP s = 0 := by
  unfold chkP
  have hc := hu 0 (by omega)
  have hcl : 1 ≤ s.cls ∧ s.cls ≤ 6 := by simpa [flt, inB] using hc
  rw [if_pos hcl, if_pos]
  rw [okHull_eq]
  simp [hu]
def FlTo (s : Sh) (k : Nat) : Prop := ∀ j, j < k → flt s j = false
theorem FlTo.succ {s : Sh} {k : Nat} (h : FlTo s k) (hk : flt s k = false) : FlTo s (k + 1) := fun j hj => by
  by_cases e : j = k
  · rw [e]; exact hk
  · exact h j (by omega)
theorem FlTo.cv {s : Sh} {k : Nat} (h : FlTo s k) : (4 < k → IsCv s.th) ∧ (6 < k → IsCv s.wa) ∧ (8 < k → IsCv s.ic) := by
  refine ⟨fun hk => ?_, fun hk => ?_, fun hk => ?_⟩
  · have := h 4 hk; simp [flt] at this; exact okCv_iff.1 this.1
  · have := h 6 hk; simp [flt] at this; exact okCv_iff.1 this.1
  · have := h 8 hk; simp [flt] at this; exact okCv_iff.1 this.1
set_option maxHeartbeats 4000000 in
theorem Check_any (s : Sh) (m : Mem3) (w : World) (h : ShipIn w s m) : Calls Tryz.prog 67 #[.agg (shipA s m)] w fun e w' => e = .returned (.int .i64 (chkP s)) ∧ Below w.heap.size w w' := by
  have HS := Lib.hid h
  have hb0 := (Below.refl w.heap.size w).alloc (Nat.le_refl _) (.cells (shipA s m) 24)
  have HB0 := Lib.hid (hb0.alloc hb0.size (.cells fltA 188))
  have HF0 := Lib.hid (block_new (w.alloc (.cells (shipA s m) 24)) (.cells fltA 188))
  have HS0 := Lib.hid ((((Below.refl (w.alloc (.cells (shipA s m) 24)).heap.size (w.alloc (.cells (shipA s m) 24))).alloc (Nat.le_refl _) (.cells fltA 188)).block w.heap.size (by simp)).trans (block_new w (.cells (shipA s m) 24)))
  clear h hb0
  go_enter Tryz.func67, Tryz.ntmps67
  go_wp2_with fail
  refine (faults_any _).mono ?_
  rintro e w' ⟨rfl, rfl⟩
  go_wp2_with fail
  simp only [World.size_alloc] at HF0 ⊢
  go_loopw [7] (fun i wr => ∃ k : Nat, k ≤ 14 ∧ i = .int .i64 k ∧ Hid (FlTo s k) ∧ Hid (wr.heap[w.heap.size]? = some (.cells (shipA s m) 24 (0, 0))) ∧ Hid (wr.heap[w.heap.size + 1]? = some (.cells fltA 188 (0, 0))) ∧ Hid (Below w.heap.size w wr)) (fun i _ => 14 - (intOf i).toNat)
  case atStart => exact ⟨0, by omega, rfl, fun j hj => by omega, HS0.out, HF0.out, HB0.out⟩
  case round =>
    obtain ⟨k, hk, rfl, hu, hs, hf, hI⟩ := hrel
    by_cases hlt : k < 14
    · have hz1 := lt_of_block hs.out
      have hz2 := lt_of_block hf.out
      obtain ⟨c0, c1, c2, c3, c4, c5, c6, c7, c8, c9, c10⟩ := cells11 hs.out
      have hcl := fun o => cell_of_block hf.out o
      match k, hlt with
      | 0, _ =>
        have q0 : wr.cell? ⟨w.heap.size + 1, 0, none⟩ = some (.int .i64 41) := (hcl 0).trans rfl
        have q1 : wr.cell? ⟨w.heap.size + 1, 1, none⟩ = some (.func (.func 161) #[] #[]) := (hcl 1).trans rfl
        have hst := store_func1 wr 41 161
        have HB1 := Lib.hid (hI.out.alloc hI.out.size (.cells #[.int .i64 41, .func (.func 161) #[] #[]] 188))
        have HK1 := Lib.hid (block_new wr (.cells #[.int .i64 41, .func (.func 161) #[] #[]] 188))
        have HA1 := Lib.hid ((Below.refl wr.heap.size wr).alloc (Nat.le_refl _) (.cells #[.int .i64 41, .func (.func 161) #[] #[]] 188))
        have HC := Lib.hid (fun (W : World) (_ : Below w.heap.size w W) => fault0_any s m W)
        have HH := Lib.hid hs.out
        have HG := Lib.hid hf.out
        have HI := Lib.hid hI.out
        cases hfl : flt s 0 with
        | true =>
          have HE := Lib.hid (show chkP s = 41 from (chk_bad (by decide) hfl hu.out).trans rfl)
          have HC' := Lib.hid (by have := HC.out _ HB1.out; rw [hfl] at this; exact this)
          clear HC hcl hs hf hI
          go_wp2_with fail
          refine HC'.out.mono ?_
          rintro e W1 ⟨rfl, hb1⟩
          have HB2 := Lib.hid (HB1.out.trans (hb1.mono HB1.out.size))
          obtain ⟨⟨r0, r1⟩, _⟩ := cells2 ((hb1.block wr.heap.size (by simp)).trans HK1.out)
          clear hb1
          go_wp2_with fail
          go_ret
          exact ⟨by rw [HE.out]; rfl, HB2.out⟩
        | false =>
          have HU := Lib.hid (hu.out.succ hfl)
          have HC' := Lib.hid (by have := HC.out _ HB1.out; rw [hfl] at this; exact this)
          clear HC hcl hs hf hI hu
          go_wp2_with fail
          refine HC'.out.mono ?_
          rintro e W1 ⟨rfl, hb1⟩
          have HB2 := Lib.hid (HB1.out.trans (hb1.mono HB1.out.size))
          have HH2 := Lib.hid ((hb1.block w.heap.size (by simp; omega)).trans ((HA1.out.block w.heap.size hz1).trans HH.out))
          have HG2 := Lib.hid ((hb1.block (w.heap.size + 1) (by simp; omega)).trans ((HA1.out.block (w.heap.size + 1) hz2).trans HG.out))
          clear hb1
          go_wp2_with fail
          go_roundw
          case rel => exact ⟨1, by omega, by go_num, HU.out, HH2.out, HG2.out, HB2.out⟩
          case measure => simp [intOf]
      | 1, _ =>
        have q0 : wr.cell? ⟨w.heap.size + 1, 2, none⟩ = some (.int .i64 40) := (hcl 2).trans rfl
        have q1 : wr.cell? ⟨w.heap.size + 1, 3, none⟩ = some (.func (.func 162) #[] #[]) := (hcl 3).trans rfl
        have hst := store_func1 wr 40 162
        have HB1 := Lib.hid (hI.out.alloc hI.out.size (.cells #[.int .i64 40, .func (.func 162) #[] #[]] 188))
        have HK1 := Lib.hid (block_new wr (.cells #[.int .i64 40, .func (.func 162) #[] #[]] 188))
        have HA1 := Lib.hid ((Below.refl wr.heap.size wr).alloc (Nat.le_refl _) (.cells #[.int .i64 40, .func (.func 162) #[] #[]] 188))
        have HC := Lib.hid (fun (W : World) (_ : Below w.heap.size w W) => fault1_any s m W)
        have HH := Lib.hid hs.out
        have HG := Lib.hid hf.out
        have HI := Lib.hid hI.out
        cases hfl : flt s 1 with
        | true =>
          have HE := Lib.hid (show chkP s = 40 from (chk_bad (by decide) hfl hu.out).trans rfl)
          have HC' := Lib.hid (by have := HC.out _ HB1.out; rw [hfl] at this; exact this)
          clear HC hcl hs hf hI
          go_wp2_with fail
          refine HC'.out.mono ?_
          rintro e W1 ⟨rfl, hb1⟩
          have HB2 := Lib.hid (HB1.out.trans (hb1.mono HB1.out.size))
          obtain ⟨⟨r0, r1⟩, _⟩ := cells2 ((hb1.block wr.heap.size (by simp)).trans HK1.out)
          clear hb1
          go_wp2_with fail
          go_ret
          exact ⟨by rw [HE.out]; rfl, HB2.out⟩
        | false =>
          have HU := Lib.hid (hu.out.succ hfl)
          have HC' := Lib.hid (by have := HC.out _ HB1.out; rw [hfl] at this; exact this)
          clear HC hcl hs hf hI hu
          go_wp2_with fail
          refine HC'.out.mono ?_
          rintro e W1 ⟨rfl, hb1⟩
          have HB2 := Lib.hid (HB1.out.trans (hb1.mono HB1.out.size))
          have HH2 := Lib.hid ((hb1.block w.heap.size (by simp; omega)).trans ((HA1.out.block w.heap.size hz1).trans HH.out))
          have HG2 := Lib.hid ((hb1.block (w.heap.size + 1) (by simp; omega)).trans ((HA1.out.block (w.heap.size + 1) hz2).trans HG.out))
          clear hb1
          go_wp2_with fail
          go_roundw
          case rel => exact ⟨2, by omega, by go_num, HU.out, HH2.out, HG2.out, HB2.out⟩
          case measure => simp [intOf]
      | 2, _ =>
        have q0 : wr.cell? ⟨w.heap.size + 1, 4, none⟩ = some (.int .i64 40) := (hcl 4).trans rfl
        have q1 : wr.cell? ⟨w.heap.size + 1, 5, none⟩ = some (.func (.func 163) #[] #[]) := (hcl 5).trans rfl
        have hst := store_func1 wr 40 163
        have HB1 := Lib.hid (hI.out.alloc hI.out.size (.cells #[.int .i64 40, .func (.func 163) #[] #[]] 188))
        have HK1 := Lib.hid (block_new wr (.cells #[.int .i64 40, .func (.func 163) #[] #[]] 188))
        have HA1 := Lib.hid ((Below.refl wr.heap.size wr).alloc (Nat.le_refl _) (.cells #[.int .i64 40, .func (.func 163) #[] #[]] 188))
        have HC := Lib.hid (fun (W : World) (_ : Below w.heap.size w W) => fault2_any s m W)
        have HH := Lib.hid hs.out
        have HG := Lib.hid hf.out
        have HI := Lib.hid hI.out
        cases hfl : flt s 2 with
        | true =>
          have HE := Lib.hid (show chkP s = 40 from (chk_bad (by decide) hfl hu.out).trans rfl)
          have HC' := Lib.hid (by have := HC.out _ HB1.out; rw [hfl] at this; exact this)
          clear HC hcl hs hf hI
          go_wp2_with fail
          refine HC'.out.mono ?_
          rintro e W1 ⟨rfl, hb1⟩
          have HB2 := Lib.hid (HB1.out.trans (hb1.mono HB1.out.size))
          obtain ⟨⟨r0, r1⟩, _⟩ := cells2 ((hb1.block wr.heap.size (by simp)).trans HK1.out)
          clear hb1
          go_wp2_with fail
          go_ret
          exact ⟨by rw [HE.out]; rfl, HB2.out⟩
        | false =>
          have HU := Lib.hid (hu.out.succ hfl)
          have HC' := Lib.hid (by have := HC.out _ HB1.out; rw [hfl] at this; exact this)
          clear HC hcl hs hf hI hu
          go_wp2_with fail
          refine HC'.out.mono ?_
          rintro e W1 ⟨rfl, hb1⟩
          have HB2 := Lib.hid (HB1.out.trans (hb1.mono HB1.out.size))
          have HH2 := Lib.hid ((hb1.block w.heap.size (by simp; omega)).trans ((HA1.out.block w.heap.size hz1).trans HH.out))
          have HG2 := Lib.hid ((hb1.block (w.heap.size + 1) (by simp; omega)).trans ((HA1.out.block (w.heap.size + 1) hz2).trans HG.out))
          clear hb1
          go_wp2_with fail
          go_roundw
          case rel => exact ⟨3, by omega, by go_num, HU.out, HH2.out, HG2.out, HB2.out⟩
          case measure => simp [intOf]
      | 3, _ =>
        have q0 : wr.cell? ⟨w.heap.size + 1, 6, none⟩ = some (.int .i64 40) := (hcl 6).trans rfl
        have q1 : wr.cell? ⟨w.heap.size + 1, 7, none⟩ = some (.func (.func 164) #[] #[]) := (hcl 7).trans rfl
        have hst := store_func1 wr 40 164
        have HB1 := Lib.hid (hI.out.alloc hI.out.size (.cells #[.int .i64 40, .func (.func 164) #[] #[]] 188))
        have HK1 := Lib.hid (block_new wr (.cells #[.int .i64 40, .func (.func 164) #[] #[]] 188))
        have HA1 := Lib.hid ((Below.refl wr.heap.size wr).alloc (Nat.le_refl _) (.cells #[.int .i64 40, .func (.func 164) #[] #[]] 188))
        have HC := Lib.hid (fun (W : World) (_ : Below w.heap.size w W) => fault3_any s m W)
        have HH := Lib.hid hs.out
        have HG := Lib.hid hf.out
        have HI := Lib.hid hI.out
        cases hfl : flt s 3 with
        | true =>
          have HE := Lib.hid (show chkP s = 40 from (chk_bad (by decide) hfl hu.out).trans rfl)
          have HC' := Lib.hid (by have := HC.out _ HB1.out; rw [hfl] at this; exact this)
          clear HC hcl hs hf hI
          go_wp2_with fail
          refine HC'.out.mono ?_
          rintro e W1 ⟨rfl, hb1⟩
          have HB2 := Lib.hid (HB1.out.trans (hb1.mono HB1.out.size))
          obtain ⟨⟨r0, r1⟩, _⟩ := cells2 ((hb1.block wr.heap.size (by simp)).trans HK1.out)
          clear hb1
          go_wp2_with fail
          go_ret
          exact ⟨by rw [HE.out]; rfl, HB2.out⟩
        | false =>
          have HU := Lib.hid (hu.out.succ hfl)
          have HC' := Lib.hid (by have := HC.out _ HB1.out; rw [hfl] at this; exact this)
          clear HC hcl hs hf hI hu
          go_wp2_with fail
          refine HC'.out.mono ?_
          rintro e W1 ⟨rfl, hb1⟩
          have HB2 := Lib.hid (HB1.out.trans (hb1.mono HB1.out.size))
          have HH2 := Lib.hid ((hb1.block w.heap.size (by simp; omega)).trans ((HA1.out.block w.heap.size hz1).trans HH.out))
          have HG2 := Lib.hid ((hb1.block (w.heap.size + 1) (by simp; omega)).trans ((HA1.out.block (w.heap.size + 1) hz2).trans HG.out))
          clear hb1
          go_wp2_with fail
          go_roundw
          case rel => exact ⟨4, by omega, by go_num, HU.out, HH2.out, HG2.out, HB2.out⟩
          case measure => simp [intOf]
      | 4, _ =>
        have q0 : wr.cell? ⟨w.heap.size + 1, 8, none⟩ = some (.int .i64 40) := (hcl 8).trans rfl
        have q1 : wr.cell? ⟨w.heap.size + 1, 9, none⟩ = some (.func (.func 165) #[] #[]) := (hcl 9).trans rfl
        have hst := store_func1 wr 40 165
        have HB1 := Lib.hid (hI.out.alloc hI.out.size (.cells #[.int .i64 40, .func (.func 165) #[] #[]] 188))
        have HK1 := Lib.hid (block_new wr (.cells #[.int .i64 40, .func (.func 165) #[] #[]] 188))
        have HA1 := Lib.hid ((Below.refl wr.heap.size wr).alloc (Nat.le_refl _) (.cells #[.int .i64 40, .func (.func 165) #[] #[]] 188))
        have HC := Lib.hid (fun (W : World) (hW : Below w.heap.size w W) => fault4_any s m W (HS.out.later hW))
        have HH := Lib.hid hs.out
        have HG := Lib.hid hf.out
        have HI := Lib.hid hI.out
        cases hfl : flt s 4 with
        | true =>
          have HE := Lib.hid (show chkP s = 40 from (chk_bad (by decide) hfl hu.out).trans rfl)
          have HC' := Lib.hid (by have := HC.out _ HB1.out; rw [hfl] at this; exact this)
          clear HC hcl hs hf hI
          go_wp2_with fail
          refine HC'.out.mono ?_
          rintro e W1 ⟨rfl, hb1⟩
          have HB2 := Lib.hid (HB1.out.trans (hb1.mono HB1.out.size))
          obtain ⟨⟨r0, r1⟩, _⟩ := cells2 ((hb1.block wr.heap.size (by simp)).trans HK1.out)
          clear hb1
          go_wp2_with fail
          go_ret
          exact ⟨by rw [HE.out]; rfl, HB2.out⟩
        | false =>
          have HU := Lib.hid (hu.out.succ hfl)
          have HC' := Lib.hid (by have := HC.out _ HB1.out; rw [hfl] at this; exact this)
          clear HC hcl hs hf hI hu
          go_wp2_with fail
          refine HC'.out.mono ?_
          rintro e W1 ⟨rfl, hb1⟩
          have HB2 := Lib.hid (HB1.out.trans (hb1.mono HB1.out.size))
          have HH2 := Lib.hid ((hb1.block w.heap.size (by simp; omega)).trans ((HA1.out.block w.heap.size hz1).trans HH.out))
          have HG2 := Lib.hid ((hb1.block (w.heap.size + 1) (by simp; omega)).trans ((HA1.out.block (w.heap.size + 1) hz2).trans HG.out))
          clear hb1
          go_wp2_with fail
          go_roundw
          case rel => exact ⟨5, by omega, by go_num, HU.out, HH2.out, HG2.out, HB2.out⟩
          case measure => simp [intOf]
      | 5, _ =>
        have q0 : wr.cell? ⟨w.heap.size + 1, 10, none⟩ = some (.int .i64 40) := (hcl 10).trans rfl
        have q1 : wr.cell? ⟨w.heap.size + 1, 11, none⟩ = some (.func (.func 167) #[] #[]) := (hcl 11).trans rfl
        have hst := store_func1 wr 40 167
        have HB1 := Lib.hid (hI.out.alloc hI.out.size (.cells #[.int .i64 40, .func (.func 167) #[] #[]] 188))
        have HK1 := Lib.hid (block_new wr (.cells #[.int .i64 40, .func (.func 167) #[] #[]] 188))
        have HA1 := Lib.hid ((Below.refl wr.heap.size wr).alloc (Nat.le_refl _) (.cells #[.int .i64 40, .func (.func 167) #[] #[]] 188))
        have HC := Lib.hid (fun (W : World) (hW : Below w.heap.size w W) => fault5_any s m (hu.out.cv.1 (by decide)) W (HS.out.later hW))
        have HH := Lib.hid hs.out
        have HG := Lib.hid hf.out
        have HI := Lib.hid hI.out
        cases hfl : flt s 5 with
        | true =>
          have HE := Lib.hid (show chkP s = 40 from (chk_bad (by decide) hfl hu.out).trans rfl)
          have HC' := Lib.hid (by have := HC.out _ HB1.out; rw [hfl] at this; exact this)
          clear HC hcl hs hf hI
          go_wp2_with fail
          refine HC'.out.mono ?_
          rintro e W1 ⟨rfl, hb1⟩
          have HB2 := Lib.hid (HB1.out.trans (hb1.mono HB1.out.size))
          obtain ⟨⟨r0, r1⟩, _⟩ := cells2 ((hb1.block wr.heap.size (by simp)).trans HK1.out)
          clear hb1
          go_wp2_with fail
          go_ret
          exact ⟨by rw [HE.out]; rfl, HB2.out⟩
        | false =>
          have HU := Lib.hid (hu.out.succ hfl)
          have HC' := Lib.hid (by have := HC.out _ HB1.out; rw [hfl] at this; exact this)
          clear HC hcl hs hf hI hu
          go_wp2_with fail
          refine HC'.out.mono ?_
          rintro e W1 ⟨rfl, hb1⟩
          have HB2 := Lib.hid (HB1.out.trans (hb1.mono HB1.out.size))
          have HH2 := Lib.hid ((hb1.block w.heap.size (by simp; omega)).trans ((HA1.out.block w.heap.size hz1).trans HH.out))
          have HG2 := Lib.hid ((hb1.block (w.heap.size + 1) (by simp; omega)).trans ((HA1.out.block (w.heap.size + 1) hz2).trans HG.out))
          clear hb1
          go_wp2_with fail
          go_roundw
          case rel => exact ⟨6, by omega, by go_num, HU.out, HH2.out, HG2.out, HB2.out⟩
          case measure => simp [intOf]
      | 6, _ =>
        have q0 : wr.cell? ⟨w.heap.size + 1, 12, none⟩ = some (.int .i64 40) := (hcl 12).trans rfl
        have q1 : wr.cell? ⟨w.heap.size + 1, 13, none⟩ = some (.func (.func 168) #[] #[]) := (hcl 13).trans rfl
        have hst := store_func1 wr 40 168
        have HB1 := Lib.hid (hI.out.alloc hI.out.size (.cells #[.int .i64 40, .func (.func 168) #[] #[]] 188))
        have HK1 := Lib.hid (block_new wr (.cells #[.int .i64 40, .func (.func 168) #[] #[]] 188))
        have HA1 := Lib.hid ((Below.refl wr.heap.size wr).alloc (Nat.le_refl _) (.cells #[.int .i64 40, .func (.func 168) #[] #[]] 188))
        have HC := Lib.hid (fun (W : World) (hW : Below w.heap.size w W) => fault6_any s m W (HS.out.later hW))
        have HH := Lib.hid hs.out
        have HG := Lib.hid hf.out
        have HI := Lib.hid hI.out
        cases hfl : flt s 6 with
        | true =>
          have HE := Lib.hid (show chkP s = 40 from (chk_bad (by decide) hfl hu.out).trans rfl)
          have HC' := Lib.hid (by have := HC.out _ HB1.out; rw [hfl] at this; exact this)
          clear HC hcl hs hf hI
          go_wp2_with fail
          refine HC'.out.mono ?_
          rintro e W1 ⟨rfl, hb1⟩
          have HB2 := Lib.hid (HB1.out.trans (hb1.mono HB1.out.size))
          obtain ⟨⟨r0, r1⟩, _⟩ := cells2 ((hb1.block wr.heap.size (by simp)).trans HK1.out)
          clear hb1
          go_wp2_with fail
          go_ret
          exact ⟨by rw [HE.out]; rfl, HB2.out⟩
        | false =>
          have HU := Lib.hid (hu.out.succ hfl)
          have HC' := Lib.hid (by have := HC.out _ HB1.out; rw [hfl] at this; exact this)
          clear HC hcl hs hf hI hu
          go_wp2_with fail
          refine HC'.out.mono ?_
          rintro e W1 ⟨rfl, hb1⟩
          have HB2 := Lib.hid (HB1.out.trans (hb1.mono HB1.out.size))
          have HH2 := Lib.hid ((hb1.block w.heap.size (by simp; omega)).trans ((HA1.out.block w.heap.size hz1).trans HH.out))
          have HG2 := Lib.hid ((hb1.block (w.heap.size + 1) (by simp; omega)).trans ((HA1.out.block (w.heap.size + 1) hz2).trans HG.out))
          clear hb1
          go_wp2_with fail
          go_roundw
          case rel => exact ⟨7, by omega, by go_num, HU.out, HH2.out, HG2.out, HB2.out⟩
          case measure => simp [intOf]
      | 7, _ =>
        have q0 : wr.cell? ⟨w.heap.size + 1, 14, none⟩ = some (.int .i64 40) := (hcl 14).trans rfl
        have q1 : wr.cell? ⟨w.heap.size + 1, 15, none⟩ = some (.func (.func 170) #[] #[]) := (hcl 15).trans rfl
        have hst := store_func1 wr 40 170
        have HB1 := Lib.hid (hI.out.alloc hI.out.size (.cells #[.int .i64 40, .func (.func 170) #[] #[]] 188))
        have HK1 := Lib.hid (block_new wr (.cells #[.int .i64 40, .func (.func 170) #[] #[]] 188))
        have HA1 := Lib.hid ((Below.refl wr.heap.size wr).alloc (Nat.le_refl _) (.cells #[.int .i64 40, .func (.func 170) #[] #[]] 188))
        have HC := Lib.hid (fun (W : World) (hW : Below w.heap.size w W) => fault7_any s m (hu.out.cv.2.1 (by decide)) W (HS.out.later hW))
        have HH := Lib.hid hs.out
        have HG := Lib.hid hf.out
        have HI := Lib.hid hI.out
        cases hfl : flt s 7 with
        | true =>
          have HE := Lib.hid (show chkP s = 40 from (chk_bad (by decide) hfl hu.out).trans rfl)
          have HC' := Lib.hid (by have := HC.out _ HB1.out; rw [hfl] at this; exact this)
          clear HC hcl hs hf hI
          go_wp2_with fail
          refine HC'.out.mono ?_
          rintro e W1 ⟨rfl, hb1⟩
          have HB2 := Lib.hid (HB1.out.trans (hb1.mono HB1.out.size))
          obtain ⟨⟨r0, r1⟩, _⟩ := cells2 ((hb1.block wr.heap.size (by simp)).trans HK1.out)
          clear hb1
          go_wp2_with fail
          go_ret
          exact ⟨by rw [HE.out]; rfl, HB2.out⟩
        | false =>
          have HU := Lib.hid (hu.out.succ hfl)
          have HC' := Lib.hid (by have := HC.out _ HB1.out; rw [hfl] at this; exact this)
          clear HC hcl hs hf hI hu
          go_wp2_with fail
          refine HC'.out.mono ?_
          rintro e W1 ⟨rfl, hb1⟩
          have HB2 := Lib.hid (HB1.out.trans (hb1.mono HB1.out.size))
          have HH2 := Lib.hid ((hb1.block w.heap.size (by simp; omega)).trans ((HA1.out.block w.heap.size hz1).trans HH.out))
          have HG2 := Lib.hid ((hb1.block (w.heap.size + 1) (by simp; omega)).trans ((HA1.out.block (w.heap.size + 1) hz2).trans HG.out))
          clear hb1
          go_wp2_with fail
          go_roundw
          case rel => exact ⟨8, by omega, by go_num, HU.out, HH2.out, HG2.out, HB2.out⟩
          case measure => simp [intOf]
      | 8, _ =>
        have q0 : wr.cell? ⟨w.heap.size + 1, 16, none⟩ = some (.int .i64 40) := (hcl 16).trans rfl
        have q1 : wr.cell? ⟨w.heap.size + 1, 17, none⟩ = some (.func (.func 171) #[] #[]) := (hcl 17).trans rfl
        have hst := store_func1 wr 40 171
        have HB1 := Lib.hid (hI.out.alloc hI.out.size (.cells #[.int .i64 40, .func (.func 171) #[] #[]] 188))
        have HK1 := Lib.hid (block_new wr (.cells #[.int .i64 40, .func (.func 171) #[] #[]] 188))
        have HA1 := Lib.hid ((Below.refl wr.heap.size wr).alloc (Nat.le_refl _) (.cells #[.int .i64 40, .func (.func 171) #[] #[]] 188))
        have HC := Lib.hid (fun (W : World) (hW : Below w.heap.size w W) => fault8_any s m W (HS.out.later hW))
        have HH := Lib.hid hs.out
        have HG := Lib.hid hf.out
        have HI := Lib.hid hI.out
        cases hfl : flt s 8 with
        | true =>
          have HE := Lib.hid (show chkP s = 40 from (chk_bad (by decide) hfl hu.out).trans rfl)
          have HC' := Lib.hid (by have := HC.out _ HB1.out; rw [hfl] at this; exact this)
          clear HC hcl hs hf hI
          go_wp2_with fail
          refine HC'.out.mono ?_
          rintro e W1 ⟨rfl, hb1⟩
          have HB2 := Lib.hid (HB1.out.trans (hb1.mono HB1.out.size))
          obtain ⟨⟨r0, r1⟩, _⟩ := cells2 ((hb1.block wr.heap.size (by simp)).trans HK1.out)
          clear hb1
          go_wp2_with fail
          go_ret
          exact ⟨by rw [HE.out]; rfl, HB2.out⟩
        | false =>
          have HU := Lib.hid (hu.out.succ hfl)
          have HC' := Lib.hid (by have := HC.out _ HB1.out; rw [hfl] at this; exact this)
          clear HC hcl hs hf hI hu
          go_wp2_with fail
          refine HC'.out.mono ?_
          rintro e W1 ⟨rfl, hb1⟩
          have HB2 := Lib.hid (HB1.out.trans (hb1.mono HB1.out.size))
          have HH2 := Lib.hid ((hb1.block w.heap.size (by simp; omega)).trans ((HA1.out.block w.heap.size hz1).trans HH.out))
          have HG2 := Lib.hid ((hb1.block (w.heap.size + 1) (by simp; omega)).trans ((HA1.out.block (w.heap.size + 1) hz2).trans HG.out))
          clear hb1
          go_wp2_with fail
          go_roundw
          case rel => exact ⟨9, by omega, by go_num, HU.out, HH2.out, HG2.out, HB2.out⟩
          case measure => simp [intOf]
      | 9, _ =>
        have q0 : wr.cell? ⟨w.heap.size + 1, 18, none⟩ = some (.int .i64 40) := (hcl 18).trans rfl
        have q1 : wr.cell? ⟨w.heap.size + 1, 19, none⟩ = some (.func (.func 172) #[] #[]) := (hcl 19).trans rfl
        have hst := store_func1 wr 40 172
        have HB1 := Lib.hid (hI.out.alloc hI.out.size (.cells #[.int .i64 40, .func (.func 172) #[] #[]] 188))
        have HK1 := Lib.hid (block_new wr (.cells #[.int .i64 40, .func (.func 172) #[] #[]] 188))
        have HA1 := Lib.hid ((Below.refl wr.heap.size wr).alloc (Nat.le_refl _) (.cells #[.int .i64 40, .func (.func 172) #[] #[]] 188))
        have HC := Lib.hid (fun (W : World) (hW : Below w.heap.size w W) => fault9_any s m (hu.out.cv.2.2 (by decide)) W (HS.out.later hW))
        have HH := Lib.hid hs.out
        have HG := Lib.hid hf.out
        have HI := Lib.hid hI.out
        cases hfl : flt s 9 with
        | true =>
          have HE := Lib.hid (show chkP s = 40 from (chk_bad (by decide) hfl hu.out).trans rfl)
          have HC' := Lib.hid (by have := HC.out _ HB1.out; rw [hfl] at this; exact this)
          clear HC hcl hs hf hI
          go_wp2_with fail
          refine HC'.out.mono ?_
          rintro e W1 ⟨rfl, hb1⟩
          have HB2 := Lib.hid (HB1.out.trans (hb1.mono HB1.out.size))
          obtain ⟨⟨r0, r1⟩, _⟩ := cells2 ((hb1.block wr.heap.size (by simp)).trans HK1.out)
          clear hb1
          go_wp2_with fail
          go_ret
          exact ⟨by rw [HE.out]; rfl, HB2.out⟩
        | false =>
          have HU := Lib.hid (hu.out.succ hfl)
          have HC' := Lib.hid (by have := HC.out _ HB1.out; rw [hfl] at this; exact this)
          clear HC hcl hs hf hI hu
          go_wp2_with fail
          refine HC'.out.mono ?_
          rintro e W1 ⟨rfl, hb1⟩
          have HB2 := Lib.hid (HB1.out.trans (hb1.mono HB1.out.size))
          have HH2 := Lib.hid ((hb1.block w.heap.size (by simp; omega)).trans ((HA1.out.block w.heap.size hz1).trans HH.out))
          have HG2 := Lib.hid ((hb1.block (w.heap.size + 1) (by simp; omega)).trans ((HA1.out.block (w.heap.size + 1) hz2).trans HG.out))
          clear hb1
          go_wp2_with fail
          go_roundw
          case rel => exact ⟨10, by omega, by go_num, HU.out, HH2.out, HG2.out, HB2.out⟩
          case measure => simp [intOf]
      | 10, _ =>
        have q0 : wr.cell? ⟨w.heap.size + 1, 20, none⟩ = some (.int .i64 40) := (hcl 20).trans rfl
        have q1 : wr.cell? ⟨w.heap.size + 1, 21, none⟩ = some (.func (.func 173) #[] #[]) := (hcl 21).trans rfl
        have hst := store_func1 wr 40 173
        have HB1 := Lib.hid (hI.out.alloc hI.out.size (.cells #[.int .i64 40, .func (.func 173) #[] #[]] 188))
        have HK1 := Lib.hid (block_new wr (.cells #[.int .i64 40, .func (.func 173) #[] #[]] 188))
        have HA1 := Lib.hid ((Below.refl wr.heap.size wr).alloc (Nat.le_refl _) (.cells #[.int .i64 40, .func (.func 173) #[] #[]] 188))
        have HC := Lib.hid (fun (W : World) (_ : Below w.heap.size w W) => fault10_any s m W)
        have HH := Lib.hid hs.out
        have HG := Lib.hid hf.out
        have HI := Lib.hid hI.out
        cases hfl : flt s 10 with
        | true =>
          have HE := Lib.hid (show chkP s = 40 from (chk_bad (by decide) hfl hu.out).trans rfl)
          have HC' := Lib.hid (by have := HC.out _ HB1.out; rw [hfl] at this; exact this)
          clear HC hcl hs hf hI
          go_wp2_with fail
          refine HC'.out.mono ?_
          rintro e W1 ⟨rfl, hb1⟩
          have HB2 := Lib.hid (HB1.out.trans (hb1.mono HB1.out.size))
          obtain ⟨⟨r0, r1⟩, _⟩ := cells2 ((hb1.block wr.heap.size (by simp)).trans HK1.out)
          clear hb1
          go_wp2_with fail
          go_ret
          exact ⟨by rw [HE.out]; rfl, HB2.out⟩
        | false =>
          have HU := Lib.hid (hu.out.succ hfl)
          have HC' := Lib.hid (by have := HC.out _ HB1.out; rw [hfl] at this; exact this)
          clear HC hcl hs hf hI hu
          go_wp2_with fail
          refine HC'.out.mono ?_
          rintro e W1 ⟨rfl, hb1⟩
          have HB2 := Lib.hid (HB1.out.trans (hb1.mono HB1.out.size))
          have HH2 := Lib.hid ((hb1.block w.heap.size (by simp; omega)).trans ((HA1.out.block w.heap.size hz1).trans HH.out))
          have HG2 := Lib.hid ((hb1.block (w.heap.size + 1) (by simp; omega)).trans ((HA1.out.block (w.heap.size + 1) hz2).trans HG.out))
          clear hb1
          go_wp2_with fail
          go_roundw
          case rel => exact ⟨11, by omega, by go_num, HU.out, HH2.out, HG2.out, HB2.out⟩
          case measure => simp [intOf]
      | 11, _ =>
        have q0 : wr.cell? ⟨w.heap.size + 1, 22, none⟩ = some (.int .i64 40) := (hcl 22).trans rfl
        have q1 : wr.cell? ⟨w.heap.size + 1, 23, none⟩ = some (.func (.func 174) #[] #[]) := (hcl 23).trans rfl
        have hst := store_func1 wr 40 174
        have HB1 := Lib.hid (hI.out.alloc hI.out.size (.cells #[.int .i64 40, .func (.func 174) #[] #[]] 188))
        have HK1 := Lib.hid (block_new wr (.cells #[.int .i64 40, .func (.func 174) #[] #[]] 188))
        have HA1 := Lib.hid ((Below.refl wr.heap.size wr).alloc (Nat.le_refl _) (.cells #[.int .i64 40, .func (.func 174) #[] #[]] 188))
        have HC := Lib.hid (fun (W : World) (_ : Below w.heap.size w W) => fault11_any s m W)
        have HH := Lib.hid hs.out
        have HG := Lib.hid hf.out
        have HI := Lib.hid hI.out
        cases hfl : flt s 11 with
        | true =>
          have HE := Lib.hid (show chkP s = 40 from (chk_bad (by decide) hfl hu.out).trans rfl)
          have HC' := Lib.hid (by have := HC.out _ HB1.out; rw [hfl] at this; exact this)
          clear HC hcl hs hf hI
          go_wp2_with fail
          refine HC'.out.mono ?_
          rintro e W1 ⟨rfl, hb1⟩
          have HB2 := Lib.hid (HB1.out.trans (hb1.mono HB1.out.size))
          obtain ⟨⟨r0, r1⟩, _⟩ := cells2 ((hb1.block wr.heap.size (by simp)).trans HK1.out)
          clear hb1
          go_wp2_with fail
          go_ret
          exact ⟨by rw [HE.out]; rfl, HB2.out⟩
        | false =>
          have HU := Lib.hid (hu.out.succ hfl)
          have HC' := Lib.hid (by have := HC.out _ HB1.out; rw [hfl] at this; exact this)
          clear HC hcl hs hf hI hu
          go_wp2_with fail
          refine HC'.out.mono ?_
          rintro e W1 ⟨rfl, hb1⟩
          have HB2 := Lib.hid (HB1.out.trans (hb1.mono HB1.out.size))
          have HH2 := Lib.hid ((hb1.block w.heap.size (by simp; omega)).trans ((HA1.out.block w.heap.size hz1).trans HH.out))
          have HG2 := Lib.hid ((hb1.block (w.heap.size + 1) (by simp; omega)).trans ((HA1.out.block (w.heap.size + 1) hz2).trans HG.out))
          clear hb1
          go_wp2_with fail
          go_roundw
          case rel => exact ⟨12, by omega, by go_num, HU.out, HH2.out, HG2.out, HB2.out⟩
          case measure => simp [intOf]
      | 12, _ =>
        have q0 : wr.cell? ⟨w.heap.size + 1, 24, none⟩ = some (.int .i64 40) := (hcl 24).trans rfl
        have q1 : wr.cell? ⟨w.heap.size + 1, 25, none⟩ = some (.func (.func 175) #[] #[]) := (hcl 25).trans rfl
        have hst := store_func1 wr 40 175
        have HB1 := Lib.hid (hI.out.alloc hI.out.size (.cells #[.int .i64 40, .func (.func 175) #[] #[]] 188))
        have HK1 := Lib.hid (block_new wr (.cells #[.int .i64 40, .func (.func 175) #[] #[]] 188))
        have HA1 := Lib.hid ((Below.refl wr.heap.size wr).alloc (Nat.le_refl _) (.cells #[.int .i64 40, .func (.func 175) #[] #[]] 188))
        have HC := Lib.hid (fun (W : World) (_ : Below w.heap.size w W) => fault12_any s m W)
        have HH := Lib.hid hs.out
        have HG := Lib.hid hf.out
        have HI := Lib.hid hI.out
        cases hfl : flt s 12 with
        | true =>
          have HE := Lib.hid (show chkP s = 40 from (chk_bad (by decide) hfl hu.out).trans rfl)
          have HC' := Lib.hid (by have := HC.out _ HB1.out; rw [hfl] at this; exact this)
          clear HC hcl hs hf hI
          go_wp2_with fail
          refine HC'.out.mono ?_
          rintro e W1 ⟨rfl, hb1⟩
          have HB2 := Lib.hid (HB1.out.trans (hb1.mono HB1.out.size))
          obtain ⟨⟨r0, r1⟩, _⟩ := cells2 ((hb1.block wr.heap.size (by simp)).trans HK1.out)
          clear hb1
          go_wp2_with fail
          go_ret
          exact ⟨by rw [HE.out]; rfl, HB2.out⟩
        | false =>
          have HU := Lib.hid (hu.out.succ hfl)
          have HC' := Lib.hid (by have := HC.out _ HB1.out; rw [hfl] at this; exact this)
          clear HC hcl hs hf hI hu
          go_wp2_with fail
          refine HC'.out.mono ?_
          rintro e W1 ⟨rfl, hb1⟩
          have HB2 := Lib.hid (HB1.out.trans (hb1.mono HB1.out.size))
          have HH2 := Lib.hid ((hb1.block w.heap.size (by simp; omega)).trans ((HA1.out.block w.heap.size hz1).trans HH.out))
          have HG2 := Lib.hid ((hb1.block (w.heap.size + 1) (by simp; omega)).trans ((HA1.out.block (w.heap.size + 1) hz2).trans HG.out))
          clear hb1
          go_wp2_with fail
          go_roundw
          case rel => exact ⟨13, by omega, by go_num, HU.out, HH2.out, HG2.out, HB2.out⟩
          case measure => simp [intOf]
      | 13, _ =>
        have q0 : wr.cell? ⟨w.heap.size + 1, 26, none⟩ = some (.int .i64 40) := (hcl 26).trans rfl
        have q1 : wr.cell? ⟨w.heap.size + 1, 27, none⟩ = some (.func (.func 176) #[] #[]) := (hcl 27).trans rfl
        have hst := store_func1 wr 40 176
        have HB1 := Lib.hid (hI.out.alloc hI.out.size (.cells #[.int .i64 40, .func (.func 176) #[] #[]] 188))
        have HK1 := Lib.hid (block_new wr (.cells #[.int .i64 40, .func (.func 176) #[] #[]] 188))
        have HA1 := Lib.hid ((Below.refl wr.heap.size wr).alloc (Nat.le_refl _) (.cells #[.int .i64 40, .func (.func 176) #[] #[]] 188))
        have HC := Lib.hid (fun (W : World) (_ : Below w.heap.size w W) => fault13_any s m W)
        have HH := Lib.hid hs.out
        have HG := Lib.hid hf.out
        have HI := Lib.hid hI.out
        cases hfl : flt s 13 with
        | true =>
          have HE := Lib.hid (show chkP s = 40 from (chk_bad (by decide) hfl hu.out).trans rfl)
          have HC' := Lib.hid (by have := HC.out _ HB1.out; rw [hfl] at this; exact this)
          clear HC hcl hs hf hI
          go_wp2_with fail
          refine HC'.out.mono ?_
          rintro e W1 ⟨rfl, hb1⟩
          have HB2 := Lib.hid (HB1.out.trans (hb1.mono HB1.out.size))
          obtain ⟨⟨r0, r1⟩, _⟩ := cells2 ((hb1.block wr.heap.size (by simp)).trans HK1.out)
          clear hb1
          go_wp2_with fail
          go_ret
          exact ⟨by rw [HE.out]; rfl, HB2.out⟩
        | false =>
          have HU := Lib.hid (hu.out.succ hfl)
          have HC' := Lib.hid (by have := HC.out _ HB1.out; rw [hfl] at this; exact this)
          clear HC hcl hs hf hI hu
          go_wp2_with fail
          refine HC'.out.mono ?_
          rintro e W1 ⟨rfl, hb1⟩
          have HB2 := Lib.hid (HB1.out.trans (hb1.mono HB1.out.size))
          have HH2 := Lib.hid ((hb1.block w.heap.size (by simp; omega)).trans ((HA1.out.block w.heap.size hz1).trans HH.out))
          have HG2 := Lib.hid ((hb1.block (w.heap.size + 1) (by simp; omega)).trans ((HA1.out.block (w.heap.size + 1) hz2).trans HG.out))
          clear hb1
          go_wp2_with fail
          go_roundw
          case rel => exact ⟨14, by omega, by go_num, HU.out, HH2.out, HG2.out, HB2.out⟩
          case measure => simp [intOf]
    · obtain rfl : k = 14 := by omega
      have HE := Lib.hid (chk_ok hu.out)
      go_wp2_with fail
      go_ret
      exact ⟨by rw [HE.out]; rfl, hI.out⟩
end Go.Proofs.YtcoiklolgilhaaaGreatDoor
