/- The contracts of hull.faults and of hull.Check: it answers chkP. -/
import Derived.Test.YtcoiklolgilhaaaDoorPf
namespace Go.Proofs.YtcoiklolgilhaaaDoor
open Go.RowKit
set_option maxRecDepth 100000
abbrev fltA : Array Value := #[.int .i64 41, .func (.func 83) #[] #[], .int .i64 40, .func (.func 84) #[] #[], .int .i64 40, .func (.func 85) #[] #[], .int .i64 40, .func (.func 86) #[] #[], .int .i64 40, .func (.func 87) #[] #[], .int .i64 40, .func (.func 89) #[] #[], .int .i64 40, .func (.func 91) #[] #[], .int .i64 40, .func (.func 93) #[] #[], .int .i64 40, .func (.func 94) #[] #[], .int .i64 40, .func (.func 95) #[] #[], .int .i64 40, .func (.func 96) #[] #[], .int .i64 40, .func (.func 97) #[] #[], .int .i64 40, .func (.func 98) #[] #[], .int .i64 40, .func (.func 99) #[] #[]]
theorem faults_any (w : World) : Calls Tryd.prog 52 #[] w fun e w' => e = .returned (.slice (some ⟨w.heap.size, 0, none⟩) 14 14) ∧ w' = w.alloc (.cells fltA 108) := by
  go_enter Tryd.func52, Tryd.ntmps52
  go_wp2_with fail
  go_ret
  exact ⟨rfl, rfl⟩
theorem store_func1 (W : World) (e : Int) (f : Nat) : (store ⟨W.heap.size, 1, none⟩ (.func (.func f) #[] #[])).run Tryd.prog (W.alloc (.cells #[.int .i64 e, .nilFunc] 108)) = .ok () (W.alloc (.cells #[.int .i64 e, .func (.func f) #[] #[]] 108)) := by
  rw [run_store _ _ _ _ _ rfl]
  simp [go_sem]
theorem okHull_eq (s : Sh) : okHull s = (!flt s 1 && !flt s 2 && !flt s 3 && !flt s 4 && !flt s 5 && !flt s 6 && !flt s 7 && !flt s 8 && !flt s 9 && !flt s 10 && !flt s 11 && !flt s 12 && !flt s 13) := by
  have e : decide (lastXP s.wa ≤ 250) = !decide (250 < lastXP s.wa) := by
    by_cases h : lastXP s.wa ≤ 250
    · rw [decide_eq_true h, decide_eq_false (by omega)]; rfl
    · rw [decide_eq_false h, decide_eq_true (by omega)]; rfl
  simp only [okHull, flt, inB, e, Bool.not_not]
theorem chk_bad {s : Sh} {k : Nat} (hk : k < 14) (h : flt s k = true) (hu : ∀ j, j < k → flt s j = false) : chkP s = if k = 0 then 41 else 40 := by
  unfold chkP
  by_cases h0 : k = 0
  · subst h0
    rw [if_pos rfl, if_neg (by simp only [flt, inB, Bool.not_eq_true', decide_eq_false_iff_not] at h; exact h)]
  · have hc := hu 0 (by omega)
    have hcl : 1 ≤ s.cls ∧ s.cls ≤ 6 := by simpa [flt, inB] using hc
    rw [if_pos hcl, if_neg h0, if_neg]
    rw [okHull_eq]
    match k, hk, h0 with
    | 1, _, _ | 2, _, _ | 3, _, _ | 4, _, _ | 5, _, _ | 6, _, _ | 7, _, _ | 8, _, _ | 9, _, _ | 10, _, _ | 11, _, _ | 12, _, _ | 13, _, _ => simp [h]
theorem chk_ok {s : Sh} (hu : ∀ j, j < 14 → flt s j = false) : chkP s = 0 := by
  unfold chkP
  have hc := hu 0 (by omega)
  have hcl : 1 ≤ s.cls ∧ s.cls ≤ 6 := by simpa [flt, inB] using hc
  rw [if_pos hcl, if_pos]
  rw [okHull_eq]
  simp [hu]
def FlTo (s : Sh) (k : Nat) : Prop := ∀ j, j < k → flt s j = false
theorem FlTo.succ {s : Sh} {k : Nat} (h : FlTo s k) (hk : flt s k = false) : FlTo s (k + 1) := fun j hj => by
  by_cases e : j = k
  · rw [e]; exact hk
  · exact h j (by omega)
theorem FlTo.cv {s : Sh} {k : Nat} (h : FlTo s k) : (4 < k → IsCv s.th) ∧ (6 < k → IsCv s.wa) ∧ (8 < k → IsCv s.ic) := by
  refine ⟨fun hk => ?_, fun hk => ?_, fun hk => ?_⟩
  · have := h 4 hk; simp [flt] at this; exact okCv_iff.1 this.1
  · have := h 6 hk; simp [flt] at this; exact okCv_iff.1 this.1
  · have := h 8 hk; simp [flt] at this; exact okCv_iff.1 this.1
set_option maxHeartbeats 4000000 in
theorem Check_any (s : Sh) (m : Mem3) (w : World) (h : ShipIn w s m) : Calls Tryd.prog 17 #[.agg (shipA s m)] w fun e w' => e = .returned (.int .i64 (chkP s)) ∧ Below w.heap.size w w' := by
  have HS := Lib.hid h
  have hb0 := (Below.refl w.heap.size w).alloc (Nat.le_refl _) (.cells (shipA s m) 24)
  have HB0 := Lib.hid (hb0.alloc hb0.size (.cells fltA 108))
  have HF0 := Lib.hid (block_new (w.alloc (.cells (shipA s m) 24)) (.cells fltA 108))
  have HS0 := Lib.hid ((((Below.refl (w.alloc (.cells (shipA s m) 24)).heap.size (w.alloc (.cells (shipA s m) 24))).alloc (Nat.le_refl _) (.cells fltA 108)).block w.heap.size (by simp)).trans (block_new w (.cells (shipA s m) 24)))
  clear h hb0
  go_enter Tryd.func17, Tryd.ntmps17
  go_wp2_with fail
  refine (faults_any _).mono ?_
  rintro e w' ⟨rfl, rfl⟩
  go_wp2_with fail
  simp only [World.size_alloc] at HF0 ⊢
  go_loopw [7] (fun i wr => ∃ k : Nat, k ≤ 14 ∧ i = .int .i64 k ∧ Hid (FlTo s k) ∧ Hid (wr.heap[w.heap.size]? = some (.cells (shipA s m) 24 (0, 0))) ∧ Hid (wr.heap[w.heap.size + 1]? = some (.cells fltA 108 (0, 0))) ∧ Hid (Below w.heap.size w wr)) (fun i _ => 14 - (intOf i).toNat)
  case atStart => exact ⟨0, by omega, rfl, fun j hj => by omega, HS0.out, HF0.out, HB0.out⟩
  case round =>
    obtain ⟨k, hk, rfl, hu, hs, hf, hI⟩ := hrel
    by_cases hlt : k < 14
    · have hz1 := lt_of_block hs.out
      have hz2 := lt_of_block hf.out
      obtain ⟨c0, c1, c2, c3, c4, c5, c6, c7, c8, c9, c10⟩ := cells11 hs.out
      have hcl := fun o => cell_of_block hf.out o
      match k, hlt with
      | 0, _ =>
        have q0 : wr.cell? ⟨w.heap.size + 1, 0, none⟩ = some (.int .i64 41) := (hcl 0).trans rfl
        have q1 : wr.cell? ⟨w.heap.size + 1, 1, none⟩ = some (.func (.func 83) #[] #[]) := (hcl 1).trans rfl
        have hst := store_func1 wr 41 83
        have HB1 := Lib.hid (hI.out.alloc hI.out.size (.cells #[.int .i64 41, .func (.func 83) #[] #[]] 108))
        have HK1 := Lib.hid (block_new wr (.cells #[.int .i64 41, .func (.func 83) #[] #[]] 108))
        have HA1 := Lib.hid ((Below.refl wr.heap.size wr).alloc (Nat.le_refl _) (.cells #[.int .i64 41, .func (.func 83) #[] #[]] 108))
        have HC := Lib.hid (fun (W : World) (_ : Below w.heap.size w W) => fault0_any s m W)
        have HH := Lib.hid hs.out
        have HG := Lib.hid hf.out
        have HI := Lib.hid hI.out
        cases hfl : flt s 0 with
        | true =>
          have HE := Lib.hid (show chkP s = 41 from (chk_bad (by decide) hfl hu.out).trans rfl)
          have HC' := Lib.hid (by have := HC.out _ HB1.out; rw [hfl] at this; exact this)
          clear HC hcl hs hf hI
          go_wp2_with fail
          refine HC'.out.mono ?_
          rintro e W1 ⟨rfl, hb1⟩
          have HB2 := Lib.hid (HB1.out.trans (hb1.mono HB1.out.size))
          obtain ⟨⟨r0, r1⟩, _⟩ := cells2 ((hb1.block wr.heap.size (by simp)).trans HK1.out)
          clear hb1
          go_wp2_with fail
          go_ret
          exact ⟨by rw [HE.out]; rfl, HB2.out⟩
        | false =>
          have HU := Lib.hid (hu.out.succ hfl)
          have HC' := Lib.hid (by have := HC.out _ HB1.out; rw [hfl] at this; exact this)
          clear HC hcl hs hf hI hu
          go_wp2_with fail
          refine HC'.out.mono ?_
          rintro e W1 ⟨rfl, hb1⟩
          have HB2 := Lib.hid (HB1.out.trans (hb1.mono HB1.out.size))
          have HH2 := Lib.hid ((hb1.block w.heap.size (by simp; omega)).trans ((HA1.out.block w.heap.size hz1).trans HH.out))
          have HG2 := Lib.hid ((hb1.block (w.heap.size + 1) (by simp; omega)).trans ((HA1.out.block (w.heap.size + 1) hz2).trans HG.out))
          clear hb1
          go_wp2_with fail
          go_roundw
          case rel => exact ⟨1, by omega, by go_num, HU.out, HH2.out, HG2.out, HB2.out⟩
          case measure => simp [intOf]
      | 1, _ =>
        have q0 : wr.cell? ⟨w.heap.size + 1, 2, none⟩ = some (.int .i64 40) := (hcl 2).trans rfl
        have q1 : wr.cell? ⟨w.heap.size + 1, 3, none⟩ = some (.func (.func 84) #[] #[]) := (hcl 3).trans rfl
        have hst := store_func1 wr 40 84
        have HB1 := Lib.hid (hI.out.alloc hI.out.size (.cells #[.int .i64 40, .func (.func 84) #[] #[]] 108))
        have HK1 := Lib.hid (block_new wr (.cells #[.int .i64 40, .func (.func 84) #[] #[]] 108))
        have HA1 := Lib.hid ((Below.refl wr.heap.size wr).alloc (Nat.le_refl _) (.cells #[.int .i64 40, .func (.func 84) #[] #[]] 108))
        have HC := Lib.hid (fun (W : World) (_ : Below w.heap.size w W) => fault1_any s m W)
        have HH := Lib.hid hs.out
        have HG := Lib.hid hf.out
        have HI := Lib.hid hI.out
        cases hfl : flt s 1 with
        | true =>
          have HE := Lib.hid (show chkP s = 40 from (chk_bad (by decide) hfl hu.out).trans rfl)
          have HC' := Lib.hid (by have := HC.out _ HB1.out; rw [hfl] at this; exact this)
          clear HC hcl hs hf hI
          go_wp2_with fail
          refine HC'.out.mono ?_
          rintro e W1 ⟨rfl, hb1⟩
          have HB2 := Lib.hid (HB1.out.trans (hb1.mono HB1.out.size))
          obtain ⟨⟨r0, r1⟩, _⟩ := cells2 ((hb1.block wr.heap.size (by simp)).trans HK1.out)
          clear hb1
          go_wp2_with fail
          go_ret
          exact ⟨by rw [HE.out]; rfl, HB2.out⟩
        | false =>
          have HU := Lib.hid (hu.out.succ hfl)
          have HC' := Lib.hid (by have := HC.out _ HB1.out; rw [hfl] at this; exact this)
          clear HC hcl hs hf hI hu
          go_wp2_with fail
          refine HC'.out.mono ?_
          rintro e W1 ⟨rfl, hb1⟩
          have HB2 := Lib.hid (HB1.out.trans (hb1.mono HB1.out.size))
          have HH2 := Lib.hid ((hb1.block w.heap.size (by simp; omega)).trans ((HA1.out.block w.heap.size hz1).trans HH.out))
          have HG2 := Lib.hid ((hb1.block (w.heap.size + 1) (by simp; omega)).trans ((HA1.out.block (w.heap.size + 1) hz2).trans HG.out))
          clear hb1
          go_wp2_with fail
          go_roundw
          case rel => exact ⟨2, by omega, by go_num, HU.out, HH2.out, HG2.out, HB2.out⟩
          case measure => simp [intOf]
      | 2, _ =>
        have q0 : wr.cell? ⟨w.heap.size + 1, 4, none⟩ = some (.int .i64 40) := (hcl 4).trans rfl
        have q1 : wr.cell? ⟨w.heap.size + 1, 5, none⟩ = some (.func (.func 85) #[] #[]) := (hcl 5).trans rfl
        have hst := store_func1 wr 40 85
        have HB1 := Lib.hid (hI.out.alloc hI.out.size (.cells #[.int .i64 40, .func (.func 85) #[] #[]] 108))
        have HK1 := Lib.hid (block_new wr (.cells #[.int .i64 40, .func (.func 85) #[] #[]] 108))
        have HA1 := Lib.hid ((Below.refl wr.heap.size wr).alloc (Nat.le_refl _) (.cells #[.int .i64 40, .func (.func 85) #[] #[]] 108))
        have HC := Lib.hid (fun (W : World) (_ : Below w.heap.size w W) => fault2_any s m W)
        have HH := Lib.hid hs.out
        have HG := Lib.hid hf.out
        have HI := Lib.hid hI.out
        cases hfl : flt s 2 with
        | true =>
          have HE := Lib.hid (show chkP s = 40 from (chk_bad (by decide) hfl hu.out).trans rfl)
          have HC' := Lib.hid (by have := HC.out _ HB1.out; rw [hfl] at this; exact this)
          clear HC hcl hs hf hI
          go_wp2_with fail
          refine HC'.out.mono ?_
          rintro e W1 ⟨rfl, hb1⟩
          have HB2 := Lib.hid (HB1.out.trans (hb1.mono HB1.out.size))
          obtain ⟨⟨r0, r1⟩, _⟩ := cells2 ((hb1.block wr.heap.size (by simp)).trans HK1.out)
          clear hb1
          go_wp2_with fail
          go_ret
          exact ⟨by rw [HE.out]; rfl, HB2.out⟩
        | false =>
          have HU := Lib.hid (hu.out.succ hfl)
          have HC' := Lib.hid (by have := HC.out _ HB1.out; rw [hfl] at this; exact this)
          clear HC hcl hs hf hI hu
          go_wp2_with fail
          refine HC'.out.mono ?_
          rintro e W1 ⟨rfl, hb1⟩
          have HB2 := Lib.hid (HB1.out.trans (hb1.mono HB1.out.size))
          have HH2 := Lib.hid ((hb1.block w.heap.size (by simp; omega)).trans ((HA1.out.block w.heap.size hz1).trans HH.out))
          have HG2 := Lib.hid ((hb1.block (w.heap.size + 1) (by simp; omega)).trans ((HA1.out.block (w.heap.size + 1) hz2).trans HG.out))
          clear hb1
          go_wp2_with fail
          go_roundw
          case rel => exact ⟨3, by omega, by go_num, HU.out, HH2.out, HG2.out, HB2.out⟩
          case measure => simp [intOf]
      | 3, _ =>
        have q0 : wr.cell? ⟨w.heap.size + 1, 6, none⟩ = some (.int .i64 40) := (hcl 6).trans rfl
        have q1 : wr.cell? ⟨w.heap.size + 1, 7, none⟩ = some (.func (.func 86) #[] #[]) := (hcl 7).trans rfl
        have hst := store_func1 wr 40 86
        have HB1 := Lib.hid (hI.out.alloc hI.out.size (.cells #[.int .i64 40, .func (.func 86) #[] #[]] 108))
        have HK1 := Lib.hid (block_new wr (.cells #[.int .i64 40, .func (.func 86) #[] #[]] 108))
        have HA1 := Lib.hid ((Below.refl wr.heap.size wr).alloc (Nat.le_refl _) (.cells #[.int .i64 40, .func (.func 86) #[] #[]] 108))
        have HC := Lib.hid (fun (W : World) (_ : Below w.heap.size w W) => fault3_any s m W)
        have HH := Lib.hid hs.out
        have HG := Lib.hid hf.out
        have HI := Lib.hid hI.out
        cases hfl : flt s 3 with
        | true =>
          have HE := Lib.hid (show chkP s = 40 from (chk_bad (by decide) hfl hu.out).trans rfl)
          have HC' := Lib.hid (by have := HC.out _ HB1.out; rw [hfl] at this; exact this)
          clear HC hcl hs hf hI
          go_wp2_with fail
          refine HC'.out.mono ?_
          rintro e W1 ⟨rfl, hb1⟩
          have HB2 := Lib.hid (HB1.out.trans (hb1.mono HB1.out.size))
          obtain ⟨⟨r0, r1⟩, _⟩ := cells2 ((hb1.block wr.heap.size (by simp)).trans HK1.out)
          clear hb1
          go_wp2_with fail
          go_ret
          exact ⟨by rw [HE.out]; rfl, HB2.out⟩
        | false =>
          have HU := Lib.hid (hu.out.succ hfl)
          have HC' := Lib.hid (by have := HC.out _ HB1.out; rw [hfl] at this; exact this)
          clear HC hcl hs hf hI hu
          go_wp2_with fail
          refine HC'.out.mono ?_
          rintro e W1 ⟨rfl, hb1⟩
          have HB2 := Lib.hid (HB1.out.trans (hb1.mono HB1.out.size))
          have HH2 := Lib.hid ((hb1.block w.heap.size (by simp; omega)).trans ((HA1.out.block w.heap.size hz1).trans HH.out))
          have HG2 := Lib.hid ((hb1.block (w.heap.size + 1) (by simp; omega)).trans ((HA1.out.block (w.heap.size + 1) hz2).trans HG.out))
          clear hb1
          go_wp2_with fail
          go_roundw
          case rel => exact ⟨4, by omega, by go_num, HU.out, HH2.out, HG2.out, HB2.out⟩
          case measure => simp [intOf]
      | 4, _ =>
        have q0 : wr.cell? ⟨w.heap.size + 1, 8, none⟩ = some (.int .i64 40) := (hcl 8).trans rfl
        have q1 : wr.cell? ⟨w.heap.size + 1, 9, none⟩ = some (.func (.func 87) #[] #[]) := (hcl 9).trans rfl
        have hst := store_func1 wr 40 87
        have HB1 := Lib.hid (hI.out.alloc hI.out.size (.cells #[.int .i64 40, .func (.func 87) #[] #[]] 108))
        have HK1 := Lib.hid (block_new wr (.cells #[.int .i64 40, .func (.func 87) #[] #[]] 108))
        have HA1 := Lib.hid ((Below.refl wr.heap.size wr).alloc (Nat.le_refl _) (.cells #[.int .i64 40, .func (.func 87) #[] #[]] 108))
        have HC := Lib.hid (fun (W : World) (hW : Below w.heap.size w W) => fault4_any s m W (HS.out.later hW))
        have HH := Lib.hid hs.out
        have HG := Lib.hid hf.out
        have HI := Lib.hid hI.out
        cases hfl : flt s 4 with
        | true =>
          have HE := Lib.hid (show chkP s = 40 from (chk_bad (by decide) hfl hu.out).trans rfl)
          have HC' := Lib.hid (by have := HC.out _ HB1.out; rw [hfl] at this; exact this)
          clear HC hcl hs hf hI
          go_wp2_with fail
          refine HC'.out.mono ?_
          rintro e W1 ⟨rfl, hb1⟩
          have HB2 := Lib.hid (HB1.out.trans (hb1.mono HB1.out.size))
          obtain ⟨⟨r0, r1⟩, _⟩ := cells2 ((hb1.block wr.heap.size (by simp)).trans HK1.out)
          clear hb1
          go_wp2_with fail
          go_ret
          exact ⟨by rw [HE.out]; rfl, HB2.out⟩
        | false =>
          have HU := Lib.hid (hu.out.succ hfl)
          have HC' := Lib.hid (by have := HC.out _ HB1.out; rw [hfl] at this; exact this)
          clear HC hcl hs hf hI hu
          go_wp2_with fail
          refine HC'.out.mono ?_
          rintro e W1 ⟨rfl, hb1⟩
          have HB2 := Lib.hid (HB1.out.trans (hb1.mono HB1.out.size))
          have HH2 := Lib.hid ((hb1.block w.heap.size (by simp; omega)).trans ((HA1.out.block w.heap.size hz1).trans HH.out))
          have HG2 := Lib.hid ((hb1.block (w.heap.size + 1) (by simp; omega)).trans ((HA1.out.block (w.heap.size + 1) hz2).trans HG.out))
          clear hb1
          go_wp2_with fail
          go_roundw
          case rel => exact ⟨5, by omega, by go_num, HU.out, HH2.out, HG2.out, HB2.out⟩
          case measure => simp [intOf]
      | 5, _ =>
        have q0 : wr.cell? ⟨w.heap.size + 1, 10, none⟩ = some (.int .i64 40) := (hcl 10).trans rfl
        have q1 : wr.cell? ⟨w.heap.size + 1, 11, none⟩ = some (.func (.func 89) #[] #[]) := (hcl 11).trans rfl
        have hst := store_func1 wr 40 89
        have HB1 := Lib.hid (hI.out.alloc hI.out.size (.cells #[.int .i64 40, .func (.func 89) #[] #[]] 108))
        have HK1 := Lib.hid (block_new wr (.cells #[.int .i64 40, .func (.func 89) #[] #[]] 108))
        have HA1 := Lib.hid ((Below.refl wr.heap.size wr).alloc (Nat.le_refl _) (.cells #[.int .i64 40, .func (.func 89) #[] #[]] 108))
        have HC := Lib.hid (fun (W : World) (hW : Below w.heap.size w W) => fault5_any s m (hu.out.cv.1 (by decide)) W (HS.out.later hW))
        have HH := Lib.hid hs.out
        have HG := Lib.hid hf.out
        have HI := Lib.hid hI.out
        cases hfl : flt s 5 with
        | true =>
          have HE := Lib.hid (show chkP s = 40 from (chk_bad (by decide) hfl hu.out).trans rfl)
          have HC' := Lib.hid (by have := HC.out _ HB1.out; rw [hfl] at this; exact this)
          clear HC hcl hs hf hI
          go_wp2_with fail
          refine HC'.out.mono ?_
          rintro e W1 ⟨rfl, hb1⟩
          have HB2 := Lib.hid (HB1.out.trans (hb1.mono HB1.out.size))
          obtain ⟨⟨r0, r1⟩, _⟩ := cells2 ((hb1.block wr.heap.size (by simp)).trans HK1.out)
          clear hb1
          go_wp2_with fail
          go_ret
          exact ⟨by rw [HE.out]; rfl, HB2.out⟩
        | false =>
          have HU := Lib.hid (hu.out.succ hfl)
          have HC' := Lib.hid (by have := HC.out _ HB1.out; rw [hfl] at this; exact this)
          clear HC hcl hs hf hI hu
          go_wp2_with fail
          refine HC'.out.mono ?_
          rintro e W1 ⟨rfl, hb1⟩
          have HB2 := Lib.hid (HB1.out.trans (hb1.mono HB1.out.size))
          have HH2 := Lib.hid ((hb1.block w.heap.size (by simp; omega)).trans ((HA1.out.block w.heap.size hz1).trans HH.out))
          have HG2 := Lib.hid ((hb1.block (w.heap.size + 1) (by simp; omega)).trans ((HA1.out.block (w.heap.size + 1) hz2).trans HG.out))
          clear hb1
          go_wp2_with fail
          go_roundw
          case rel => exact ⟨6, by omega, by go_num, HU.out, HH2.out, HG2.out, HB2.out⟩
          case measure => simp [intOf]
      | 6, _ =>
        have q0 : wr.cell? ⟨w.heap.size + 1, 12, none⟩ = some (.int .i64 40) := (hcl 12).trans rfl
        have q1 : wr.cell? ⟨w.heap.size + 1, 13, none⟩ = some (.func (.func 91) #[] #[]) := (hcl 13).trans rfl
        have hst := store_func1 wr 40 91
        have HB1 := Lib.hid (hI.out.alloc hI.out.size (.cells #[.int .i64 40, .func (.func 91) #[] #[]] 108))
        have HK1 := Lib.hid (block_new wr (.cells #[.int .i64 40, .func (.func 91) #[] #[]] 108))
        have HA1 := Lib.hid ((Below.refl wr.heap.size wr).alloc (Nat.le_refl _) (.cells #[.int .i64 40, .func (.func 91) #[] #[]] 108))
        have HC := Lib.hid (fun (W : World) (hW : Below w.heap.size w W) => fault6_any s m W (HS.out.later hW))
        have HH := Lib.hid hs.out
        have HG := Lib.hid hf.out
        have HI := Lib.hid hI.out
        cases hfl : flt s 6 with
        | true =>
          have HE := Lib.hid (show chkP s = 40 from (chk_bad (by decide) hfl hu.out).trans rfl)
          have HC' := Lib.hid (by have := HC.out _ HB1.out; rw [hfl] at this; exact this)
          clear HC hcl hs hf hI
          go_wp2_with fail
          refine HC'.out.mono ?_
          rintro e W1 ⟨rfl, hb1⟩
          have HB2 := Lib.hid (HB1.out.trans (hb1.mono HB1.out.size))
          obtain ⟨⟨r0, r1⟩, _⟩ := cells2 ((hb1.block wr.heap.size (by simp)).trans HK1.out)
          clear hb1
          go_wp2_with fail
          go_ret
          exact ⟨by rw [HE.out]; rfl, HB2.out⟩
        | false =>
          have HU := Lib.hid (hu.out.succ hfl)
          have HC' := Lib.hid (by have := HC.out _ HB1.out; rw [hfl] at this; exact this)
          clear HC hcl hs hf hI hu
          go_wp2_with fail
          refine HC'.out.mono ?_
          rintro e W1 ⟨rfl, hb1⟩
          have HB2 := Lib.hid (HB1.out.trans (hb1.mono HB1.out.size))
          have HH2 := Lib.hid ((hb1.block w.heap.size (by simp; omega)).trans ((HA1.out.block w.heap.size hz1).trans HH.out))
          have HG2 := Lib.hid ((hb1.block (w.heap.size + 1) (by simp; omega)).trans ((HA1.out.block (w.heap.size + 1) hz2).trans HG.out))
          clear hb1
          go_wp2_with fail
          go_roundw
          case rel => exact ⟨7, by omega, by go_num, HU.out, HH2.out, HG2.out, HB2.out⟩
          case measure => simp [intOf]
      | 7, _ =>
        have q0 : wr.cell? ⟨w.heap.size + 1, 14, none⟩ = some (.int .i64 40) := (hcl 14).trans rfl
        have q1 : wr.cell? ⟨w.heap.size + 1, 15, none⟩ = some (.func (.func 93) #[] #[]) := (hcl 15).trans rfl
        have hst := store_func1 wr 40 93
        have HB1 := Lib.hid (hI.out.alloc hI.out.size (.cells #[.int .i64 40, .func (.func 93) #[] #[]] 108))
        have HK1 := Lib.hid (block_new wr (.cells #[.int .i64 40, .func (.func 93) #[] #[]] 108))
        have HA1 := Lib.hid ((Below.refl wr.heap.size wr).alloc (Nat.le_refl _) (.cells #[.int .i64 40, .func (.func 93) #[] #[]] 108))
        have HC := Lib.hid (fun (W : World) (hW : Below w.heap.size w W) => fault7_any s m (hu.out.cv.2.1 (by decide)) W (HS.out.later hW))
        have HH := Lib.hid hs.out
        have HG := Lib.hid hf.out
        have HI := Lib.hid hI.out
        cases hfl : flt s 7 with
        | true =>
          have HE := Lib.hid (show chkP s = 40 from (chk_bad (by decide) hfl hu.out).trans rfl)
          have HC' := Lib.hid (by have := HC.out _ HB1.out; rw [hfl] at this; exact this)
          clear HC hcl hs hf hI
          go_wp2_with fail
          refine HC'.out.mono ?_
          rintro e W1 ⟨rfl, hb1⟩
          have HB2 := Lib.hid (HB1.out.trans (hb1.mono HB1.out.size))
          obtain ⟨⟨r0, r1⟩, _⟩ := cells2 ((hb1.block wr.heap.size (by simp)).trans HK1.out)
          clear hb1
          go_wp2_with fail
          go_ret
          exact ⟨by rw [HE.out]; rfl, HB2.out⟩
        | false =>
          have HU := Lib.hid (hu.out.succ hfl)
          have HC' := Lib.hid (by have := HC.out _ HB1.out; rw [hfl] at this; exact this)
          clear HC hcl hs hf hI hu
          go_wp2_with fail
          refine HC'.out.mono ?_
          rintro e W1 ⟨rfl, hb1⟩
          have HB2 := Lib.hid (HB1.out.trans (hb1.mono HB1.out.size))
          have HH2 := Lib.hid ((hb1.block w.heap.size (by simp; omega)).trans ((HA1.out.block w.heap.size hz1).trans HH.out))
          have HG2 := Lib.hid ((hb1.block (w.heap.size + 1) (by simp; omega)).trans ((HA1.out.block (w.heap.size + 1) hz2).trans HG.out))
          clear hb1
          go_wp2_with fail
          go_roundw
          case rel => exact ⟨8, by omega, by go_num, HU.out, HH2.out, HG2.out, HB2.out⟩
          case measure => simp [intOf]
      | 8, _ =>
        have q0 : wr.cell? ⟨w.heap.size + 1, 16, none⟩ = some (.int .i64 40) := (hcl 16).trans rfl
        have q1 : wr.cell? ⟨w.heap.size + 1, 17, none⟩ = some (.func (.func 94) #[] #[]) := (hcl 17).trans rfl
        have hst := store_func1 wr 40 94
        have HB1 := Lib.hid (hI.out.alloc hI.out.size (.cells #[.int .i64 40, .func (.func 94) #[] #[]] 108))
        have HK1 := Lib.hid (block_new wr (.cells #[.int .i64 40, .func (.func 94) #[] #[]] 108))
        have HA1 := Lib.hid ((Below.refl wr.heap.size wr).alloc (Nat.le_refl _) (.cells #[.int .i64 40, .func (.func 94) #[] #[]] 108))
        have HC := Lib.hid (fun (W : World) (hW : Below w.heap.size w W) => fault8_any s m W (HS.out.later hW))
        have HH := Lib.hid hs.out
        have HG := Lib.hid hf.out
        have HI := Lib.hid hI.out
        cases hfl : flt s 8 with
        | true =>
          have HE := Lib.hid (show chkP s = 40 from (chk_bad (by decide) hfl hu.out).trans rfl)
          have HC' := Lib.hid (by have := HC.out _ HB1.out; rw [hfl] at this; exact this)
          clear HC hcl hs hf hI
          go_wp2_with fail
          refine HC'.out.mono ?_
          rintro e W1 ⟨rfl, hb1⟩
          have HB2 := Lib.hid (HB1.out.trans (hb1.mono HB1.out.size))
          obtain ⟨⟨r0, r1⟩, _⟩ := cells2 ((hb1.block wr.heap.size (by simp)).trans HK1.out)
          clear hb1
          go_wp2_with fail
          go_ret
          exact ⟨by rw [HE.out]; rfl, HB2.out⟩
        | false =>
          have HU := Lib.hid (hu.out.succ hfl)
          have HC' := Lib.hid (by have := HC.out _ HB1.out; rw [hfl] at this; exact this)
          clear HC hcl hs hf hI hu
          go_wp2_with fail
          refine HC'.out.mono ?_
          rintro e W1 ⟨rfl, hb1⟩
          have HB2 := Lib.hid (HB1.out.trans (hb1.mono HB1.out.size))
          have HH2 := Lib.hid ((hb1.block w.heap.size (by simp; omega)).trans ((HA1.out.block w.heap.size hz1).trans HH.out))
          have HG2 := Lib.hid ((hb1.block (w.heap.size + 1) (by simp; omega)).trans ((HA1.out.block (w.heap.size + 1) hz2).trans HG.out))
          clear hb1
          go_wp2_with fail
          go_roundw
          case rel => exact ⟨9, by omega, by go_num, HU.out, HH2.out, HG2.out, HB2.out⟩
          case measure => simp [intOf]
      | 9, _ =>
        have q0 : wr.cell? ⟨w.heap.size + 1, 18, none⟩ = some (.int .i64 40) := (hcl 18).trans rfl
        have q1 : wr.cell? ⟨w.heap.size + 1, 19, none⟩ = some (.func (.func 95) #[] #[]) := (hcl 19).trans rfl
        have hst := store_func1 wr 40 95
        have HB1 := Lib.hid (hI.out.alloc hI.out.size (.cells #[.int .i64 40, .func (.func 95) #[] #[]] 108))
        have HK1 := Lib.hid (block_new wr (.cells #[.int .i64 40, .func (.func 95) #[] #[]] 108))
        have HA1 := Lib.hid ((Below.refl wr.heap.size wr).alloc (Nat.le_refl _) (.cells #[.int .i64 40, .func (.func 95) #[] #[]] 108))
        have HC := Lib.hid (fun (W : World) (hW : Below w.heap.size w W) => fault9_any s m (hu.out.cv.2.2 (by decide)) W (HS.out.later hW))
        have HH := Lib.hid hs.out
        have HG := Lib.hid hf.out
        have HI := Lib.hid hI.out
        cases hfl : flt s 9 with
        | true =>
          have HE := Lib.hid (show chkP s = 40 from (chk_bad (by decide) hfl hu.out).trans rfl)
          have HC' := Lib.hid (by have := HC.out _ HB1.out; rw [hfl] at this; exact this)
          clear HC hcl hs hf hI
          go_wp2_with fail
          refine HC'.out.mono ?_
          rintro e W1 ⟨rfl, hb1⟩
          have HB2 := Lib.hid (HB1.out.trans (hb1.mono HB1.out.size))
          obtain ⟨⟨r0, r1⟩, _⟩ := cells2 ((hb1.block wr.heap.size (by simp)).trans HK1.out)
          clear hb1
          go_wp2_with fail
          go_ret
          exact ⟨by rw [HE.out]; rfl, HB2.out⟩
        | false =>
          have HU := Lib.hid (hu.out.succ hfl)
          have HC' := Lib.hid (by have := HC.out _ HB1.out; rw [hfl] at this; exact this)
          clear HC hcl hs hf hI hu
          go_wp2_with fail
          refine HC'.out.mono ?_
          rintro e W1 ⟨rfl, hb1⟩
          have HB2 := Lib.hid (HB1.out.trans (hb1.mono HB1.out.size))
          have HH2 := Lib.hid ((hb1.block w.heap.size (by simp; omega)).trans ((HA1.out.block w.heap.size hz1).trans HH.out))
          have HG2 := Lib.hid ((hb1.block (w.heap.size + 1) (by simp; omega)).trans ((HA1.out.block (w.heap.size + 1) hz2).trans HG.out))
          clear hb1
          go_wp2_with fail
          go_roundw
          case rel => exact ⟨10, by omega, by go_num, HU.out, HH2.out, HG2.out, HB2.out⟩
          case measure => simp [intOf]
      | 10, _ =>
        have q0 : wr.cell? ⟨w.heap.size + 1, 20, none⟩ = some (.int .i64 40) := (hcl 20).trans rfl
        have q1 : wr.cell? ⟨w.heap.size + 1, 21, none⟩ = some (.func (.func 96) #[] #[]) := (hcl 21).trans rfl
        have hst := store_func1 wr 40 96
        have HB1 := Lib.hid (hI.out.alloc hI.out.size (.cells #[.int .i64 40, .func (.func 96) #[] #[]] 108))
        have HK1 := Lib.hid (block_new wr (.cells #[.int .i64 40, .func (.func 96) #[] #[]] 108))
        have HA1 := Lib.hid ((Below.refl wr.heap.size wr).alloc (Nat.le_refl _) (.cells #[.int .i64 40, .func (.func 96) #[] #[]] 108))
        have HC := Lib.hid (fun (W : World) (_ : Below w.heap.size w W) => fault10_any s m W)
        have HH := Lib.hid hs.out
        have HG := Lib.hid hf.out
        have HI := Lib.hid hI.out
        cases hfl : flt s 10 with
        | true =>
          have HE := Lib.hid (show chkP s = 40 from (chk_bad (by decide) hfl hu.out).trans rfl)
          have HC' := Lib.hid (by have := HC.out _ HB1.out; rw [hfl] at this; exact this)
          clear HC hcl hs hf hI
          go_wp2_with fail
          refine HC'.out.mono ?_
          rintro e W1 ⟨rfl, hb1⟩
          have HB2 := Lib.hid (HB1.out.trans (hb1.mono HB1.out.size))
          obtain ⟨⟨r0, r1⟩, _⟩ := cells2 ((hb1.block wr.heap.size (by simp)).trans HK1.out)
          clear hb1
          go_wp2_with fail
          go_ret
          exact ⟨by rw [HE.out]; rfl, HB2.out⟩
        | false =>
          have HU := Lib.hid (hu.out.succ hfl)
          have HC' := Lib.hid (by have := HC.out _ HB1.out; rw [hfl] at this; exact this)
          clear HC hcl hs hf hI hu
          go_wp2_with fail
          refine HC'.out.mono ?_
          rintro e W1 ⟨rfl, hb1⟩
          have HB2 := Lib.hid (HB1.out.trans (hb1.mono HB1.out.size))
          have HH2 := Lib.hid ((hb1.block w.heap.size (by simp; omega)).trans ((HA1.out.block w.heap.size hz1).trans HH.out))
          have HG2 := Lib.hid ((hb1.block (w.heap.size + 1) (by simp; omega)).trans ((HA1.out.block (w.heap.size + 1) hz2).trans HG.out))
          clear hb1
          go_wp2_with fail
          go_roundw
          case rel => exact ⟨11, by omega, by go_num, HU.out, HH2.out, HG2.out, HB2.out⟩
          case measure => simp [intOf]
      | 11, _ =>
        have q0 : wr.cell? ⟨w.heap.size + 1, 22, none⟩ = some (.int .i64 40) := (hcl 22).trans rfl
        have q1 : wr.cell? ⟨w.heap.size + 1, 23, none⟩ = some (.func (.func 97) #[] #[]) := (hcl 23).trans rfl
        have hst := store_func1 wr 40 97
        have HB1 := Lib.hid (hI.out.alloc hI.out.size (.cells #[.int .i64 40, .func (.func 97) #[] #[]] 108))
        have HK1 := Lib.hid (block_new wr (.cells #[.int .i64 40, .func (.func 97) #[] #[]] 108))
        have HA1 := Lib.hid ((Below.refl wr.heap.size wr).alloc (Nat.le_refl _) (.cells #[.int .i64 40, .func (.func 97) #[] #[]] 108))
        have HC := Lib.hid (fun (W : World) (_ : Below w.heap.size w W) => fault11_any s m W)
        have HH := Lib.hid hs.out
        have HG := Lib.hid hf.out
        have HI := Lib.hid hI.out
        cases hfl : flt s 11 with
        | true =>
          have HE := Lib.hid (show chkP s = 40 from (chk_bad (by decide) hfl hu.out).trans rfl)
          have HC' := Lib.hid (by have := HC.out _ HB1.out; rw [hfl] at this; exact this)
          clear HC hcl hs hf hI
          go_wp2_with fail
          refine HC'.out.mono ?_
          rintro e W1 ⟨rfl, hb1⟩
          have HB2 := Lib.hid (HB1.out.trans (hb1.mono HB1.out.size))
          obtain ⟨⟨r0, r1⟩, _⟩ := cells2 ((hb1.block wr.heap.size (by simp)).trans HK1.out)
          clear hb1
          go_wp2_with fail
          go_ret
          exact ⟨by rw [HE.out]; rfl, HB2.out⟩
        | false =>
          have HU := Lib.hid (hu.out.succ hfl)
          have HC' := Lib.hid (by have := HC.out _ HB1.out; rw [hfl] at this; exact this)
          clear HC hcl hs hf hI hu
          go_wp2_with fail
          refine HC'.out.mono ?_
          rintro e W1 ⟨rfl, hb1⟩
          have HB2 := Lib.hid (HB1.out.trans (hb1.mono HB1.out.size))
          have HH2 := Lib.hid ((hb1.block w.heap.size (by simp; omega)).trans ((HA1.out.block w.heap.size hz1).trans HH.out))
          have HG2 := Lib.hid ((hb1.block (w.heap.size + 1) (by simp; omega)).trans ((HA1.out.block (w.heap.size + 1) hz2).trans HG.out))
          clear hb1
          go_wp2_with fail
          go_roundw
          case rel => exact ⟨12, by omega, by go_num, HU.out, HH2.out, HG2.out, HB2.out⟩
          case measure => simp [intOf]
      | 12, _ =>
        have q0 : wr.cell? ⟨w.heap.size + 1, 24, none⟩ = some (.int .i64 40) := (hcl 24).trans rfl
        have q1 : wr.cell? ⟨w.heap.size + 1, 25, none⟩ = some (.func (.func 98) #[] #[]) := (hcl 25).trans rfl
        have hst := store_func1 wr 40 98
        have HB1 := Lib.hid (hI.out.alloc hI.out.size (.cells #[.int .i64 40, .func (.func 98) #[] #[]] 108))
        have HK1 := Lib.hid (block_new wr (.cells #[.int .i64 40, .func (.func 98) #[] #[]] 108))
        have HA1 := Lib.hid ((Below.refl wr.heap.size wr).alloc (Nat.le_refl _) (.cells #[.int .i64 40, .func (.func 98) #[] #[]] 108))
        have HC := Lib.hid (fun (W : World) (_ : Below w.heap.size w W) => fault12_any s m W)
        have HH := Lib.hid hs.out
        have HG := Lib.hid hf.out
        have HI := Lib.hid hI.out
        cases hfl : flt s 12 with
        | true =>
          have HE := Lib.hid (show chkP s = 40 from (chk_bad (by decide) hfl hu.out).trans rfl)
          have HC' := Lib.hid (by have := HC.out _ HB1.out; rw [hfl] at this; exact this)
          clear HC hcl hs hf hI
          go_wp2_with fail
          refine HC'.out.mono ?_
          rintro e W1 ⟨rfl, hb1⟩
          have HB2 := Lib.hid (HB1.out.trans (hb1.mono HB1.out.size))
          obtain ⟨⟨r0, r1⟩, _⟩ := cells2 ((hb1.block wr.heap.size (by simp)).trans HK1.out)
          clear hb1
          go_wp2_with fail
          go_ret
          exact ⟨by rw [HE.out]; rfl, HB2.out⟩
        | false =>
          have HU := Lib.hid (hu.out.succ hfl)
          have HC' := Lib.hid (by have := HC.out _ HB1.out; rw [hfl] at this; exact this)
          clear HC hcl hs hf hI hu
          go_wp2_with fail
          refine HC'.out.mono ?_
          rintro e W1 ⟨rfl, hb1⟩
          have HB2 := Lib.hid (HB1.out.trans (hb1.mono HB1.out.size))
          have HH2 := Lib.hid ((hb1.block w.heap.size (by simp; omega)).trans ((HA1.out.block w.heap.size hz1).trans HH.out))
          have HG2 := Lib.hid ((hb1.block (w.heap.size + 1) (by simp; omega)).trans ((HA1.out.block (w.heap.size + 1) hz2).trans HG.out))
          clear hb1
          go_wp2_with fail
          go_roundw
          case rel => exact ⟨13, by omega, by go_num, HU.out, HH2.out, HG2.out, HB2.out⟩
          case measure => simp [intOf]
      | 13, _ =>
        have q0 : wr.cell? ⟨w.heap.size + 1, 26, none⟩ = some (.int .i64 40) := (hcl 26).trans rfl
        have q1 : wr.cell? ⟨w.heap.size + 1, 27, none⟩ = some (.func (.func 99) #[] #[]) := (hcl 27).trans rfl
        have hst := store_func1 wr 40 99
        have HB1 := Lib.hid (hI.out.alloc hI.out.size (.cells #[.int .i64 40, .func (.func 99) #[] #[]] 108))
        have HK1 := Lib.hid (block_new wr (.cells #[.int .i64 40, .func (.func 99) #[] #[]] 108))
        have HA1 := Lib.hid ((Below.refl wr.heap.size wr).alloc (Nat.le_refl _) (.cells #[.int .i64 40, .func (.func 99) #[] #[]] 108))
        have HC := Lib.hid (fun (W : World) (_ : Below w.heap.size w W) => fault13_any s m W)
        have HH := Lib.hid hs.out
        have HG := Lib.hid hf.out
        have HI := Lib.hid hI.out
        cases hfl : flt s 13 with
        | true =>
          have HE := Lib.hid (show chkP s = 40 from (chk_bad (by decide) hfl hu.out).trans rfl)
          have HC' := Lib.hid (by have := HC.out _ HB1.out; rw [hfl] at this; exact this)
          clear HC hcl hs hf hI
          go_wp2_with fail
          refine HC'.out.mono ?_
          rintro e W1 ⟨rfl, hb1⟩
          have HB2 := Lib.hid (HB1.out.trans (hb1.mono HB1.out.size))
          obtain ⟨⟨r0, r1⟩, _⟩ := cells2 ((hb1.block wr.heap.size (by simp)).trans HK1.out)
          clear hb1
          go_wp2_with fail
          go_ret
          exact ⟨by rw [HE.out]; rfl, HB2.out⟩
        | false =>
          have HU := Lib.hid (hu.out.succ hfl)
          have HC' := Lib.hid (by have := HC.out _ HB1.out; rw [hfl] at this; exact this)
          clear HC hcl hs hf hI hu
          go_wp2_with fail
          refine HC'.out.mono ?_
          rintro e W1 ⟨rfl, hb1⟩
          have HB2 := Lib.hid (HB1.out.trans (hb1.mono HB1.out.size))
          have HH2 := Lib.hid ((hb1.block w.heap.size (by simp; omega)).trans ((HA1.out.block w.heap.size hz1).trans HH.out))
          have HG2 := Lib.hid ((hb1.block (w.heap.size + 1) (by simp; omega)).trans ((HA1.out.block (w.heap.size + 1) hz2).trans HG.out))
          clear hb1
          go_wp2_with fail
          go_roundw
          case rel => exact ⟨14, by omega, by go_num, HU.out, HH2.out, HG2.out, HB2.out⟩
          case measure => simp [intOf]
    · obtain rfl : k = 14 := by omega
      have HE := Lib.hid (chk_ok hu.out)
      go_wp2_with fail
      go_ret
      exact ⟨by rw [HE.out]; rfl, hI.out⟩
end Go.Proofs.YtcoiklolgilhaaaDoor
