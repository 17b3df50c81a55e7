/- The contract of hull.isCurve: at most a million points. -/
import Derived.Test.YtcoiklolgilhaaaGreatDoorPb
namespace Go.Proofs.YtcoiklolgilhaaaGreatDoor
open Go.RowKit
set_option maxRecDepth 100000
theorem hwithin_is (n lo hi : Int) (b : Bool) (h : inB n lo hi = b) (w : World) : Calls Tryz.prog 112 #[.int .i64 n, .int .i64 lo, .int .i64 hi] w fun e w' => e = .returned (.bool b) ∧ w = w' := h ▸ hwithin_any n lo hi w
def CvTo (c : Cv) (k : Nat) : Prop := ∀ j, j < k → ptB c j = true
theorem isCurve_any (p : Option Addr) (n cap : Nat) (c : Cv) (hc : c.n = n) (hm : n ≤ 1000000) (w : World) (h : Pts w p c) : Calls Tryz.prog 111 #[.slice p n cap] w fun e w' => e = .returned (.bool (okCv c)) ∧ Below w.heap.size w w' := by
  have HP := Lib.hid h
  by_cases h28 : 2 ≤ n ∧ n ≤ 8
  · have HW := Lib.hid (hwithin_is n 2 8 true (decide_eq_true (by omega)))
    obtain ⟨b, o, rfl, hlt, x0, _⟩ := h 0 (by omega)
    by_cases hx : c.x 0 = 0
    · have HX := Lib.hid hx
      rw [hx] at x0
      simp only [Nat.zero_mul, Nat.add_zero] at x0
      have HC := Lib.hid hc
      clear h hx hc
      go_enter Tryz.func111, Tryz.ntmps111
      go_wp2_with fail
      refine (HW.out _).mono ?_
      rintro e w' ⟨rfl, rfl⟩
      go_wp2_with fail
      go_loopw [18] (fun i wr => ∃ k : Nat, k ≤ n ∧ i = .int .i64 k ∧ Hid (CvTo c k) ∧ Hid (Below w.heap.size w wr)) (fun i _ => n - (intOf i).toNat)
      case atStart => exact ⟨0, by omega, rfl, fun j hj => by omega, Below.refl _ _⟩
      case round =>
        obtain ⟨k, hk, rfl, hu, hI⟩ := hrel
        by_cases hlt2 : k < n
        · obtain ⟨b', o', e', hltk, cx, cy⟩ := (HP.out.later hI.out) k (by rw [HC.out]; exact hlt2)
          obtain ⟨rfl, rfl⟩ : b' = b ∧ o' = o := by simpa using e'.symm
          clear e'
          have hkn : (k : Int) < (n : Int) := by omega
          have hk0 : (0 : Int) ≤ (k : Int) := by omega
          have NO : ptB c k = false → okCv c = false := fun hf => by
            cases hok : okCv c with
            | false => rfl
            | true =>
              simp only [okCv, Bool.and_eq_true] at hok
              rw [allN_iff.1 hok.2 k (by rw [HC.out]; exact hlt2)] at hf; cases hf
          have HNO := Lib.hid NO
          clear NO
          have bal := Lib.hid (hI.out.alloc hI.out.size (.cells #[.int .i64 (c.x k), .int .i64 (c.y k)] 89))
          by_cases h1 : c.x k ≤ 400
          · have d1 : decide (400 < c.x k) = false := decide_eq_false (by omega)
            by_cases h2 : 0 ≤ c.y k ∧ c.y k ≤ 20000
            · have HW2 := Lib.hid (hwithin_is (c.y k) 0 20000 true (decide_eq_true h2))
              by_cases hz : k = 0
              · have HU := Lib.hid (show CvTo c (k + 1) from fun j hj => by
                  obtain rfl : j = k := by omega
                  subst hz; simp [ptB, h1, h2])
                have d2 : decide (0 < k) = false := decide_eq_false (by omega)
                clear hz h2
                go_wp2_with fail
                go_quiet ((go_at_call 112; exact quiet_left (HW2.out _)))
                go_wp2_with fail
                go_roundw
                case rel => exact ⟨k + 1, by omega, by go_num, HU.out, below_drewN bal.out _⟩
                case measure => simp [intOf]; omega
              · obtain ⟨j, hj⟩ : ∃ j, k = j + 1 := ⟨k - 1, by omega⟩
                obtain ⟨b', o', e', hltj, cxj, cyj⟩ := (HP.out.later hI.out) j (by rw [HC.out]; omega)
                obtain ⟨rfl, rfl⟩ : _ = b' ∧ _ = o' := by simpa using e'
                clear e' cyj
                have d2 : decide (0 < k) = true := decide_eq_true (by omega)
                have hkj : (k : Int) - 1 = (j : Int) := by omega
                have hjn : (j : Int) < (n : Int) := by omega
                by_cases h3 : c.x j < c.x k
                · have d3 : decide (c.x k ≤ c.x j) = false := decide_eq_false (by omega)
                  have HU := Lib.hid (show CvTo c (k + 1) from fun i hi => by
                    by_cases e : i = k
                    · rw [e]
                      have : k - 1 = j := by omega
                      simp [ptB, h1, h2, this, h3]
                    · exact hu.out i (by omega))
                  clear hz h2 hj
                  go_wp2_with fail
                  go_quiet ((go_at_call 112; exact quiet_left (HW2.out _)))
                  go_wp2_with fail
                  go_roundw
                  case rel => exact ⟨k + 1, by omega, by go_num, HU.out, below_drewN bal.out _⟩
                  case measure => simp [intOf]; omega
                · have h3' : c.x k ≤ c.x j := by omega
                  have HF := Lib.hid (HNO.out (by
                    have : k - 1 = j := by omega
                    simp [ptB, this, h3, hz]))
                  clear hz h2 hj
                  go_wp2_with fail
                  go_quiet ((go_at_call 112; exact quiet_left (HW2.out _)))
                  go_wp2_with fail
                  go_ret
                  exact ⟨by rw [HF.out]; rfl, below_drewN bal.out _⟩
            · have HW2 := Lib.hid (hwithin_is (c.y k) 0 20000 false (decide_eq_false h2))
              have HF := Lib.hid (HNO.out (by simp only [ptB, decide_eq_false h2]; simp))
              clear h2
              go_wp2_with fail
              go_quiet ((go_at_call 112; exact quiet_left (HW2.out _)))
              go_wp2_with fail
              go_ret
              exact ⟨by rw [HF.out]; rfl, below_drewN bal.out _⟩
          · have h1' : 400 < c.x k := by omega
            have HF := Lib.hid (HNO.out (by simp only [ptB, decide_eq_false h1]; simp))
            go_wp2_with fail
            go_quiet ((go_at_call 112; exact quiet_left (HW2.out _)))
            go_wp2_with fail
            go_ret
            exact ⟨by rw [HF.out]; rfl, below_drewN bal.out _⟩
        · obtain rfl : k = n := by omega
          have HB := Lib.hid (show okCv c = true by
            unfold okCv
            rw [HC.out, decide_eq_true (show 2 ≤ k ∧ k ≤ 8 from h28), decide_eq_true HX.out, allN_iff.2 hu.out]; rfl)
          go_wp2_with fail
          go_ret
          exact ⟨by rw [HB.out]; rfl, hI.out⟩
    · have HE := Lib.hid (show okCv c = false by unfold okCv; rw [decide_eq_false hx]; simp)
      have hx' : (c.x 0 != 0) = true := by simpa using hx
      simp only [Nat.zero_mul, Nat.add_zero] at x0
      clear h hx hc
      go_enter Tryz.func111, Tryz.ntmps111
      go_wp2_with fail
      refine (HW.out _).mono ?_
      rintro e w' ⟨rfl, rfl⟩
      go_wp2_with fail
      go_ret
      exact ⟨by rw [HE.out]; rfl, Below.refl _ _⟩
  · have HW := Lib.hid (hwithin_is n 2 8 false (decide_eq_false (by omega)))
    have HE := Lib.hid (show okCv c = false by unfold okCv; rw [hc, decide_eq_false h28]; simp)
    clear h hc h28
    go_enter Tryz.func111, Tryz.ntmps111
    go_wp2_with fail
    refine (HW.out _).mono ?_
    rintro e w' ⟨rfl, rfl⟩
    go_wp2_with fail
    go_ret
    exact ⟨by rw [HE.out]; rfl, Below.refl _ _⟩
end Go.Proofs.YtcoiklolgilhaaaGreatDoor
