/- The contract of hull.greatest: for whatever function value whose calls answer truths; it answers the search that halves. At most a million numbers. -/
import Derived.Test.YtcoiklolgilhaaaGreatDoorPh
namespace Go.Proofs.YtcoiklolgilhaaaGreatDoor
open Go.RowKit
set_option maxRecDepth 100000
theorem greatest_any (g : Nat) (ra lb : Array Value) (eg : ∀ args w, (callFunc g args).run Tryz.prog w = .ok (.enter g args) w) (is : Nat → Bool) (most : Nat) (hm : most ≤ 1000000) (w : World)
    (hstep : ∀ (v : Nat) (W : World), v ≤ most → Below w.heap.size w W → Calls Tryz.prog g (ra.push (.int .i64 (v : Int)) ++ lb) W fun e W' => e = .returned (.bool (is v)) ∧ Below W.heap.size W W') :
    Calls Tryz.prog 104 #[.int .i64 most, .func (.func g) ra lb] w fun e w' => e = .returned (.tuple #[.int .i64 (greatP is most), .bool (is 0)]) ∧ Below w.heap.size w w' := by
  have H := Lib.hid hstep; clear hstep
  have hc := H.out 0 w (by omega) (Below.refl _ _)
  cases h0 : is 0 with
  | false =>
    rw [h0] at hc
    have HC := Lib.hid hc
    have HE := Lib.hid (show greatP is most = 0 by unfold greatP; rw [h0]; simp)
    clear hc h0
    go_enter Tryz.func104, Tryz.ntmps104
    go_wp2_with fail
    refine HC.out.mono ?_
    rintro e W1 ⟨rfl, hb1⟩
    have HB1 := Lib.hid hb1
    clear hb1
    go_wp2_with fail
    refine bodyPost_ret (v := .tuple #[.int .i64 0, .bool false]) (by simp [results, Tryz.results104, go_sem]) rfl ⟨by rw [HE.out]; rfl, HB1.out⟩
  | true =>
    rw [h0] at hc
    have HC := Lib.hid hc
    have HE := Lib.hid (show greatP is most = bsP is most 0 most by unfold greatP; rw [h0]; simp)
    have H0 := Lib.hid h0
    clear hc h0
    go_enter Tryz.func104, Tryz.ntmps104
    go_wp2_with fail
    refine HC.out.mono ?_
    rintro e W1 ⟨rfl, hb1⟩
    have HB1 := Lib.hid hb1
    clear hb1
    go_wp2_with fail
    go_loopw [6, 7] (fun x y wr => ∃ lo hi : Nat, x = .int .i64 lo ∧ y = .int .i64 hi ∧ Hid (lo ≤ hi) ∧ Hid (hi ≤ most) ∧ Hid (bsP is (hi - lo) lo hi = bsP is most 0 most) ∧ Hid (Below w.heap.size w wr)) (fun x y _ => (intOf y).toNat - (intOf x).toNat)
    case atStart => exact ⟨0, most, rfl, rfl, Nat.zero_le _, Nat.le_refl _, rfl, HB1.out⟩
    case round =>
      obtain ⟨lo, hi, rfl, rfl, h1, h2, h3, hI⟩ := hrel
      have h1' := h1.out
      have h2' := h2.out
      by_cases hlt : lo < hi
      · have hmid : (hi : Int) - ((hi : Int) - (lo : Int)) / 2 = ((hi - (hi - lo) / 2 : Nat) : Int) := by omega
        have hs := bsP_step is lo hi hlt
        have k1 : lo < hi - (hi - lo) / 2 := by omega
        have k2 : hi - (hi - lo) / 2 ≤ hi := by omega
        generalize hi - (hi - lo) / 2 = md at *
        have hcm := H.out md wr (by omega) hI.out
        have HI := Lib.hid hI.out
        clear hI
        cases hm2 : is md with
        | true =>
          rw [hm2] at hcm hs
          have HCM := Lib.hid hcm
          have HS := Lib.hid (show bsP is (hi - md) md hi = bsP is most 0 most by rw [← h3.out, hs]; simp)
          clear hcm hs h3 hm2
          go_wp2_with fail
          refine HCM.out.mono ?_
          rintro e W2 ⟨rfl, hb2⟩
          have HB2 := Lib.hid (HI.out.trans (hb2.mono HI.out.size))
          clear hb2
          go_wp2_with fail
          go_roundw
          case rel => exact ⟨md, hi, rfl, rfl, k2, h2.out, HS.out, HB2.out⟩
          case measure => simp [intOf]; omega
        | false =>
          rw [hm2] at hcm hs
          have HCM := Lib.hid hcm
          have HS := Lib.hid (show bsP is (md - 1 - lo) lo (md - 1) = bsP is most 0 most by rw [← h3.out, hs]; simp)
          have hmd1 : (md : Int) - 1 = ((md - 1 : Nat) : Int) := by omega
          clear hcm hs h3 hm2
          go_wp2_with fail
          refine HCM.out.mono ?_
          rintro e W2 ⟨rfl, hb2⟩
          have HB2 := Lib.hid (HI.out.trans (hb2.mono HI.out.size))
          clear hb2
          go_wp2_with fail
          go_roundw
          case rel => exact ⟨lo, md - 1, rfl, by go_num, by show lo ≤ md - 1; omega, by show md - 1 ≤ most; omega, HS.out, HB2.out⟩
          case measure => simp [intOf]; omega
      · have HR := Lib.hid (show bsP is most 0 most = lo by rw [← h3.out]; exact bsP_end is lo hi _ hlt)
        have HI := Lib.hid hI.out
        clear hI h3
        have hd : decide ((lo : Int) < (hi : Int)) = false := decide_eq_false (by omega)
        go_wp2_with fail
        refine bodyPost_ret (v := .tuple #[.int .i64 lo, .bool true]) (by simp [results, Tryz.results104, go_sem]) rfl ⟨by rw [HE.out, HR.out], HI.out⟩
end Go.Proofs.YtcoiklolgilhaaaGreatDoor
