/- The contract of ice.every: for whatever function value whose calls yield truths. No condition. -/
import Derived.Test.YtcoiklolgilhaaaGreatDoorSmall
namespace Go.Proofs.YtcoiklolgilhaaaGreatDoor
open Go.RowKit
set_option maxRecDepth 100000
def allB (b : Nat → Bool) : Bool := b 0 && b 1 && b 2 && b 3
theorem allB_yes {b : Nat → Bool} (h : ∀ j, j < 4 → b j = true) : allB b = true := by
  simp [allB, h 0, h 1, h 2, h 3]
theorem allB_no {b : Nat → Bool} {k : Nat} (hk : k < 4) (h : b k = false) : allB b = false := by
  match k, hk with
  | 0, _ => simp [allB, h]
  | 1, _ => simp [allB, h]
  | 2, _ => simp [allB, h]
  | 3, _ => simp [allB, h]
def UpTo (b : Nat → Bool) (k : Nat) : Prop := ∀ j, j < k → b j = true
theorem UpTo.succ {b : Nat → Bool} {k : Nat} (h : UpTo b k) (hk : b k = true) : UpTo b (k + 1) := fun j hj => by
  by_cases e : j = k
  · rw [e]; exact hk
  · exact h j (by omega)
theorem every_any (g : Nat) (lb : Array Value) (eg : ∀ args w, (callFunc g args).run Tryz.prog w = .ok (.enter g args) w) (Iv : World → Prop) (b : Nat → Bool) (w : World)
    (hstep : ∀ (q : Nat) (W : World), q < 4 → Iv W → Calls Tryz.prog g (#[.int .i64 (q : Int)] ++ lb) W fun e W' => e = .returned (.bool (b q)) ∧ Iv W')
    (h0 : Iv w) :
    Calls Tryz.prog 127 #[.func (.func g) #[] lb] w fun e w' => e = .returned (.bool (allB b)) ∧ Iv w' := by
  have H := Lib.hid hstep; clear hstep
  have H0 := Lib.hid h0; clear h0
  go_enter Tryz.func127, Tryz.ntmps127
  go_wp2_with fail
  go_loopw [4] (fun i wr => ∃ k : Nat, k ≤ 4 ∧ i = .int .i64 k ∧ Hid (UpTo b k) ∧ Hid (Iv wr)) (fun i _ => 4 - (intOf i).toNat)
  case atStart => exact ⟨0, by omega, rfl, fun j hj => by omega, H0⟩
  case round =>
    obtain ⟨k, hk, rfl, hu, hI⟩ := hrel
    by_cases hlt : k < 4
    · have hc := H.out k _ hlt hI.out
      cases hb : b k with
      | true =>
        rw [hb] at hc
        have HC := Lib.hid hc
        have HB := Lib.hid hb
        clear hc hb
        go_wp2_with fail
        refine HC.out.mono ?_
        rintro e W' ⟨rfl, hI'⟩
        have HI' := Lib.hid hI'; clear hI'
        go_wp2_with fail
        go_roundw
        case rel => exact ⟨k + 1, by omega, by go_num, hu.out.succ HB.out, HI'⟩
        case measure => simp [intOf]; omega
      | false =>
        rw [hb] at hc
        have HC := Lib.hid hc
        have HB := Lib.hid (allB_no hlt hb)
        clear hc hb
        go_wp2_with fail
        refine HC.out.mono ?_
        rintro e W' ⟨rfl, hI'⟩
        have HI' := Lib.hid hI'; clear hI'
        go_wp2_with fail
        go_ret
        exact ⟨by rw [HB.out]; rfl, HI'.out⟩
    · obtain rfl : k = 4 := by omega
      have HB := Lib.hid (allB_yes hu.out)
      go_wp2_with fail
      go_ret
      exact ⟨by rw [HB.out]; rfl, hI.out⟩
end Go.Proofs.YtcoiklolgilhaaaGreatDoor
