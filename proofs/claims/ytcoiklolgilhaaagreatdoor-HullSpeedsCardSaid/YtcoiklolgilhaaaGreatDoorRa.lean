/- Contracts of ice.about and cmp.Or. Has is from 0 to 15; the list is of at most 100 numbers. -/
import Derived.Test.YtcoiklolgilhaaaGreatDoorCell
namespace Go.Proofs.YtcoiklolgilhaaaGreatDoor
open Go.RowKit
set_option maxRecDepth 100000
def aboutB (has : Int) (q : Nat) : Bool := decide (has / (2 ^ q : Int) % 2 = 1)
theorem about_bits (has : Int) (q : Nat) (hq : q < 4) (h0 : 0 ≤ has) (h1 : has ≤ 15) : (bits BinOp.and IntKind.i64 (has / 2 ^ q) 1 == 1) = aboutB has q := by
  obtain ⟨n, rfl⟩ := Int.eq_ofNat_of_zero_le h0
  have hn : n ≤ 15 := by omega
  have : ∀ n : Nat, n ≤ 15 → ∀ q : Nat, q < 4 → (bits BinOp.and IntKind.i64 ((n : Int) / 2 ^ q) 1 == 1) = aboutB n q := by decide +kernel
  exact this n hn q hq
def orL (vs : List Int) : Int := (vs.find? (fun v => v != 0)).getD 0
theorem orL_at {vs : List Int} {k : Nat} (h : ∀ j, j < k → vs[j]?.getD 0 = 0) (hk : k < vs.length) (hv : vs[k]?.getD 0 ≠ 0) : orL vs = vs[k]?.getD 0 := by
  induction vs generalizing k with
  | nil => simp at hk
  | cons v vs ih =>
    cases k with
    | zero =>
      simp at hv
      simp [orL, hv]
    | succ k =>
      have h0 : v = 0 := by simpa using h 0 (by omega)
      have := ih (k := k) (fun j hj => by simpa using h (j + 1) (by omega)) (by simpa using hk) (by simpa using hv)
      subst h0
      simpa [orL, List.find?_cons] using this
theorem orL_all {vs : List Int} (h : ∀ j, j < vs.length → vs[j]?.getD 0 = 0) : orL vs = 0 := by
  induction vs with
  | nil => rfl
  | cons v vs ih =>
    have h0 : v = 0 := by simpa using h 0 (by simp)
    have := ih (fun j hj => by simpa using h (j + 1) (by simpa using hj))
    subst h0
    simpa [orL, List.find?_cons] using this
def Zeros (vs : List Int) (k : Nat) : Prop := ∀ j, j < k → vs[j]?.getD 0 = 0
theorem or_any (b : Nat) (vs : List Int) (w : World) (hc : ∀ i, i < vs.length → w.cell? ⟨b, i, none⟩ = some (.int .i64 (vs[i]?.getD 0))) (hm : vs.length ≤ 100) : Calls Tryz.prog 66 #[.slice (some ⟨b, 0, none⟩) vs.length vs.length] w fun e w' => e = .returned (.int .i64 (orL vs)) ∧ w = w' := by
  have HC := Lib.hid hc
  clear hc
  go_enter Tryz.func66, Tryz.ntmps66
  go_wp2_with fail
  go_loop [8] (fun i => ∃ k : Nat, k ≤ vs.length ∧ i = .int .i64 k ∧ Hid (Zeros vs k)) (fun i => vs.length - (intOf i).toNat)
  case atStart => exact ⟨0, by omega, rfl, fun j hj => by omega⟩
  case round =>
    obtain ⟨k, hk, rfl, hz⟩ := hrel
    by_cases hlt : k < vs.length
    · have hcell := HC.out k hlt
      by_cases hv : vs[k]?.getD 0 = 0
      · rw [hv] at hcell
        have HV := Lib.hid hv
        clear hv
        go_wp2_with fail
        go_round
        case rel => exact ⟨k + 1, by omega, by go_num, fun j hj => by
          by_cases e : j = k
          · rw [e]; exact HV.out
          · exact hz.out j (by omega)⟩
        case measure => simp [intOf]; omega
      · have HO := Lib.hid (orL_at hz.out hlt hv)
        generalize vs[k]?.getD 0 = v at *
        have hb : (v == 0) = false := by simpa using hv
        have hb' : (v != 0) = true := by simpa using hv
        clear hv
        go_wp2_with fail
        go_ret
        exact ⟨by rw [HO.out]; rfl, rfl⟩
    · obtain rfl : k = vs.length := by omega
      have HO := Lib.hid (orL_all hz.out)
      go_wp2_with fail
      go_ret
      exact ⟨by rw [HO.out]; rfl, rfl⟩
end Go.Proofs.YtcoiklolgilhaaaGreatDoor
