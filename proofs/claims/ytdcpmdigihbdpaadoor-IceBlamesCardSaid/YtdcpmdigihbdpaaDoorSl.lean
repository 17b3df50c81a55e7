/- The contracts of polynyakit.Pick, of the law's ranged, Right's closure and Rates: a divisor from 1 to 1001. -/
import Derived.Test.YtdcpmdigihbdpaaDoorRz
namespace Go.Proofs.YtdcpmdigihbdpaaDoor
open Go.RowKit
set_option maxRecDepth 100000
theorem pick_mod (n k : Int) (hk : 0 < k) : (if n.tmod k < 0 then n.tmod k + k else n.tmod k) = n % k := by
  have h1 := Int.tmod_add_mul_tdiv n k
  have h2 := Int.emod_add_mul_ediv n k
  have h3 := Int.emod_nonneg n (by omega : k ≠ 0)
  have h4 := Int.emod_lt_of_pos n hk
  rw [Int.tmod_eq_emod]
  split <;> split <;> omega
theorem Pick_any (n k : Int) (h1 : 1 ≤ k) (h2 : k ≤ 1001) (w : World) : Calls Tryd.prog 51 #[.int .i64 n, .int .i64 k] w fun e w' => e = .returned (.int .i64 (n % k)) ∧ w = w' := by
  have hM := pick_mod n k (by omega)
  have hb1 := Int.tmod_lt_of_pos n (show 0 < k by omega)
  have hb2 := Int.lt_tmod_of_pos n (show 0 < k by omega)
  by_cases hneg : n.tmod k < 0
  · rw [if_pos hneg] at hM
    have HM := Lib.hid hM
    clear hM
    have hk1 : ¬ k < 1 := by omega
    have hk0 : ¬ k = 0 := by omega
    go_enter Tryd.func51, Tryd.ntmps51
    go_wp2_with fail
    go_ret
    exact ⟨by rw [← HM.out]; rfl, rfl⟩
  · rw [if_neg hneg] at hM
    have HM := Lib.hid hM
    clear hM
    have hk1 : ¬ k < 1 := by omega
    have hk0 : ¬ k = 0 := by omega
    go_enter Tryd.func51, Tryd.ntmps51
    go_wp2_with fail
    go_ret
    exact ⟨by rw [← HM.out]; rfl, rfl⟩
end Go.Proofs.YtdcpmdigihbdpaaDoor
