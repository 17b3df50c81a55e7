/- The contract of ice.set.size. No condition. -/
import Derived.Test.YtdcpmdigihbdpaaDoorCell
namespace Go.Proofs.YtdcpmdigihbdpaaDoor
open Go.RowKit
set_option maxRecDepth 100000
def setArr (s : Nat → Bool) : Array Value := #[.bool (s 0), .bool (s 1), .bool (s 2), .bool (s 3), .bool (s 4), .bool (s 5), .bool (s 6), .bool (s 7), .bool (s 8), .bool (s 9), .bool (s 10), .bool (s 11)]
def sizeTo (s : Nat → Bool) : Nat → Nat
  | 0 => 0
  | k + 1 => sizeTo s k + if s k = true then 1 else 0
theorem sizeTo_le (s : Nat → Bool) : ∀ k, sizeTo s k ≤ k
  | 0 => Nat.le_refl _
  | k + 1 => by unfold sizeTo; have := sizeTo_le s k; split <;> omega
theorem set_index (s : Nat → Bool) (k : Nat) (hk : k < 12) : ∀ w, (Instr.index 152 (.agg #[.bool (s 0), .bool (s 1), .bool (s 2), .bool (s 3), .bool (s 4), .bool (s 5), .bool (s 6), .bool (s 7), .bool (s 8), .bool (s 9), .bool (s 10), .bool (s 11)]) (.int .i64 (k : Int))).run Tryd.prog w = .ok (.bool (s k)) w := by
  match k, hk with
  | 0, _ => exact fun w => by kernel_rfl
  | 1, _ => exact fun w => by kernel_rfl
  | 2, _ => exact fun w => by kernel_rfl
  | 3, _ => exact fun w => by kernel_rfl
  | 4, _ => exact fun w => by kernel_rfl
  | 5, _ => exact fun w => by kernel_rfl
  | 6, _ => exact fun w => by kernel_rfl
  | 7, _ => exact fun w => by kernel_rfl
  | 8, _ => exact fun w => by kernel_rfl
  | 9, _ => exact fun w => by kernel_rfl
  | 10, _ => exact fun w => by kernel_rfl
  | 11, _ => exact fun w => by kernel_rfl
theorem size_any (s : Nat → Bool) (w : World) : Calls Tryd.prog 126 #[.agg #[.bool (s 0), .bool (s 1), .bool (s 2), .bool (s 3), .bool (s 4), .bool (s 5), .bool (s 6), .bool (s 7), .bool (s 8), .bool (s 9), .bool (s 10), .bool (s 11)]] w fun e w' => e = .returned (.int .i64 (sizeTo s 12)) ∧ Below w.heap.size w w' := by
  go_enter Tryd.func126, Tryd.ntmps126
  go_wp2_with fail
  go_loop [3, 7] (fun n i => ∃ k : Nat, k ≤ 12 ∧ i = .int .i64 k ∧ n = .int .i64 (sizeTo s k)) (fun _ i => 12 - (intOf i).toNat)
  case atStart => exact ⟨0, by omega, rfl, rfl⟩
  case round =>
    obtain ⟨k, hk, rfl, rfl⟩ := hrel
    have hle := sizeTo_le s k
    by_cases hlt : k < 12
    · have hix := set_index s k hlt
      cases hs : s k with
      | true =>
        have hsz : sizeTo s (k + 1) = sizeTo s k + 1 := by simp [sizeTo, hs]
        have HS := Lib.hid hsz
        rw [hs] at hix
        clear hsz hs
        go_wp2_with fail
        go_round
        case rel => exact ⟨k + 1, by omega, by go_num, by rw [HS.out]; go_num⟩
        case measure => simp [intOf]; omega
      | false =>
        have hsz : sizeTo s (k + 1) = sizeTo s k := by simp [sizeTo, hs]
        have HS := Lib.hid hsz
        rw [hs] at hix
        clear hsz hs
        go_wp2_with fail
        go_round
        case rel => exact ⟨k + 1, by omega, by go_num, by rw [HS.out]⟩
        case measure => simp [intOf]; omega
    · obtain rfl : k = 12 := by omega
      go_wp2_with fail
      go_ret
      exact ⟨rfl, (Below.refl _ _).alloc (Nat.le_refl _) _⟩
end Go.Proofs.YtdcpmdigihbdpaaDoor
