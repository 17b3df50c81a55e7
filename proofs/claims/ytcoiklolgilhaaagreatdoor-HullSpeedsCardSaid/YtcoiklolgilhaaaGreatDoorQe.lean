/- The contracts of the law's Drawn and of the function that it hands back: numbers below a bound, one after the other. Bytes lie in memory; the bound is from 1 to a million. -/
import Derived.Test.YtcoiklolgilhaaaGreatDoorPw
namespace Go.Proofs.YtcoiklolgilhaaaGreatDoor
open Go.RowKit
set_option maxRecDepth 100000
/-- bytes in memory -/
def BytesIn (W : World) (p : Option Addr) (k : Nat) : Prop := ∀ i, i < k → ∃ (b o : Nat) (x : Int), p = some ⟨b, o, none⟩ ∧ b < W.heap.size ∧ 0 ≤ x ∧ x ≤ 255 ∧ W.cell? ⟨b, o + i, none⟩ = some (.int .u8 x)
theorem BytesIn.later {w W : World} {p : Option Addr} {k : Nat} (h : BytesIn w p k) (hb : Below w.heap.size w W) : BytesIn W p k := fun i hi => by
  obtain ⟨b, o, x, e, hlt, h1, h2, h3⟩ := h i hi
  exact ⟨b, o, x, e, Nat.lt_of_lt_of_le hlt hb.size, h1, h2, (hb.cell (p := ⟨b, o + i, none⟩) hlt).trans h3⟩
/-- a drawer's memory -/
structure NxIn (w0 : World) (p : Option Addr) (k cap : Nat) (Bi Bl : Nat) (W : World) : Prop where
  low : Below w0.heap.size w0 W
  i : ∃ i : Nat, i ≤ k ∧ W.heap[Bi]? = some (.cells #[.int .i64 (i : Int)] 3 (0, 0))
  l : W.heap[Bl]? = some (.cells #[.slice p k cap] 98 (0, 0))
theorem NxIn.keep {w0 : World} {p : Option Addr} {k cap Bi Bl : Nat} {W W' : World} (h : NxIn w0 p k cap Bi Bl W) (hl : Below w0.heap.size w0 W') (h1 : W'.heap[Bi]? = W.heap[Bi]?) (h2 : W'.heap[Bl]? = W.heap[Bl]?) : NxIn w0 p k cap Bi Bl W' := by
  obtain ⟨i, hi, he⟩ := h.i
  exact ⟨hl, ⟨i, hi, h1.trans he⟩, h2.trans h.l⟩
theorem NxIn.later {w0 : World} {p : Option Addr} {k cap Bi Bl : Nat} {W W' : World} (h : NxIn w0 p k cap Bi Bl W) (hb : Below W.heap.size W W') : NxIn w0 p k cap Bi Bl W' := by
  obtain ⟨i, hi, he⟩ := h.i
  exact h.keep (h.low.trans (hb.mono h.low.size)) (hb.block _ (lt_of_block he)) (hb.block _ (lt_of_block h.l))
theorem Drawn_any (p : Option Addr) (k cap : Nat) (w : World) : Calls Tryz.prog 53 #[.slice p k cap] w fun e w' => e = .returned (.func (.func 115) #[] #[.pointer (some ⟨w.heap.size + 1, 0, none⟩), .pointer (some ⟨w.heap.size, 0, none⟩)]) ∧ w' = (w.alloc (.cells #[.slice p k cap] 98)).alloc (.cells #[.int .i64 0] 3) := by
  go_enter Tryz.func53, Tryz.ntmps53
  go_wp2_with fail
  go_ret
  exact ⟨rfl, rfl⟩
theorem eg73 : ∀ args w, (callFunc 115 args).run Tryz.prog w = .ok (.enter 115 args) w := Go.Proofs.enters_of Tryz.func115 (by kernel_rfl) rfl
set_option maxHeartbeats 1000000 in
theorem next_any (w0 : World) (p : Option Addr) (k cap : Nat) (hk : k ≤ 9223372036854775807) (hB : BytesIn w0 p k) (Bi Bl : Nat) (hBi : w0.heap.size ≤ Bi) (n : Int) (hn : 1 ≤ n) (hn' : n ≤ 1000000) (W : World) (h : NxIn w0 p k cap Bi Bl W) :
    Calls Tryz.prog 115 #[.int .i64 n, .pointer (some ⟨Bi, 0, none⟩), .pointer (some ⟨Bl, 0, none⟩)] W fun e W' => ∃ r : Int, e = .returned (.int .i64 r) ∧ 0 ≤ r ∧ r < n ∧ NxIn w0 p k cap Bi Bl W' ∧ Chg Bi W W' := by
  obtain ⟨i, hik, hi⟩ := h.i
  have hne : Bi ≠ Bl := by
    intro e
    have := h.l
    rw [← e, hi] at this
    simp at this
  have HN := Lib.hid h
  have hl := h.l
  have li := lt_of_block hi
  have ll := lt_of_block hl
  have c0 := (cell_of_block hi 0).trans rfl
  have d0 := (cell_of_block hl 0).trans rfl
  simp only [List.getElem?_toArray, List.getElem?_cons_zero] at c0 d0
  have f0 := frozen_of_block hi 0
  by_cases hlt : i < k
  · obtain ⟨b, o, x, rfl, hb, hx0, hx1, hx⟩ := (hB.later h.low) i hlt
    have hik' : (i : Int) < (k : Int) := by omega
    have hd : decide ((k : Int) ≤ (i : Int)) = false := decide_eq_false (by omega)
    have hd2 : decide (k ≤ i) = false := decide_eq_false (by omega)
    have hi0 : (0 : Int) ≤ (i : Int) := by omega
    have hbne : b ≠ Bi := by
      obtain ⟨b', o', x', e', hb', _⟩ := hB i hlt
      simp only [Option.some.injEq, Addr.mk.injEq, and_true] at e'
      obtain ⟨rfl, _⟩ := e'
      omega
    have m0 := Int.emod_nonneg x (show n ≠ 0 by omega)
    have m1 := Int.emod_lt_of_pos x (show 0 < n by omega)
    have hn0 : n ≠ 0 := by omega
    have HI := Lib.hid hi
    clear hi hl h
    go_enter Tryz.func115, Tryz.ntmps115
    go_wp2_with fail
    have hX := setCell_block HI.out 0 (.int .i64 ((i : Int) + 1))
    simp only [List.setIfInBounds_toArray, List.set_cons_zero] at hX
    have hc := chg_setCell W Bi 0 (.int .i64 ((i : Int) + 1))
    refine bodyPost_ret (v := .int .i64 (x % n)) (by simp [results, Tryz.results115, go_sem]) rfl ⟨x % n, rfl, m0, m1, ⟨HN.out.low.trans (hc.below hBi), ⟨i + 1, by omega, hX⟩, (hc.2.1 _ (Ne.symm hne)).trans HN.out.l⟩, hc⟩
  · obtain rfl : i = k := by omega
    have hd : decide ((i : Int) ≤ (i : Int)) = true := decide_eq_true (by omega)
    clear hi hl h
    go_enter Tryz.func115, Tryz.ntmps115
    go_wp2_with fail
    refine bodyPost_ret (v := .int .i64 0) (by simp [results, Tryz.results115, go_sem]) rfl ⟨0, rfl, by omega, by omega, HN.out, rfl, fun _ _ => rfl, rfl, rfl, rfl⟩
end Go.Proofs.YtcoiklolgilhaaaGreatDoor
