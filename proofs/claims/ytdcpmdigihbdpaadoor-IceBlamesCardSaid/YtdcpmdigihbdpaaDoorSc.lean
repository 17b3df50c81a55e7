/- The contract of slices.Backward at sets: its iterator yields the sets of a list from the last to the first. -/
import Derived.Test.YtdcpmdigihbdpaaDoorRw
namespace Go.Proofs.YtdcpmdigihbdpaaDoor
open Go.RowKit Go.Shelf
attribute [local go_sem] Oper.semAt_some
set_option maxRecDepth 100000
theorem backward_any (a : Option Addr) (n c : Nat) (w : World) : Calls Tryd.prog 100 #[.slice a n c] w fun e w' => e = .returned (.func (.func 124) #[] #[.pointer (some ⟨w.heap.size, 0, none⟩)]) ∧ w' = w.alloc (.cells #[.slice a n c] 161) := by
  go_enter Tryd.func100, Tryd.ntmps100
  go_wp2_with fail
  go_ret
  exact ⟨rfl, rfl⟩
/-- Two blocks lie as they lay. -/
def KpB2 (A B : Nat) (W W' : World) : Prop := KpB A W W' ∧ KpB B W W'
theorem KpB2.trans {A B : Nat} {x y z : World} (h : KpB2 A B x y) (k : KpB2 A B y z) : KpB2 A B x z := ⟨h.1.trans k.1, h.2.trans k.2⟩
/-- What the iterator yields k-th: its place, and the set. -/
def backE (n : Nat) (l : List Nat) (k : Nat) : Array Value := #[.int .i64 ((l.length : Int) - 1 - (k : Int)), .agg (setA (setF n (l[l.length - 1 - k]?.getD 0)))]
set_option maxHeartbeats 2000000 in
theorem back1_in (m : Nat) (hm : 1 ≤ m) (lp Bs g n cap : Nat) (l : List Nat) (hl : l.length ≤ 4096) (J Jx : List Nat → World → Prop)
    (hY : ∀ pre x W, J pre W → pre.length < l.length → YieldAt Fence.wide (m - 1) Tryd.prog lp (backE n l x) W fun e W' =>
      (e = .returned (.bool true) ∧ J (pre ++ [x]) W' ∧ KpB2 Bs g W W') ∨ (e = .returned (.bool false) ∧ Jx (pre ++ [x]) W'))
    (W : World) (hBs : W.cell? ⟨Bs, 0, none⟩ = some (.slice (some ⟨g, 0, none⟩) l.length cap)) (hg : ∀ i, i < l.length → ∀ j, j < 12 → W.cell? ⟨g, i * 12 + j, none⟩ = some (.bool (setF n (l[i]?.getD 0) j))) (h0 : J [] W) :
    CallsIn Fence.wide m Tryd.prog 124 #[.func (.yield lp) #[] #[], .pointer (some ⟨Bs, 0, none⟩)] W fun e W' => (∃ v, e = .returned v) ∧
      ((∃ ys, ys = List.range l.length ∧ J ys W') ∨ (∃ pre, True ∧ Jx pre W')) := by
  refine callsIn_of_wp Tryd.func124 rfl trivial ?_ rfl
  simp only [Tryd.ntmps124, List.size_toArray, List.length_cons, List.length_nil, Nat.reduceAdd, Nat.reduceSub, Array.replicate_succ, Array.replicate_zero, List.push_toArray, List.append_toArray, List.nil_append, List.cons_append]
  have hl' : (l.length : Int) ≤ 4096 := by omega
  gi_wp2
  gi_loopw [3] (fun i wr => ∃ k : Nat, k ≤ l.length ∧ i = .int .i64 ((l.length : Int) - 1 - (k : Int)) ∧ Hid (J (List.range k) wr) ∧ Hid (KpB2 Bs g W wr)) (fun i _ => (intOf i + 1).toNat)
  case atStart => exact ⟨0, Nat.zero_le _, by simp, h0, ⟨Nat.le_refl _, rfl⟩, Nat.le_refl _, rfl⟩
  case round =>
    obtain ⟨k, hk, rfl, hJs, hnx⟩ := hrel
    have hcx : wr.cell? ⟨Bs, 0, none⟩ = some (.slice (some ⟨g, 0, none⟩) l.length cap) := (World.cell?_of_block (a := ⟨Bs, 0, none⟩) hnx.out.1.2).trans hBs
    by_cases hlt : k < l.length
    · obtain ⟨q, hq⟩ : ∃ q : Nat, q = l.length - 1 - k := ⟨_, rfl⟩
      have hq' : (l.length : Int) - 1 - (k : Int) = (q : Int) := by omega
      have hql : q < l.length := by omega
      have hqi : (q : Int) < (l.length : Int) := by omega
      have hq0 : (0 : Int) ≤ (q : Int) := by omega
      have hc := fun j hj => (World.cell?_of_block (a := ⟨g, q * 12 + j, none⟩) hnx.out.2.2).trans (hg q hql j hj)
      have y0 := hc 0 (by omega)
      have y1 := hc 1 (by omega)
      have y2 := hc 2 (by omega)
      have y3 := hc 3 (by omega)
      have y4 := hc 4 (by omega)
      have y5 := hc 5 (by omega)
      have y6 := hc 6 (by omega)
      have y7 := hc 7 (by omega)
      have y8 := hc 8 (by omega)
      have y9 := hc 9 (by omega)
      have y10 := hc 10 (by omega)
      have y11 := hc 11 (by omega)
      rw [Nat.add_zero] at y0
      obtain ⟨fn, tmps, assign, body, hy, hR⟩ := hY _ k wr hJs.out (by simpa using hlt)
      unfold backE at hy
      rw [hq', ← hq] at hy
      rw [hq']
      have HQ := Lib.hid hq'
      clear hc hq hq'
      generalize l[q]?.getD 0 = xq at *
      gi_wp2
      refine hR.mono ?_
      rintro e W3 (⟨rfl, hJ3, hk3⟩ | ⟨rfl, hJx3⟩)
      · have HJ3 := Lib.hid hJ3
        have HK3 := Lib.hid (hnx.out.trans hk3)
        clear y0 y1 y2 y3 y4 y5 y6 y7 y8 y9 y10 y11 hJ3 hk3 hR hy
        gi_wp2
        go_roundw
        case rel => exact ⟨k + 1, by omega, by have := HQ.out; congr 1 <;> omega, by rw [List.range_succ]; exact HJ3, HK3⟩
        case measure => have := HQ.out; simp [intOf] <;> omega
      · have HJ3 := Lib.hid hJx3
        clear y0 y1 y2 y3 y4 y5 y6 y7 y8 y9 y10 y11 hJx3 hR hy
        gi_wp2
        refine bodyPost_ret (results_none rfl _ _ _) rfl ?_
        exact ⟨⟨_, rfl⟩, .inr ⟨_, trivial, HJ3.out⟩⟩
    · obtain rfl : k = l.length := by omega
      have hneg : (l.length : Int) - 1 - (l.length : Int) = -1 := by omega
      rw [hneg]
      gi_wp2
      go_end0
      exact ⟨⟨_, rfl⟩, .inl ⟨_, rfl, hJs.out⟩⟩
theorem back_stops (m : Nat) (hm : 1 ≤ m) (Bs g n cap : Nat) (l : List Nat) (hl : l.length ≤ 4096) (w : World) (hB : Bs < w.heap.size) (hg : g < w.heap.size) (hBs : w.cell? ⟨Bs, 0, none⟩ = some (.slice (some ⟨g, 0, none⟩) l.length cap))
    (hgc : ∀ i, i < l.length → ∀ j, j < 12 → w.cell? ⟨g, i * 12 + j, none⟩ = some (.bool (setF n (l[i]?.getD 0) j))) :
    SeqStopsK Fence.wide m Tryd.prog 124 #[.pointer (some ⟨Bs, 0, none⟩)] (backE n l) (KpB2 Bs g) (fun ys => ys = List.range l.length) (fun _ => True) l.length w := fun lp J Jx W hW _ _ hY h0 =>
  back1_in m hm lp Bs g n cap l hl J Jx hY W ((hW.cell (p := ⟨Bs, 0, none⟩) hB).trans hBs) (fun i hi j hj => (hW.cell (p := ⟨g, i * 12 + j, none⟩) hg).trans (hgc i hi j hj)) h0
end Go.Proofs.YtdcpmdigihbdpaaDoor
