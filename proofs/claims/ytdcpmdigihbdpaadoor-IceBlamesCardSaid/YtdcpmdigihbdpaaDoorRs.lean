/- The contract of ice.sets: its iterator yields all sets of n reports, n at most 12, in their order. -/
import Derived.RangeFuncNested
import Derived.RangeFuncBound
import Derived.RangeFuncCalls
import Derived.RangeFuncLeaves
import Derived.Shelf.Abstract
import Derived.Shelf.RegionOpen
import Derived.WalkKit
import Derived.OwnWalkIn
import Derived.TacticsInMore
import Derived.LoopNIn
import Derived.LoopIn
import Derived.Test.YtdcpmdigihbdpaaDoorRc
namespace Go.Proofs.YtdcpmdigihbdpaaDoor
open Go.RowKit Go.Shelf
attribute [local go_sem] Oper.semAt_some
set_option maxRecDepth 100000
abbrev setA (s : Nat → Bool) : Array Value := #[.bool (s 0), .bool (s 1), .bool (s 2), .bool (s 3), .bool (s 4), .bool (s 5), .bool (s 6), .bool (s 7), .bool (s 8), .bool (s 9), .bool (s 10), .bool (s 11)]
def pset (n left i : Nat) (j : Nat) : Bool := decide (j < i) && decide (left / 2 ^ (n - 1 - j) % 2 = 0)
def setF (n left : Nat) : Nat → Bool := pset n left n
theorem setA_set (s t : Nat → Bool) (i : Nat) (hi : i < 12) (h : ∀ j, j ≠ i → t j = s j) : (setA s).setIfInBounds i (.bool (t i)) = setA t := by
  match i, hi with
  | 0, _ => simp [setA, h 1, h 2, h 3, h 4, h 5, h 6, h 7, h 8, h 9, h 10, h 11]
  | 1, _ => simp [setA, h 0, h 2, h 3, h 4, h 5, h 6, h 7, h 8, h 9, h 10, h 11]
  | 2, _ => simp [setA, h 0, h 1, h 3, h 4, h 5, h 6, h 7, h 8, h 9, h 10, h 11]
  | 3, _ => simp [setA, h 0, h 1, h 2, h 4, h 5, h 6, h 7, h 8, h 9, h 10, h 11]
  | 4, _ => simp [setA, h 0, h 1, h 2, h 3, h 5, h 6, h 7, h 8, h 9, h 10, h 11]
  | 5, _ => simp [setA, h 0, h 1, h 2, h 3, h 4, h 6, h 7, h 8, h 9, h 10, h 11]
  | 6, _ => simp [setA, h 0, h 1, h 2, h 3, h 4, h 5, h 7, h 8, h 9, h 10, h 11]
  | 7, _ => simp [setA, h 0, h 1, h 2, h 3, h 4, h 5, h 6, h 8, h 9, h 10, h 11]
  | 8, _ => simp [setA, h 0, h 1, h 2, h 3, h 4, h 5, h 6, h 7, h 9, h 10, h 11]
  | 9, _ => simp [setA, h 0, h 1, h 2, h 3, h 4, h 5, h 6, h 7, h 8, h 10, h 11]
  | 10, _ => simp [setA, h 0, h 1, h 2, h 3, h 4, h 5, h 6, h 7, h 8, h 9, h 11]
  | 11, _ => simp [setA, h 0, h 1, h 2, h 3, h 4, h 5, h 6, h 7, h 8, h 9, h 10]
theorem pset_other (n left i j : Nat) (h : j ≠ i) : pset n left (i + 1) j = pset n left i j := by
  unfold pset
  congr 1
  rw [decide_eq_decide]; omega
theorem pset_at (n left i : Nat) : pset n left (i + 1) i = decide (left / 2 ^ (n - 1 - i) % 2 = 0) := by
  unfold pset
  rw [decide_eq_true (show i < i + 1 by omega), Bool.true_and]
theorem bits_even (k e : Nat) (hk : k < 4096) : (bits BinOp.and IntKind.i64 ((k : Int) / 2 ^ e) 1 == 0) = decide (k / 2 ^ e % 2 = 0) := by
  have h1 : (k : Int) / 2 ^ e = ((k / 2 ^ e : Nat) : Int) := by simp
  rw [h1]
  have h2 : k / 2 ^ e < 4096 := Nat.lt_of_le_of_lt (Nat.div_le_self _ _) hk
  have : ∀ m : Nat, m < 4096 → (bits BinOp.and IntKind.i64 (m : Int) 1 == 0) = decide (m % 2 = 0) := by decide +kernel
  exact this _ h2
theorem grown_set {wo wr : World} (h : wo.grownBy wr none) (b o : Nat) (v : Value) (hb : wo.heap.size ≤ b) : wo.grownBy (wr.setCell ⟨b, o, none⟩ v) none :=
  ⟨h.os, h.tape, h.output, by have := h.size; simp [World.setCell]; exact this, fun k hk hn => (Below.heap_setCell _ _ _ _ (by show k ≠ b; omega)).trans (h.block k hk hn)⟩
theorem sets_any (n : Nat) (w : World) : Calls Tryd.prog 125 #[.int .i64 n] w fun e w' => e = .returned (.func (.func 131) #[] #[.pointer (some ⟨w.heap.size, 0, none⟩)]) ∧ w' = w.alloc (.cells #[.int .i64 n] 3) := by
  go_enter Tryd.func125, Tryd.ntmps125
  go_wp2_with fail
  go_ret
  exact ⟨rfl, rfl⟩
/-- Block B lies as it lay. -/
def KpB (B : Nat) (W W' : World) : Prop := W.heap.size ≤ W'.heap.size ∧ W'.heap[B]? = W.heap[B]?
theorem KpB.trans {B : Nat} {x y z : World} (h : KpB B x y) (k : KpB B y z) : KpB B x z := ⟨Nat.le_trans h.1 k.1, k.2.trans h.2⟩
theorem KpB.of_grown {B : Nat} {x y : World} {row : Option Nat} (h : x.grownBy y row) (hB : B < x.heap.size) (hne : some B ≠ row) : KpB B x y := ⟨h.size, h.block B hB hne⟩
set_option maxHeartbeats 2000000 in
theorem sets1_in (m : Nat) (hm : 1 ≤ m) (l Bs n : Nat) (hn : n ≤ 12) (J Jx : List Nat → World → Prop)
    (hY : ∀ pre x W, J pre W → pre.length < 2 ^ n → YieldAt Fence.wide (m - 1) Tryd.prog l #[.agg (setA (setF n x))] W fun e W' =>
      (e = .returned (.bool true) ∧ J (pre ++ [x]) W' ∧ KpB Bs W W') ∨ (e = .returned (.bool false) ∧ Jx (pre ++ [x]) W'))
    (W : World) (hB0 : Bs < W.heap.size) (hBs : W.cell? ⟨Bs, 0, none⟩ = some (.int .i64 n)) (hJ : AbidesFrom W.heap.size J) (h0 : J [] W) :
    CallsIn Fence.wide m Tryd.prog 131 #[.func (.yield l) #[] #[], .pointer (some ⟨Bs, 0, none⟩)] W fun e W' => (∃ v, e = .returned v) ∧
      ((∃ ys, ys = List.range (2 ^ n) ∧ J ys W') ∨ (∃ pre, True ∧ Jx pre W')) := by
  refine callsIn_of_wp Tryd.func131 rfl trivial ?_ rfl
  simp only [Tryd.ntmps131, List.size_toArray, List.length_cons, List.length_nil, Nat.reduceAdd, Nat.reduceSub, Array.replicate_succ, Array.replicate_zero, List.push_toArray, List.append_toArray, List.nil_append, List.cons_append]
  have hp : (2 : Int) ^ n ≤ 4096 ∧ 1 ≤ (2 : Int) ^ n := by
    have : n = 0 ∨ n = 1 ∨ n = 2 ∨ n = 3 ∨ n = 4 ∨ n = 5 ∨ n = 6 ∨ n = 7 ∨ n = 8 ∨ n = 9 ∨ n = 10 ∨ n = 11 ∨ n = 12 := by omega
    rcases this with rfl | rfl | rfl | rfl | rfl | rfl | rfl | rfl | rfl | rfl | rfl | rfl | rfl <;> decide
  have hn0 : (0 : Int) ≤ (n : Int) := by omega
  have hn12 : (n : Int) ≤ 12 := by omega
  gi_wp2
  have hcast : ((2 ^ n : Nat) : Int) = 2 ^ n := by simp
  have hp2 : 2 ^ n ≤ 4096 := by omega
  gi_loopw [8] (fun i wr => ∃ k : Nat, k ≤ 2 ^ n ∧ i = .int .i64 k ∧ Hid (J (List.range k) wr) ∧ Hid (KpB Bs W wr)) (fun i _ => 2 ^ n - (intOf i).toNat)
  case atStart => exact ⟨0, Nat.zero_le _, rfl, h0, ⟨Nat.le_refl _, rfl⟩⟩
  case round =>
    obtain ⟨k, hk, rfl, hJs, hnx⟩ := hrel
    obtain ⟨wo, hwo⟩ : ∃ wo, wo = wr := ⟨_, rfl⟩
    subst hwo
    have hcx : wo.cell? ⟨Bs, 0, none⟩ = some (.int .i64 n) := (World.cell?_of_block (a := ⟨Bs, 0, none⟩) hnx.out.2).trans hBs
    have zr := hnx.out.1
    by_cases hlt : k < 2 ^ n
    · have hlt' : (k : Int) < 2 ^ n := by omega
      have hk0 : (0 : Int) ≤ (k : Int) := by omega
      have hS := block_new wo (.cells (setA (fun _ => false)) 152)
      have hG : wo.grownBy (wo.alloc (.cells (setA (fun _ => false)) 152)) none := World.grownBy_alloc wo _ none
      have HG := Lib.hid hG
      have HS := Lib.hid hS
      have hcy : (wo.alloc (.cells (setA (fun _ => false)) 152)).cell? ⟨Bs, 0, none⟩ = some (.int .i64 n) := (World.cell?_of_block (a := ⟨Bs, 0, none⟩) (hG.block Bs (by omega) (by simp))).trans hcx
      clear hS hG
      gi_wp2
      gi_loopw [12] (fun i wr => ∃ q : Nat, q ≤ n ∧ i = .int .i64 q ∧ Hid (wr.heap[wo.heap.size]? = some (.cells (setA (pset n k q)) 152 (0, 0))) ∧ Hid (wo.grownBy wr none)) (fun i _ => n - (intOf i).toNat)
      case atStart => exact ⟨0, Nat.zero_le _, rfl, HS, HG⟩
      case round =>
        obtain ⟨q, hq, rfl, hS2, hG2⟩ := hrel
        have hcz : wr.cell? ⟨Bs, 0, none⟩ = some (.int .i64 n) := (World.cell?_of_block (a := ⟨Bs, 0, none⟩) (hG2.out.block Bs (by omega) (by simp))).trans hcx
        by_cases hqn : q < n
        · have hq12 : (q : Int) < 12 := by omega
          have hq0 : (0 : Int) ≤ (q : Int) := by omega
          have hqn' : (q : Int) < (n : Int) := by omega
          have hsub : (0 : Int) ≤ (n : Int) - 1 - (q : Int) := by omega
          have hsub2 : (n : Int) - 1 - (q : Int) < 64 := by omega
          have hcs := (cell_of_block hS2.out q).trans (set_get (pset n k q) q (by omega))
          have hfs := frozen_of_block hS2.out q
          gi_wp2
          go_roundw
          case rel =>
            refine ⟨q + 1, by omega, by go_num, ?_, grown_set hG2.out _ _ _ (Nat.le_refl _)⟩
            show (wr.setCell _ _).heap[wo.heap.size]? = _
            rw [setCell_block hS2.out, bits_even k _ (by omega), ← pset_at]
            exact congrArg (fun x => some (Obj.cells x 152 (0, 0))) (setA_set _ _ q (by omega) (fun j hj => pset_other n k q j hj))
          case measure => simp [intOf]; omega
        · obtain rfl : q = n := by omega
          have hJ2 := hJ _ _ _ _ hJs.out hG2.out (by simp)
          obtain ⟨fn, tmps, assign, body, hy, hR⟩ := hY _ k wr hJ2 (by simpa using hlt)
          obtain ⟨b0, b1, b2, b3, b4, b5, b6, b7, b8, b9, b10, b11⟩ : wr.cell? ⟨wo.heap.size, 0, none⟩ = some (.bool (setF q k 0)) ∧ wr.cell? ⟨wo.heap.size, 1, none⟩ = some (.bool (setF q k 1)) ∧ wr.cell? ⟨wo.heap.size, 2, none⟩ = some (.bool (setF q k 2)) ∧ wr.cell? ⟨wo.heap.size, 3, none⟩ = some (.bool (setF q k 3)) ∧
              wr.cell? ⟨wo.heap.size, 4, none⟩ = some (.bool (setF q k 4)) ∧ wr.cell? ⟨wo.heap.size, 5, none⟩ = some (.bool (setF q k 5)) ∧ wr.cell? ⟨wo.heap.size, 6, none⟩ = some (.bool (setF q k 6)) ∧ wr.cell? ⟨wo.heap.size, 7, none⟩ = some (.bool (setF q k 7)) ∧
              wr.cell? ⟨wo.heap.size, 8, none⟩ = some (.bool (setF q k 8)) ∧ wr.cell? ⟨wo.heap.size, 9, none⟩ = some (.bool (setF q k 9)) ∧ wr.cell? ⟨wo.heap.size, 10, none⟩ = some (.bool (setF q k 10)) ∧ wr.cell? ⟨wo.heap.size, 11, none⟩ = some (.bool (setF q k 11)) := by
            have c := fun j => cell_of_block hS2.out j
            exact ⟨c 0, c 1, c 2, c 3, c 4, c 5, c 6, c 7, c 8, c 9, c 10, c 11⟩
          gi_wp2
          refine hR.mono ?_
          rintro e W3 (⟨rfl, hJ3, hk3⟩ | ⟨rfl, hJx3⟩)
          · have HJ3 := Lib.hid hJ3
            have HK3 := Lib.hid ((hnx.out.trans (KpB.of_grown hG2.out (by omega) (by simp))).trans hk3)
            clear b0 b1 b2 b3 b4 b5 b6 b7 b8 b9 b10 b11 hJ3 hk3 hR hy
            gi_wp2
            go_roundw
            case rel => exact ⟨k + 1, by omega, by go_num, by rw [List.range_succ]; exact HJ3, HK3⟩
            case measure => simp [intOf]; omega
          · have HJ3 := Lib.hid hJx3
            clear b0 b1 b2 b3 b4 b5 b6 b7 b8 b9 b10 b11 hJx3 hR hy
            gi_wp2
            refine bodyPost_ret (results_none rfl _ _ _) rfl ?_
            exact ⟨⟨_, rfl⟩, .inr ⟨_, trivial, HJ3.out⟩⟩
    · obtain rfl : k = 2 ^ n := by omega
      gi_wp2
      go_end0
      exact ⟨⟨_, rfl⟩, .inl ⟨_, rfl, hJs.out⟩⟩
theorem sets_stops (m : Nat) (hm : 1 ≤ m) (Bs n : Nat) (hn : n ≤ 12) (w : World) (hB : Bs < w.heap.size) (hc : w.cell? ⟨Bs, 0, none⟩ = some (.int .i64 n)) :
    SeqStopsK Fence.wide m Tryd.prog 131 #[.pointer (some ⟨Bs, 0, none⟩)] (fun x : Nat => #[.agg (setA (setF n x))]) (KpB Bs) (fun ys => ys = List.range (2 ^ n)) (fun _ => True) (2 ^ n) w := fun l J Jx W hW hJ _ hY h0 =>
  sets1_in m hm l Bs n hn J Jx hY W (Nat.lt_of_lt_of_le hB hW.size) ((hW.cell (p := ⟨Bs, 0, none⟩) hB).trans hc) hJ h0
end Go.Proofs.YtdcpmdigihbdpaaDoor
