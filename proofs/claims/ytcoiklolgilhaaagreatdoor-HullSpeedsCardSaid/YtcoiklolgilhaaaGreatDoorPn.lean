/- The contracts of hull.ends and of what it yields: the most ice, and the least one, where it is another one. No condition. -/
import Derived.RangeFuncNested
import Derived.RangeFuncBound
import Derived.RangeFuncCalls
import Derived.RangeFuncLeaves
import Derived.Shelf.Abstract
import Derived.Shelf.RegionOpen
import Derived.WalkKit
import Derived.OwnWalkIn
import Derived.TacticsInMore
import Derived.LoopNIn
import Derived.LoopIn
import Derived.Test.YtcoiklolgilhaaaGreatDoorPh
namespace Go.Proofs.YtcoiklolgilhaaaGreatDoor
open Go.RowKit Go.Shelf
attribute [local go_sem] Oper.semAt_some
set_option maxRecDepth 100000
def sameI (i j : Ic) : Bool := i.conc == j.conc && i.thick == j.thick && i.ridge == j.ridge && i.press == j.press
theorem sameI_iff {i j : Ic} : sameI i j = true ↔ i = j := by
  cases i; cases j; simp [sameI, and_assoc]
theorem eqIn53 (i j : Ic) (W : World) : (Op.equalIn 10000 26 (.agg (iceV i)) (.agg (iceV j))).run Tryz.prog W = .ok (sameI i j) W := by
  show (Op.equalIn (9999 + 1) 26 _ _).run _ _ = _
  rw [run_equalIn_struct _ _ _ _ _ (by kernel_rfl) (by kernel_rfl)]
  simp [go_sem]
  unfold sameI
  (repeat' split) <;> simp_all
abbrev cellV (lo hi : Ic) : Array Value := #[.int .i64 lo.conc, .int .i64 hi.conc, .int .i64 lo.thick, .int .i64 hi.thick, .int .i64 lo.ridge, .int .i64 hi.ridge, .int .i64 lo.press, .int .i64 hi.press]
theorem ends_any (lo hi : Ic) (w : World) : Calls Tryz.prog 138 #[.agg (cellV lo hi)] w fun e w' => e = .returned (.func (.func 177) #[] #[.pointer (some ⟨w.heap.size, 0, none⟩)]) ∧ w' = w.alloc (.cells (cellV lo hi) 30) := by
  go_enter Tryz.func138, Tryz.ntmps138
  go_wp2
  go_ret
  exact ⟨rfl, rfl⟩
/-- one of the two ices at the ends -/
abbrev EndI (lo hi : Ic) := { x : Ic // x = lo ∨ x = hi }
def endsL (lo hi : Ic) : List (EndI lo hi) := if sameI lo hi = true then [⟨hi, .inr rfl⟩] else [⟨hi, .inr rfl⟩, ⟨lo, .inl rfl⟩]
/-- what a round keeps: all below n₀, and all cells from M on -/
def KpB (n₀ M : Nat) (A B : World) : Prop := Below n₀ A B ∧ ∀ (k : Nat) (vs : Array Value) (t : TypeId), M ≤ k → A.heap[k]? = some (.cells vs t (0, 0)) → B.heap[k]? = some (.cells vs t (0, 0))
theorem KpB.trans {n₀ M : Nat} {A B C : World} (h : KpB n₀ M A B) (k : KpB n₀ M B C) : KpB n₀ M A C :=
  ⟨h.1.trans k.1, fun i vs t hi he => k.2 i vs t hi (h.2 i vs t hi he)⟩
theorem KpB.put {n₀ M : Nat} {w : World} (hn : n₀ ≤ w.heap.size) (W : World) (l : Nat) (o o' : Obj) (hl : w.heap.size ≤ l) (h : W.heap[l]? = some o) (hc : o.isCells = false) (hw : o.isWalk = false) : KpB n₀ M W (W.putObj l o') :=
  ⟨belowK_b hn W l o o' hl h hc hw, fun k vs t _ hk => by
    by_cases e : k = l
    · subst e
      rw [h] at hk
      cases hk
      simp [Obj.isCells] at hc
    · exact (World.putObj_heap_other (by omega)).trans hk⟩
theorem abides_alloc {β : Type} {B : Nat} {J : β → World → Prop} (h : AbidesFrom B J) {s : β} {W : World} (o : Obj) (hs : J s W) : J s (W.alloc o) :=
  h s W _ none hs (World.grownBy_alloc W o none) (fun r e => by cases e)
theorem listIn_neq53 {n : Nat} {ops : Array Oper} {o : Oper} {rest : List Oper} {a : Act} {W : World} {Q : Exit → Act → World → Prop} {s t : Nat} (i j : Ic) {r : Bool} (hop : o.op = Op.binOp .neq 26 (.tmp s) (.tmp t) 26) (hw : Region.wanted o (yielded ops a.tmps) = true)
    (he : a.eval (.tmp s) = .agg (iceV i)) (ht : a.eval (.tmp t) = .agg (iceV j)) (hs : sameI i j = r) (hK : wpListIn Fence.wide n Tryz.prog ops Q rest (a.put o.dst (.bool (!r))) W) : wpListIn Fence.wide n Tryz.prog ops Q (o :: rest) a W := by
  have he' : a.tmps[s]?.getD undef = .agg (iceV i) := by simpa [Act.eval] using he
  have ht' : a.tmps[t]?.getD undef = .agg (iceV j) := by simpa [Act.eval] using ht
  have hr : (execOp a.eval o).run Tryz.prog W = .ok (.value (.bool (!r))) W := by
    unfold execOp
    rw [hop]
    simp [go_sem, he', ht']
    rw [← hs]
    unfold sameI
    (repeat' split) <;> simp_all
  unfold wpListIn
  rw [if_pos hw]
  refine ⟨fun _ _ => trivial, ?_⟩
  show o.uponIn Fence.wide n Tryz.prog a _ Q ((o.semAt none a.eval).run Tryz.prog W)
  rw [Oper.semAt_none, hr]
  exact hK
set_option maxHeartbeats 2000000 in
theorem ends_stops (n : Nat) (hn : 1 ≤ n) (lo hi : Ic) (b n₀ M : Nat) (w : World) (hM : M ≤ w.heap.size) (hb : w.heap[b]? = some (.cells (cellV lo hi) 30 (0, 0))) :
    SeqStopsK Fence.wide n Tryz.prog 177 #[.pointer (some ⟨b, 0, none⟩)] (fun x : EndI lo hi => #[Value.agg (iceV x.1)]) (KpB n₀ M) (fun xs => xs = endsL lo hi) (fun _ => True) (endsL lo hi).length w := fun l J Jx W hW hJ hJx hY h0 => by
  have hlt := lt_of_block hb
  obtain ⟨⟨c0, c1, c2, c3, c4, c5, c6, c7⟩, _⟩ := cells8 ((hW.block b hlt).trans hb)
  obtain ⟨t1, t2, t3, t4⟩ := two_allocs W (.cells (iceV lo) 26) (.cells (iceV hi) 26)
  have hJ2 := abides_alloc hJ (.cells (iceV hi) 26) (abides_alloc hJ (.cells (iceV lo) 26) h0)
  have hWs := hW.size
  have hltW : b < W.heap.size := Nat.lt_of_lt_of_le hlt hWs
  obtain ⟨fn, tmps, assign, body, hy, hR⟩ := hY [] ⟨hi, .inr rfl⟩ _ hJ2 (by unfold endsL; split <;> simp)
  dsimp only at hy
  refine callsIn_of_wp Tryz.func177 rfl trivial ?_ rfl
  simp only [Tryz.ntmps177, List.size_toArray, List.length_cons, List.length_nil, Nat.reduceAdd, Nat.reduceSub, Array.replicate_succ, Array.replicate_zero, List.push_toArray, List.append_toArray, List.nil_append, List.cons_append]
  gi_wp2
  refine hR.mono ?_
  clear hR hy
  rintro e W3 (⟨rfl, hJ3, hk3⟩ | ⟨rfl, hJx3⟩)
  · have e1 := hk3.2 _ _ _ (by omega) t1
    have e2 := hk3.2 _ _ _ (by omega) t2
    clear hk3
    obtain ⟨⟨d0, d1, d2, d3⟩, _⟩ := cells4 e1
    obtain ⟨⟨f0, f1, f2, f3⟩, _⟩ := cells4 e2
    cases hs : sameI lo hi with
    | true =>
      have HL := Lib.hid (show endsL lo hi = [⟨hi, .inr rfl⟩] by unfold endsL; rw [if_pos hs])
      have HS := Lib.hid hs
      clear hY hs
      gi_wp2_with (refine listIn_neq53 lo hi rfl rfl rfl rfl HS.out ?_)
      go_end0
      exact ⟨⟨_, rfl⟩, .inl ⟨_, HL.out.symm, hJ3⟩⟩
    | false =>
      have HL := Lib.hid (show endsL lo hi = [⟨hi, .inr rfl⟩, ⟨lo, .inl rfl⟩] by unfold endsL; rw [if_neg (by rw [hs]; simp)])
      obtain ⟨fn, tmps, assign, body, hy, hR⟩ := hY [⟨hi, .inr rfl⟩] ⟨lo, .inl rfl⟩ W3 hJ3 (by rw [HL.out]; simp)
      dsimp only at hy
      have HS := Lib.hid hs
      clear hY hs
      gi_wp2_with (refine listIn_neq53 lo hi rfl rfl rfl rfl HS.out ?_)
      refine hR.mono ?_
      clear hR hy
      rintro e W4 (⟨rfl, hJ4, hk4⟩ | ⟨rfl, hJx4⟩)
      · gi_wp2
        go_end0
        exact ⟨⟨_, rfl⟩, .inl ⟨_, HL.out.symm, hJ4⟩⟩
      · gi_wp2
        go_end0
        exact ⟨⟨_, rfl⟩, .inr ⟨_, trivial, hJx4⟩⟩
  · clear hY
    gi_wp2
    go_end0
    exact ⟨⟨_, rfl⟩, .inr ⟨_, trivial, hJx3⟩⟩
end Go.Proofs.YtcoiklolgilhaaaGreatDoor
