/- What the law HullWaits keeps in memory: two drawers, a ship, a cell, two rows of spans. Operations for it. -/
import Derived.Test.YtcoiklolgilhaaaDoorRc
import Derived.Test.YtcoiklolgilhaaaDoorRb
import Derived.Test.YtcoiklolgilhaaaDoorQf
import Derived.Maps.AppendAt
namespace Go.Proofs.YtcoiklolgilhaaaDoor
open Go.RowKit
set_option maxRecDepth 100000
theorem und91 : Tryd.prog.underlying 91 = some (.slice 57) := by kernel_rfl
theorem info57 : (Tryd.prog.info? 57).map (fun i => (i.zero, i.size, i.bytes)) = some (some (.agg #[.int .i64 0, .int .i64 0]), 2, 16) := by kernel_rfl
/-- a row of spans -/
abbrev SRow (W : World) (base : Nat) (v : Value) (l : List (Int × Int)) : Prop := W.ownsRow base 57 2 v l.length (flatP l)
theorem SRow.pts {W : World} {base : Nat} {p : Option Addr} {n c : Nat} {l : List (Int × Int)} (h : SRow W base (.slice p n c) l) : Pts W p (cvOf l) := fun i hi => by
  have hi' : i < l.length := hi
  rcases h.2 with ⟨_, e2⟩ | ⟨g, cap, cur, e1, _, hg, hn, _, hsz, htk⟩
  · rw [e2] at hi'; omega
  · simp only [Value.slice.injEq] at e1
    obtain ⟨rfl, _, _⟩ := e1
    obtain ⟨h1, h2⟩ := flatP_get l i hi'
    have hc := fun o => cell_of_block hg o
    have hlen : (flatP l).length = l.length * 2 := flatP_len l
    have get : ∀ j, j < l.length * 2 → cur[j]? = (flatP l)[j]? := fun j hj => by
      rw [← htk, List.getElem?_take_of_lt hj, Array.getElem?_toList]
    refine ⟨g, 0, rfl, lt_of_block hg, ?_, ?_⟩
    · rw [Nat.zero_add]; exact (hc _).trans ((get _ (by omega)).trans h1)
    · rw [Nat.zero_add]; exact (hc _).trans ((get _ (by omega)).trans h2)
theorem srow_one (W : World) (base : Nat) (x y : Int) (hb : base ≤ W.heap.size) : SRow (W.alloc (.cells #[.int .i64 x, .int .i64 y] 57)) base (.slice (some ⟨W.heap.size, 0, none⟩) 1 1) [(x, y)] :=
  ⟨rfl, .inr ⟨W.heap.size, 1, #[.int .i64 x, .int .i64 y], rfl, hb, block_new W _, Nat.le_refl _, by decide, rfl, rfl⟩⟩
theorem sown_ne {W : World} {base : Nat} {v : Value} {l : List (Int × Int)} (h : SRow W base v l) {b : Nat} (hb : b < base ∨ W.heap.size ≤ b) : some b ≠ v.ownBlock := by
  rcases h.2 with ⟨rfl, _⟩ | ⟨g, cap, cur, rfl, hbg, hg, _⟩
  · simp [Value.ownBlock]
  · intro e
    obtain rfl : b = g := by simpa [Value.ownBlock] using e
    have := (Array.getElem?_eq_some_iff.1 hg).1
    omega
theorem sown_base {W : World} {base : Nat} {v : Value} {l : List (Int × Int)} (h : SRow W base v l) : ∀ j, v.ownBlock = some j → base ≤ j := fun j e => by
  rcases h.2 with ⟨rfl, _⟩ | ⟨g, cap, cur, rfl, hbg, hg, _⟩
  · simp [Value.ownBlock] at e
  · obtain rfl : g = j := by simpa [Value.ownBlock] using e
    exact hbg
theorem srow_chg {W W' : World} {base b : Nat} {v : Value} {l : List (Int × Int)} (h : SRow W base v l) (hc : Chg b W W') (hb : b < base) : SRow W' base v l := by
  refine h.kept (row := some b) ⟨hc.2.2.1, hc.2.2.2.1, hc.2.2.2.2, Nat.le_of_eq hc.1.symm, fun k _ hk => hc.2.1 k (fun e => hk (by rw [e]))⟩ ?_
  right
  intro e
  have := sown_base h b e
  omega
theorem srow_grow {W W' : World} {base lim : Nat} {v : Value} {l : List (Int × Int)} {row : Option Nat} (h : SRow W base v l) (hg : W.grownBy W' row) (hr : ∀ j, row = some j → lim ≤ j) (hv : ∀ j, v.ownBlock = some j → j < lim) : SRow W' base v l := by
  refine h.kept hg ?_
  cases hvb : v.ownBlock with
  | none => exact .inl rfl
  | some j =>
    right
    intro e
    have h1 := hr j e.symm
    have h2 := hv j hvb
    omega
theorem sown_lt {W : World} {base : Nat} {v : Value} {l : List (Int × Int)} (h : SRow W base v l) : ∀ j, v.ownBlock = some j → j < W.heap.size := fun j e => by
  rcases h.2 with ⟨rfl, _⟩ | ⟨g, cap, cur, rfl, hbg, hg, _⟩
  · simp [Value.ownBlock] at e
  · obtain rfl : g = j := by simpa [Value.ownBlock] using e
    exact (Array.getElem?_eq_some_iff.1 hg).1

theorem srow_sto {W W' : World} {base b : Nat} {v : Value} {l : List (Int × Int)} (h : SRow W base v l) (hc : Chg b W W') (hne : v.ownBlock ≠ some b) : SRow W' base v l :=
  h.kept (row := some b) ⟨hc.2.2.1, hc.2.2.2.1, hc.2.2.2.2, Nat.le_of_eq hc.1.symm, fun k _ hk => hc.2.1 k (fun e => hk (by rw [e]))⟩ (.inr hne)
section
variable {Q : Exit → Act → World → Prop} {o : Oper} {a' : Act} {W : World}
theorem op_minc {t : Nat} {c x : Int} (hop : o.op = Op.call { callee := .builtin .min, args := #[.const (.int .i64 c), .tmp t], argTypes := #[3, 3] }) (ht : a'.eval (.tmp t) = .int .i64 x) :
    o.wp Tryd.prog a' W (fun a'' W' => a'' = a'.put o.dst (.int .i64 (mn c x)) ∧ Below W.heap.size W W') Q := by
  have hr := Below.refl W.heap.size W
  have ht' : a'.tmps[t]?.getD undef = .int .i64 x := by simpa [Act.eval] using ht
  unfold Oper.wp execOp
  rw [hop]
  have := mn_if c x
  by_cases h : x < c
  · rw [if_pos h] at this
    simp [go_sem, ht', hr, h, ← this]
  · rw [if_neg h] at this
    simp [go_sem, ht', hr, h, ← this]
theorem op_maxc {t : Nat} {c x : Int} (hop : o.op = Op.call { callee := .builtin .max, args := #[.const (.int .i64 c), .tmp t], argTypes := #[3, 3] }) (ht : a'.eval (.tmp t) = .int .i64 x) :
    o.wp Tryd.prog a' W (fun a'' W' => a'' = a'.put o.dst (.int .i64 (mx c x)) ∧ Below W.heap.size W W') Q := by
  have hr := Below.refl W.heap.size W
  have ht' : a'.tmps[t]?.getD undef = .int .i64 x := by simpa [Act.eval] using ht
  unfold Oper.wp execOp
  rw [hop]
  have := mx_if c x
  by_cases h : c < x
  · rw [if_pos h] at this
    simp [go_sem, ht', hr, h, ← this]
  · rw [if_neg h] at this
    simp [go_sem, ht', hr, h, ← this]
theorem op_maxt {s t : Nat} {c x : Int} (hop : o.op = Op.call { callee := .builtin .max, args := #[.tmp s, .tmp t], argTypes := #[3, 3] }) (hs : a'.eval (.tmp s) = .int .i64 c) (ht : a'.eval (.tmp t) = .int .i64 x) :
    o.wp Tryd.prog a' W (fun a'' W' => a'' = a'.put o.dst (.int .i64 (mx c x)) ∧ Below W.heap.size W W') Q := by
  have hr := Below.refl W.heap.size W
  have hs' : a'.tmps[s]?.getD undef = .int .i64 c := by simpa [Act.eval] using hs
  have ht' : a'.tmps[t]?.getD undef = .int .i64 x := by simpa [Act.eval] using ht
  unfold Oper.wp execOp
  rw [hop]
  have := mx_if c x
  by_cases h : c < x
  · rw [if_pos h] at this
    simp [go_sem, hs', ht', hr, h, ← this]
  · rw [if_neg h] at this
    simp [go_sem, hs', ht', hr, h, ← this]
end
section
variable (w1 : World) (p : Option Addr) (k cap : Nat) (p' : Option Addr) (k' cap' : Nat) (s : Sh) (m : Mem3) (lo hi : Ic)
structure Wm (W : World) : Prop where
  nx1 : NxIn w1 p k cap (w1.heap.size + 1 + 1 + 1) (w1.heap.size + 1 + 1) W
  nx2 : NxIn w1 p' k' cap' (w1.heap.size + 1 + 1 + 1 + 1 + 1) (w1.heap.size + 1 + 1 + 1 + 1) W
  k1 : W.heap[w1.heap.size]? = some (.cells (shipA s m) 24 (0, 0))
  k2 : W.heap[w1.heap.size + 1]? = some (.cells (cellV lo hi) 59 (0, 0))
structure WR (M : Nat) (v1 v2 : Value) (l1 l2 : List (Int × Int)) (W : World) : Prop where
  wm : Wm w1 p k cap p' k' cap' s m lo hi W
  r1 : SRow W M v1 l1
  r2 : SRow W M v2 l2
structure W7 (M : Nat) (v1 v2 : Value) (l1 l2 : List (Int × Int)) (B : Nat) (a : Int) (L : Nat → Bool) (W : World) : Prop where
  wr : WR w1 p k cap p' k' cap' s m lo hi M v1 v2 l1 l2 W
  b : ∃ y : Int, W.heap[B]? = some (.cells #[.int .i64 a, .int .i64 y] 57 (0, 0)) ∧ (L 7 = true → a ≤ y ∧ y ≤ 3)
structure W9 (M : Nat) (v1 v2 : Value) (l1 l2 : List (Int × Int)) (B M9 : Nat) (a y : Int) (L : Nat → Bool) (V : Nat → Value) (W : World) : Prop where
  wr : WR w1 p k cap p' k' cap' s m lo hi M v1 v2 l1 l2 W
  c : W.heap[B]? = some (.cells #[.int .i64 a, .int .i64 y] 57 (0, 0))
  m9 : M9 ≤ W.heap.size
  d : L 8 = true → L 7 = true
  b : L 7 = true → ∃ (B' : Nat) (u z : Int), V 7 = .pointer (some ⟨B', 0, none⟩) ∧ M9 ≤ B' ∧ W.heap[B']? = some (.cells #[.int .i64 u, .int .i64 z] 57 (0, 0)) ∧ (L 8 = true → 0 ≤ u ∧ u ≤ a ∧ z = 0)
structure W10 (M : Nat) (v1 v2 : Value) (l1 l2 : List (Int × Int)) (B B' : Nat) (a y u : Int) (L : Nat → Bool) (W : World) : Prop where
  wr : WR w1 p k cap p' k' cap' s m lo hi M v1 v2 l1 l2 W
  c : W.heap[B]? = some (.cells #[.int .i64 a, .int .i64 y] 57 (0, 0))
  b : ∃ z : Int, W.heap[B']? = some (.cells #[.int .i64 u, .int .i64 z] 57 (0, 0)) ∧ (L 9 = true → u ≤ z ∧ z ≤ y)
end
section
variable {w1 : World} {p : Option Addr} {k cap : Nat} {p' : Option Addr} {k' cap' : Nat} {s : Sh} {m : Mem3} {lo hi : Ic} {W W' : World} {M B B' M9 : Nat} {v1 v2 : Value} {l1 l2 : List (Int × Int)} {a y u : Int} {L : Nat → Bool} {V : Nat → Value}
theorem Wm.lt (h : Wm w1 p k cap p' k' cap' s m lo hi W) : w1.heap.size + 1 + 1 + 1 + 1 + 1 < W.heap.size := by
  obtain ⟨i, _, hi⟩ := h.nx2.i
  exact lt_of_block hi
theorem Wm.up (h : Wm w1 p k cap p' k' cap' s m lo hi W) {n : Nat} (hb : Below n W W') (hn : w1.heap.size + 1 + 1 + 1 + 1 + 1 + 1 ≤ n) : Wm w1 p k cap p' k' cap' s m lo hi W' :=
  ⟨h.nx1.keep (h.nx1.low.trans (hb.mono (by omega))) (hb.block _ (by omega)) (hb.block _ (by omega)), h.nx2.keep (h.nx2.low.trans (hb.mono (by omega))) (hb.block _ (by omega)) (hb.block _ (by omega)), (hb.block _ (by omega)).trans h.k1, (hb.block _ (by omega)).trans h.k2⟩
theorem Wm.later (h : Wm w1 p k cap p' k' cap' s m lo hi W) (hb : Below W.heap.size W W') : Wm w1 p k cap p' k' cap' s m lo hi W' := h.up hb h.lt
theorem Wm.ch1 (h : Wm w1 p k cap p' k' cap' s m lo hi W) (hN : NxIn w1 p k cap (w1.heap.size + 1 + 1 + 1) (w1.heap.size + 1 + 1) W') (hC : Chg (w1.heap.size + 1 + 1 + 1) W W') : Wm w1 p k cap p' k' cap' s m lo hi W' :=
  ⟨hN, h.nx2.keep hN.low (hC.2.1 _ (by omega)) (hC.2.1 _ (by omega)), (hC.2.1 _ (by omega)).trans h.k1, (hC.2.1 _ (by omega)).trans h.k2⟩
theorem Wm.ch2 (h : Wm w1 p k cap p' k' cap' s m lo hi W) (hN : NxIn w1 p' k' cap' (w1.heap.size + 1 + 1 + 1 + 1 + 1) (w1.heap.size + 1 + 1 + 1 + 1) W') (hC : Chg (w1.heap.size + 1 + 1 + 1 + 1 + 1) W W') : Wm w1 p k cap p' k' cap' s m lo hi W' :=
  ⟨h.nx1.keep hN.low (hC.2.1 _ (by omega)) (hC.2.1 _ (by omega)), hN, (hC.2.1 _ (by omega)).trans h.k1, (hC.2.1 _ (by omega)).trans h.k2⟩
theorem WR.later (h : WR w1 p k cap p' k' cap' s m lo hi M v1 v2 l1 l2 W) (hb : Below W.heap.size W W') : WR w1 p k cap p' k' cap' s m lo hi M v1 v2 l1 l2 W' := ⟨h.wm.later hb, row_later h.r1 hb, row_later h.r2 hb⟩
theorem WR.ch1 (h : WR w1 p k cap p' k' cap' s m lo hi M v1 v2 l1 l2 W) (hN : NxIn w1 p k cap (w1.heap.size + 1 + 1 + 1) (w1.heap.size + 1 + 1) W') (hC : Chg (w1.heap.size + 1 + 1 + 1) W W') (hM : w1.heap.size + 1 + 1 + 1 + 1 + 1 + 1 ≤ M) : WR w1 p k cap p' k' cap' s m lo hi M v1 v2 l1 l2 W' := ⟨h.wm.ch1 hN hC, srow_chg h.r1 hC (by omega), srow_chg h.r2 hC (by omega)⟩
theorem WR.ch2 (h : WR w1 p k cap p' k' cap' s m lo hi M v1 v2 l1 l2 W) (hN : NxIn w1 p' k' cap' (w1.heap.size + 1 + 1 + 1 + 1 + 1) (w1.heap.size + 1 + 1 + 1 + 1) W') (hC : Chg (w1.heap.size + 1 + 1 + 1 + 1 + 1) W W') (hM : w1.heap.size + 1 + 1 + 1 + 1 + 1 + 1 ≤ M) : WR w1 p k cap p' k' cap' s m lo hi M v1 v2 l1 l2 W' := ⟨h.wm.ch2 hN hC, srow_chg h.r1 hC (by omega), srow_chg h.r2 hC (by omega)⟩
theorem WR.sto (h : WR w1 p k cap p' k' cap' s m lo hi M v1 v2 l1 l2 W) {b : Nat} (hc : Chg b W W') (hM : w1.heap.size + 1 + 1 + 1 + 1 + 1 + 1 ≤ b) (h1 : v1.ownBlock ≠ some b) (h2 : v2.ownBlock ≠ some b) : WR w1 p k cap p' k' cap' s m lo hi M v1 v2 l1 l2 W' := ⟨h.wm.up (hc.below hM) (Nat.le_refl _), srow_sto h.r1 hc h1, srow_sto h.r2 hc h2⟩
theorem W7.later (h : W7 w1 p k cap p' k' cap' s m lo hi M v1 v2 l1 l2 B a L W) (hb : Below W.heap.size W W') : W7 w1 p k cap p' k' cap' s m lo hi M v1 v2 l1 l2 B a L W' := by
  obtain ⟨y, h1, h2⟩ := h.b
  exact ⟨h.wr.later hb, y, (hb.block _ (lt_of_block h1)).trans h1, h2⟩
theorem W7.set (h : W7 w1 p k cap p' k' cap' s m lo hi M v1 v2 l1 l2 B a L W) (i : Nat) (hi' : i ≠ 7) : W7 w1 p k cap p' k' cap' s m lo hi M v1 v2 l1 l2 B a (fun j => if j = i then true else L j) W := by
  refine ⟨h.wr, ?_⟩
  simp only [if_neg (Ne.symm hi')]
  exact h.b
theorem W9.later (h : W9 w1 p k cap p' k' cap' s m lo hi M v1 v2 l1 l2 B M9 a y L V W) (hb : Below W.heap.size W W') : W9 w1 p k cap p' k' cap' s m lo hi M v1 v2 l1 l2 B M9 a y L V W' := by
  refine ⟨h.wr.later hb, (hb.block _ (lt_of_block h.c)).trans h.c, Nat.le_trans h.m9 hb.size, h.d, fun e => ?_⟩
  obtain ⟨B', u, z, h1, h2, h3, h4⟩ := h.b e
  exact ⟨B', u, z, h1, h2, (hb.block _ (lt_of_block h3)).trans h3, h4⟩
theorem W9.set (h : W9 w1 p k cap p' k' cap' s m lo hi M v1 v2 l1 l2 B M9 a y L V W) (i : Nat) (h7 : i ≠ 7) (h8 : i ≠ 8) (x : Value) : W9 w1 p k cap p' k' cap' s m lo hi M v1 v2 l1 l2 B M9 a y (fun j => if j = i then true else L j) (fun j => if j = i then x else V j) W := by
  refine ⟨h.wr, h.c, h.m9, ?_, ?_⟩
  · simp only [if_neg (Ne.symm h7), if_neg (Ne.symm h8)]; exact h.d
  · simp only [if_neg (Ne.symm h7), if_neg (Ne.symm h8)]; exact h.b
theorem W10.later (h : W10 w1 p k cap p' k' cap' s m lo hi M v1 v2 l1 l2 B B' a y u L W) (hb : Below W.heap.size W W') : W10 w1 p k cap p' k' cap' s m lo hi M v1 v2 l1 l2 B B' a y u L W' := by
  obtain ⟨z, h1, h2⟩ := h.b
  exact ⟨h.wr.later hb, (hb.block _ (lt_of_block h.c)).trans h.c, z, (hb.block _ (lt_of_block h1)).trans h1, h2⟩
theorem W10.set (h : W10 w1 p k cap p' k' cap' s m lo hi M v1 v2 l1 l2 B B' a y u L W) (i : Nat) (hi' : i ≠ 9) : W10 w1 p k cap p' k' cap' s m lo hi M v1 v2 l1 l2 B B' a y u (fun j => if j = i then true else L j) W := by
  refine ⟨h.wr, h.c, ?_⟩
  simp only [if_neg (Ne.symm hi')]
  exact h.b
end
end Go.Proofs.YtcoiklolgilhaaaDoor
