/- Lemmas on single operations of the model over this translation: loads, calls, new blocks, stores of cells and of ice. No condition. -/
import Derived.Test.YtcoiklolgilhaaaGreatDoorEvery
import Derived.Test.YtcoiklolgilhaaaGreatDoorMulti
namespace Go.Proofs.YtcoiklolgilhaaaGreatDoor
open Go.RowKit
set_option maxRecDepth 100000
variable {Q : Exit → Act → World → Prop}
theorem op_load8 {o : Oper} {a' : Act} {W : World} {s b : Nat} {t : TypeId} {x0 x1 x2 x3 x4 x5 x6 x7 : Value} (hop : o.op = Op.load 30 (.tmp s)) (he : a'.eval (.tmp s) = ptr b)
    (hb : W.heap[b]? = some (.cells #[x0, x1, x2, x3, x4, x5, x6, x7] t (0, 0))) :
    o.wp Tryz.prog a' W (fun a'' W' => a'' = a'.put o.dst (.agg #[x0, x1, x2, x3, x4, x5, x6, x7]) ∧ Below W.heap.size W W') Q := by
  obtain ⟨⟨c0, c1, c2, c3, c4, c5, c6, c7⟩, _⟩ := cells8 hb
  have hr := Below.refl W.heap.size W
  unfold ptr at he
  have he' : a'.tmps[s]?.getD undef = .pointer (some ⟨b, 0, none⟩) := by simpa [Act.eval] using he
  unfold Oper.wp execOp
  rw [hop]
  simp [go_sem, he', c0, c1, c2, c3, c4, c5, c6, c7, hr]
theorem op_load4 {o : Oper} {a' : Act} {W : World} {s b off : Nat} {x0 x1 x2 x3 : Value} (hop : o.op = Op.load 26 (.tmp s)) (he : a'.eval (.tmp s) = .pointer (some ⟨b, off, none⟩))
    (c0 : W.cell? ⟨b, off, none⟩ = some x0) (c1 : W.cell? ⟨b, off + 1, none⟩ = some x1) (c2 : W.cell? ⟨b, off + 2, none⟩ = some x2) (c3 : W.cell? ⟨b, off + 3, none⟩ = some x3) :
    o.wp Tryz.prog a' W (fun a'' W' => a'' = a'.put o.dst (.agg #[x0, x1, x2, x3]) ∧ Below W.heap.size W W') Q := by
  have hr := Below.refl W.heap.size W
  have he' : a'.tmps[s]?.getD undef = .pointer (some ⟨b, off, none⟩) := by simpa [Act.eval] using he
  unfold Oper.wp execOp
  rw [hop]
  simp [go_sem, he', c0, c1, c2, c3, hr]
theorem op_call {o : Oper} {a' : Act} {W : World} {f : Nat} {s : Nat} {v r : Value} {ts : Array TypeId} (hop : o.op = Op.call { callee := .value (.func f), args := #[.tmp s], argTypes := ts })
    (he : a'.eval (.tmp s) = v) (eg : ∀ args w, (callFunc f args).run Tryz.prog w = .ok (.enter f args) w) (hc : Calls Tryz.prog f #[v] W fun e w' => e = .returned r ∧ Below W.heap.size W w') :
    o.wp Tryz.prog a' W (fun a'' W' => a'' = a'.put o.dst r ∧ Below W.heap.size W W') Q := by
  have he' : a'.tmps[s]?.getD undef = v := by simpa [Act.eval] using he
  unfold Oper.wp execOp
  rw [hop]
  simp [go_sem, he', eg]
  refine hc.mono ?_
  rintro e w' ⟨rfl, hb⟩
  exact ⟨rfl, hb⟩
theorem op_alloc108 {o : Oper} {a' : Act} {W : World} (hop : o.op = Op.alloc 198) :
    o.wp Tryz.prog a' W (fun a'' W' => a'' = a'.put o.dst (ptr W.heap.size) ∧ W' = W.alloc (.cells #[.int .i64 0, .int .i64 0, .int .i64 0, .int .i64 0, .int .i64 0, .int .i64 0, .int .i64 0, .int .i64 0] 198)) Q := by
  unfold Oper.wp execOp ptr
  rw [hop]
  simp [go_sem]
theorem op_alloc114 {o : Oper} {a' : Act} {W : World} (hop : o.op = Op.alloc 189) :
    o.wp Tryz.prog a' W (fun a'' W' => a'' = a'.put o.dst (ptr W.heap.size) ∧ W' = W.alloc (.cells #[.int .i64 0, .int .i64 0, .int .i64 0, .int .i64 0] 189)) Q := by
  unfold Oper.wp execOp ptr
  rw [hop]
  simp [go_sem]
/-- Block b alone has turned. -/
def Chg (b : Nat) (W W' : World) : Prop := W'.heap.size = W.heap.size ∧ (∀ k, k ≠ b → W'.heap[k]? = W.heap[k]?) ∧ W'.os = W.os ∧ W'.tape = W.tape ∧ W'.output = W.output
theorem Chg.below {b n : Nat} {W W' : World} (h : Chg b W W') (hn : n ≤ b) : Below n W W' := ⟨h.2.2.1, h.2.2.2.1, h.2.2.2.2, Nat.le_of_eq h.1.symm, fun k hk => h.2.1 k (by omega)⟩
theorem chg_setCell (W : World) (b o : Nat) (v : Value) : Chg b W (W.setCell ⟨b, o, none⟩ v) :=
  ⟨by simp [World.setCell], fun k hk => Below.heap_setCell _ _ _ _ hk, rfl, rfl, rfl⟩
theorem Chg.trans {b : Nat} {A B C : World} (h : Chg b A B) (k : Chg b B C) : Chg b A C :=
  ⟨k.1.trans h.1, fun i hi => (k.2.1 i hi).trans (h.2.1 i hi), k.2.2.1.trans h.2.2.1, k.2.2.2.1.trans h.2.2.2.1, k.2.2.2.2.trans h.2.2.2.2⟩
theorem chg_store8 (W : World) (b : Nat) (y0 y1 y2 y3 y4 y5 y6 y7 : Value) : Chg b W (World.store8 W b y0 y1 y2 y3 y4 y5 y6 y7) :=
  ((((((((chg_setCell W b 0 y0).trans (chg_setCell _ b 1 y1)).trans (chg_setCell _ b 2 y2)).trans (chg_setCell _ b 3 y3)).trans (chg_setCell _ b 4 y4)).trans (chg_setCell _ b 5 y5)).trans (chg_setCell _ b 6 y6)).trans (chg_setCell _ b 7 y7))
def World.store4 (W : World) (b : Nat) (y0 y1 y2 y3 : Value) : World :=
  (((W.setCell ⟨b, 0, none⟩ y0).setCell ⟨b, 1, none⟩ y1).setCell ⟨b, 2, none⟩ y2).setCell ⟨b, 3, none⟩ y3
theorem chg_store4 (W : World) (b : Nat) (y0 y1 y2 y3 : Value) : Chg b W (World.store4 W b y0 y1 y2 y3) :=
  (((chg_setCell W b 0 y0).trans (chg_setCell _ b 1 y1)).trans (chg_setCell _ b 2 y2)).trans (chg_setCell _ b 3 y3)
theorem store4_block {W : World} {b : Nat} {x0 x1 x2 x3 : Value} {t : TypeId} (h : W.heap[b]? = some (.cells #[x0, x1, x2, x3] t (0, 0))) (y0 y1 y2 y3 : Value) :
    (World.store4 W b y0 y1 y2 y3).heap[b]? = some (.cells #[y0, y1, y2, y3] t (0, 0)) := by
  unfold World.store4
  have h0 := setCell_block h 0 y0
  simp only [List.setIfInBounds_toArray, List.set_cons_zero] at h0
  have h1 := setCell_block h0 1 y1
  simp only [List.setIfInBounds_toArray, List.set_cons_zero, List.set_cons_succ] at h1
  have h2 := setCell_block h1 2 y2
  simp only [List.setIfInBounds_toArray, List.set_cons_zero, List.set_cons_succ] at h2
  have h3 := setCell_block h2 3 y3
  simp only [List.setIfInBounds_toArray, List.set_cons_zero, List.set_cons_succ] at h3
  exact h3
theorem cells4 {W : World} {b : Nat} {x0 x1 x2 x3 : Value} {t : TypeId} (h : W.heap[b]? = some (.cells #[x0, x1, x2, x3] t (0, 0))) :
    (W.cell? ⟨b, 0, none⟩ = some x0 ∧ W.cell? ⟨b, 1, none⟩ = some x1 ∧ W.cell? ⟨b, 2, none⟩ = some x2 ∧ W.cell? ⟨b, 3, none⟩ = some x3) ∧
    (W.frozen? ⟨b, 0, none⟩ = false ∧ W.frozen? ⟨b, 1, none⟩ = false ∧ W.frozen? ⟨b, 2, none⟩ = false ∧ W.frozen? ⟨b, 3, none⟩ = false) := by
  refine ⟨⟨?_, ?_, ?_, ?_⟩, ⟨?_, ?_, ?_, ?_⟩⟩ <;> first | exact frozen_of_block h _ | (rw [cell_of_block h]; rfl)
theorem list_store {ops : Array Oper} {o : Oper} {rest : List Oper} {a : Act} {W W' : World} (hg : o.guard = none) (hd : o.dst = none)
    (hr : (execOp a.eval o).run Tryz.prog W = .ok .skip W' ∨ ∃ v, (execOp a.eval o).run Tryz.prog W = .ok (.value v) W') (hK : wpList Tryz.prog ops Q rest a W') : wpList Tryz.prog ops Q (o :: rest) a W := by
  unfold wpList
  have hw : Region.wanted o (yielded ops a.tmps) = true := by unfold Region.wanted; rw [hg]
  rw [if_pos hw]
  refine .inl ?_
  unfold Oper.wp
  rcases hr with hr | ⟨v, hr⟩
  · rw [hr]; simpa [Oper.upon, hd, Act.put] using hK
  · rw [hr]; simpa [Oper.upon, hd, Act.put] using hK
theorem list_store8 {ops : Array Oper} {o : Oper} {rest : List Oper} {a : Act} {W : World} {ty : TypeId} {s r b : Nat} {t : TypeId} {x0 x1 x2 x3 x4 x5 x6 x7 y0 y1 y2 y3 y4 y5 y6 y7 : Int} (hg : o.guard = none) (hd : o.dst = none) (hop : o.op = Op.store ty (.tmp s) (.tmp r)) (hty : ty = 30 ∨ ty = 198)
    (he : a.eval (.tmp s) = ptr b) (hv : a.eval (.tmp r) = .agg #[.int .i64 y0, .int .i64 y1, .int .i64 y2, .int .i64 y3, .int .i64 y4, .int .i64 y5, .int .i64 y6, .int .i64 y7])
    (hb : W.heap[b]? = some (.cells #[.int .i64 x0, .int .i64 x1, .int .i64 x2, .int .i64 x3, .int .i64 x4, .int .i64 x5, .int .i64 x6, .int .i64 x7] t (0, 0)))
    (hK : ∀ W', W'.heap[b]? = some (.cells #[.int .i64 y0, .int .i64 y1, .int .i64 y2, .int .i64 y3, .int .i64 y4, .int .i64 y5, .int .i64 y6, .int .i64 y7] t (0, 0)) → Chg b W W' → wpList Tryz.prog ops Q rest a W') : wpList Tryz.prog ops Q (o :: rest) a W := by
  obtain ⟨⟨c0, c1, c2, c3, c4, c5, c6, c7⟩, f0, f1, f2, f3, f4, f5, f6, f7⟩ := cells8 hb
  unfold ptr at he
  have he' : a.tmps[s]?.getD undef = .pointer (some ⟨b, 0, none⟩) := by simpa [Act.eval] using he
  have hv' : a.tmps[r]?.getD undef = .agg #[.int .i64 y0, .int .i64 y1, .int .i64 y2, .int .i64 y3, .int .i64 y4, .int .i64 y5, .int .i64 y6, .int .i64 y7] := by simpa [Act.eval] using hv
  refine list_store hg hd ?_ (hK (World.store8 W b (.int .i64 y0) (.int .i64 y1) (.int .i64 y2) (.int .i64 y3) (.int .i64 y4) (.int .i64 y5) (.int .i64 y6) (.int .i64 y7)) (store8_block hb _ _ _ _ _ _ _ _) (chg_store8 _ _ _ _ _ _ _ _ _ _))
  unfold execOp World.store8
  rw [hop]
  rcases hty with rfl | rfl <;> simp [go_sem, he', hv', c0, c1, c2, c3, c4, c5, c6, c7, f0, f1, f2, f3, f4, f5, f6, f7]
theorem list_store4 {ops : Array Oper} {o : Oper} {rest : List Oper} {a : Act} {W : World} {ty : TypeId} {s r b : Nat} {t : TypeId} {x0 x1 x2 x3 y0 y1 y2 y3 : Int} (hg : o.guard = none) (hd : o.dst = none) (hop : o.op = Op.store ty (.tmp s) (.tmp r)) (hty : ty = 26 ∨ ty = 189)
    (he : a.eval (.tmp s) = ptr b) (hv : a.eval (.tmp r) = .agg #[.int .i64 y0, .int .i64 y1, .int .i64 y2, .int .i64 y3])
    (hb : W.heap[b]? = some (.cells #[.int .i64 x0, .int .i64 x1, .int .i64 x2, .int .i64 x3] t (0, 0)))
    (hK : ∀ W', W'.heap[b]? = some (.cells #[.int .i64 y0, .int .i64 y1, .int .i64 y2, .int .i64 y3] t (0, 0)) → Chg b W W' → wpList Tryz.prog ops Q rest a W') : wpList Tryz.prog ops Q (o :: rest) a W := by
  obtain ⟨⟨c0, c1, c2, c3⟩, f0, f1, f2, f3⟩ := cells4 hb
  unfold ptr at he
  have he' : a.tmps[s]?.getD undef = .pointer (some ⟨b, 0, none⟩) := by simpa [Act.eval] using he
  have hv' : a.tmps[r]?.getD undef = .agg #[.int .i64 y0, .int .i64 y1, .int .i64 y2, .int .i64 y3] := by simpa [Act.eval] using hv
  refine list_store hg hd ?_ (hK (World.store4 W b (.int .i64 y0) (.int .i64 y1) (.int .i64 y2) (.int .i64 y3)) (store4_block hb _ _ _ _) (chg_store4 _ _ _ _ _ _))
  unfold execOp World.store4
  rw [hop]
  rcases hty with rfl | rfl <;> simp [go_sem, he', hv', c0, c1, c2, c3, f0, f1, f2, f3]
end Go.Proofs.YtcoiklolgilhaaaGreatDoor
