/- Pure facts on the ship that Made makes: it is right. No condition. -/
import Derived.Test.YtcoiklolgilhaaaGreatDoorQf
namespace Go.Proofs.YtcoiklolgilhaaaGreatDoor
open Go.RowKit
set_option maxRecDepth 100000
theorem Pl.x_low {l : List (Int × Int)} {d0 d1 b0 b1 y0 : Int} {up : Bool} {X Y : Int} (h : Pl l d0 d1 b0 b1 y0 up X Y) (hd : 0 ≤ d0) : 0 ≤ X := by
  have hl := h.len
  have a : ∀ i, i < l.length → 0 ≤ (cvOf l).x i := by
    intro i
    induction i with
    | zero => intro _; rw [h.zero]; exact Int.le_refl _
    | succ i ih => intro hi; have := ih (by omega); have := h.step i hi; omega
  have b := a (l.length - 1) (by omega)
  rwa [h.lastx] at b
/-- one more point, the last: a curve all the same -/
theorem Pl.cv_last {l : List (Int × Int)} {d0 d1 b0 b1 y0 : Int} {X Y X' Y' : Int} (h : Pl l d0 d1 b0 b1 y0 true X Y) (hd : 1 ≤ d0) (h7 : l.length ≤ 7) (hx : ∀ i : Nat, i < l.length → d1 * i ≤ 400) (hy : ∀ i : Nat, i < l.length → b0 + b1 * i ≤ 20000) (hX : X + 1 ≤ X') (hX' : X' ≤ 400) (hY : Y ≤ Y') (hY' : Y' ≤ 20000) :
    IsCv (cvOf (l ++ [(X', Y')])) ∧ (∀ i, i + 1 < (cvOf (l ++ [(X', Y')])).n → (cvOf (l ++ [(X', Y')])).y i ≤ (cvOf (l ++ [(X', Y')])).y (i + 1)) ∧ lastXP (cvOf (l ++ [(X', Y')])) = X' ∧ (cvOf (l ++ [(X', Y')])).y 0 = y0 := by
  have hl := h.len
  have hn := cv_snoc_new l (X', Y')
  have ho := fun i (hi : i < l.length) => cv_snoc_old l (X', Y') hi
  have e : (cvOf (l ++ [(X', Y')])).n = l.length + 1 := by simp [cvOf]
  have hlast := ho (l.length - 1) (by omega)
  rw [h.lastx, h.lasty] at hlast
  have hY0 : 0 ≤ Y := by have := h.low (l.length - 1) (by omega); rwa [h.lasty] at this
  refine ⟨⟨by omega, by omega, (ho 0 (by omega)).1.trans h.zero, fun i hi => ?_, fun i hi => ?_, fun i hi => ?_, fun i hi => ?_⟩, fun i hi => ?_, ?_, (ho 0 (by omega)).2.trans h.y0⟩
  · by_cases c : i < l.length
    · rw [(ho i c).1]; exact Int.le_trans (h.most i c) (hx i c)
    · obtain rfl : i = l.length := by omega
      rw [hn.1]; exact hX'
  · by_cases c : i < l.length
    · rw [(ho i c).2]; exact h.low i c
    · obtain rfl : i = l.length := by omega
      rw [hn.2]; exact Int.le_trans hY0 hY
  · by_cases c : i < l.length
    · rw [(ho i c).2]; exact Int.le_trans (h.high i c) (hy i c)
    · obtain rfl : i = l.length := by omega
      rw [hn.2]; exact hY'
  · by_cases c : i + 1 < l.length
    · rw [(ho i (by omega)).1, (ho (i + 1) c).1]; have := h.step i c; omega
    · obtain rfl : i = l.length - 1 := by omega
      rw [hlast.1, show l.length - 1 + 1 = l.length by omega, hn.1]; omega
  · by_cases c : i + 1 < l.length
    · rw [(ho i (by omega)).2, (ho (i + 1) c).2]; simpa using h.mono i c
    · obtain rfl : i = l.length - 1 := by omega
      rw [hlast.2, show l.length - 1 + 1 = l.length by omega, hn.2]; exact hY
  · unfold lastXP
    rw [e, Nat.add_sub_cancel]
    exact hn.1
theorem made_good {l1 l2 l3 : List (Int × Int)} {r0 r1 r2 r3 r4 r5 r6 r7 y1 y2 X1 Y1 X2 Y2 X3 Y3 y : Int} (h1 : Pl l1 10 49 5300 0 y1 false X1 Y1) (h2 : Pl l2 1 80 49 765 y2 true X2 Y2) (h3 : Pl l3 1 90 0 765 0 true X3 Y3)
    (a1 : 2 ≤ l1.length) (b1 : l1.length ≤ 5) (a2 : 2 ≤ l2.length) (b2 : l2.length ≤ 4) (b3 : l3.length ≤ 4) (hr0 : 0 ≤ r0 ∧ r0 < 6) (hr1 : 0 ≤ r1 ∧ r1 < 256) (hr2 : 0 ≤ r2 ∧ r2 < 256) (hr3 : 0 ≤ r3 ∧ r3 < 256) (hr4 : 0 ≤ r4 ∧ r4 < 21) (hr5 : 0 ≤ r5 ∧ r5 < 101) (hr6 : 0 ≤ r6 ∧ r6 < 240) (hr7 : 0 ≤ r7 ∧ r7 < 256) (hy : Y3 ≤ y ∧ y ≤ Y3 + 1020) :
    chkP { cls := 1 + r0, pow := 100 + 390 * r1, dra := 10 + 7 * r2, ton := 10 + 1900 * r3, th := cvOf l1, wa := cvOf l2, ic := cvOf (l3 ++ [(400, y)]), slow := r4, brash := r5, ridge := 2 * r6, press := 4 * r7 } = 0 := by
  have g1 := h1.cv (by decide) a1 (by omega) (fun i hi => by omega) (fun i hi => by omega)
  have g2 := h2.cv (by decide) a2 (by omega) (fun i hi => by omega) (fun i hi => by omega)
  have x1 := h1.x_bd
  have x2 := h2.x_bd
  have x3 := h3.x_bd
  have m1 := h1.x_least (by decide) a1
  obtain ⟨g3, i3, e3, z3⟩ := h3.cv_last (X' := 400) (Y' := y) (by decide) (by omega) (fun i hi => by omega) (fun i hi => by omega) (by omega) (by omega) (by omega) (by omega)
  have e1 : lastXP (cvOf l1) = X1 := h1.lastx
  have e2 : lastXP (cvOf l2) = X2 := h2.lastx
  have d1 : decB (cvOf l1) = true := allN_iff.2 fun i hi => by simpa using h1.down i (by omega)
  have d2 : incB (cvOf l2) = true := allN_iff.2 fun i hi => by simpa using h2.up i (by omega)
  have d3 : incB (cvOf (l3 ++ [(400, y)])) = true := allN_iff.2 fun i hi => by simpa using i3 i (by omega)
  have k1 := okCv_iff.2 g1
  have k2 := okCv_iff.2 g2
  have k3 := okCv_iff.2 g3
  unfold chkP okHull
  simp only [e1, e2, e3, z3, d1, d2, d3, k1, k2, k3]
  rw [if_pos (by omega), if_pos]
  simp only [Bool.and_eq_true, decide_eq_true_eq, and_true]
  omega
section
variable {Q : Exit → Act → World → Prop} {o : Oper} {a' : Act} {W : World} {Rq : Value → World → Prop}
theorem op_fa24 {s b : Nat} (hop : o.op = Op.fieldAddr 24 (.tmp s) 6) (he : a'.eval (.tmp s) = .pointer (some ⟨b, 0, none⟩)) :
    o.wp Tryz.prog a' W (fun a'' W' => a'' = a'.put o.dst (.pointer (some ⟨b, 6, none⟩)) ∧ Below W.heap.size W W') Q := by
  have hr := Below.refl W.heap.size W
  have he' : a'.tmps[s]?.getD undef = .pointer (some ⟨b, 0, none⟩) := by simpa [Act.eval] using he
  unfold Oper.wp execOp
  rw [hop]
  simp [go_sem, he', hr]
theorem opx_callk {f t : Nat} {n : Int} {lb : Array Value} {ts : Array TypeId} (hop : o.op = Op.call { callee := .value (.tmp t), args := #[.const (.int .i64 n)], argTypes := ts })
    (ht : a'.eval (.tmp t) = .func (.func f) #[] lb) (eg : ∀ args w, (callFunc f args).run Tryz.prog w = .ok (.enter f args) w) (hc : Calls Tryz.prog f (#[.int .i64 n] ++ lb) W fun e W' => ∃ r, e = .returned r ∧ Rq r W') :
    o.wp Tryz.prog a' W (fun a'' W' => ∃ x, a'' = a'.put o.dst x ∧ Rq x W') Q := by
  have ht' : a'.tmps[t]?.getD undef = .func (.func f) #[] lb := by simpa [Act.eval] using ht
  unfold Oper.wp execOp
  rw [hop]
  simp [go_sem, ht', eg]
  refine hc.mono ?_
  rintro e w' ⟨r, rfl, hb⟩
  exact ⟨r, rfl, hb⟩
theorem op_mulc {s : Nat} {c x : Int} (hop : o.op = Op.binOp .mul 3 (.const (.int .i64 c)) (.tmp s) 3) (he : a'.eval (.tmp s) = .int .i64 x) (hw : -9223372036854775808 ≤ c * x ∧ c * x ≤ 9223372036854775807) :
    o.wp Tryz.prog a' W (fun a'' W' => a'' = a'.put o.dst (.int .i64 (c * x)) ∧ Below W.heap.size W W') Q := by
  have hr := Below.refl W.heap.size W
  have he' : a'.tmps[s]?.getD undef = .int .i64 x := by simpa [Act.eval] using he
  have hw' := i64w _ hw
  unfold Oper.wp execOp
  rw [hop]
  simp [go_sem, he', hw', hr]
theorem opx_b30 {s : Nat} {x y : Int} (hop : o.op = Op.build 89 #[(0, .const (.int .i64 x)), (1, .tmp s)]) (he : a'.eval (.tmp s) = .int .i64 y) (hR : Rq (.agg #[.int .i64 x, .int .i64 y]) W) :
    o.wp Tryz.prog a' W (fun a'' W' => ∃ x, a'' = a'.put o.dst x ∧ Rq x W') Q := by
  have he' : a'.tmps[s]?.getD undef = .int .i64 y := by simpa [Act.eval] using he
  unfold Oper.wp execOp
  rw [hop]
  simp [go_sem, he']
  exact ⟨_, rfl, hR⟩
theorem opx_bs22 {s : Nat} {x y : Int} (hop : o.op = Op.buildSlice 22 1 #[(0, .tmp s)]) (he : a'.eval (.tmp s) = .agg #[.int .i64 x, .int .i64 y]) (hR : Rq (.slice (some ⟨W.heap.size, 0, none⟩) 1 1) (W.alloc (.cells #[.int .i64 x, .int .i64 y] 89))) :
    o.wp Tryz.prog a' W (fun a'' W' => ∃ x, a'' = a'.put o.dst x ∧ Rq x W') Q := by
  have he' : a'.tmps[s]?.getD undef = .agg #[.int .i64 x, .int .i64 y] := by simpa [Act.eval] using he
  unfold Oper.wp execOp
  rw [hop]
  simp [go_sem, he']
  exact ⟨_, rfl, hR⟩
theorem opx_store22 {s r b off n c : Nat} {q : Option Addr} {t : TypeId} {cs : Array Value} (hd : o.dst = none) (hop : o.op = Op.store 22 (.tmp s) (.tmp r))
    (he : a'.eval (.tmp s) = .pointer (some ⟨b, off, none⟩)) (hv : a'.eval (.tmp r) = .slice q n c) (hb : W.heap[b]? = some (.cells cs t (0, 0))) (hlt : off < cs.size)
    (hR : ∀ W', W'.heap[b]? = some (.cells (cs.setIfInBounds off (.slice q n c)) t (0, 0)) → Chg b W W' → Rq undef W') :
    o.wp Tryz.prog a' W (fun a'' W' => ∃ x, a'' = a'.put o.dst x ∧ Rq x W') Q := by
  have cc := (cell_of_block hb off).trans (Array.getElem?_eq_getElem hlt)
  have f := frozen_of_block hb off
  have he' : a'.tmps[s]?.getD undef = .pointer (some ⟨b, off, none⟩) := by simpa [Act.eval] using he
  have hv' : a'.tmps[r]?.getD undef = .slice q n c := by simpa [Act.eval] using hv
  have hfin := hR (W.setCell ⟨b, off, none⟩ (.slice q n c)) (setCell_block hb off _) (chg_setCell W b off _)
  unfold Oper.wp execOp
  rw [hop]
  simp [go_sem, he', hv', cc, f, hd]
  exact ⟨_, hfin⟩
end
section
variable (w0 : World) (p : Option Addr) (k cap b0 Bi Bl B4 M1 M2 M3 : Nat) (zb : Obj) (cs : Value → Array Value) (v1 v2 v3 : Value) (l1 l2 l3 : List (Int × Int)) (Y : Int)
structure R24 (L : Nat → Bool) (V : Nat → Value) (W : World) : Prop where
  nx : NxIn w0 p k cap Bi Bl W
  z : W.heap[b0]? = some zb
  o1 : PRow W M1 v1 l1
  o2 : PRow W M2 v2 l2
  hs : L 11 = false → W.heap[B4]? = some (.cells (cs v3) 24 (0, 0))
  hr : L 9 = false → PRow W M3 v3 l3
  sz : M3 ≤ W.heap.size
  dp9 : L 9 = true → L 1 = true
  dp11 : L 11 = true → L 9 = true
  f0 : L 0 = true → V 0 = .pointer (some ⟨B4, 6, none⟩)
  f1 : L 1 = true → V 1 = v3
  f2 : L 2 = true → V 2 = .int .i64 Y
  f3 : L 3 = true → V 3 = .func (.func 115) #[] #[.pointer (some ⟨Bi, 0, none⟩), .pointer (some ⟨Bl, 0, none⟩)]
  f4 : L 4 = true → ∃ y : Int, V 4 = .int .i64 y ∧ 0 ≤ y ∧ y < 256
  f5 : L 5 = true → ∃ y : Int, V 5 = .int .i64 y ∧ 0 ≤ y ∧ y ≤ 1020
  f6 : L 6 = true → ∃ y : Int, V 6 = .int .i64 y ∧ Y ≤ y ∧ y ≤ Y + 1020
  f7 : L 7 = true → ∃ y : Int, V 7 = .agg #[.int .i64 400, .int .i64 y] ∧ Y ≤ y ∧ y ≤ Y + 1020
  f8 : L 8 = true → L 9 = false → ∃ (g : Nat) (y : Int), V 8 = .slice (some ⟨g, 0, none⟩) 1 1 ∧ M3 ≤ g ∧ W.heap[g]? = some (.cells #[.int .i64 400, .int .i64 y] 89 (0, 0)) ∧ Y ≤ y ∧ y ≤ Y + 1020
  f9 : L 9 = true → ∃ (y : Int), PRow W M3 (V 9) (l3 ++ [(400, y)]) ∧ Y ≤ y ∧ y ≤ Y + 1020
  f10 : L 10 = true → V 10 = .pointer (some ⟨B4, 6, none⟩)
  f11 : L 11 = true → ∃ (v : Value) (y : Int), W.heap[B4]? = some (.cells (cs v) 24 (0, 0)) ∧ PRow W M3 v (l3 ++ [(400, y)]) ∧ Y ≤ y ∧ y ≤ Y + 1020
end
section
variable {w0 : World} {p : Option Addr} {k cap b0 Bi Bl B4 M1 M2 M3 : Nat} {zb : Obj} {cs : Value → Array Value} {v1 v2 v3 : Value} {l1 l2 l3 : List (Int × Int)} {Y : Int} {L : Nat → Bool} {V : Nat → Value} {W W' : World}
theorem R24.later (h : R24 w0 p k cap b0 Bi Bl B4 M1 M2 M3 zb cs v1 v2 v3 l1 l2 l3 Y L V W) (hb : Below W.heap.size W W') : R24 w0 p k cap b0 Bi Bl B4 M1 M2 M3 zb cs v1 v2 v3 l1 l2 l3 Y L V W' := by
  refine ⟨h.nx.later hb, (hb.block _ (lt_of_block h.z)).trans h.z, row_later h.o1 hb, row_later h.o2 hb, fun e => (hb.block _ (lt_of_block (h.hs e))).trans (h.hs e), fun e => row_later (h.hr e) hb, Nat.le_trans h.sz hb.size, h.dp9, h.dp11, h.f0, h.f1, h.f2, h.f3, h.f4, h.f5, h.f6, h.f7, fun e e9 => ?_, fun e => ?_, h.f10, fun e => ?_⟩
  · obtain ⟨g, y, h1, h2, h3, h4⟩ := h.f8 e e9
    exact ⟨g, y, h1, h2, (hb.block _ (lt_of_block h3)).trans h3, h4⟩
  · obtain ⟨y, h1, h2⟩ := h.f9 e
    exact ⟨y, row_later h1 hb, h2⟩
  · obtain ⟨v, y, h1, h2, h3⟩ := h.f11 e
    exact ⟨v, y, (hb.block _ (lt_of_block h1)).trans h1, row_later h2 hb, h3⟩
theorem R24.chg (h : R24 w0 p k cap b0 Bi Bl B4 M1 M2 M3 zb cs v1 v2 v3 l1 l2 l3 Y L V W) (hn : NxIn w0 p k cap Bi Bl W') (hc : Chg Bi W W') (hz : b0 ≠ Bi) (h4 : B4 ≠ Bi) (h1 : Bi < M1) (h2 : Bi < M2) (h3 : Bi < M3) : R24 w0 p k cap b0 Bi Bl B4 M1 M2 M3 zb cs v1 v2 v3 l1 l2 l3 Y L V W' := by
  refine ⟨hn, (hc.2.1 _ hz).trans h.z, prow_chg h.o1 hc h1, prow_chg h.o2 hc h2, fun e => (hc.2.1 _ h4).trans (h.hs e), fun e => prow_chg (h.hr e) hc h3, Nat.le_trans h.sz (Nat.le_of_eq hc.1.symm), h.dp9, h.dp11, h.f0, h.f1, h.f2, h.f3, h.f4, h.f5, h.f6, h.f7, fun e e9 => ?_, fun e => ?_, h.f10, fun e => ?_⟩
  · obtain ⟨g, y, h1, h2, h3, h4⟩ := h.f8 e e9
    exact ⟨g, y, h1, h2, (hc.2.1 _ (by omega)).trans h3, h4⟩
  · obtain ⟨y, h1, h2⟩ := h.f9 e
    exact ⟨y, prow_chg h1 hc h3, h2⟩
  · obtain ⟨v, y, h1, h2, hy⟩ := h.f11 e
    exact ⟨v, y, (hc.2.1 _ h4).trans h1, prow_chg h2 hc h3, hy⟩
/-- the append: the row grows -/
theorem R24.app (h : R24 w0 p k cap b0 Bi Bl B4 M1 M2 M3 zb cs v1 v2 v3 l1 l2 l3 Y L V W) {v : Value} {y : Int} (hg : W.grownBy W' v3.ownBlock) (hr : PRow W' M3 v (l3 ++ [(400, y)])) (hy : Y ≤ y ∧ y ≤ Y + 1020) (h9 : L 9 = false) (hl1 : L 1 = true) (hb0 : w0.heap.size ≤ M3) (hb0' : b0 < M3) (hi : Bi < M3) (hl : Bl < M3) (h4 : B4 < M3) (hv1 : ∀ j, v1.ownBlock = some j → j < M3) (hv2 : ∀ j, v2.ownBlock = some j → j < M3) :
    R24 w0 p k cap b0 Bi Bl B4 M1 M2 M3 zb cs v1 v2 v3 l1 l2 l3 Y (fun j => if j = 9 then true else L j) (fun j => if j = 9 then v else V j) W' := by
  have ob := pown_base (h.hr h9)
  have zb := (Below.refl M3 W).grown hg h.sz ob
  refine ⟨h.nx.keep (h.nx.low.trans (zb.mono hb0)) (zb.block _ hi) (zb.block _ hl), (zb.block _ hb0').trans h.z, prow_grow h.o1 hg ob hv1, prow_grow h.o2 hg ob hv2, fun e => (zb.block _ h4).trans (h.hs e), fun e => (by cases e), Nat.le_trans h.sz hg.size, fun _ => hl1, fun _ => rfl, h.f0, h.f1, h.f2, h.f3, h.f4, h.f5, h.f6, h.f7, fun _ e => (by cases e), fun _ => ⟨y, hr, hy⟩, h.f10, fun e => ?_⟩
  have e' : L 11 = true := e
  have e2 := h.dp11 e'
  rw [h9] at e2; cases e2
/-- the store -/
theorem R24.sto (h : R24 w0 p k cap b0 Bi Bl B4 M1 M2 M3 zb cs v1 v2 v3 l1 l2 l3 Y L V W) {v : Value} {y : Int} (hb : W'.heap[B4]? = some (.cells (cs v) 24 (0, 0))) (hc : Chg B4 W W') (hr : PRow W M3 v (l3 ++ [(400, y)])) (hy : Y ≤ y ∧ y ≤ Y + 1020) (h9 : L 9 = true) (hlo : w0.heap.size ≤ B4) (hz : b0 ≠ B4) (hi : Bi ≠ B4) (hl : Bl ≠ B4) (h1 : B4 < M1) (h2 : B4 < M2) (h3 : B4 < M3) :
    R24 w0 p k cap b0 Bi Bl B4 M1 M2 M3 zb cs v1 v2 v3 l1 l2 l3 Y (fun j => if j = 11 then true else L j) (fun j => if j = 11 then undef else V j) W' := by
  refine ⟨h.nx.keep (h.nx.low.trans (hc.below hlo)) (hc.2.1 _ hi) (hc.2.1 _ hl), (hc.2.1 _ hz).trans h.z, prow_chg h.o1 hc h1, prow_chg h.o2 hc h2, fun e => (by cases e), fun e => ?_, Nat.le_trans h.sz (Nat.le_of_eq hc.1.symm), h.dp9, fun _ => h9, h.f0, h.f1, h.f2, h.f3, h.f4, h.f5, h.f6, h.f7, fun _ e => ?_, fun e => ?_, h.f10, fun _ => ⟨v, y, hb, prow_chg hr hc h3, hy⟩⟩
  · have e' : L 9 = false := e
    rw [h9] at e'; cases e'
  · have e' : L 9 = false := e
    rw [h9] at e'; cases e'
  · obtain ⟨y, h1, h2⟩ := h.f9 e
    exact ⟨y, prow_chg h1 hc h3, h2⟩
theorem R24.set0 (h : R24 w0 p k cap b0 Bi Bl B4 M1 M2 M3 zb cs v1 v2 v3 l1 l2 l3 Y L V W) {x : Value} (hx : x = .pointer (some ⟨B4, 6, none⟩)) : R24 w0 p k cap b0 Bi Bl B4 M1 M2 M3 zb cs v1 v2 v3 l1 l2 l3 Y (fun j => if j = 0 then true else L j) (fun j => if j = 0 then x else V j) W :=
  ⟨h.nx, h.z, h.o1, h.o2, h.hs, h.hr, h.sz, h.dp9, h.dp11, fun _ => hx, h.f1, h.f2, h.f3, h.f4, h.f5, h.f6, h.f7, h.f8, h.f9, h.f10, h.f11⟩
theorem R24.set1 (h : R24 w0 p k cap b0 Bi Bl B4 M1 M2 M3 zb cs v1 v2 v3 l1 l2 l3 Y L V W) {x : Value} (hx : x = v3) : R24 w0 p k cap b0 Bi Bl B4 M1 M2 M3 zb cs v1 v2 v3 l1 l2 l3 Y (fun j => if j = 1 then true else L j) (fun j => if j = 1 then x else V j) W :=
  ⟨h.nx, h.z, h.o1, h.o2, h.hs, h.hr, h.sz, fun _ => rfl, h.dp11, h.f0, fun _ => hx, h.f2, h.f3, h.f4, h.f5, h.f6, h.f7, h.f8, h.f9, h.f10, h.f11⟩
theorem R24.set2 (h : R24 w0 p k cap b0 Bi Bl B4 M1 M2 M3 zb cs v1 v2 v3 l1 l2 l3 Y L V W) {x : Value} (hx : x = .int .i64 Y) : R24 w0 p k cap b0 Bi Bl B4 M1 M2 M3 zb cs v1 v2 v3 l1 l2 l3 Y (fun j => if j = 2 then true else L j) (fun j => if j = 2 then x else V j) W :=
  ⟨h.nx, h.z, h.o1, h.o2, h.hs, h.hr, h.sz, h.dp9, h.dp11, h.f0, h.f1, fun _ => hx, h.f3, h.f4, h.f5, h.f6, h.f7, h.f8, h.f9, h.f10, h.f11⟩
theorem R24.set3 (h : R24 w0 p k cap b0 Bi Bl B4 M1 M2 M3 zb cs v1 v2 v3 l1 l2 l3 Y L V W) {x : Value} (hx : x = .func (.func 115) #[] #[.pointer (some ⟨Bi, 0, none⟩), .pointer (some ⟨Bl, 0, none⟩)]) : R24 w0 p k cap b0 Bi Bl B4 M1 M2 M3 zb cs v1 v2 v3 l1 l2 l3 Y (fun j => if j = 3 then true else L j) (fun j => if j = 3 then x else V j) W :=
  ⟨h.nx, h.z, h.o1, h.o2, h.hs, h.hr, h.sz, h.dp9, h.dp11, h.f0, h.f1, h.f2, fun _ => hx, h.f4, h.f5, h.f6, h.f7, h.f8, h.f9, h.f10, h.f11⟩
theorem R24.set4 (h : R24 w0 p k cap b0 Bi Bl B4 M1 M2 M3 zb cs v1 v2 v3 l1 l2 l3 Y L V W) {x : Value} (hx : ∃ y : Int, x = .int .i64 y ∧ 0 ≤ y ∧ y < 256) : R24 w0 p k cap b0 Bi Bl B4 M1 M2 M3 zb cs v1 v2 v3 l1 l2 l3 Y (fun j => if j = 4 then true else L j) (fun j => if j = 4 then x else V j) W :=
  ⟨h.nx, h.z, h.o1, h.o2, h.hs, h.hr, h.sz, h.dp9, h.dp11, h.f0, h.f1, h.f2, h.f3, fun _ => hx, h.f5, h.f6, h.f7, h.f8, h.f9, h.f10, h.f11⟩
theorem R24.set5 (h : R24 w0 p k cap b0 Bi Bl B4 M1 M2 M3 zb cs v1 v2 v3 l1 l2 l3 Y L V W) {x : Value} (hx : ∃ y : Int, x = .int .i64 y ∧ 0 ≤ y ∧ y ≤ 1020) : R24 w0 p k cap b0 Bi Bl B4 M1 M2 M3 zb cs v1 v2 v3 l1 l2 l3 Y (fun j => if j = 5 then true else L j) (fun j => if j = 5 then x else V j) W :=
  ⟨h.nx, h.z, h.o1, h.o2, h.hs, h.hr, h.sz, h.dp9, h.dp11, h.f0, h.f1, h.f2, h.f3, h.f4, fun _ => hx, h.f6, h.f7, h.f8, h.f9, h.f10, h.f11⟩
theorem R24.set6 (h : R24 w0 p k cap b0 Bi Bl B4 M1 M2 M3 zb cs v1 v2 v3 l1 l2 l3 Y L V W) {x : Value} (hx : ∃ y : Int, x = .int .i64 y ∧ Y ≤ y ∧ y ≤ Y + 1020) : R24 w0 p k cap b0 Bi Bl B4 M1 M2 M3 zb cs v1 v2 v3 l1 l2 l3 Y (fun j => if j = 6 then true else L j) (fun j => if j = 6 then x else V j) W :=
  ⟨h.nx, h.z, h.o1, h.o2, h.hs, h.hr, h.sz, h.dp9, h.dp11, h.f0, h.f1, h.f2, h.f3, h.f4, h.f5, fun _ => hx, h.f7, h.f8, h.f9, h.f10, h.f11⟩
theorem R24.set7 (h : R24 w0 p k cap b0 Bi Bl B4 M1 M2 M3 zb cs v1 v2 v3 l1 l2 l3 Y L V W) {x : Value} (hx : ∃ y : Int, x = .agg #[.int .i64 400, .int .i64 y] ∧ Y ≤ y ∧ y ≤ Y + 1020) : R24 w0 p k cap b0 Bi Bl B4 M1 M2 M3 zb cs v1 v2 v3 l1 l2 l3 Y (fun j => if j = 7 then true else L j) (fun j => if j = 7 then x else V j) W :=
  ⟨h.nx, h.z, h.o1, h.o2, h.hs, h.hr, h.sz, h.dp9, h.dp11, h.f0, h.f1, h.f2, h.f3, h.f4, h.f5, h.f6, fun _ => hx, h.f8, h.f9, h.f10, h.f11⟩
theorem R24.set8 (h : R24 w0 p k cap b0 Bi Bl B4 M1 M2 M3 zb cs v1 v2 v3 l1 l2 l3 Y L V W) {x : Value} (hx : ∃ (g : Nat) (y : Int), x = .slice (some ⟨g, 0, none⟩) 1 1 ∧ M3 ≤ g ∧ W.heap[g]? = some (.cells #[.int .i64 400, .int .i64 y] 89 (0, 0)) ∧ Y ≤ y ∧ y ≤ Y + 1020) : R24 w0 p k cap b0 Bi Bl B4 M1 M2 M3 zb cs v1 v2 v3 l1 l2 l3 Y (fun j => if j = 8 then true else L j) (fun j => if j = 8 then x else V j) W :=
  ⟨h.nx, h.z, h.o1, h.o2, h.hs, h.hr, h.sz, h.dp9, h.dp11, h.f0, h.f1, h.f2, h.f3, h.f4, h.f5, h.f6, h.f7, fun _ _ => hx, h.f9, h.f10, h.f11⟩
theorem R24.set10 (h : R24 w0 p k cap b0 Bi Bl B4 M1 M2 M3 zb cs v1 v2 v3 l1 l2 l3 Y L V W) {x : Value} (hx : x = .pointer (some ⟨B4, 6, none⟩)) : R24 w0 p k cap b0 Bi Bl B4 M1 M2 M3 zb cs v1 v2 v3 l1 l2 l3 Y (fun j => if j = 10 then true else L j) (fun j => if j = 10 then x else V j) W :=
  ⟨h.nx, h.z, h.o1, h.o2, h.hs, h.hr, h.sz, h.dp9, h.dp11, h.f0, h.f1, h.f2, h.f3, h.f4, h.f5, h.f6, h.f7, h.f8, h.f9, fun _ => hx, h.f11⟩
end
section
def World.store11 (W : World) (b : Nat) (z0 z1 z2 z3 z4 z5 z6 z7 z8 z9 z10 : Value) : World := ((((((((((W.setCell ⟨b, 0, none⟩ z0).setCell ⟨b, 1, none⟩ z1).setCell ⟨b, 2, none⟩ z2).setCell ⟨b, 3, none⟩ z3).setCell ⟨b, 4, none⟩ z4).setCell ⟨b, 5, none⟩ z5).setCell ⟨b, 6, none⟩ z6).setCell ⟨b, 7, none⟩ z7).setCell ⟨b, 8, none⟩ z8).setCell ⟨b, 9, none⟩ z9).setCell ⟨b, 10, none⟩ z10
theorem chg_store11 (W : World) (b : Nat) (z0 z1 z2 z3 z4 z5 z6 z7 z8 z9 z10 : Value) : Chg b W (World.store11 W b z0 z1 z2 z3 z4 z5 z6 z7 z8 z9 z10) := ((((((((((chg_setCell W b 0 z0).trans (chg_setCell _ b 1 z1)).trans (chg_setCell _ b 2 z2)).trans (chg_setCell _ b 3 z3)).trans (chg_setCell _ b 4 z4)).trans (chg_setCell _ b 5 z5)).trans (chg_setCell _ b 6 z6)).trans (chg_setCell _ b 7 z7)).trans (chg_setCell _ b 8 z8)).trans (chg_setCell _ b 9 z9)).trans (chg_setCell _ b 10 z10)
theorem store11_block {W : World} {b : Nat} {x0 x1 x2 x3 x4 x5 x6 x7 x8 x9 x10 : Value} {t : TypeId} (h : W.heap[b]? = some (.cells #[x0, x1, x2, x3, x4, x5, x6, x7, x8, x9, x10] t (0, 0))) (z0 z1 z2 z3 z4 z5 z6 z7 z8 z9 z10 : Value) : (World.store11 W b z0 z1 z2 z3 z4 z5 z6 z7 z8 z9 z10).heap[b]? = some (.cells #[z0, z1, z2, z3, z4, z5, z6, z7, z8, z9, z10] t (0, 0)) := by
  unfold World.store11
  have h0 := setCell_block h 0 z0
  simp only [List.setIfInBounds_toArray, List.set_cons_zero] at h0
  have h1 := setCell_block h0 1 z1
  simp only [List.setIfInBounds_toArray, List.set_cons_zero, List.set_cons_succ] at h1
  have h2 := setCell_block h1 2 z2
  simp only [List.setIfInBounds_toArray, List.set_cons_zero, List.set_cons_succ] at h2
  have h3 := setCell_block h2 3 z3
  simp only [List.setIfInBounds_toArray, List.set_cons_zero, List.set_cons_succ] at h3
  have h4 := setCell_block h3 4 z4
  simp only [List.setIfInBounds_toArray, List.set_cons_zero, List.set_cons_succ] at h4
  have h5 := setCell_block h4 5 z5
  simp only [List.setIfInBounds_toArray, List.set_cons_zero, List.set_cons_succ] at h5
  have h6 := setCell_block h5 6 z6
  simp only [List.setIfInBounds_toArray, List.set_cons_zero, List.set_cons_succ] at h6
  have h7 := setCell_block h6 7 z7
  simp only [List.setIfInBounds_toArray, List.set_cons_zero, List.set_cons_succ] at h7
  have h8 := setCell_block h7 8 z8
  simp only [List.setIfInBounds_toArray, List.set_cons_zero, List.set_cons_succ] at h8
  have h9 := setCell_block h8 9 z9
  simp only [List.setIfInBounds_toArray, List.set_cons_zero, List.set_cons_succ] at h9
  have h10 := setCell_block h9 10 z10
  simp only [List.setIfInBounds_toArray, List.set_cons_zero, List.set_cons_succ] at h10
  exact h10
variable {Q : Exit → Act → World → Prop} {W : World}
theorem list_store24 {ops : Array Oper} {o : Oper} {rest : List Oper} {a : Act} {s r b : Nat} {t : TypeId} {x0 x1 x2 x3 x4 x5 x6 x7 x8 x9 x10 : Value} {y0 y1 y2 y3 y7 y8 y9 y10 : Int} {q4 q5 q6 : Option Addr} {n4 c4 n5 c5 n6 c6 : Nat} (hg : o.guard = none) (hd : o.dst = none) (hop : o.op = Op.store 24 (.tmp s) (.tmp r))
    (he : a.eval (.tmp s) = .pointer (some ⟨b, 0, none⟩)) (hv : a.eval (.tmp r) = .agg #[.int .i64 y0, .int .i64 y1, .int .i64 y2, .int .i64 y3, .slice q4 n4 c4, .slice q5 n5 c5, .slice q6 n6 c6, .int .i64 y7, .int .i64 y8, .int .i64 y9, .int .i64 y10]) (hb : W.heap[b]? = some (.cells #[x0, x1, x2, x3, x4, x5, x6, x7, x8, x9, x10] t (0, 0)))
    (hK : ∀ W', W'.heap[b]? = some (.cells #[.int .i64 y0, .int .i64 y1, .int .i64 y2, .int .i64 y3, .slice q4 n4 c4, .slice q5 n5 c5, .slice q6 n6 c6, .int .i64 y7, .int .i64 y8, .int .i64 y9, .int .i64 y10] t (0, 0)) → Chg b W W' → wpList Tryz.prog ops Q rest a W') : wpList Tryz.prog ops Q (o :: rest) a W := by
  obtain ⟨k0, k1, k2, k3, k4, k5, k6, k7, k8, k9, k10⟩ := cells11 hb
  have f := fun o => frozen_of_block hb o
  have he' : a.tmps[s]?.getD undef = .pointer (some ⟨b, 0, none⟩) := by simpa [Act.eval] using he
  have hv' : a.tmps[r]?.getD undef = .agg #[.int .i64 y0, .int .i64 y1, .int .i64 y2, .int .i64 y3, .slice q4 n4 c4, .slice q5 n5 c5, .slice q6 n6 c6, .int .i64 y7, .int .i64 y8, .int .i64 y9, .int .i64 y10] := by simpa [Act.eval] using hv
  refine list_store hg hd ?_ (hK (World.store11 W b (.int .i64 y0) (.int .i64 y1) (.int .i64 y2) (.int .i64 y3) (.slice q4 n4 c4) (.slice q5 n5 c5) (.slice q6 n6 c6) (.int .i64 y7) (.int .i64 y8) (.int .i64 y9) (.int .i64 y10)) (store11_block hb _ _ _ _ _ _ _ _ _ _ _) (chg_store11 _ _ _ _ _ _ _ _ _ _ _ _ _))
  unfold execOp World.store11
  rw [hop]
  simp [go_sem, he', hv', k0, k1, k2, k3, k4, k5, k6, k7, k8, k9, k10, f]
end
theorem prow_cap {W : World} {base n c : Nat} {p : Option Addr} {l : List (Int × Int)} (h : PRow W base (.slice p n c) l) : l.length ≤ c := by
  rcases h.2 with ⟨e1, e2⟩ | ⟨g, cap, cur, e1, _, _, hn, _⟩
  · rw [e2]; exact Nat.zero_le _
  · simp only [Value.slice.injEq] at e1
    obtain ⟨_, _, rfl⟩ := e1
    exact hn
end Go.Proofs.YtcoiklolgilhaaaGreatDoor
