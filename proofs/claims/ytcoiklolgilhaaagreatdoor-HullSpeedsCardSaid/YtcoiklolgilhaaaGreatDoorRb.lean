/- A rule for regions that draw their order, by a fact for each operation's value and one for the memory; operations for it; the law's closure that makes spans. Condition: allSB, a closed check. The contracts of the law's Frozen and of its closure: the spans of a right cell, whatever the bytes are. The contract of the law's ends: the least and the most ice of a cell. -/
import Derived.Test.YtcoiklolgilhaaaGreatDoorQg
import Derived.Test.YtcoiklolgilhaaaGreatDoorQc
import Derived.Test.YtcoiklolgilhaaaGreatDoorQa
import Derived.Test.YtcoiklolgilhaaaGreatDoorPs
namespace Go.Proofs.YtcoiklolgilhaaaGreatDoor
open Go.RowKit
set_option maxRecDepth 100000
section
variable {P : Program} {Q : Exit → Act → World → Prop}
theorem wp_region_fi {id : Nat} {a : Act} {w : World} {l : List Oper} (slots : List Nat) (F : Nat → Value → Prop) (I : (Nat → Bool) → (Nat → Value) → World → Prop)
    (hm : P.follows .mixedOrders = true) (hB : allSB l.toArray slots = true) (hsz : ∀ s ∈ slots, s < 1000 → s < a.tmps.size) (hts : a.tmps.size ≤ 1000)
    (h0 : I (fun _ => false) (fun _ => undef) { w with drawn := w.drawn + 1 })
    (hval : ∀ i o L V, l[i]? = some o → L i = false → (∀ j, Region.waitsFor .any l.toArray i j = true → L j = true) → ∀ a' W, I L V W → (∀ t, t ∉ slots → a'.eval (.tmp t) = a.eval (.tmp t)) →
      (∀ j s, s < 1000 → slots[j]? = some s → Region.waitsFor .any l.toArray i j = true → a'.eval (.tmp s) = V j ∧ F j (V j)) →
      o.wp P a' W (fun a'' W' => ∃ x, a'' = a'.put o.dst x ∧ F i x ∧ I (fun j => if j = i then true else L j) (fun j => if j = i then x else V j) W') Q)
    (hend : ∀ (W : World) L V, (∀ i, i < l.length → L i = true) → (∀ i, i < l.length → F i (V i)) → I L V W → Q .normal (fill slots 0 (fun i => some (V i)) a) W) :
    (Code.region id l.toArray true).wp P Q a w := by
  refine wp_region_all slots (fun L V W => (∀ j, L j = true → F j (V j)) ∧ I L V W) hm hB hsz hts ⟨fun j h => (by cases h), h0⟩ ?_ ?_
  · rintro i o L V ho hL hd a' W ⟨hF, hI⟩ hfr hdp
    refine Oper.wp_mono ?_ (hval i o L V ho hL hd a' W hI hfr (fun j s h1 h2 h3 => ⟨hdp j s h1 h2 h3, hF j (hd j h3)⟩))
    rintro a'' W' ⟨x, rfl, hx, hI'⟩
    refine ⟨x, rfl, fun j hj => ?_, hI'⟩
    by_cases e : j = i
    · subst e
      simp only [if_true]
      exact hx
    · simp only [if_neg e] at hj ⊢
      exact hF j hj
  · rintro W L V hL ⟨hF, hI⟩
    exact hend W L V hL (fun i hi => hF i (hL i hi)) hI
end
theorem Dp {a b c : Value} {p : Prop} (h : a = b ∧ p) (k : p → b = c) : a = c := h.1.trans (k h.2)
section
variable {Q : Exit → Act → World → Prop} {o : Oper} {a' : Act} {W : World}
theorem op_load80 {s b off : Nat} {v : Value} (hop : o.op = Op.load 101 (.tmp s)) (he : a'.eval (.tmp s) = .pointer (some ⟨b, off, none⟩)) (hc : W.cell? ⟨b, off, none⟩ = some v) :
    o.wp Tryz.prog a' W (fun a'' W' => a'' = a'.put o.dst v ∧ Below W.heap.size W W') Q := by
  have hr := Below.refl W.heap.size W
  have he' : a'.tmps[s]?.getD undef = .pointer (some ⟨b, off, none⟩) := by simpa [Act.eval] using he
  unfold Oper.wp execOp
  rw [hop]
  simp [go_sem, he', hc, hr]
theorem op_load3o {s b off : Nat} {v : Value} (hop : o.op = Op.load 3 (.tmp s)) (he : a'.eval (.tmp s) = .pointer (some ⟨b, off, none⟩)) (hc : W.cell? ⟨b, off, none⟩ = some v) :
    o.wp Tryz.prog a' W (fun a'' W' => a'' = a'.put o.dst v ∧ Below W.heap.size W W') Q := by
  have hr := Below.refl W.heap.size W
  have he' : a'.tmps[s]?.getD undef = .pointer (some ⟨b, off, none⟩) := by simpa [Act.eval] using he
  unfold Oper.wp execOp
  rw [hop]
  simp [go_sem, he', hc, hr]
theorem op_quot {s t : Nat} {x y : Int} (hop : o.op = Op.binOp .quo 3 (.tmp s) (.tmp t) 3) (he : a'.eval (.tmp s) = .int .i64 x) (ht : a'.eval (.tmp t) = .int .i64 y) (hy : y ≠ 0) (hw : -9223372036854775808 ≤ x.tdiv y ∧ x.tdiv y ≤ 9223372036854775807) :
    o.wp Tryz.prog a' W (fun a'' W' => a'' = a'.put o.dst (.int .i64 (x.tdiv y)) ∧ Below W.heap.size W W') Q := by
  have hr := Below.refl W.heap.size W
  have he' : a'.tmps[s]?.getD undef = .int .i64 x := by simpa [Act.eval] using he
  have ht' : a'.tmps[t]?.getD undef = .int .i64 y := by simpa [Act.eval] using ht
  have hw' := i64w _ hw
  unfold Oper.wp execOp
  rw [hop]
  simp [go_sem, he', ht', hw', hr, hy]
theorem op_addc {s : Nat} {c x : Int} (hop : o.op = Op.binOp .add 3 (.tmp s) (.const (.int .i64 c)) 3) (he : a'.eval (.tmp s) = .int .i64 x) (hw : -9223372036854775808 ≤ x + c ∧ x + c ≤ 9223372036854775807) :
    o.wp Tryz.prog a' W (fun a'' W' => a'' = a'.put o.dst (.int .i64 (x + c)) ∧ Below W.heap.size W W') Q := by
  have hr := Below.refl W.heap.size W
  have he' : a'.tmps[s]?.getD undef = .int .i64 x := by simpa [Act.eval] using he
  have hw' := i64w _ hw
  unfold Oper.wp execOp
  rw [hop]
  simp [go_sem, he', hw', hr]
theorem op_subt {s t : Nat} {x y : Int} (hop : o.op = Op.binOp .sub 3 (.tmp s) (.tmp t) 3) (he : a'.eval (.tmp s) = .int .i64 x) (ht : a'.eval (.tmp t) = .int .i64 y) (hw : -9223372036854775808 ≤ x - y ∧ x - y ≤ 9223372036854775807) :
    o.wp Tryz.prog a' W (fun a'' W' => a'' = a'.put o.dst (.int .i64 (x - y)) ∧ Below W.heap.size W W') Q := by
  have hr := Below.refl W.heap.size W
  have he' : a'.tmps[s]?.getD undef = .int .i64 x := by simpa [Act.eval] using he
  have ht' : a'.tmps[t]?.getD undef = .int .i64 y := by simpa [Act.eval] using ht
  have hw' := i64w _ hw
  unfold Oper.wp execOp
  rw [hop]
  simp [go_sem, he', ht', hw', hr]
theorem op_mult {s t : Nat} {x y : Int} (hop : o.op = Op.binOp .mul 3 (.tmp s) (.tmp t) 3) (he : a'.eval (.tmp s) = .int .i64 x) (ht : a'.eval (.tmp t) = .int .i64 y) (hw : -9223372036854775808 ≤ x * y ∧ x * y ≤ 9223372036854775807) :
    o.wp Tryz.prog a' W (fun a'' W' => a'' = a'.put o.dst (.int .i64 (x * y)) ∧ Below W.heap.size W W') Q := by
  have hr := Below.refl W.heap.size W
  have he' : a'.tmps[s]?.getD undef = .int .i64 x := by simpa [Act.eval] using he
  have ht' : a'.tmps[t]?.getD undef = .int .i64 y := by simpa [Act.eval] using ht
  have hw' := i64w _ hw
  unfold Oper.wp execOp
  rw [hop]
  simp [go_sem, he', ht', hw', hr]
theorem op_mint {s t : Nat} {x y : Int} (hop : o.op = Op.call { callee := .builtin .min, args := #[.tmp s, .tmp t], argTypes := #[3, 3] }) (he : a'.eval (.tmp s) = .int .i64 x) (ht : a'.eval (.tmp t) = .int .i64 y) :
    o.wp Tryz.prog a' W (fun a'' W' => a'' = a'.put o.dst (.int .i64 (mn x y)) ∧ Below W.heap.size W W') Q := by
  have hr := Below.refl W.heap.size W
  have he' : a'.tmps[s]?.getD undef = .int .i64 x := by simpa [Act.eval] using he
  have ht' : a'.tmps[t]?.getD undef = .int .i64 y := by simpa [Act.eval] using ht
  unfold Oper.wp execOp
  rw [hop]
  have := mn_if x y
  by_cases h : y < x
  · rw [if_pos h] at this
    simp [go_sem, he', ht', hr, h, ← this]
  · rw [if_neg h] at this
    simp [go_sem, he', ht', hr, h, ← this]
theorem op_b57 {s : Nat} {x : Int} (hop : o.op = Op.build 28 #[(0, .tmp s)]) (he : a'.eval (.tmp s) = .int .i64 x) :
    o.wp Tryz.prog a' W (fun a'' W' => a'' = a'.put o.dst (.agg #[.int .i64 x, .int .i64 0]) ∧ Below W.heap.size W W') Q := by
  have hr := Below.refl W.heap.size W
  have he' : a'.tmps[s]?.getD undef = .int .i64 x := by simpa [Act.eval] using he
  unfold Oper.wp execOp
  rw [hop]
  simp [go_sem, he', hr]
theorem opx_callt {f t s : Nat} {v : Value} {lb : Array Value} {ts : Array TypeId} {Rq : Value → World → Prop} (hop : o.op = Op.call { callee := .value (.tmp t), args := #[.tmp s], argTypes := ts })
    (ht : a'.eval (.tmp t) = .func (.func f) #[] lb) (he : a'.eval (.tmp s) = v) (eg : ∀ args w, (callFunc f args).run Tryz.prog w = .ok (.enter f args) w) (hc : Calls Tryz.prog f (#[v] ++ lb) W fun e W' => ∃ r, e = .returned r ∧ Rq r W') :
    o.wp Tryz.prog a' W (fun a'' W' => ∃ x, a'' = a'.put o.dst x ∧ Rq x W') Q := by
  have ht' : a'.tmps[t]?.getD undef = .func (.func f) #[] lb := by simpa [Act.eval] using ht
  have he' : a'.tmps[s]?.getD undef = v := by simpa [Act.eval] using he
  unfold Oper.wp execOp
  rw [hop]
  simp [go_sem, ht', he', eg]
  refine hc.mono ?_
  rintro e w' ⟨r, rfl, hb⟩
  exact ⟨r, rfl, hb⟩
theorem opx_store3 {s r b off : Nat} {n : Int} {t : TypeId} {cs : Array Value} {Rq : Value → World → Prop} (hd : o.dst = none) (hop : o.op = Op.store 3 (.tmp s) (.tmp r))
    (he : a'.eval (.tmp s) = .pointer (some ⟨b, off, none⟩)) (hv : a'.eval (.tmp r) = .int .i64 n) (hb : W.heap[b]? = some (.cells cs t (0, 0))) (hlt : off < cs.size)
    (hR : ∀ W', W'.heap[b]? = some (.cells (cs.setIfInBounds off (.int .i64 n)) t (0, 0)) → Chg b W W' → Rq undef W') :
    o.wp Tryz.prog a' W (fun a'' W' => ∃ x, a'' = a'.put o.dst x ∧ Rq x W') Q := by
  have cc := (cell_of_block hb off).trans (Array.getElem?_eq_getElem hlt)
  have f := frozen_of_block hb off
  have he' : a'.tmps[s]?.getD undef = .pointer (some ⟨b, off, none⟩) := by simpa [Act.eval] using he
  have hv' : a'.tmps[r]?.getD undef = .int .i64 n := by simpa [Act.eval] using hv
  have hfin := hR (W.setCell ⟨b, off, none⟩ (.int .i64 n)) (setCell_block hb _ _) (chg_setCell _ _ _ _)
  unfold Oper.wp execOp
  rw [hop]
  simp [go_sem, he', hv', cc, f, hd]
  exact ⟨_, hfin⟩
end
end Go.Proofs.YtcoiklolgilhaaaGreatDoor
namespace Go.Proofs.YtcoiklolgilhaaaGreatDoor
open Go.RowKit
set_option maxRecDepth 100000
theorem below_drawn (W : World) : Below W.heap.size W { W with drawn := W.drawn + 1 } := ⟨rfl, rfl, rfl, Nat.le_refl _, fun _ _ => rfl⟩
structure FzIn (w0 : World) (p : Option Addr) (k cap b0 : Nat) (zb : Obj) (Bi Bl Bn : Nat) (W : World) : Prop where
  nx : NxIn w0 p k cap Bi Bl W
  n : W.heap[Bn]? = some (.cells #[.func (.func 115) #[] #[.pointer (some ⟨Bi, 0, none⟩), .pointer (some ⟨Bl, 0, none⟩)]] 101 (0, 0))
  z : W.heap[b0]? = some zb
section
variable {w0 W W' : World} {p : Option Addr} {k cap b0 Bi Bl Bn : Nat} {zb : Obj}
theorem FzIn.later (h : FzIn w0 p k cap b0 zb Bi Bl Bn W) (hb : Below W.heap.size W W') : FzIn w0 p k cap b0 zb Bi Bl Bn W' :=
  ⟨h.nx.later hb, (hb.block _ (lt_of_block h.n)).trans h.n, (hb.block _ (lt_of_block h.z)).trans h.z⟩
theorem FzIn.chg (h : FzIn w0 p k cap b0 zb Bi Bl Bn W) (hn : NxIn w0 p k cap Bi Bl W') (hc : Chg Bi W W') (h1 : Bn ≠ Bi) (h2 : b0 ≠ Bi) : FzIn w0 p k cap b0 zb Bi Bl Bn W' :=
  ⟨hn, (hc.2.1 _ h1).trans h.n, (hc.2.1 _ h2).trans h.z⟩
theorem FzIn.lt (h : FzIn w0 p k cap b0 zb Bi Bl Bn W) : Bi < W.heap.size ∧ Bl < W.heap.size ∧ Bn < W.heap.size ∧ b0 < W.heap.size := by
  obtain ⟨i, _, hi⟩ := h.nx.i
  exact ⟨lt_of_block hi, lt_of_block h.nx.l, lt_of_block h.n, lt_of_block h.z⟩
theorem FzIn.sto (h : FzIn w0 p k cap b0 zb Bi Bl Bn W) {b : Nat} (hc : Chg b W W') (h0 : w0.heap.size ≤ b) (h1 : Bi ≠ b) (h2 : Bl ≠ b) (h3 : Bn ≠ b) (h4 : b0 ≠ b) : FzIn w0 p k cap b0 zb Bi Bl Bn W' :=
  ⟨h.nx.keep (h.nx.low.trans (hc.below h0)) (hc.2.1 _ h1) (hc.2.1 _ h2), (hc.2.1 _ h3).trans h.n, (hc.2.1 _ h4).trans h.z⟩
end
abbrev Z57 : Obj := .cells #[.int .i64 0, .int .i64 0] 28 (0, 0)
structure Fz1 (w0 : World) (p : Option Addr) (k cap b0 : Nat) (zb : Obj) (Bi Bl Bn B9 M : Nat) (most : Int) (L : Nat → Bool) (V : Nat → Value) (W : World) : Prop where
  f : FzIn w0 p k cap b0 zb Bi Bl Bn W
  r : W.heap[B9]? = some Z57
  m : M ≤ W.heap.size
  d : L 16 = true → L 15 = true
  b : L 15 = true → ∃ (B : Nat) (x y : Int), V 15 = .pointer (some ⟨B, 0, none⟩) ∧ M ≤ B ∧ W.heap[B]? = some (.cells #[.int .i64 x, .int .i64 y] 28 (0, 0)) ∧ (L 16 = true → 0 ≤ x ∧ x ≤ most ∧ y = 0)
structure Fz2 (w0 : World) (p : Option Addr) (k cap b0 : Nat) (zb : Obj) (Bi Bl Bn B9 B : Nat) (lo most : Int) (L : Nat → Bool) (W : World) : Prop where
  f : FzIn w0 p k cap b0 zb Bi Bl Bn W
  r : W.heap[B9]? = some Z57
  b : ∃ y : Int, W.heap[B]? = some (.cells #[.int .i64 lo, .int .i64 y] 28 (0, 0)) ∧ (L 9 = true → lo ≤ y ∧ y ≤ most)
section
variable {w0 W W' : World} {p : Option Addr} {k cap b0 Bi Bl Bn B9 M B : Nat} {zb : Obj} {lo most : Int} {L : Nat → Bool} {V : Nat → Value}
theorem Fz1.later (h : Fz1 w0 p k cap b0 zb Bi Bl Bn B9 M most L V W) (hb : Below W.heap.size W W') : Fz1 w0 p k cap b0 zb Bi Bl Bn B9 M most L V W' :=
  ⟨h.f.later hb, (hb.block _ (lt_of_block h.r)).trans h.r, Nat.le_trans h.m hb.size, h.d, fun e => by
    obtain ⟨B, x, y, h1, h2, h3, h4⟩ := h.b e
    exact ⟨B, x, y, h1, h2, (hb.block _ (lt_of_block h3)).trans h3, h4⟩⟩
theorem Fz1.chg (h : Fz1 w0 p k cap b0 zb Bi Bl Bn B9 M most L V W) (hn : NxIn w0 p k cap Bi Bl W') (hc : Chg Bi W W') (h1 : Bn ≠ Bi) (h2 : b0 ≠ Bi) (h3 : B9 ≠ Bi) (h4 : Bi < M) : Fz1 w0 p k cap b0 zb Bi Bl Bn B9 M most L V W' :=
  ⟨h.f.chg hn hc h1 h2, (hc.2.1 _ h3).trans h.r, Nat.le_trans h.m (Nat.le_of_eq hc.1.symm), h.d, fun e => by
    obtain ⟨B, x, y, g1, g2, g3, g4⟩ := h.b e
    exact ⟨B, x, y, g1, g2, (hc.2.1 _ (by omega)).trans g3, g4⟩⟩
theorem Fz1.set (h : Fz1 w0 p k cap b0 zb Bi Bl Bn B9 M most L V W) (i : Nat) (hi : i ≠ 15) (hi' : i ≠ 16) (x : Value) : Fz1 w0 p k cap b0 zb Bi Bl Bn B9 M most (fun j => if j = i then true else L j) (fun j => if j = i then x else V j) W := by
  refine ⟨h.f, h.r, h.m, ?_, ?_⟩
  · simp only [if_neg (Ne.symm hi), if_neg (Ne.symm hi')]; exact h.d
  · simp only [if_neg (Ne.symm hi), if_neg (Ne.symm hi')]; exact h.b
theorem Fz2.later (h : Fz2 w0 p k cap b0 zb Bi Bl Bn B9 B lo most L W) (hb : Below W.heap.size W W') : Fz2 w0 p k cap b0 zb Bi Bl Bn B9 B lo most L W' :=
  ⟨h.f.later hb, (hb.block _ (lt_of_block h.r)).trans h.r, by
    obtain ⟨y, h3, h4⟩ := h.b
    exact ⟨y, (hb.block _ (lt_of_block h3)).trans h3, h4⟩⟩
theorem Fz2.chg (h : Fz2 w0 p k cap b0 zb Bi Bl Bn B9 B lo most L W) (hn : NxIn w0 p k cap Bi Bl W') (hc : Chg Bi W W') (h1 : Bn ≠ Bi) (h2 : b0 ≠ Bi) (h3 : B9 ≠ Bi) (h4 : B ≠ Bi) : Fz2 w0 p k cap b0 zb Bi Bl Bn B9 B lo most L W' :=
  ⟨h.f.chg hn hc h1 h2, (hc.2.1 _ h3).trans h.r, by
    obtain ⟨y, g3, g4⟩ := h.b
    exact ⟨y, (hc.2.1 _ h4).trans g3, g4⟩⟩
theorem Fz2.set (h : Fz2 w0 p k cap b0 zb Bi Bl Bn B9 B lo most L W) (i : Nat) (hi : i ≠ 9) : Fz2 w0 p k cap b0 zb Bi Bl Bn B9 B lo most (fun j => if j = i then true else L j) W := by
  refine ⟨h.f, h.r, ?_⟩
  simp only [if_neg (Ne.symm hi)]
  exact h.b
end
def fzF1 (step q most : Int) (fv : Value) : Nat → Value → Prop
  | 0, v => v = .int .i64 0
  | 1, v => v = .int .i64 step
  | 2, v => v = fv
  | 3, v => v = .int .i64 most
  | 4, v => v = .int .i64 step
  | 5, v => v = .int .i64 q
  | 6, v => v = .int .i64 (q + 1)
  | 7, v => v = .int .i64 0
  | 8, v => v = .int .i64 step
  | 9, v => v = .int .i64 0
  | 10, v => v = .int .i64 (q + 1)
  | 11, v => ∃ r : Int, v = .int .i64 r ∧ 0 ≤ r ∧ r ≤ q
  | 12, v => ∃ r : Int, v = .int .i64 r ∧ 0 ≤ r ∧ r ≤ most
  | 13, v => ∃ r : Int, v = .int .i64 r ∧ 0 ≤ r ∧ r ≤ most
  | 14, v => ∃ r : Int, v = .agg #[.int .i64 r, .int .i64 0] ∧ 0 ≤ r ∧ r ≤ most
  | _, _ => True
def fzF2 (lo wide most : Int) (fv : Value) (B : Nat) : Nat → Value → Prop
  | 0, v => v = .int .i64 most
  | 1, v => v = .pointer (some ⟨B, 0, none⟩)
  | 2, v => v = .int .i64 lo
  | 3, v => v = fv
  | 4, v => v = .int .i64 wide
  | 5, v => ∃ r : Int, v = .int .i64 r ∧ 0 ≤ r ∧ r < wide
  | 6, v => ∃ r : Int, v = .int .i64 r ∧ lo ≤ r ∧ r < lo + wide
  | 7, v => ∃ r : Int, v = .int .i64 r ∧ lo ≤ r ∧ r ≤ most
  | 8, v => v = .pointer (some ⟨B, 1, none⟩)
  | _, _ => True
set_option maxHeartbeats 4000000 in
theorem Frozen1_any (w0 : World) (p : Option Addr) (k cap : Nat) (hk : k ≤ 9223372036854775807) (hB : BytesIn w0 p k) (b0 : Nat) (zb : Obj) (Bi Bl Bn : Nat) (hBi : w0.heap.size ≤ Bi) (h1 : Bn ≠ Bi) (h2 : b0 ≠ Bi) (step wide most q : Int) (hs : 1 ≤ step) (hs' : step ≤ 2) (hw : 1 ≤ wide) (hw' : wide ≤ 200) (hm : 0 ≤ most) (hm' : most ≤ 400) (hq : most.tdiv step = q) (hq0 : 0 ≤ q) (hqm : step * q ≤ most) (W : World) (h : FzIn w0 p k cap b0 zb Bi Bl Bn W) :
    Calls Tryz.prog 114 #[.int .i64 0, .int .i64 step, .int .i64 wide, .int .i64 most, .pointer (some ⟨Bn, 0, none⟩)] W fun e W' => ∃ lo hi : Int, e = .returned (.agg #[.int .i64 lo, .int .i64 hi]) ∧ 0 ≤ lo ∧ lo ≤ hi ∧ hi ≤ most ∧ FzIn w0 p k cap b0 zb Bi Bl Bn W' := by
  have HNEXT := Lib.hid (fun (n : Int) (hn : 1 ≤ n) (hn' : n ≤ 1000000) (W : World) (hW : NxIn w0 p k cap Bi Bl W) => next_any w0 p k cap hk hB Bi Bl hBi n hn hn' W hW)
  have hqs : q ≤ 400 := by
    have : 1 * q ≤ step * q := Int.mul_le_mul_of_nonneg_right hs hq0
    omega
  have HQM := Lib.hid hqm
  have HQ := Lib.hid hq
  have hba := (Below.refl W.heap.size W).alloc (Nat.le_refl _) Z57
  have HF := Lib.hid (h.later hba)
  have H9 := Lib.hid (block_new W Z57)
  have hlt := h.lt
  have hw0 := h.nx.low.size
  clear hqm hq h hba
  go_enter Tryz.func114, Tryz.ntmps114
  go_wp2_with fail
  generalize W.alloc Z57 = X at *
  have hX := lt_of_block H9.out
  refine wp_region_fi [11, 12, 13, 14, 15, 16, 17, 18, 19, 20, 21, 22, 23, 24, 25, 10, 1000] (fzF1 step q most (.func (.func 115) #[] #[.pointer (some ⟨Bi, 0, none⟩), .pointer (some ⟨Bl, 0, none⟩)])) (Fz1 w0 p k cap b0 zb Bi Bl Bn W.heap.size X.heap.size most) (by kernel_rfl) (by kernel_rfl) (fun s hs h => by simp at hs ⊢; omega) (by simp) ?z ?val ?fin
  case z => exact Fz1.later ⟨HF.out, H9.out, Nat.le_refl _, (fun e => by cases e), (fun e => by cases e)⟩ (below_drawn X)
  case val =>
    intro i
    match i with
    | 0 => intro o L V ho hL hd a' W hX hfr hdp; obtain rfl := Option.some.inj ho; exact opx_of (op_move rfl (hfr 0 (by decide))) fun W' hb => ⟨rfl, (hX.later hb).set 0 (by decide) (by decide) _⟩
    | 1 => intro o L V ho hL hd a' W hX hfr hdp; obtain rfl := Option.some.inj ho; exact opx_of (op_move rfl (hfr 1 (by decide))) fun W' hb => ⟨rfl, (hX.later hb).set 1 (by decide) (by decide) _⟩
    | 2 => intro o L V ho hL hd a' W hX hfr hdp; obtain rfl := Option.some.inj ho; exact opx_of (op_load80 rfl (hfr 4 (by decide)) ((cell_of_block hX.f.n 0).trans rfl)) fun W' hb => ⟨rfl, (hX.later hb).set 2 (by decide) (by decide) _⟩
    | 3 => intro o L V ho hL hd a' W hX hfr hdp; obtain rfl := Option.some.inj ho; exact opx_of (op_move rfl (hfr 3 (by decide))) fun W' hb => ⟨rfl, (hX.later hb).set 3 (by decide) (by decide) _⟩
    | 4 => intro o L V ho hL hd a' W hX hfr hdp; obtain rfl := Option.some.inj ho; exact opx_of (op_move rfl (hfr 1 (by decide))) fun W' hb => ⟨rfl, (hX.later hb).set 4 (by decide) (by decide) _⟩
    | 5 => intro o L V ho hL hd a' W hX hfr hdp; obtain rfl := Option.some.inj ho; exact opx_of (op_quot rfl (Dp (hdp 3 14 (by decide) rfl (by kernel_rfl)) id) (Dp (hdp 4 15 (by decide) rfl (by kernel_rfl)) id) (by omega) (by rw [HQ.out]; omega)) fun W' hb => ⟨by rw [HQ.out]; rfl, (hX.later hb).set 5 (by decide) (by decide) _⟩
    | 6 => intro o L V ho hL hd a' W hX hfr hdp; obtain rfl := Option.some.inj ho; exact opx_of (op_addc rfl (Dp (hdp 5 16 (by decide) rfl (by kernel_rfl)) id) (by omega)) fun W' hb => ⟨rfl, (hX.later hb).set 6 (by decide) (by decide) _⟩
    | 7 => intro o L V ho hL hd a' W hX hfr hdp; obtain rfl := Option.some.inj ho; exact opx_of (op_move rfl (hfr 0 (by decide))) fun W' hb => ⟨rfl, (hX.later hb).set 7 (by decide) (by decide) _⟩
    | 8 => intro o L V ho hL hd a' W hX hfr hdp; obtain rfl := Option.some.inj ho; exact opx_of (op_move rfl (hfr 1 (by decide))) fun W' hb => ⟨rfl, (hX.later hb).set 8 (by decide) (by decide) _⟩
    | 9 => intro o L V ho hL hd a' W hX hfr hdp; obtain rfl := Option.some.inj ho; exact opx_of (op_quot rfl (Dp (hdp 7 18 (by decide) rfl (by kernel_rfl)) id) (Dp (hdp 8 19 (by decide) rfl (by kernel_rfl)) id) (by omega) (by rw [Int.zero_tdiv]; omega)) fun W' hb => ⟨by rw [Int.zero_tdiv]; rfl, (hX.later hb).set 9 (by decide) (by decide) _⟩
    | 10 => intro o L V ho hL hd a' W hX hfr hdp; obtain rfl := Option.some.inj ho; exact opx_of (op_subt rfl (Dp (hdp 6 17 (by decide) rfl (by kernel_rfl)) id) (Dp (hdp 9 20 (by decide) rfl (by kernel_rfl)) id) (by omega)) fun W' hb => ⟨by rw [Int.sub_zero]; rfl, (hX.later hb).set 10 (by decide) (by decide) _⟩
    | 11 =>
      intro o L V ho hL hd a' W hX hfr hdp; obtain rfl := Option.some.inj ho
      refine opx_callt rfl (Dp (hdp 2 13 (by decide) rfl (by kernel_rfl)) id) (Dp (hdp 10 21 (by decide) rfl (by kernel_rfl)) id) eg73 ((HNEXT.out (q + 1) (by omega) (by omega) _ hX.f.nx).mono ?_)
      rintro e W' ⟨r, rfl, h0, h1, hN, hC⟩
      exact ⟨_, rfl, ⟨r, rfl, h0, by omega⟩, (hX.chg hN hC (by omega) (by omega) (by omega) (by omega)).set 11 (by decide) (by decide) _⟩
    | 12 =>
      intro o L V ho hL hd a' W hX hfr hdp; obtain rfl := Option.some.inj ho
      obtain ⟨e, r, e', h0, h1⟩ := hdp 11 22 (by decide) rfl (by kernel_rfl)
      have n0 := Int.mul_nonneg (show 0 ≤ step by omega) h0
      have n1 := Int.mul_le_mul_of_nonneg_left h1 (show 0 ≤ step by omega)
      have n2 := HQM.out
      exact opx_of (op_mult rfl (Dp (hdp 1 12 (by decide) rfl (by kernel_rfl)) id) (e.trans e') (by omega)) fun W' hb => ⟨⟨_, rfl, n0, by omega⟩, (hX.later hb).set 12 (by decide) (by decide) _⟩
    | 13 =>
      intro o L V ho hL hd a' W hX hfr hdp; obtain rfl := Option.some.inj ho
      obtain ⟨e, r, e', h0, h1⟩ := hdp 12 23 (by decide) rfl (by kernel_rfl)
      exact opx_of (op_addt rfl (Dp (hdp 0 11 (by decide) rfl (by kernel_rfl)) id) (e.trans e') (by omega)) fun W' hb => ⟨⟨_, rfl, by omega, by omega⟩, (hX.later hb).set 13 (by decide) (by decide) _⟩
    | 14 =>
      intro o L V ho hL hd a' W hX hfr hdp; obtain rfl := Option.some.inj ho
      obtain ⟨e, r, e', h0, h1⟩ := hdp 13 24 (by decide) rfl (by kernel_rfl)
      exact opx_of (op_b57 rfl (e.trans e')) fun W' hb => ⟨⟨_, rfl, by omega, by omega⟩, (hX.later hb).set 14 (by decide) (by decide) _⟩
    | 15 =>
      intro o L V ho hL hd a' W hX hfr hdp; obtain rfl := Option.some.inj ho
      have h16 : L 16 = false := by
        cases h16 : L 16 with
        | false => rfl
        | true => rw [hX.d h16] at hL; cases hL
      have hl := hX.later ((Below.refl _ W).alloc (Nat.le_refl _) Z57)
      refine opx_alloc57 rfl ⟨trivial, hl.f, hl.r, hl.m, fun _ => by simp, fun _ => ⟨W.heap.size, 0, 0, by simp, hX.m, block_new W Z57, fun e => ?_⟩⟩
      simp [h16] at e
    | 16 =>
      intro o L V ho hL hd a' W hX hfr hdp; obtain rfl := Option.some.inj ho
      obtain ⟨e, r, e', h0, h1⟩ := hdp 14 25 (by decide) rfl (by kernel_rfl)
      have h15 := hd 15 (by kernel_rfl)
      obtain ⟨B, x, y, e2, hM, hb, _⟩ := hX.b h15
      refine opx_store57 rfl rfl ((hdp 15 10 (by decide) rfl (by kernel_rfl)).1.trans e2) (e.trans e') hb fun W' hb' hc => ⟨trivial, hX.f.sto hc (by omega) (by omega) (by omega) (by omega) (by omega), (hc.2.1 _ (by omega)).trans hX.r, Nat.le_trans hX.m (Nat.le_of_eq hc.1.symm), fun _ => by simp [h15], fun _ => ⟨B, r, 0, by simp [e2], hM, hb', fun _ => ⟨h0, h1, rfl⟩⟩⟩
    | j + 17 => intro o L V ho; simp at ho
  case fin =>
    intro W1 L V hL hF hI
    obtain ⟨B, lo, y, e15, hM, hb, hx⟩ := hI.b (hL 15 (by decide))
    obtain ⟨hlo, hlm, rfl⟩ := hx (hL 16 (by decide))
    have HF1 := Lib.hid hI.f
    have H91 := Lib.hid hI.r
    have HB1 := Lib.hid hb
    clear hI hF hL hb HF H9 hx
    simp only [fill, Act.put, List.setIfInBounds_toArray, List.set_cons_zero, List.set_cons_succ, List.set_nil, Nat.reduceAdd, e15]
    generalize V 0 = v0, V 1 = v1, V 2 = v2, V 3 = v3, V 4 = v4, V 5 = v5, V 6 = v6, V 7 = v7, V 8 = v8, V 9 = v9, V 10 = v10, V 11 = v11, V 12 = v12, V 13 = v13, V 14 = v14, V 16 = v16
    clear e15 V
    have hB9 := lt_of_block H91.out
    have hBB := lt_of_block HB1.out
    go_wp2_with fail
    refine wp_region_fi [26, 27, 28, 29, 30, 31, 32, 33, 34, 1000] (fzF2 lo wide most (.func (.func 115) #[] #[.pointer (some ⟨Bi, 0, none⟩), .pointer (some ⟨Bl, 0, none⟩)]) B) (fun L _ W' => Fz2 w0 p k cap b0 zb Bi Bl Bn W.heap.size B lo most L W') (by kernel_rfl) (by kernel_rfl) ?sz ?ts ?z ?val ?fin
    case sz => intro s hs h; simp at hs ⊢; omega
    case ts => simp
    case z => exact Fz2.later ⟨HF1.out, H91.out, 0, HB1.out, (fun e => by cases e)⟩ (below_drawn W1)
    case val =>
      intro i
      match i with
      | 0 => intro o L V ho hL hd a' W hX hfr hdp; obtain rfl := Option.some.inj ho; exact opx_of (op_move rfl (hfr 3 (by decide))) fun W' hb => ⟨rfl, (hX.later hb).set 0 (by decide)⟩
      | 1 => intro o L V ho hL hd a' W hX hfr hdp; obtain rfl := Option.some.inj ho; exact opx_of (op_fa57 rfl (hfr 10 (by decide)) (by decide)) fun W' hb => ⟨rfl, (hX.later hb).set 1 (by decide)⟩
      | 2 =>
        intro o L V ho hL hd a' W hX hfr hdp; obtain rfl := Option.some.inj ho
        obtain ⟨y, hb, _⟩ := hX.b
        exact opx_of (op_load3o rfl (Dp (hdp 1 27 (by decide) rfl (by kernel_rfl)) id) ((cell_of_block hb 0).trans rfl)) fun W' hb => ⟨rfl, (hX.later hb).set 2 (by decide)⟩
      | 3 => intro o L V ho hL hd a' W hX hfr hdp; obtain rfl := Option.some.inj ho; exact opx_of (op_load80 rfl (hfr 4 (by decide)) ((cell_of_block hX.f.n 0).trans rfl)) fun W' hb => ⟨rfl, (hX.later hb).set 3 (by decide)⟩
      | 4 => intro o L V ho hL hd a' W hX hfr hdp; obtain rfl := Option.some.inj ho; exact opx_of (op_move rfl (hfr 2 (by decide))) fun W' hb => ⟨rfl, (hX.later hb).set 4 (by decide)⟩
      | 5 =>
        intro o L V ho hL hd a' W hX hfr hdp; obtain rfl := Option.some.inj ho
        refine opx_callt rfl (Dp (hdp 3 29 (by decide) rfl (by kernel_rfl)) id) (Dp (hdp 4 30 (by decide) rfl (by kernel_rfl)) id) eg73 ((HNEXT.out wide (by omega) (by omega) _ hX.f.nx).mono ?_)
        rintro e W' ⟨r, rfl, h0, h1, hN, hC⟩
        exact ⟨_, rfl, ⟨r, rfl, h0, h1⟩, (hX.chg hN hC (by omega) (by omega) (by omega) (by omega)).set 5 (by decide)⟩
      | 6 =>
        intro o L V ho hL hd a' W hX hfr hdp; obtain rfl := Option.some.inj ho
        obtain ⟨e, r, e', h0, h1⟩ := hdp 5 31 (by decide) rfl (by kernel_rfl)
        exact opx_of (op_addt rfl (Dp (hdp 2 28 (by decide) rfl (by kernel_rfl)) id) (e.trans e') (by omega)) fun W' hb => ⟨⟨_, rfl, by omega, by omega⟩, (hX.later hb).set 6 (by decide)⟩
      | 7 =>
        intro o L V ho hL hd a' W hX hfr hdp; obtain rfl := Option.some.inj ho
        obtain ⟨e, r, e', h0, h1⟩ := hdp 6 32 (by decide) rfl (by kernel_rfl)
        exact opx_of (op_mint rfl (Dp (hdp 0 26 (by decide) rfl (by kernel_rfl)) id) (e.trans e')) fun W' hb => ⟨⟨_, rfl, by unfold mn; omega, by unfold mn; omega⟩, (hX.later hb).set 7 (by decide)⟩
      | 8 => intro o L V ho hL hd a' W hX hfr hdp; obtain rfl := Option.some.inj ho; exact opx_of (op_fa57 rfl (hfr 10 (by decide)) (by decide)) fun W' hb => ⟨rfl, (hX.later hb).set 8 (by decide)⟩
      | 9 =>
        intro o L V ho hL hd a' W hX hfr hdp; obtain rfl := Option.some.inj ho
        obtain ⟨e, r, e', h0, h1⟩ := hdp 7 33 (by decide) rfl (by kernel_rfl)
        obtain ⟨y, hb, _⟩ := hX.b
        refine opx_store3 rfl rfl (Dp (hdp 8 34 (by decide) rfl (by kernel_rfl)) id) (e.trans e') hb (by simp) fun W' hb' hc => ⟨trivial, hX.f.sto hc (by omega) (by omega) (by omega) (by omega) (by omega), (hc.2.1 _ (by omega)).trans hX.r, r, by simpa using hb', fun _ => ⟨h0, h1⟩⟩
      | j + 10 => intro o L V ho; simp at ho
    case fin =>
      intro W2 L V hL hF hI
      obtain ⟨hi, hb, hx⟩ := hI.b
      obtain ⟨hlh, hhm⟩ := hx (hL 9 (by decide))
      have HF2 := Lib.hid hI.f
      have H92 := Lib.hid hI.r
      have HB2 := Lib.hid hb
      clear hI hF hL hb HF1 H91 HB1 hx
      simp only [fill, Act.put, List.setIfInBounds_toArray, List.set_cons_zero, List.set_cons_succ, List.set_nil, Nat.reduceAdd]
      generalize V 0 = u0, V 1 = u1, V 2 = u2, V 3 = u3, V 4 = u4, V 5 = u5, V 6 = u6, V 7 = u7, V 8 = u8, V 9 = u9
      clear V
      obtain ⟨⟨c0, c1⟩, _⟩ := cells2 HB2.out
      have hne : W.heap.size ≠ B := by omega
      go_wp2_with (refine list_store2 rfl rfl rfl (.inr (.inr rfl)) rfl rfl H92.out ?_; intro V hz hc; have HFE := Lib.hid (HF2.out.sto hc (by omega) (by omega) (by omega) (by omega) (by omega)); obtain ⟨⟨g0, g1⟩, _⟩ := cells2 hz; clear hz hc)
      refine bodyPost_ret (v := .agg #[.int .i64 lo, .int .i64 hi]) (by simp [results, Tryz.results114, go_sem, g0, g1]) rfl ⟨lo, hi, rfl, hlo, hlh, hhm, HFE.out⟩
theorem list_store80 {Q : Exit → Act → World → Prop} {W : World} {ops : Array Oper} {o : Oper} {rest : List Oper} {a : Act} {s r b f : Nat} {lb : Array Value} {t : TypeId} {x0 : Value} (hg : o.guard = none) (hd : o.dst = none) (hop : o.op = Op.store 101 (.tmp s) (.tmp r))
    (he : a.eval (.tmp s) = .pointer (some ⟨b, 0, none⟩)) (hv : a.eval (.tmp r) = .func (.func f) #[] lb) (hb : W.heap[b]? = some (.cells #[x0] t (0, 0)))
    (hK : ∀ W', W'.heap[b]? = some (.cells #[.func (.func f) #[] lb] t (0, 0)) → Chg b W W' → wpList Tryz.prog ops Q rest a W') : wpList Tryz.prog ops Q (o :: rest) a W := by
  have c0 := (cell_of_block hb 0).trans rfl
  simp only [List.getElem?_toArray, List.getElem?_cons_zero] at c0
  have f0 := frozen_of_block hb 0
  have he' : a.tmps[s]?.getD undef = .pointer (some ⟨b, 0, none⟩) := by simpa [Act.eval] using he
  have hv' : a.tmps[r]?.getD undef = .func (.func f) #[] lb := by simpa [Act.eval] using hv
  refine list_store hg hd ?_ (hK (W.setCell ⟨b, 0, none⟩ (.func (.func f) #[] lb)) (setCell_block hb 0 _) (chg_setCell W b 0 _))
  have hst : (store ⟨b, 0, none⟩ (.func (.func f) #[] lb)).run Tryz.prog W = .ok () (W.setCell ⟨b, 0, none⟩ (.func (.func f) #[] lb)) := by
    rw [run_store _ _ _ _ _ rfl]
    simp [go_sem, c0, f0]
  unfold execOp
  rw [hop]
  simp [go_sem, he', hv', hst]
set_option maxHeartbeats 4000000 in
theorem Frozen_any (p : Option Addr) (k cap : Nat) (hk : k ≤ 9223372036854775807) (w : World) (hB : BytesIn w p k) :
    Calls Tryz.prog 52 #[.slice p k cap] w fun e w' => ∃ lo hi : Ic, e = .returned (.agg (cellV lo hi)) ∧ GoodC lo hi ∧ Below w.heap.size w w' := by
  obtain ⟨t1, t2, t3, t4, tz, tb⟩ := four_allocs w (.cells #[.int .i64 0, .int .i64 0, .int .i64 0, .int .i64 0, .int .i64 0, .int .i64 0, .int .i64 0, .int .i64 0] 30) (.cells #[.slice p k cap] 98) (.cells #[.int .i64 0] 3) (.cells #[.nilFunc] 101)
  have H1 := Lib.hid t1
  have H2 := Lib.hid t2
  have H3 := Lib.hid t3
  have H4 := Lib.hid t4
  have HB := Lib.hid tb
  clear t1 t2 t3 t4 tb
  go_enter Tryz.func52, Tryz.ntmps52
  go_wp2_with fail
  refine (Drawn_any p k cap _).mono ?_
  rintro e w' ⟨rfl, rfl⟩
  go_wp2_with (refine list_store80 rfl rfl rfl rfl rfl H4.out ?_; intro V hz hc; have HF := Lib.hid (show FzIn w p k cap w.heap.size (.cells #[.int .i64 0, .int .i64 0, .int .i64 0, .int .i64 0, .int .i64 0, .int .i64 0, .int .i64 0, .int .i64 0] 30 (0, 0)) (w.heap.size + 1 + 1) (w.heap.size + 1) (w.heap.size + 1 + 1 + 1) V from ⟨⟨HB.out.trans (hc.below (by omega)), ⟨0, Nat.zero_le _, (hc.2.1 _ (by omega)).trans H3.out⟩, (hc.2.1 _ (by omega)).trans H2.out⟩, hz, (hc.2.1 _ (by omega)).trans H1.out⟩); clear hz hc H1 H2 H3 H4 HB)
  refine (Frozen1_any w p k cap hk hB _ _ _ _ _ (by omega) (by omega) (by omega) 1 40 100 100 (by decide) (by decide) (by decide) (by decide) (by decide) (by decide) (by decide) (by decide) (by decide) _ HF.out).mono ?_
  rintro e W1 ⟨a0, a1, rfl, ha0, ha1, ha2, hf⟩
  replace HF := Lib.hid hf
  clear hf
  go_wp2_with fail
  refine (Frozen1_any w p k cap hk hB _ _ _ _ _ (by omega) (by omega) (by omega) 2 120 400 200 (by decide) (by decide) (by decide) (by decide) (by decide) (by decide) (by decide) (by decide) (by decide) _ HF.out).mono ?_
  rintro e W2 ⟨b0, b1, rfl, hb0, hb1, hb2, hf⟩
  replace HF := Lib.hid hf
  clear hf
  go_wp2_with fail
  refine (Frozen1_any w p k cap hk hB _ _ _ _ _ (by omega) (by omega) (by omega) 1 20 100 100 (by decide) (by decide) (by decide) (by decide) (by decide) (by decide) (by decide) (by decide) (by decide) _ HF.out).mono ?_
  rintro e W3 ⟨c0, c1, rfl, hc0, hc1, hc2, hf⟩
  replace HF := Lib.hid hf
  clear hf
  go_wp2_with fail
  refine (Frozen1_any w p k cap hk hB _ _ _ _ _ (by omega) (by omega) (by omega) 1 4 3 3 (by decide) (by decide) (by decide) (by decide) (by decide) (by decide) (by decide) (by decide) (by decide) _ HF.out).mono ?_
  rintro e W4 ⟨d0, d1, rfl, hd0, hd1, hd2, hf⟩
  replace HF := Lib.hid hf
  clear hf
  go_wp2_with (refine list_store8 rfl rfl rfl (.inl rfl) rfl rfl HF.out.z ?_; intro V hz hc; have HB := Lib.hid (HF.out.nx.low.trans (hc.below (Nat.le_refl _))); obtain ⟨⟨g0, g1, g2, g3, g4, g5, g6, g7⟩, _⟩ := cells8 hz; clear hz hc HF)
  refine bodyPost_ret (v := .agg (cellV ⟨a0, b0, c0, d0⟩ ⟨a1, b1, c1, d1⟩)) (by simp [results, Tryz.results52, go_sem, g0, g1, g2, g3, g4, g5, g6, g7, cellV]) rfl ⟨⟨a0, b0, c0, d0⟩, ⟨a1, b1, c1, d1⟩, rfl, ⟨⟨⟨by simp; omega, by simp; omega⟩, ⟨by simp; omega, by simp; omega⟩, ⟨by simp; omega, by simp; omega⟩, ⟨by simp; omega, by simp; omega⟩⟩, ⟨⟨by simp; omega, by simp; omega⟩, ⟨by simp; omega, by simp; omega⟩, ⟨by simp; omega, by simp; omega⟩, ⟨by simp; omega, by simp; omega⟩⟩, ⟨ha1, hb1, hc1, hd1⟩⟩, HB.out⟩
end Go.Proofs.YtcoiklolgilhaaaGreatDoor
namespace Go.Proofs.YtcoiklolgilhaaaGreatDoor
open Go.RowKit
set_option maxRecDepth 100000
section
variable {Q : Exit → Act → World → Prop} {o : Oper} {a' : Act} {W : World}
theorem op_fa59 {s b k : Nat} (hop : o.op = Op.fieldAddr 30 (.tmp s) k) (he : a'.eval (.tmp s) = .pointer (some ⟨b, 0, none⟩)) (hk : k < 4) :
    o.wp Tryz.prog a' W (fun a'' W' => a'' = a'.put o.dst (.pointer (some ⟨b, 2 * k, none⟩)) ∧ Below W.heap.size W W') Q := by
  have hr := Below.refl W.heap.size W
  have he' : a'.tmps[s]?.getD undef = .pointer (some ⟨b, 0, none⟩) := by simpa [Act.eval] using he
  unfold Oper.wp execOp
  rw [hop]
  have : k = 0 ∨ k = 1 ∨ k = 2 ∨ k = 3 := by omega
  rcases this with rfl | rfl | rfl | rfl <;> simp [go_sem, he', hr]
theorem op_fa57o {s b k off : Nat} (hop : o.op = Op.fieldAddr 28 (.tmp s) k) (he : a'.eval (.tmp s) = .pointer (some ⟨b, off, none⟩)) (hk : k < 2) :
    o.wp Tryz.prog a' W (fun a'' W' => a'' = a'.put o.dst (.pointer (some ⟨b, off + k, none⟩)) ∧ Below W.heap.size W W') Q := by
  have hr := Below.refl W.heap.size W
  have he' : a'.tmps[s]?.getD undef = .pointer (some ⟨b, off, none⟩) := by simpa [Act.eval] using he
  unfold Oper.wp execOp
  rw [hop]
  have : k = 0 ∨ k = 1 := by omega
  rcases this with rfl | rfl <;> simp [go_sem, he', hr]
theorem op_b53 {s0 s1 s2 s3 : Nat} {x0 x1 x2 x3 : Int} (hop : o.op = Op.build 26 #[(0, .tmp s0), (1, .tmp s1), (2, .tmp s2), (3, .tmp s3)]) (h0 : a'.eval (.tmp s0) = .int .i64 x0) (h1 : a'.eval (.tmp s1) = .int .i64 x1) (h2 : a'.eval (.tmp s2) = .int .i64 x2) (h3 : a'.eval (.tmp s3) = .int .i64 x3) :
    o.wp Tryz.prog a' W (fun a'' W' => a'' = a'.put o.dst (.agg #[.int .i64 x0, .int .i64 x1, .int .i64 x2, .int .i64 x3]) ∧ Below W.heap.size W W') Q := by
  have hr := Below.refl W.heap.size W
  have h0' : a'.tmps[s0]?.getD undef = .int .i64 x0 := by simpa [Act.eval] using h0
  have h1' : a'.tmps[s1]?.getD undef = .int .i64 x1 := by simpa [Act.eval] using h1
  have h2' : a'.tmps[s2]?.getD undef = .int .i64 x2 := by simpa [Act.eval] using h2
  have h3' : a'.tmps[s3]?.getD undef = .int .i64 x3 := by simpa [Act.eval] using h3
  unfold Oper.wp execOp
  rw [hop]
  simp [go_sem, h0', h1', h2', h3', hr]
theorem opx_store53 {s r b : Nat} {t : TypeId} {x0 x1 x2 x3 y0 y1 y2 y3 : Int} {Rq : Value → World → Prop} (hd : o.dst = none) (hop : o.op = Op.store 26 (.tmp s) (.tmp r))
    (he : a'.eval (.tmp s) = .pointer (some ⟨b, 0, none⟩)) (hv : a'.eval (.tmp r) = .agg #[.int .i64 y0, .int .i64 y1, .int .i64 y2, .int .i64 y3]) (hb : W.heap[b]? = some (.cells #[.int .i64 x0, .int .i64 x1, .int .i64 x2, .int .i64 x3] t (0, 0)))
    (hR : ∀ W', W'.heap[b]? = some (.cells #[.int .i64 y0, .int .i64 y1, .int .i64 y2, .int .i64 y3] t (0, 0)) → Chg b W W' → Rq undef W') :
    o.wp Tryz.prog a' W (fun a'' W' => ∃ x, a'' = a'.put o.dst x ∧ Rq x W') Q := by
  obtain ⟨⟨c0, c1, c2, c3⟩, f0, f1, f2, f3⟩ := cells4 hb
  have he' : a'.tmps[s]?.getD undef = .pointer (some ⟨b, 0, none⟩) := by simpa [Act.eval] using he
  have hv' : a'.tmps[r]?.getD undef = .agg #[.int .i64 y0, .int .i64 y1, .int .i64 y2, .int .i64 y3] := by simpa [Act.eval] using hv
  have hfin := hR (World.store4 W b (.int .i64 y0) (.int .i64 y1) (.int .i64 y2) (.int .i64 y3)) (store4_block hb _ _ _ _) (chg_store4 _ _ _ _ _ _)
  unfold World.store4 at hfin
  unfold Oper.wp execOp
  rw [hop]
  simp [go_sem, he', hv', c0, c1, c2, c3, f0, f1, f2, f3, hd]
  exact ⟨_, hfin⟩
end
abbrev Z53 : Obj := .cells #[.int .i64 0, .int .i64 0, .int .i64 0, .int .i64 0] 26 (0, 0)
structure En (w : World) (lo hi : Ic) (b1 b2 b3 : Nat) (L : Nat → Bool) (W : World) : Prop where
  low : Below w.heap.size w W
  c : W.heap[b1]? = some (.cells (cellV lo hi) 30 (0, 0))
  x : W.heap[b2]? = some (if L 26 = true then .cells (iceV lo) 26 (0, 0) else Z53)
  y : W.heap[b3]? = some (if L 27 = true then .cells (iceV hi) 26 (0, 0) else Z53)
theorem En.later {w W W' : World} {lo hi : Ic} {b1 b2 b3 : Nat} {L : Nat → Bool} (h : En w lo hi b1 b2 b3 L W) (hb : Below W.heap.size W W') : En w lo hi b1 b2 b3 L W' :=
  ⟨h.low.trans (hb.mono h.low.size), (hb.block _ (lt_of_block h.c)).trans h.c, (hb.block _ (lt_of_block h.x)).trans h.x, (hb.block _ (lt_of_block h.y)).trans h.y⟩
theorem En.set {w W : World} {lo hi : Ic} {b1 b2 b3 : Nat} {L : Nat → Bool} (h : En w lo hi b1 b2 b3 L W) (i : Nat) (h1 : i ≠ 26) (h2 : i ≠ 27) : En w lo hi b1 b2 b3 (fun j => if j = i then true else L j) W := by
  refine ⟨h.low, h.c, ?_, ?_⟩
  · simp only [if_neg (Ne.symm h1)]; exact h.x
  · simp only [if_neg (Ne.symm h2)]; exact h.y
def enF (lo hi : Ic) (b1 : Nat) : Nat → Value → Prop
  | 0, v => v = .pointer (some ⟨b1, 0, none⟩)
  | 1, v => v = .pointer (some ⟨b1, 0 + 0, none⟩)
  | 2, v => v = .int .i64 lo.conc
  | 3, v => v = .pointer (some ⟨b1, 2, none⟩)
  | 4, v => v = .pointer (some ⟨b1, 2 + 0, none⟩)
  | 5, v => v = .int .i64 lo.thick
  | 6, v => v = .pointer (some ⟨b1, 4, none⟩)
  | 7, v => v = .pointer (some ⟨b1, 4 + 0, none⟩)
  | 8, v => v = .int .i64 lo.ridge
  | 9, v => v = .pointer (some ⟨b1, 6, none⟩)
  | 10, v => v = .pointer (some ⟨b1, 6 + 0, none⟩)
  | 11, v => v = .int .i64 lo.press
  | 12, v => v = .agg (iceV lo)
  | 13, v => v = .pointer (some ⟨b1, 0, none⟩)
  | 14, v => v = .pointer (some ⟨b1, 0 + 1, none⟩)
  | 15, v => v = .int .i64 hi.conc
  | 16, v => v = .pointer (some ⟨b1, 2, none⟩)
  | 17, v => v = .pointer (some ⟨b1, 2 + 1, none⟩)
  | 18, v => v = .int .i64 hi.thick
  | 19, v => v = .pointer (some ⟨b1, 4, none⟩)
  | 20, v => v = .pointer (some ⟨b1, 4 + 1, none⟩)
  | 21, v => v = .int .i64 hi.ridge
  | 22, v => v = .pointer (some ⟨b1, 6, none⟩)
  | 23, v => v = .pointer (some ⟨b1, 6 + 1, none⟩)
  | 24, v => v = .int .i64 hi.press
  | 25, v => v = .agg (iceV hi)
  | 26, _ => True
  | 27, _ => True
  | _, _ => True
set_option maxHeartbeats 4000000 in
theorem ends25_any (lo hi : Ic) (w : World) :
    Calls Tryz.prog 58 #[.agg (cellV lo hi)] w fun e w' => e = .returned (.tuple #[.agg (iceV lo), .agg (iceV hi)]) ∧ Below w.heap.size w w' := by
  obtain ⟨t1, t2, t3, tz, tb⟩ := three_allocs w (.cells (cellV lo hi) 30) Z53 Z53
  have H1 := Lib.hid t1
  have H2 := Lib.hid t2
  have H3 := Lib.hid t3
  have HB := Lib.hid tb
  clear t1 t2 t3 tb
  go_enter Tryz.func58, Tryz.ntmps58
  go_wp2_with fail
  generalize ((w.alloc (.cells (cellV lo hi) 30)).alloc Z53).alloc Z53 = X at *
  refine wp_region_fi [4, 5, 6, 7, 8, 9, 10, 11, 12, 13, 14, 15, 16, 17, 18, 19, 20, 21, 22, 23, 24, 25, 26, 27, 28, 29, 1000, 1001] (enF lo hi w.heap.size) (fun L _ W' => En w lo hi w.heap.size (w.heap.size + 1) (w.heap.size + 1 + 1) L W') (by kernel_rfl) (by kernel_rfl) ?sz ?ts ?z ?val ?fin
  case sz => intro s hs h; simp at hs ⊢; omega
  case ts => simp
  case z => exact En.later ⟨HB.out, H1.out, by simp only [if_neg (show ¬ false = true by simp)]; exact H2.out, by simp only [if_neg (show ¬ false = true by simp)]; exact H3.out⟩ (below_drawn X)
  case val =>
    intro i
    match i with
    | 0 => intro o L V ho hL hd a' W hX hfr hdp; obtain rfl := Option.some.inj ho; exact opx_of (op_fa59 rfl (hfr 1 (by decide)) (by decide)) fun W' hb => ⟨rfl, (hX.later hb).set 0 (by decide) (by decide)⟩
    | 1 => intro o L V ho hL hd a' W hX hfr hdp; obtain rfl := Option.some.inj ho; exact opx_of (op_fa57o rfl (Dp (hdp 0 4 (by decide) rfl (by kernel_rfl)) id) (by decide)) fun W' hb => ⟨rfl, (hX.later hb).set 1 (by decide) (by decide)⟩
    | 2 => intro o L V ho hL hd a' W hX hfr hdp; obtain rfl := Option.some.inj ho; exact opx_of (op_load3o rfl (Dp (hdp 1 5 (by decide) rfl (by kernel_rfl)) id) ((cell_of_block hX.c (0 + 0)).trans rfl)) fun W' hb => ⟨rfl, (hX.later hb).set 2 (by decide) (by decide)⟩
    | 3 => intro o L V ho hL hd a' W hX hfr hdp; obtain rfl := Option.some.inj ho; exact opx_of (op_fa59 rfl (hfr 1 (by decide)) (by decide)) fun W' hb => ⟨rfl, (hX.later hb).set 3 (by decide) (by decide)⟩
    | 4 => intro o L V ho hL hd a' W hX hfr hdp; obtain rfl := Option.some.inj ho; exact opx_of (op_fa57o rfl (Dp (hdp 3 7 (by decide) rfl (by kernel_rfl)) id) (by decide)) fun W' hb => ⟨rfl, (hX.later hb).set 4 (by decide) (by decide)⟩
    | 5 => intro o L V ho hL hd a' W hX hfr hdp; obtain rfl := Option.some.inj ho; exact opx_of (op_load3o rfl (Dp (hdp 4 8 (by decide) rfl (by kernel_rfl)) id) ((cell_of_block hX.c (2 + 0)).trans rfl)) fun W' hb => ⟨rfl, (hX.later hb).set 5 (by decide) (by decide)⟩
    | 6 => intro o L V ho hL hd a' W hX hfr hdp; obtain rfl := Option.some.inj ho; exact opx_of (op_fa59 rfl (hfr 1 (by decide)) (by decide)) fun W' hb => ⟨rfl, (hX.later hb).set 6 (by decide) (by decide)⟩
    | 7 => intro o L V ho hL hd a' W hX hfr hdp; obtain rfl := Option.some.inj ho; exact opx_of (op_fa57o rfl (Dp (hdp 6 10 (by decide) rfl (by kernel_rfl)) id) (by decide)) fun W' hb => ⟨rfl, (hX.later hb).set 7 (by decide) (by decide)⟩
    | 8 => intro o L V ho hL hd a' W hX hfr hdp; obtain rfl := Option.some.inj ho; exact opx_of (op_load3o rfl (Dp (hdp 7 11 (by decide) rfl (by kernel_rfl)) id) ((cell_of_block hX.c (4 + 0)).trans rfl)) fun W' hb => ⟨rfl, (hX.later hb).set 8 (by decide) (by decide)⟩
    | 9 => intro o L V ho hL hd a' W hX hfr hdp; obtain rfl := Option.some.inj ho; exact opx_of (op_fa59 rfl (hfr 1 (by decide)) (by decide)) fun W' hb => ⟨rfl, (hX.later hb).set 9 (by decide) (by decide)⟩
    | 10 => intro o L V ho hL hd a' W hX hfr hdp; obtain rfl := Option.some.inj ho; exact opx_of (op_fa57o rfl (Dp (hdp 9 13 (by decide) rfl (by kernel_rfl)) id) (by decide)) fun W' hb => ⟨rfl, (hX.later hb).set 10 (by decide) (by decide)⟩
    | 11 => intro o L V ho hL hd a' W hX hfr hdp; obtain rfl := Option.some.inj ho; exact opx_of (op_load3o rfl (Dp (hdp 10 14 (by decide) rfl (by kernel_rfl)) id) ((cell_of_block hX.c (6 + 0)).trans rfl)) fun W' hb => ⟨rfl, (hX.later hb).set 11 (by decide) (by decide)⟩
    | 12 => intro o L V ho hL hd a' W hX hfr hdp; obtain rfl := Option.some.inj ho; exact opx_of (op_b53 rfl (Dp (hdp 2 6 (by decide) rfl (by kernel_rfl)) id) (Dp (hdp 5 9 (by decide) rfl (by kernel_rfl)) id) (Dp (hdp 8 12 (by decide) rfl (by kernel_rfl)) id) (Dp (hdp 11 15 (by decide) rfl (by kernel_rfl)) id)) fun W' hb => ⟨rfl, (hX.later hb).set 12 (by decide) (by decide)⟩
    | 13 => intro o L V ho hL hd a' W hX hfr hdp; obtain rfl := Option.some.inj ho; exact opx_of (op_fa59 rfl (hfr 1 (by decide)) (by decide)) fun W' hb => ⟨rfl, (hX.later hb).set 13 (by decide) (by decide)⟩
    | 14 => intro o L V ho hL hd a' W hX hfr hdp; obtain rfl := Option.some.inj ho; exact opx_of (op_fa57o rfl (Dp (hdp 13 17 (by decide) rfl (by kernel_rfl)) id) (by decide)) fun W' hb => ⟨rfl, (hX.later hb).set 14 (by decide) (by decide)⟩
    | 15 => intro o L V ho hL hd a' W hX hfr hdp; obtain rfl := Option.some.inj ho; exact opx_of (op_load3o rfl (Dp (hdp 14 18 (by decide) rfl (by kernel_rfl)) id) ((cell_of_block hX.c (0 + 1)).trans rfl)) fun W' hb => ⟨rfl, (hX.later hb).set 15 (by decide) (by decide)⟩
    | 16 => intro o L V ho hL hd a' W hX hfr hdp; obtain rfl := Option.some.inj ho; exact opx_of (op_fa59 rfl (hfr 1 (by decide)) (by decide)) fun W' hb => ⟨rfl, (hX.later hb).set 16 (by decide) (by decide)⟩
    | 17 => intro o L V ho hL hd a' W hX hfr hdp; obtain rfl := Option.some.inj ho; exact opx_of (op_fa57o rfl (Dp (hdp 16 20 (by decide) rfl (by kernel_rfl)) id) (by decide)) fun W' hb => ⟨rfl, (hX.later hb).set 17 (by decide) (by decide)⟩
    | 18 => intro o L V ho hL hd a' W hX hfr hdp; obtain rfl := Option.some.inj ho; exact opx_of (op_load3o rfl (Dp (hdp 17 21 (by decide) rfl (by kernel_rfl)) id) ((cell_of_block hX.c (2 + 1)).trans rfl)) fun W' hb => ⟨rfl, (hX.later hb).set 18 (by decide) (by decide)⟩
    | 19 => intro o L V ho hL hd a' W hX hfr hdp; obtain rfl := Option.some.inj ho; exact opx_of (op_fa59 rfl (hfr 1 (by decide)) (by decide)) fun W' hb => ⟨rfl, (hX.later hb).set 19 (by decide) (by decide)⟩
    | 20 => intro o L V ho hL hd a' W hX hfr hdp; obtain rfl := Option.some.inj ho; exact opx_of (op_fa57o rfl (Dp (hdp 19 23 (by decide) rfl (by kernel_rfl)) id) (by decide)) fun W' hb => ⟨rfl, (hX.later hb).set 20 (by decide) (by decide)⟩
    | 21 => intro o L V ho hL hd a' W hX hfr hdp; obtain rfl := Option.some.inj ho; exact opx_of (op_load3o rfl (Dp (hdp 20 24 (by decide) rfl (by kernel_rfl)) id) ((cell_of_block hX.c (4 + 1)).trans rfl)) fun W' hb => ⟨rfl, (hX.later hb).set 21 (by decide) (by decide)⟩
    | 22 => intro o L V ho hL hd a' W hX hfr hdp; obtain rfl := Option.some.inj ho; exact opx_of (op_fa59 rfl (hfr 1 (by decide)) (by decide)) fun W' hb => ⟨rfl, (hX.later hb).set 22 (by decide) (by decide)⟩
    | 23 => intro o L V ho hL hd a' W hX hfr hdp; obtain rfl := Option.some.inj ho; exact opx_of (op_fa57o rfl (Dp (hdp 22 26 (by decide) rfl (by kernel_rfl)) id) (by decide)) fun W' hb => ⟨rfl, (hX.later hb).set 23 (by decide) (by decide)⟩
    | 24 => intro o L V ho hL hd a' W hX hfr hdp; obtain rfl := Option.some.inj ho; exact opx_of (op_load3o rfl (Dp (hdp 23 27 (by decide) rfl (by kernel_rfl)) id) ((cell_of_block hX.c (6 + 1)).trans rfl)) fun W' hb => ⟨rfl, (hX.later hb).set 24 (by decide) (by decide)⟩
    | 25 => intro o L V ho hL hd a' W hX hfr hdp; obtain rfl := Option.some.inj ho; exact opx_of (op_b53 rfl (Dp (hdp 15 19 (by decide) rfl (by kernel_rfl)) id) (Dp (hdp 18 22 (by decide) rfl (by kernel_rfl)) id) (Dp (hdp 21 25 (by decide) rfl (by kernel_rfl)) id) (Dp (hdp 24 28 (by decide) rfl (by kernel_rfl)) id)) fun W' hb => ⟨rfl, (hX.later hb).set 25 (by decide) (by decide)⟩
    | 26 =>
      intro o L V ho hL hd a' W hX hfr hdp; obtain rfl := Option.some.inj ho
      have hz := hX.x
      rw [hL, if_neg (by simp)] at hz
      exact opx_store53 rfl rfl (hfr 2 (by decide)) (Dp (hdp 12 16 (by decide) rfl (by kernel_rfl)) id) hz fun W' hb hc => ⟨trivial, hX.low.trans (hc.below (by omega)), (hc.2.1 _ (by omega)).trans hX.c, by simp only [if_true]; exact hb, by simpa using (hc.2.1 _ (by omega)).trans hX.y⟩
    | 27 =>
      intro o L V ho hL hd a' W hX hfr hdp; obtain rfl := Option.some.inj ho
      have hz := hX.y
      rw [hL, if_neg (by simp)] at hz
      exact opx_store53 rfl rfl (hfr 3 (by decide)) (Dp (hdp 25 29 (by decide) rfl (by kernel_rfl)) id) hz fun W' hb hc => ⟨trivial, hX.low.trans (hc.below (by omega)), (hc.2.1 _ (by omega)).trans hX.c, by simpa using (hc.2.1 _ (by omega)).trans hX.x, by simp only [if_true]; exact hb⟩
    | j + 28 => intro o L V ho; simp at ho
  case fin =>
    intro W1 L V hL hF hI
    have h1 := hI.x
    have h2 := hI.y
    rw [hL 26 (by decide), if_pos rfl] at h1
    rw [hL 27 (by decide), if_pos rfl] at h2
    have HBE := Lib.hid hI.low
    clear hI hF hL H1 H2 H3 HB
    simp only [fill, Act.put, List.setIfInBounds_toArray, List.set_cons_zero, List.set_cons_succ, List.set_nil, Nat.reduceAdd]
    generalize V 0 = v0, V 1 = v1, V 2 = v2, V 3 = v3, V 4 = v4, V 5 = v5, V 6 = v6, V 7 = v7, V 8 = v8, V 9 = v9, V 10 = v10, V 11 = v11, V 12 = v12, V 13 = v13, V 14 = v14, V 15 = v15, V 16 = v16, V 17 = v17, V 18 = v18, V 19 = v19, V 20 = v20, V 21 = v21, V 22 = v22, V 23 = v23, V 24 = v24, V 25 = v25, V 26 = v26, V 27 = v27
    clear V
    obtain ⟨⟨c0, c1, c2, c3⟩, _⟩ := cells4 h1
    obtain ⟨⟨d0, d1, d2, d3⟩, _⟩ := cells4 h2
    clear h1 h2
    go_wp2_with fail
    refine bodyPost_ret (v := .tuple #[.agg (iceV lo), .agg (iceV hi)]) (by simp [results, Tryz.results58, go_sem, c0, c1, c2, c3, d0, d1, d2, d3, iceV]) rfl ⟨rfl, HBE.out⟩
end Go.Proofs.YtcoiklolgilhaaaGreatDoor
