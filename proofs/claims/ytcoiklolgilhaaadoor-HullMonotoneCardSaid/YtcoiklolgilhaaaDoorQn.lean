/- A rule for regions that draw their order, by a fact for each operation's value and one for the memory; operations for it; the law's closure that makes spans. Condition: allSB, a closed check. -/
import Derived.Test.YtcoiklolgilhaaaDoorQg
import Derived.Test.YtcoiklolgilhaaaDoorQc
import Derived.Test.YtcoiklolgilhaaaDoorQa
namespace Go.Proofs.YtcoiklolgilhaaaDoor
open Go.RowKit
set_option maxRecDepth 100000
section
variable {P : Program} {Q : Exit → Act → World → Prop}
theorem wp_region_fi {id : Nat} {a : Act} {w : World} {l : List Oper} (slots : List Nat) (F : Nat → Value → Prop) (I : (Nat → Bool) → (Nat → Value) → World → Prop)
    (hm : P.follows .mixedOrders = true) (hB : allSB l.toArray slots = true) (hsz : ∀ s ∈ slots, s < 1000 → s < a.tmps.size) (hts : a.tmps.size ≤ 1000)
    (h0 : I (fun _ => false) (fun _ => undef) { w with drawn := w.drawn + 1 })
    (hval : ∀ i o L V, l[i]? = some o → L i = false → (∀ j, Region.waitsFor .any l.toArray i j = true → L j = true) → ∀ a' W, I L V W → (∀ t, t ∉ slots → a'.eval (.tmp t) = a.eval (.tmp t)) →
      (∀ j s, s < 1000 → slots[j]? = some s → Region.waitsFor .any l.toArray i j = true → a'.eval (.tmp s) = V j ∧ F j (V j)) →
      o.wp P a' W (fun a'' W' => ∃ x, a'' = a'.put o.dst x ∧ F i x ∧ I (fun j => if j = i then true else L j) (fun j => if j = i then x else V j) W') Q)
    (hend : ∀ (W : World) L V, (∀ i, i < l.length → L i = true) → (∀ i, i < l.length → F i (V i)) → I L V W → Q .normal (fill slots 0 (fun i => some (V i)) a) W) :
    (Code.region id l.toArray true).wp P Q a w := by
  refine wp_region_all slots (fun L V W => (∀ j, L j = true → F j (V j)) ∧ I L V W) hm hB hsz hts ⟨fun j h => (by cases h), h0⟩ ?_ ?_
  · rintro i o L V ho hL hd a' W ⟨hF, hI⟩ hfr hdp
    refine Oper.wp_mono ?_ (hval i o L V ho hL hd a' W hI hfr (fun j s h1 h2 h3 => ⟨hdp j s h1 h2 h3, hF j (hd j h3)⟩))
    rintro a'' W' ⟨x, rfl, hx, hI'⟩
    refine ⟨x, rfl, fun j hj => ?_, hI'⟩
    by_cases e : j = i
    · subst e
      simp only [if_true]
      exact hx
    · simp only [if_neg e] at hj ⊢
      exact hF j hj
  · rintro W L V hL ⟨hF, hI⟩
    exact hend W L V hL (fun i hi => hF i (hL i hi)) hI
end
theorem Dp {a b c : Value} {p : Prop} (h : a = b ∧ p) (k : p → b = c) : a = c := h.1.trans (k h.2)
section
variable {Q : Exit → Act → World → Prop} {o : Oper} {a' : Act} {W : World}
theorem op_load80 {s b off : Nat} {v : Value} (hop : o.op = Op.load 80 (.tmp s)) (he : a'.eval (.tmp s) = .pointer (some ⟨b, off, none⟩)) (hc : W.cell? ⟨b, off, none⟩ = some v) :
    o.wp Tryd.prog a' W (fun a'' W' => a'' = a'.put o.dst v ∧ Below W.heap.size W W') Q := by
  have hr := Below.refl W.heap.size W
  have he' : a'.tmps[s]?.getD undef = .pointer (some ⟨b, off, none⟩) := by simpa [Act.eval] using he
  unfold Oper.wp execOp
  rw [hop]
  simp [go_sem, he', hc, hr]
theorem op_load3o {s b off : Nat} {v : Value} (hop : o.op = Op.load 3 (.tmp s)) (he : a'.eval (.tmp s) = .pointer (some ⟨b, off, none⟩)) (hc : W.cell? ⟨b, off, none⟩ = some v) :
    o.wp Tryd.prog a' W (fun a'' W' => a'' = a'.put o.dst v ∧ Below W.heap.size W W') Q := by
  have hr := Below.refl W.heap.size W
  have he' : a'.tmps[s]?.getD undef = .pointer (some ⟨b, off, none⟩) := by simpa [Act.eval] using he
  unfold Oper.wp execOp
  rw [hop]
  simp [go_sem, he', hc, hr]
theorem op_quot {s t : Nat} {x y : Int} (hop : o.op = Op.binOp .quo 3 (.tmp s) (.tmp t) 3) (he : a'.eval (.tmp s) = .int .i64 x) (ht : a'.eval (.tmp t) = .int .i64 y) (hy : y ≠ 0) (hw : -9223372036854775808 ≤ x.tdiv y ∧ x.tdiv y ≤ 9223372036854775807) :
    o.wp Tryd.prog a' W (fun a'' W' => a'' = a'.put o.dst (.int .i64 (x.tdiv y)) ∧ Below W.heap.size W W') Q := by
  have hr := Below.refl W.heap.size W
  have he' : a'.tmps[s]?.getD undef = .int .i64 x := by simpa [Act.eval] using he
  have ht' : a'.tmps[t]?.getD undef = .int .i64 y := by simpa [Act.eval] using ht
  have hw' := i64w _ hw
  unfold Oper.wp execOp
  rw [hop]
  simp [go_sem, he', ht', hw', hr, hy]
theorem op_addc {s : Nat} {c x : Int} (hop : o.op = Op.binOp .add 3 (.tmp s) (.const (.int .i64 c)) 3) (he : a'.eval (.tmp s) = .int .i64 x) (hw : -9223372036854775808 ≤ x + c ∧ x + c ≤ 9223372036854775807) :
    o.wp Tryd.prog a' W (fun a'' W' => a'' = a'.put o.dst (.int .i64 (x + c)) ∧ Below W.heap.size W W') Q := by
  have hr := Below.refl W.heap.size W
  have he' : a'.tmps[s]?.getD undef = .int .i64 x := by simpa [Act.eval] using he
  have hw' := i64w _ hw
  unfold Oper.wp execOp
  rw [hop]
  simp [go_sem, he', hw', hr]
theorem op_subt {s t : Nat} {x y : Int} (hop : o.op = Op.binOp .sub 3 (.tmp s) (.tmp t) 3) (he : a'.eval (.tmp s) = .int .i64 x) (ht : a'.eval (.tmp t) = .int .i64 y) (hw : -9223372036854775808 ≤ x - y ∧ x - y ≤ 9223372036854775807) :
    o.wp Tryd.prog a' W (fun a'' W' => a'' = a'.put o.dst (.int .i64 (x - y)) ∧ Below W.heap.size W W') Q := by
  have hr := Below.refl W.heap.size W
  have he' : a'.tmps[s]?.getD undef = .int .i64 x := by simpa [Act.eval] using he
  have ht' : a'.tmps[t]?.getD undef = .int .i64 y := by simpa [Act.eval] using ht
  have hw' := i64w _ hw
  unfold Oper.wp execOp
  rw [hop]
  simp [go_sem, he', ht', hw', hr]
theorem op_mult {s t : Nat} {x y : Int} (hop : o.op = Op.binOp .mul 3 (.tmp s) (.tmp t) 3) (he : a'.eval (.tmp s) = .int .i64 x) (ht : a'.eval (.tmp t) = .int .i64 y) (hw : -9223372036854775808 ≤ x * y ∧ x * y ≤ 9223372036854775807) :
    o.wp Tryd.prog a' W (fun a'' W' => a'' = a'.put o.dst (.int .i64 (x * y)) ∧ Below W.heap.size W W') Q := by
  have hr := Below.refl W.heap.size W
  have he' : a'.tmps[s]?.getD undef = .int .i64 x := by simpa [Act.eval] using he
  have ht' : a'.tmps[t]?.getD undef = .int .i64 y := by simpa [Act.eval] using ht
  have hw' := i64w _ hw
  unfold Oper.wp execOp
  rw [hop]
  simp [go_sem, he', ht', hw', hr]
theorem op_mint {s t : Nat} {x y : Int} (hop : o.op = Op.call { callee := .builtin .min, args := #[.tmp s, .tmp t], argTypes := #[3, 3] }) (he : a'.eval (.tmp s) = .int .i64 x) (ht : a'.eval (.tmp t) = .int .i64 y) :
    o.wp Tryd.prog a' W (fun a'' W' => a'' = a'.put o.dst (.int .i64 (mn x y)) ∧ Below W.heap.size W W') Q := by
  have hr := Below.refl W.heap.size W
  have he' : a'.tmps[s]?.getD undef = .int .i64 x := by simpa [Act.eval] using he
  have ht' : a'.tmps[t]?.getD undef = .int .i64 y := by simpa [Act.eval] using ht
  unfold Oper.wp execOp
  rw [hop]
  have := mn_if x y
  by_cases h : y < x
  · rw [if_pos h] at this
    simp [go_sem, he', ht', hr, h, ← this]
  · rw [if_neg h] at this
    simp [go_sem, he', ht', hr, h, ← this]
theorem op_b57 {s : Nat} {x : Int} (hop : o.op = Op.build 57 #[(0, .tmp s)]) (he : a'.eval (.tmp s) = .int .i64 x) :
    o.wp Tryd.prog a' W (fun a'' W' => a'' = a'.put o.dst (.agg #[.int .i64 x, .int .i64 0]) ∧ Below W.heap.size W W') Q := by
  have hr := Below.refl W.heap.size W
  have he' : a'.tmps[s]?.getD undef = .int .i64 x := by simpa [Act.eval] using he
  unfold Oper.wp execOp
  rw [hop]
  simp [go_sem, he', hr]
theorem opx_callt {f t s : Nat} {v : Value} {lb : Array Value} {ts : Array TypeId} {Rq : Value → World → Prop} (hop : o.op = Op.call { callee := .value (.tmp t), args := #[.tmp s], argTypes := ts })
    (ht : a'.eval (.tmp t) = .func (.func f) #[] lb) (he : a'.eval (.tmp s) = v) (eg : ∀ args w, (callFunc f args).run Tryd.prog w = .ok (.enter f args) w) (hc : Calls Tryd.prog f (#[v] ++ lb) W fun e W' => ∃ r, e = .returned r ∧ Rq r W') :
    o.wp Tryd.prog a' W (fun a'' W' => ∃ x, a'' = a'.put o.dst x ∧ Rq x W') Q := by
  have ht' : a'.tmps[t]?.getD undef = .func (.func f) #[] lb := by simpa [Act.eval] using ht
  have he' : a'.tmps[s]?.getD undef = v := by simpa [Act.eval] using he
  unfold Oper.wp execOp
  rw [hop]
  simp [go_sem, ht', he', eg]
  refine hc.mono ?_
  rintro e w' ⟨r, rfl, hb⟩
  exact ⟨r, rfl, hb⟩
theorem opx_store3 {s r b off : Nat} {n : Int} {t : TypeId} {cs : Array Value} {Rq : Value → World → Prop} (hd : o.dst = none) (hop : o.op = Op.store 3 (.tmp s) (.tmp r))
    (he : a'.eval (.tmp s) = .pointer (some ⟨b, off, none⟩)) (hv : a'.eval (.tmp r) = .int .i64 n) (hb : W.heap[b]? = some (.cells cs t (0, 0))) (hlt : off < cs.size)
    (hR : ∀ W', W'.heap[b]? = some (.cells (cs.setIfInBounds off (.int .i64 n)) t (0, 0)) → Chg b W W' → Rq undef W') :
    o.wp Tryd.prog a' W (fun a'' W' => ∃ x, a'' = a'.put o.dst x ∧ Rq x W') Q := by
  have cc := (cell_of_block hb off).trans (Array.getElem?_eq_getElem hlt)
  have f := frozen_of_block hb off
  have he' : a'.tmps[s]?.getD undef = .pointer (some ⟨b, off, none⟩) := by simpa [Act.eval] using he
  have hv' : a'.tmps[r]?.getD undef = .int .i64 n := by simpa [Act.eval] using hv
  have hfin := hR (W.setCell ⟨b, off, none⟩ (.int .i64 n)) (setCell_block hb _ _) (chg_setCell _ _ _ _)
  unfold Oper.wp execOp
  rw [hop]
  simp [go_sem, he', hv', cc, f, hd]
  exact ⟨_, hfin⟩
end
end Go.Proofs.YtcoiklolgilhaaaDoor
