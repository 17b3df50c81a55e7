/- What the law HullBetter keeps in memory: the copied ship's block and rows; a point's Y stored in place; operations for it. The law HullBetter behind the thrust: water, ice and the four numbers; then who is never slower. -/
import Derived.Test.YtcoiklolgilhaaaDoorTk
import Derived.Test.YtcoiklolgilhaaaDoorSg
import Derived.Test.YtcoiklolgilhaaaDoorTd
import Derived.Test.YtcoiklolgilhaaaDoorSh
namespace Go.Proofs.YtcoiklolgilhaaaDoor
open Go.RowKit
set_option maxRecDepth 100000
theorem flatP_set (l : List (Int × Int)) (i : Nat) (q : Int × Int) (y : Int) (h : l[i]? = some q) : flatP (l.set i (q.1, y)) = (flatP l).set (i * 2 + 1) (.int .i64 y) := by
  induction l generalizing i with
  | nil => simp at h
  | cons a l ih =>
    cases i with
    | zero =>
      simp at h
      subst h
      simp [flatP]
    | succ i =>
      simp at h
      have := ih i h
      simp only [List.set_cons_succ, flatP, List.flatMap_cons] at this ⊢
      rw [this]
      rw [show (i + 1) * 2 + 1 = (i * 2 + 1) + 1 + 1 by omega]
      simp
theorem ptsL_mod (c : Cv) (f : Nat → Int → Int) (j : Nat) (hj : j < c.n) : ptsL (modC c f (j + 1)) = (ptsL (modC c f j)).set j (c.x j, f j (c.y j)) := by
  refine List.ext_getElem? fun i => ?_
  by_cases hi : i < c.n
  · by_cases e : i = j
    · subst e
      simp [ptsL, modC, hi]
    · have e' : ¬ j = i := fun h => e h.symm
      have : (i < j + 1) ↔ (i < j) := by omega
      simp [ptsL, modC, hi, e', this]
  · by_cases e : j = i
    · omega
    · simp [ptsL, modC, hi]
theorem mod_zero (c : Cv) (f : Nat → Int → Int) : ptsL (modC c f 0) = ptsL c := by
  simp [ptsL, modC]
/-- one Y stored in place -/
theorem prow_set {W W' : World} {base b : Nat} {c : Cv} {f : Nat → Int → Int} {j n cap : Nat} (h : PRow W base (.slice (some ⟨b, 0, none⟩) n cap) (ptsL (modC c f j))) (hj : j < c.n)
    (hw : ∀ cs t, W.heap[b]? = some (.cells cs t (0, 0)) → W'.heap[b]? = some (.cells (cs.setIfInBounds (j * 2 + 1) (.int .i64 (f j (c.y j)))) t (0, 0))) :
    PRow W' base (.slice (some ⟨b, 0, none⟩) n cap) (ptsL (modC c f (j + 1))) := by
  have hlen : (ptsL (modC c f (j + 1))).length = (ptsL (modC c f j)).length := by rw [ptsL_len, ptsL_len]; rfl
  have hg : (ptsL (modC c f j))[j]? = some (c.x j, c.y j) := by simp [ptsL, modC, hj]
  have hf := flatP_set (ptsL (modC c f j)) j (c.x j, c.y j) (f j (c.y j)) hg
  unfold PRow at h ⊢
  rw [hlen, ptsL_mod c f j hj, hf]
  refine ⟨by rw [List.length_set]; exact h.1, ?_⟩
  rcases h.2 with ⟨e, _⟩ | ⟨g, cap', cur, e, hbg, hgb, hn, hcap, hsz, htk⟩
  · cases e
  · simp only [Value.slice.injEq, Option.some.injEq, Addr.mk.injEq, and_true] at e
    obtain ⟨rfl, rfl, rfl⟩ := e
    refine .inr ⟨b, cap, cur.setIfInBounds (j * 2 + 1) (.int .i64 (f j (c.y j))), by rfl, hbg, hw _ _ hgb, hn, hcap, by simpa using hsz, ?_⟩
    rw [Array.toList_setIfInBounds, List.take_set, htk]
section
variable {Q : Exit → Act → World → Prop} {o : Oper} {a' : Act} {W : World}
theorem op_idx22 {s t g n cap i : Nat} (hi : i < n) (hop : o.op = Op.indexAddr 22 (.tmp s) (.tmp t)) (he : a'.eval (.tmp s) = .slice (some ⟨g, 0, none⟩) n cap) (ht : a'.eval (.tmp t) = .int .i64 i) :
    o.wp Tryd.prog a' W (fun a'' W' => a'' = a'.put o.dst (.pointer (some ⟨g, i * 2, none⟩)) ∧ Below W.heap.size W W') Q := by
  have hr := Below.refl W.heap.size W
  have he' : a'.tmps[s]?.getD undef = .slice (some ⟨g, 0, none⟩) n cap := by simpa [Act.eval] using he
  have ht' : a'.tmps[t]?.getD undef = .int .i64 i := by simpa [Act.eval] using ht
  have hi' : (i : Int) < (n : Int) := by omega
  have hi0 : (0 : Int) ≤ (i : Int) := by omega
  unfold Oper.wp execOp
  rw [hop]
  simp [go_sem, he', ht', hi', hi0, hr]
theorem op_fa30 {s b k off : Nat} (hop : o.op = Op.fieldAddr 30 (.tmp s) k) (he : a'.eval (.tmp s) = .pointer (some ⟨b, off, none⟩)) (hk : k < 2) :
    o.wp Tryd.prog a' W (fun a'' W' => a'' = a'.put o.dst (.pointer (some ⟨b, off + k, none⟩)) ∧ Below W.heap.size W W') Q := by
  have hr := Below.refl W.heap.size W
  have he' : a'.tmps[s]?.getD undef = .pointer (some ⟨b, off, none⟩) := by simpa [Act.eval] using he
  unfold Oper.wp execOp
  rw [hop]
  have : k = 0 ∨ k = 1 := by omega
  rcases this with rfl | rfl <;> simp [go_sem, he', hr]
theorem op_len22 {s n cap : Nat} {p : Option Addr} (hop : o.op = Op.call { callee := .builtin .len, args := #[.tmp s], argTypes := #[22] }) (he : a'.eval (.tmp s) = .slice p n cap) :
    o.wp Tryd.prog a' W (fun a'' W' => a'' = a'.put o.dst (.int .i64 (n : Int)) ∧ Below W.heap.size W W') Q := by
  have hr := Below.refl W.heap.size W
  have he' : a'.tmps[s]?.getD undef = .slice p n cap := by simpa [Act.eval] using he
  unfold Oper.wp execOp
  rw [hop]
  simp [go_sem, he', hr]
theorem op_mulk {s : Nat} {c x : Int} (hop : o.op = Op.binOp .mul 3 (.tmp s) (.const (.int .i64 c)) 3) (he : a'.eval (.tmp s) = .int .i64 x) (hw : -9223372036854775808 ≤ x * c ∧ x * c ≤ 9223372036854775807) :
    o.wp Tryd.prog a' W (fun a'' W' => a'' = a'.put o.dst (.int .i64 (x * c)) ∧ Below W.heap.size W W') Q := by
  have hr := Below.refl W.heap.size W
  have he' : a'.tmps[s]?.getD undef = .int .i64 x := by simpa [Act.eval] using he
  have hw' := i64w _ hw
  unfold Oper.wp execOp
  rw [hop]
  simp [go_sem, he', hw', hr]
theorem op_quok {s : Nat} {c x : Int} (hop : o.op = Op.binOp .quo 3 (.tmp s) (.const (.int .i64 c)) 3) (he : a'.eval (.tmp s) = .int .i64 x) (hx : 0 ≤ x) (hx' : x ≤ 9223372036854775807) (hc : c = 2 ∨ c = 4) :
    o.wp Tryd.prog a' W (fun a'' W' => a'' = a'.put o.dst (.int .i64 (x / c)) ∧ Below W.heap.size W W') Q := by
  have hr := Below.refl W.heap.size W
  have he' : a'.tmps[s]?.getD undef = .int .i64 x := by simpa [Act.eval] using he
  have e : x.tdiv c = x / c := Int.tdiv_eq_ediv_of_nonneg hx
  have hw' := i64w (x / c) (by rcases hc with rfl | rfl <;> omega)
  unfold Oper.wp execOp
  rw [hop]
  rcases hc with rfl | rfl <;> simp [go_sem, he', e, hw', hr]
end
/-- what lies in memory while the ship is made better -/
structure Bw (w1 : World) (p : Option Addr) (k cap Bi Bl B14 M : Nat) (s : Sh) (z7 z8 z9 z10 : Int) (v4 v5 v6 : Value) (c4 c5 c6 : Cv) (W : World) : Prop where
  nx : NxIn w1 p k cap Bi Bl W
  bt : W.heap[B14]? = some (.cells #[.int .i64 s.cls, .int .i64 s.pow, .int .i64 s.dra, .int .i64 s.ton, v4, v5, v6, .int .i64 z7, .int .i64 z8, .int .i64 z9, .int .i64 z10] 24 (0, 0))
  r4 : PRow W M v4 (ptsL c4)
  r5 : PRow W M v5 (ptsL c5)
  r6 : PRow W M v6 (ptsL c6)
/-- whose blocks are whose -/
structure Ds (Bi Bl B14 : Nat) (v4 v5 v6 : Value) : Prop where
  f4 : ∀ j, v4.ownBlock = some j → j ≠ Bi ∧ j ≠ Bl ∧ j ≠ B14 ∧ v5.ownBlock ≠ some j ∧ v6.ownBlock ≠ some j
  f5 : ∀ j, v5.ownBlock = some j → j ≠ Bi ∧ j ≠ Bl ∧ j ≠ B14 ∧ v4.ownBlock ≠ some j ∧ v6.ownBlock ≠ some j
  f6 : ∀ j, v6.ownBlock = some j → j ≠ Bi ∧ j ≠ Bl ∧ j ≠ B14 ∧ v4.ownBlock ≠ some j ∧ v5.ownBlock ≠ some j
section
variable {w1 : World} {p : Option Addr} {k cap Bi Bl B14 M : Nat} {s : Sh} {z7 z8 z9 z10 : Int} {v4 v5 v6 : Value} {c4 c5 c6 c4' c5' c6' : Cv} {W W' : World} {g : Nat}
theorem Bw.later (h : Bw w1 p k cap Bi Bl B14 M s z7 z8 z9 z10 v4 v5 v6 c4 c5 c6 W) (hb : Below W.heap.size W W') : Bw w1 p k cap Bi Bl B14 M s z7 z8 z9 z10 v4 v5 v6 c4 c5 c6 W' :=
  ⟨h.nx.later hb, (hb.block _ (lt_of_block h.bt)).trans h.bt, row_later h.r4 hb, row_later h.r5 hb, row_later h.r6 hb⟩
theorem Bw.next (h : Bw w1 p k cap Bi Bl B14 M s z7 z8 z9 z10 v4 v5 v6 c4 c5 c6 W) (d : Ds Bi Bl B14 v4 v5 v6) (hN : NxIn w1 p k cap Bi Bl W') (hC : Chg Bi W W') (hne : B14 ≠ Bi) : Bw w1 p k cap Bi Bl B14 M s z7 z8 z9 z10 v4 v5 v6 c4 c5 c6 W' :=
  ⟨hN, (hC.2.1 _ hne).trans h.bt, prow_sto h.r4 hC (fun e => (d.f4 _ e).1 rfl), prow_sto h.r5 hC (fun e => (d.f5 _ e).1 rfl), prow_sto h.r6 hC (fun e => (d.f6 _ e).1 rfl)⟩
theorem Bw.sto4 (h : Bw w1 p k cap Bi Bl B14 M s z7 z8 z9 z10 v4 v5 v6 c4 c5 c6 W) (d : Ds Bi Bl B14 v4 v5 v6) (hv : v4.ownBlock = some g) (hC : Chg g W W') (hg : w1.heap.size ≤ g) (hr : PRow W' M v4 (ptsL c4')) : Bw w1 p k cap Bi Bl B14 M s z7 z8 z9 z10 v4 v5 v6 c4' c5 c6 W' := by
  obtain ⟨a, b, c, e, f⟩ := d.f4 g hv
  exact ⟨h.nx.keep (h.nx.low.trans (hC.below hg)) (hC.2.1 _ (Ne.symm a)) (hC.2.1 _ (Ne.symm b)), (hC.2.1 _ (Ne.symm c)).trans h.bt, hr, prow_sto h.r5 hC e, prow_sto h.r6 hC f⟩
theorem Bw.sto5 (h : Bw w1 p k cap Bi Bl B14 M s z7 z8 z9 z10 v4 v5 v6 c4 c5 c6 W) (d : Ds Bi Bl B14 v4 v5 v6) (hv : v5.ownBlock = some g) (hC : Chg g W W') (hg : w1.heap.size ≤ g) (hr : PRow W' M v5 (ptsL c5')) : Bw w1 p k cap Bi Bl B14 M s z7 z8 z9 z10 v4 v5 v6 c4 c5' c6 W' := by
  obtain ⟨a, b, c, e, f⟩ := d.f5 g hv
  exact ⟨h.nx.keep (h.nx.low.trans (hC.below hg)) (hC.2.1 _ (Ne.symm a)) (hC.2.1 _ (Ne.symm b)), (hC.2.1 _ (Ne.symm c)).trans h.bt, prow_sto h.r4 hC e, hr, prow_sto h.r6 hC f⟩
theorem Bw.sto6 (h : Bw w1 p k cap Bi Bl B14 M s z7 z8 z9 z10 v4 v5 v6 c4 c5 c6 W) (d : Ds Bi Bl B14 v4 v5 v6) (hv : v6.ownBlock = some g) (hC : Chg g W W') (hg : w1.heap.size ≤ g) (hr : PRow W' M v6 (ptsL c6')) : Bw w1 p k cap Bi Bl B14 M s z7 z8 z9 z10 v4 v5 v6 c4 c5 c6' W' := by
  obtain ⟨a, b, c, e, f⟩ := d.f6 g hv
  exact ⟨h.nx.keep (h.nx.low.trans (hC.below hg)) (hC.2.1 _ (Ne.symm a)) (hC.2.1 _ (Ne.symm b)), (hC.2.1 _ (Ne.symm c)).trans h.bt, prow_sto h.r4 hC e, prow_sto h.r5 hC f, hr⟩
/-- a point of a row -/
theorem prow_cell {b n cp i : Nat} {c : Cv} (h : PRow W M (.slice (some ⟨b, 0, none⟩) n cp) (ptsL c)) (hi : i < c.n) : W.cell? ⟨b, i * 2, none⟩ = some (.int .i64 (c.x i)) ∧ W.cell? ⟨b, i * 2 + 1, none⟩ = some (.int .i64 (c.y i)) := by
  obtain ⟨b', o', e, _, h1, h2⟩ := h.pts i (by show i < (ptsL c).length; rw [ptsL_len]; exact hi)
  simp only [Option.some.injEq, Addr.mk.injEq, and_true] at e
  obtain ⟨rfl, rfl⟩ := e
  rw [(ptsL_get c hi).1, Nat.zero_add] at h1
  rw [(ptsL_get c hi).2, Nat.zero_add] at h2
  exact ⟨h1, h2⟩
theorem prow_block {b n cp : Nat} {l : List (Int × Int)} (h : PRow W M (.slice (some ⟨b, 0, none⟩) n cp) l) : n = l.length ∧ M ≤ b ∧ ∃ cs : Array Value, W.heap[b]? = some (.cells cs 30 (0, 0)) ∧ l.length * 2 ≤ cs.size := by
  rcases h.2 with ⟨e, _⟩ | ⟨g, cap', cur, e, hbg, hgb, hn, hcap, hsz, htk⟩
  · cases e
  · simp only [Value.slice.injEq, Option.some.injEq, Addr.mk.injEq, and_true] at e
    obtain ⟨rfl, rfl, rfl⟩ := e
    exact ⟨rfl, hbg, cur, hgb, by rw [hsz]; omega⟩
end
end Go.Proofs.YtcoiklolgilhaaaDoor
namespace Go.Proofs.YtcoiklolgilhaaaDoor
open Go.RowKit
set_option maxRecDepth 100000
/-- a region with one store: what must have run before it, and the memory before and behind it -/
structure St (q e : Nat) (R : Bool → World → Prop) (L : Nat → Bool) (W : World) : Prop where
  d : L q = true → L e = true
  r : R (L q) W
theorem St.set {q e : Nat} {R : Bool → World → Prop} {L : Nat → Bool} {W : World} (h : St q e R L W) (i : Nat) (hi : i ≠ q) : St q e R (fun j => if j = i then true else L j) W := by
  refine ⟨?_, ?_⟩
  · simp only [if_neg (Ne.symm hi)]
    intro hq
    by_cases e' : e = i
    · rw [if_pos e']
    · rw [if_neg e']; exact h.d hq
  · simp only [if_neg (Ne.symm hi)]; exact h.r
theorem St.up {q e : Nat} {R : Bool → World → Prop} {L : Nat → Bool} {W W' : World} (h : St q e R L W) (hR : R (L q) W') : St q e R L W' := ⟨h.d, hR⟩
theorem St.fin {q e : Nat} {R : Bool → World → Prop} {L : Nat → Bool} {W' : World} (he : L e = true) (hR : R true W') : St q e R (fun j => if j = q then true else L j) W' := by
  refine ⟨fun _ => ?_, ?_⟩
  · by_cases e' : e = q
    · rw [if_pos e']
    · rw [if_neg e']; exact he
  · simp only [if_true]; exact hR
theorem St.off {q e : Nat} {R : Bool → World → Prop} {L : Nat → Bool} {W : World} (h : St q e R L W) (hL : L e = false) : L q = false := by
  cases hq : L q with
  | false => rfl
  | true => rw [h.d hq] at hL; cases hL
def jn (b : Bool) (j : Nat) : Nat := if b = true then j + 1 else j
theorem prow_some {W : World} {base : Nat} {q : Option Addr} {n c : Nat} {l : List (Int × Int)} (h : PRow W base (.slice q n c) l) (hl : 1 ≤ l.length) : ∃ g, q = some ⟨g, 0, none⟩ := by
  rcases h.2 with ⟨_, e⟩ | ⟨g, cap, cur, e, _⟩
  · omega
  · simp only [Value.slice.injEq] at e
    exact ⟨g, e.1⟩
def bF7 (B g n cp : Nat) (c : Cv) (j : Nat) : Nat → Value → Prop
  | 0, v => v = .pointer (some ⟨B, 4, none⟩)
  | 1, v => v = .slice (some ⟨g, 0, none⟩) n cp
  | 2, v => v = .int .i64 (j : Int)
  | 3, v => v = .pointer (some ⟨g, j * 2, none⟩)
  | 4, v => v = .pointer (some ⟨g, j * 2 + 1, none⟩)
  | 5, v => v = .int .i64 (c.y j)
  | 6, v => v = .pointer (some ⟨B, 4, none⟩)
  | 7, v => v = .slice (some ⟨g, 0, none⟩) n cp
  | 8, v => v = .int .i64 (n : Int)
  | 9, v => v = .int .i64 (j : Int)
  | 10, v => v = .int .i64 ((n : Int) - (j : Int))
  | 11, v => v = .int .i64 (50 * ((n : Int) - (j : Int)))
  | 12, v => v = .int .i64 (fTh n j (c.y j))
  | 13, v => v = .pointer (some ⟨g, j * 2, none⟩)
  | 14, v => v = .pointer (some ⟨g, j * 2 + 1, none⟩)
  | _, _ => True
def bF15 (B g n cp : Nat) (c : Cv) (j : Nat) : Nat → Value → Prop
  | 0, v => v = .pointer (some ⟨B, 5, none⟩)
  | 1, v => v = .slice (some ⟨g, 0, none⟩) n cp
  | 2, v => v = .int .i64 (j : Int)
  | 3, v => v = .pointer (some ⟨B, 5, none⟩)
  | 4, v => v = .slice (some ⟨g, 0, none⟩) n cp
  | 5, v => v = .int .i64 (j : Int)
  | 6, v => v = .pointer (some ⟨g, j * 2, none⟩)
  | 7, v => v = .pointer (some ⟨g, j * 2 + 1, none⟩)
  | 8, v => v = .int .i64 (c.y j)
  | 9, v => v = .int .i64 (c.y j * 3)
  | 10, v => v = .int .i64 (fWa j (c.y j))
  | 11, v => v = .pointer (some ⟨g, j * 2, none⟩)
  | 12, v => v = .pointer (some ⟨g, j * 2 + 1, none⟩)
  | _, _ => True
theorem op_addcl {Q : Exit → Act → World → Prop} {o : Oper} {a' : Act} {W : World} {s : Nat} {c x : Int} (hop : o.op = Op.binOp .add 3 (.const (.int .i64 c)) (.tmp s) 3) (he : a'.eval (.tmp s) = .int .i64 x) (hw : -9223372036854775808 ≤ c + x ∧ c + x ≤ 9223372036854775807) :
    o.wp Tryd.prog a' W (fun a'' W' => a'' = a'.put o.dst (.int .i64 (c + x)) ∧ Below W.heap.size W W') Q := by
  have hr := Below.refl W.heap.size W
  have he' : a'.tmps[s]?.getD undef = .int .i64 x := by simpa [Act.eval] using he
  have hw' := i64w _ hw
  unfold Oper.wp execOp
  rw [hop]
  simp [go_sem, he', hw', hr]
theorem tdiv_bd {x y : Int} (h0 : 0 ≤ x) (h1 : 1 ≤ y) : 0 ≤ x.tdiv y ∧ x.tdiv y ≤ x := by
  rw [Int.tdiv_eq_ediv_of_nonneg h0]
  exact ⟨Int.ediv_nonneg h0 (by omega), Int.ediv_le_self y h0⟩
theorem Bw.ints {w1 : World} {p : Option Addr} {k cap Bi Bl B14 M : Nat} {s : Sh} {z7 z8 z9 z10 y7 y8 y9 y10 : Int} {v4 v5 v6 : Value} {c4 c5 c6 : Cv} {W W' : World} (h : Bw w1 p k cap Bi Bl B14 M s z7 z8 z9 z10 v4 v5 v6 c4 c5 c6 W) (d : Ds Bi Bl B14 v4 v5 v6) (hC : Chg B14 W W') (hb : W'.heap[B14]? = some (.cells #[.int .i64 s.cls, .int .i64 s.pow, .int .i64 s.dra, .int .i64 s.ton, v4, v5, v6, .int .i64 y7, .int .i64 y8, .int .i64 y9, .int .i64 y10] 24 (0, 0))) (h1 : w1.heap.size ≤ B14) (h2 : Bi ≠ B14) (h3 : Bl ≠ B14) : Bw w1 p k cap Bi Bl B14 M s y7 y8 y9 y10 v4 v5 v6 c4 c5 c6 W' :=
  ⟨h.nx.keep (h.nx.low.trans (hC.below h1)) (hC.2.1 _ h2) (hC.2.1 _ h3), hb, prow_sto h.r4 hC (fun e => (d.f4 _ e).2.2.1 rfl), prow_sto h.r5 hC (fun e => (d.f5 _ e).2.2.1 rfl), prow_sto h.r6 hC (fun e => (d.f6 _ e).2.2.1 rfl)⟩
theorem pts_of {W : World} {M b n cp : Nat} {c : Cv} (h : PRow W M (.slice (some ⟨b, 0, none⟩) n cp) (ptsL c)) : Pts W (some ⟨b, 0, none⟩) c := fun i hi => by
  obtain ⟨c1, c2⟩ := prow_cell h hi
  have hl := pown_lt h b rfl
  exact ⟨b, 0, rfl, hl, by rw [Nat.zero_add]; exact c1, by rw [Nat.zero_add]; exact c2⟩
def bF22 (B : Nat) (s : Sh) (fv : Value) : Nat → Value → Prop
  | 0, v => v = .pointer (some ⟨B, 7, none⟩)
  | 1, v => ∃ r : Int, v = .int .i64 r ∧ 0 ≤ r ∧ r ≤ s.slow
  | 2, v => v = fv
  | 3, v => ∃ r : Int, v = .int .i64 r ∧ 0 ≤ r ∧ r < 3
  | 4, v => ∃ r : Int, v = .int .i64 r ∧ 1 ≤ r ∧ r ≤ 3
  | 5, v => ∃ r : Int, v = .int .i64 r ∧ 0 ≤ r ∧ r ≤ s.slow
  | 6, v => v = .pointer (some ⟨B, 8, none⟩)
  | 7, v => ∃ r : Int, v = .int .i64 r ∧ 0 ≤ r ∧ r ≤ s.brash
  | 8, v => v = fv
  | 9, v => ∃ r : Int, v = .int .i64 r ∧ 0 ≤ r ∧ r < 3
  | 10, v => ∃ r : Int, v = .int .i64 r ∧ 1 ≤ r ∧ r ≤ 3
  | 11, v => ∃ r : Int, v = .int .i64 r ∧ 0 ≤ r ∧ r ≤ s.brash
  | 12, v => v = .pointer (some ⟨B, 9, none⟩)
  | 13, v => ∃ r : Int, v = .int .i64 r ∧ 0 ≤ r ∧ r ≤ s.ridge
  | 14, v => v = fv
  | 15, v => ∃ r : Int, v = .int .i64 r ∧ 0 ≤ r ∧ r < 3
  | 16, v => ∃ r : Int, v = .int .i64 r ∧ 1 ≤ r ∧ r ≤ 3
  | 17, v => ∃ r : Int, v = .int .i64 r ∧ 0 ≤ r ∧ r ≤ s.ridge
  | 18, v => v = .pointer (some ⟨B, 10, none⟩)
  | 19, v => ∃ r : Int, v = .int .i64 r ∧ 0 ≤ r ∧ r ≤ s.press
  | 20, v => v = fv
  | 21, v => ∃ r : Int, v = .int .i64 r ∧ 0 ≤ r ∧ r < 3
  | 22, v => ∃ r : Int, v = .int .i64 r ∧ 1 ≤ r ∧ r ≤ 3
  | 23, v => ∃ r : Int, v = .int .i64 r ∧ 0 ≤ r ∧ r ≤ s.press
  | 24, v => v = .pointer (some ⟨B, 7, none⟩)
  | 26, v => v = .pointer (some ⟨B, 8, none⟩)
  | 28, v => v = .pointer (some ⟨B, 9, none⟩)
  | 30, v => v = .pointer (some ⟨B, 10, none⟩)
  | _, _ => True
noncomputable def better12 : Code := ((Tryd.f7.body.bind (findLeft 12)).getD .skip)
set_option maxHeartbeats 32000000 in
theorem Better_12 (s : Sh) (ms : Mem3) (ct : Cv) (ch : Bool) (tk : Int) (B13 B14 Bi Bl M g4 g5 g6 q4 q5 q6 : Nat) (p2 : Option Addr) (k2 cap2 : Nat) (hk2 : k2 ≤ 9223372036854775807) (p3 : Option Addr) (k3 cap3 : Nat) (hk3 : k3 ≤ 9223372036854775807) (p4 : Option Addr) (k4 cap4 : Nat) (hk4 : k4 ≤ 9223372036854775807) (w0 w1 w : World) (hl : Lim w0) (hst : Str w0) (hB2 : BytesIn w1 p2 k2) (hB3 : BytesIn w0 p3 k3) (hB4 : BytesIn w0 p4 k4) (hcs : chkP s = 0) (h53 : s.th.y 0 ≤ 5300) (ht : 0 ≤ tk ∧ tk < 65536)
    (hth : (ct = modC s.th (fTh s.th.n) s.th.n ∧ ¬ (s.th.n < 8 ∧ lastXP s.th < 240)) ∨ (s.th.n < 8 ∧ lastXP s.th < 240 ∧ ∃ r : Int, 0 ≤ r ∧ r < 10 ∧ ct = moreC (modC s.th (fTh s.th.n) s.th.n) (lastXP s.th + 1 + r) ((modC s.th (fTh s.th.n) s.th.n).y (s.th.n - 1))))
    (hB : Below w0.heap.size w0 w1) (hS : ShipIn w1 s ms) (hK1 : w1.heap[B13]? = some (.cells (shipA s ms) 24 (0, 0))) (b1 : w1.heap.size ≤ B14) (b2 : w1.heap.size ≤ Bi) (b3 : w1.heap.size ≤ M) (b4 : Bi ≠ B14) (b5 : Bl ≠ B14) (hD : Ds Bi Bl B14 (.slice (some ⟨g4, 0, none⟩) ct.n q4) (.slice (some ⟨g5, 0, none⟩) s.wa.n q5) (.slice (some ⟨g6, 0, none⟩) s.ic.n q6)) (hW : Bw w1 p2 k2 cap2 Bi Bl B14 M s s.slow s.brash s.ridge s.press (.slice (some ⟨g4, 0, none⟩) ct.n q4) (.slice (some ⟨g5, 0, none⟩) s.wa.n q5) (.slice (some ⟨g6, 0, none⟩) s.ic.n q6) (ct) (modC s.wa fWa 0) (modC s.ic fIc 0) w)
    (x0 x1 x6 x7 x8 x9 x10 x11 x12 x16 x17 x18 x19 x20 x21 x22 x23 x24 x25 x26 x27 x28 x29 x30 x31 x32 x33 x34 x35 x36 x37 x38 x39 x40 x41 x42 x43 x44 x45 x46 x47 x48 x49 x50 x51 x52 x53 x54 x55 x56 x57 x58 x59 x60 x61 x62 x63 x64 x65 x66 x67 x68 x69 x70 x71 x72 x73 x74 x75 x76 x77 x78 x79 x80 x81 x82 x83 x84 x85 x86 x87 x88 x89 x90 x91 x92 x93 x94 x95 x96 x97 x98 x99 x100 x101 x102 x103 x104 x105 x106 x107 x108 x109 x110 x111 x112 x113 x114 x115 x116 x117 x118 x119 x120 x121 x122 x123 x124 x125 x126 x127 x128 x129 x130 x131 x132 x133 x134 x135 x136 x137 x138 x139 x140 x141 x142 x143 x144 x145 x146 x147 x148 x149 x150 x151 x152 x153 x154 x155 x156 x157 x158 x159 x160 x161 x162 x163 x164 x165 x166 x167 x168 x169 x170 x171 x172 x173 x174 x175 x176 x177 x178 x179 x180 x181 x182 x183 x184 x185 x186 x187 x188 x189 x190 x191 x192 x193 x194 x195 x196 x197 x198 x199 x200 x201 x202 x203 x204 x205 x206 x207 x208 x209 x210 x211 x212 x213 x214 x215 x216 x217 x218 x219 x220 x221 x222 x223 x224 x225 x226 x227 x228 x229 x230 x231 x232 x233 x234 x235 x236 x237 x238 x239 x240 x241 x242 x243 x244 x245 x246 x247 x248 x249 x250 x251 x252 x253 x254 x255 x256 x257 x258 x259 x260 x261 x262 x263 x264 x265 x266 x267 x268 x269 x270 x271 x272 x273 x274 x275 x276 x277 x278 x279 x280 x281 : Value) :
    Code.wp Tryd.prog better12 (bodyPost Tryd.prog Tryd.f7 fun e w' => e = .returned (.bool true) ∧ Below w0.heap.size w0 w') ⟨#[x0, x1, .slice p3 k3 cap3, .slice p4 k4 cap4, .int .u16 tk, .bool ch, x6, x7, x8, x9, x10, x11, x12, .pointer (some ⟨B13, 0, none⟩), .pointer (some ⟨B14, 0, none⟩), .func (.func 73) #[] #[.pointer (some ⟨Bi, 0, none⟩), .pointer (some ⟨Bl, 0, none⟩)], x16, x17, x18, x19, x20, x21, x22, x23, x24, x25, x26, x27, x28, x29, x30, x31, x32, x33, x34, x35, x36, x37, x38, x39, x40, x41, x42, x43, x44, x45, x46, x47, x48, x49, x50, x51, x52, x53, x54, x55, x56, x57, x58, x59, x60, x61, x62, x63, x64, x65, x66, x67, x68, x69, x70, x71, x72, x73, x74, x75, x76, x77, x78, x79, x80, x81, x82, x83, x84, x85, x86, x87, x88, x89, x90, x91, x92, x93, x94, x95, x96, x97, x98, x99, x100, x101, x102, x103, x104, x105, x106, x107, x108, x109, x110, x111, x112, x113, x114, x115, x116, x117, x118, x119, x120, x121, x122, x123, x124, x125, x126, x127, x128, x129, x130, x131, x132, x133, x134, x135, x136, x137, x138, x139, x140, x141, x142, x143, x144, x145, x146, x147, x148, x149, x150, x151, x152, x153, x154, x155, x156, x157, x158, x159, x160, x161, x162, x163, x164, x165, x166, x167, x168, x169, x170, x171, x172, x173, x174, x175, x176, x177, x178, x179, x180, x181, x182, x183, x184, x185, x186, x187, x188, x189, x190, x191, x192, x193, x194, x195, x196, x197, x198, x199, x200, x201, x202, x203, x204, x205, x206, x207, x208, x209, x210, x211, x212, x213, x214, x215, x216, x217, x218, x219, x220, x221, x222, x223, x224, x225, x226, x227, x228, x229, x230, x231, x232, x233, x234, x235, x236, x237, x238, x239, x240, x241, x242, x243, x244, x245, x246, x247, x248, x249, x250, x251, x252, x253, x254, x255, x256, x257, x258, x259, x260, x261, x262, x263, x264, x265, x266, x267, x268, x269, x270, x271, x272, x273, x274, x275, x276, x277, x278, x279, x280, x281], []⟩ w := by
  have HLM := Lib.hid hl
  have HST := Lib.hid hst
  have HC := Lib.hid hcs
  have HG := Lib.hid (good_of hcs)
  have HB := Lib.hid hB
  have HS := Lib.hid hS
  have HK1 := Lib.hid hK1
  have HD := Lib.hid hD
  have HW := Lib.hid hW
  have H3 := Lib.hid hB3
  have H4 := Lib.hid hB4
  have HTH := Lib.hid hth
  have HNX := Lib.hid (fun (n : Int) (hn : 1 ≤ n) (hn' : n ≤ 1000000) (W : World) (hW : NxIn w1 p2 k2 cap2 Bi Bl W) => next_any w1 p2 k2 cap2 hk2 hB2 Bi Bl b2 n hn hn' W hW)
  have n3 := (good_of hcs).wa.two
  have n4 := (good_of hcs).wa.eight
  have n5 := (good_of hcs).ic.two
  have n6 := (good_of hcs).ic.eight
  clear hl hst hcs hB hS hK1 hD hW hB2 hB3 hB4 hth hk2
  conv => arg 2; whnf
  obtain ⟨c0, c1, c2, c3, c4, c5, c6, c7, c8, c9, c10⟩ := cells11 HW.out.bt
  go_wp2_with fail
  clear c0 c1 c2 c3 c4 c5 c6 c7 c8 c9 c10
  rename_i K hK
  have HKT := Lib.hid hK
  clear hK
  go_loopw [101] (fun i wr => ∃ j : Nat, i = .int .i64 j ∧ j ≤ s.wa.n ∧ Hid (Bw w1 p2 k2 cap2 Bi Bl B14 M s s.slow s.brash s.ridge s.press (.slice (some ⟨g4, 0, none⟩) ct.n q4) (.slice (some ⟨g5, 0, none⟩) s.wa.n q5) (.slice (some ⟨g6, 0, none⟩) s.ic.n q6) (ct) (modC s.wa fWa j) (modC s.ic fIc 0) wr)) (fun i _ => s.wa.n - (intOf i).toNat)
  case atStart => exact ⟨0, rfl, Nat.zero_le _, HW⟩
  case round =>
    obtain ⟨j, rfl, hj, hw0⟩ := hrel
    replace HW := Lib.hid hw0.out
    clear hw0
    by_cases hlt : j < s.wa.n
    · have hjn : (j : Int) < (s.wa.n : Int) := by omega
      have hj0 : (0 : Int) ≤ (j : Int) := by omega
      have y0 := HG.out.wa.low j hlt
      have y1 := HG.out.wa.high j hlt
      go_wp2_with fail
      refine wp_region_fi [104, 105, 106, 107, 108, 109, 110, 111, 112, 113, 114, 115, 116, 1000] (bF15 B14 g5 s.wa.n q5 s.wa j) (fun L _ W' => St 13 8 (fun b W'' => Bw w1 p2 k2 cap2 Bi Bl B14 M s s.slow s.brash s.ridge s.press (.slice (some ⟨g4, 0, none⟩) ct.n q4) (.slice (some ⟨g5, 0, none⟩) s.wa.n q5) (.slice (some ⟨g6, 0, none⟩) s.ic.n q6) (ct) (modC s.wa fWa (jn b j)) (modC s.ic fIc 0) W'') L W') (by kernel_rfl) (by kernel_rfl) ?sz ?ts ?z ?val ?fin
      case sz => intro s hs h; simp at hs ⊢; omega
      case ts => simp
      case z => exact ⟨(fun e => by cases e), HW.out.later (below_drawn wr)⟩
      case val =>
        intro jj
        match jj with
        | 0 => intro o L V ho hL hd a' W hX hfr hdp; obtain rfl := Option.some.inj ho; exact opx_of (op_fa24k rfl (hfr 14 (by decide)) (by decide)) fun W' hb => ⟨rfl, ((hX.up (hX.r.later hb)).set 0 (by decide))⟩
        | 1 => intro o L V ho hL hd a' W hX hfr hdp; obtain rfl := Option.some.inj ho; exact opx_of (op_load22 rfl (Dp (hdp 0 104 (by decide) rfl (by kernel_rfl)) id) ((cell_of_block hX.r.bt 5).trans rfl)) fun W' hb => ⟨rfl, ((hX.up (hX.r.later hb)).set 1 (by decide))⟩
        | 2 => intro o L V ho hL hd a' W hX hfr hdp; obtain rfl := Option.some.inj ho; exact opx_of (op_move rfl (hfr 18 (by decide))) fun W' hb => ⟨rfl, ((hX.up (hX.r.later hb)).set 2 (by decide))⟩
        | 3 => intro o L V ho hL hd a' W hX hfr hdp; obtain rfl := Option.some.inj ho; exact opx_of (op_fa24k rfl (hfr 14 (by decide)) (by decide)) fun W' hb => ⟨rfl, ((hX.up (hX.r.later hb)).set 3 (by decide))⟩
        | 4 => intro o L V ho hL hd a' W hX hfr hdp; obtain rfl := Option.some.inj ho; exact opx_of (op_load22 rfl (Dp (hdp 3 107 (by decide) rfl (by kernel_rfl)) id) ((cell_of_block hX.r.bt 5).trans rfl)) fun W' hb => ⟨rfl, ((hX.up (hX.r.later hb)).set 4 (by decide))⟩
        | 5 => intro o L V ho hL hd a' W hX hfr hdp; obtain rfl := Option.some.inj ho; exact opx_of (op_move rfl (hfr 18 (by decide))) fun W' hb => ⟨rfl, ((hX.up (hX.r.later hb)).set 5 (by decide))⟩
        | 6 => intro o L V ho hL hd a' W hX hfr hdp; obtain rfl := Option.some.inj ho; exact opx_of (op_idx22 hlt rfl (Dp (hdp 4 108 (by decide) rfl (by kernel_rfl)) id) (Dp (hdp 5 109 (by decide) rfl (by kernel_rfl)) id)) fun W' hb => ⟨rfl, ((hX.up (hX.r.later hb)).set 6 (by decide))⟩
        | 7 => intro o L V ho hL hd a' W hX hfr hdp; obtain rfl := Option.some.inj ho; exact opx_of (op_fa30 rfl (Dp (hdp 6 110 (by decide) rfl (by kernel_rfl)) id) (by decide)) fun W' hb => ⟨rfl, ((hX.up (hX.r.later hb)).set 7 (by decide))⟩
        | 8 =>
          intro o L V ho hL hd a' W hX hfr hdp; obtain rfl := Option.some.inj ho
          have hq := hX.off hL
          have hr := hX.r
          rw [hq] at hr
          exact opx_of (op_load3o rfl (Dp (hdp 7 111 (by decide) rfl (by kernel_rfl)) id) ((prow_cell hr.r5 hlt).2.trans (by simp [modC, jn]))) fun W' hb => ⟨rfl, ((hX.up (hX.r.later hb)).set 8 (by decide))⟩
        | 9 => intro o L V ho hL hd a' W hX hfr hdp; obtain rfl := Option.some.inj ho; exact opx_of (op_mulk rfl (Dp (hdp 8 112 (by decide) rfl (by kernel_rfl)) id) (by omega)) fun W' hb => ⟨rfl, ((hX.up (hX.r.later hb)).set 9 (by decide))⟩
        | 10 => intro o L V ho hL hd a' W hX hfr hdp; obtain rfl := Option.some.inj ho; exact opx_of (op_quok rfl (Dp (hdp 9 113 (by decide) rfl (by kernel_rfl)) id) (by omega) (by omega) (.inr rfl)) fun W' hb => ⟨rfl, ((hX.up (hX.r.later hb)).set 10 (by decide))⟩
        | 11 => intro o L V ho hL hd a' W hX hfr hdp; obtain rfl := Option.some.inj ho; exact opx_of (op_idx22 hlt rfl (Dp (hdp 1 105 (by decide) rfl (by kernel_rfl)) id) (Dp (hdp 2 106 (by decide) rfl (by kernel_rfl)) id)) fun W' hb => ⟨rfl, ((hX.up (hX.r.later hb)).set 11 (by decide))⟩
        | 12 => intro o L V ho hL hd a' W hX hfr hdp; obtain rfl := Option.some.inj ho; exact opx_of (op_fa30 rfl (Dp (hdp 11 115 (by decide) rfl (by kernel_rfl)) id) (by decide)) fun W' hb => ⟨rfl, ((hX.up (hX.r.later hb)).set 12 (by decide))⟩
        | 13 =>
          intro o L V ho hL hd a' W hX hfr hdp; obtain rfl := Option.some.inj ho
          have hr := hX.r
          rw [hL] at hr
          obtain ⟨_, hMg, cs, hcs, hsz⟩ := prow_block hr.r5
          have hsz' : s.wa.n * 2 ≤ cs.size := by rw [ptsL_len] at hsz; exact hsz
          exact opx_store3 rfl rfl (Dp (hdp 12 116 (by decide) rfl (by kernel_rfl)) id) (Dp (hdp 10 114 (by decide) rfl (by kernel_rfl)) id) hcs (by omega) fun W' hb' hc => ⟨trivial, St.fin (hd 8 (by kernel_rfl)) (Bw.sto5 (g := g5) hr HD.out rfl hc (by omega) (prow_set hr.r5 hlt (fun cs' t' h' => by rw [hcs] at h'; obtain ⟨rfl, rfl⟩ := (by simpa using h' : cs = cs' ∧ 30 = t'); exact hb')))⟩
        | j + 14 => intro o L V ho; simp at ho
      case fin =>
        intro X3 L V hL hF hI
        have hr := hI.r
        rw [hL 13 (by decide)] at hr
        have HW2 := Lib.hid (show Bw w1 p2 k2 cap2 Bi Bl B14 M s s.slow s.brash s.ridge s.press (.slice (some ⟨g4, 0, none⟩) ct.n q4) (.slice (some ⟨g5, 0, none⟩) s.wa.n q5) (.slice (some ⟨g6, 0, none⟩) s.ic.n q6) (ct) (modC s.wa fWa (j + 1)) (modC s.ic fIc 0) X3 from hr)
        clear hI hF hL hr HW
        simp only [fill, Act.put, List.setIfInBounds_toArray, List.set_cons_zero, List.set_cons_succ, List.set_nil, Nat.reduceAdd]
        generalize V 0 = z0, V 1 = z1, V 2 = z2, V 3 = z3, V 4 = z4, V 5 = z5, V 6 = z6, V 7 = z7, V 8 = z8, V 9 = z9, V 10 = z10, V 11 = z11, V 12 = z12, V 13 = z13
        clear V
        go_wp2_with fail
        refine ⟨⟨j + 1, by go_num, by omega, HW2⟩, by simp only [intOf]; omega⟩
    · obtain rfl : j = s.wa.n := by omega
      go_wp2_with fail
      refine HKT.out _ _ ?_
      clear HKT
      obtain ⟨c0, c1, c2, c3, c4, c5, c6, c7, c8, c9, c10⟩ := cells11 HW.out.bt
      go_wp2_with fail
      clear c0 c1 c2 c3 c4 c5 c6 c7 c8 c9 c10
      rename_i K hK
      have HKT := Lib.hid hK
      clear hK
      rename World => W4
      go_loopw [121] (fun i wr => ∃ j : Nat, i = .int .i64 j ∧ j ≤ s.ic.n ∧ Hid (Bw w1 p2 k2 cap2 Bi Bl B14 M s s.slow s.brash s.ridge s.press (.slice (some ⟨g4, 0, none⟩) ct.n q4) (.slice (some ⟨g5, 0, none⟩) s.wa.n q5) (.slice (some ⟨g6, 0, none⟩) s.ic.n q6) (ct) (modC s.wa fWa s.wa.n) (modC s.ic fIc j) wr)) (fun i _ => s.ic.n - (intOf i).toNat)
      case atStart => exact ⟨0, rfl, Nat.zero_le _, HW⟩
      case round =>
        obtain ⟨j, rfl, hj, hw0⟩ := hrel
        replace HW := Lib.hid hw0.out
        clear hw0
        by_cases hlt : j < s.ic.n
        · have hjn : (j : Int) < (s.ic.n : Int) := by omega
          have hj0 : (0 : Int) ≤ (j : Int) := by omega
          have y0 := HG.out.ic.low j hlt
          have y1 := HG.out.ic.high j hlt
          obtain ⟨c0, c1, c2, c3, c4, c5, c6, c7, c8, c9, c10⟩ := cells11 HW.out.bt
          have cy := (prow_cell HW.out.r6 hlt).2
          have ey : (modC s.ic fIc j).y j = s.ic.y j := by simp [modC]
          rw [ey] at cy
          clear ey
          obtain ⟨_, hMg, cs, hcs, hsz⟩ := prow_block HW.out.r6
          have hsz' : j * 2 + 1 < cs.size := by rw [ptsL_len] at hsz; have : s.ic.n * 2 ≤ cs.size := hsz; omega
          have HCS := Lib.hid hcs
          clear hcs hsz
          go_wp2_with (refine list_store3 rfl rfl rfl rfl rfl HCS.out hsz' ?_; intro X3 hz hc; have HW2 := Lib.hid (show Bw w1 p2 k2 cap2 Bi Bl B14 M s s.slow s.brash s.ridge s.press (.slice (some ⟨g4, 0, none⟩) ct.n q4) (.slice (some ⟨g5, 0, none⟩) s.wa.n q5) (.slice (some ⟨g6, 0, none⟩) s.ic.n q6) (ct) (modC s.wa fWa s.wa.n) (modC s.ic fIc (j + 1)) X3 from Bw.sto6 (g := g6) HW.out HD.out rfl hc (by omega) (prow_set HW.out.r6 hlt (fun cs' t' h' => by rw [HCS.out] at h'; obtain ⟨rfl, rfl⟩ := (by simpa using h' : cs = cs' ∧ 30 = t'); exact hz))); clear hz hc)
          refine ⟨⟨j + 1, by go_num, by omega, HW2⟩, by simp only [intOf]; omega⟩
        · obtain rfl : j = s.ic.n := by omega
          go_wp2_with fail
          refine HKT.out _ _ ?_
          clear HKT
          refine wp_seq_k ?_
          intro K hK
          have HKU := Lib.hid hK
          clear hK
          have k7 := HG.out.slow
          have k8 := HG.out.brash
          have k9 := HG.out.ridge
          have k10 := HG.out.press
          refine wp_region_fi [134, 135, 136, 137, 138, 139, 140, 141, 142, 143, 144, 145, 146, 147, 148, 149, 150, 151, 152, 153, 154, 155, 156, 157, 158, 1000, 159, 1001, 160, 1002, 161, 1003] (bF22 B14 s (.func (.func 73) #[] #[.pointer (some ⟨Bi, 0, none⟩), .pointer (some ⟨Bl, 0, none⟩)])) (fun _ _ W'' => ∃ y7 y8 y9 y10 : Int, Bw w1 p2 k2 cap2 Bi Bl B14 M s y7 y8 y9 y10 (.slice (some ⟨g4, 0, none⟩) ct.n q4) (.slice (some ⟨g5, 0, none⟩) s.wa.n q5) (.slice (some ⟨g6, 0, none⟩) s.ic.n q6) (ct) (modC s.wa fWa s.wa.n) (modC s.ic fIc s.ic.n) W'' ∧ (0 ≤ y7 ∧ y7 ≤ s.slow) ∧ (0 ≤ y8 ∧ y8 ≤ s.brash) ∧ (0 ≤ y9 ∧ y9 ≤ s.ridge) ∧ (0 ≤ y10 ∧ y10 ≤ s.press)) (by kernel_rfl) (by kernel_rfl) ?sz ?ts ?z ?val ?fin
          case sz => intro s hs h; simp at hs ⊢; omega
          case ts => simp
          case z => exact ⟨s.slow, s.brash, s.ridge, s.press, HW.out.later (below_drawn wr), ⟨k7.1, by omega⟩, ⟨k8.1, by omega⟩, ⟨k9.1, by omega⟩, ⟨k10.1, by omega⟩⟩
          case val =>
            intro jj
            match jj with
            | 0 => intro o L V ho hL hd a' W hX hfr hdp; obtain rfl := Option.some.inj ho; exact opx_of (op_fa24k rfl (hfr 14 (by decide)) (by decide)) fun W' hb => ⟨rfl, (by obtain ⟨y7, y8, y9, y10, hw, bd⟩ := hX; exact ⟨y7, y8, y9, y10, hw.later hb, bd⟩)⟩
            | 1 =>
              intro o L V ho hL hd a' W hX hfr hdp; obtain rfl := Option.some.inj ho
              obtain ⟨y7, y8, y9, y10, hw, h7, h8, h9, h10⟩ := hX
              exact opx_of (op_load3o rfl (Dp (hdp 0 134 (by decide) rfl (by kernel_rfl)) id) ((cell_of_block hw.bt 7).trans rfl)) fun W' hb => ⟨⟨y7, rfl, h7⟩, y7, y8, y9, y10, hw.later hb, h7, h8, h9, h10⟩
            | 2 => intro o L V ho hL hd a' W hX hfr hdp; obtain rfl := Option.some.inj ho; exact opx_of (op_move rfl (hfr 15 (by decide))) fun W' hb => ⟨rfl, (by obtain ⟨y7, y8, y9, y10, hw, bd⟩ := hX; exact ⟨y7, y8, y9, y10, hw.later hb, bd⟩)⟩
            | 3 =>
              intro o L V ho hL hd a' W hX hfr hdp; obtain rfl := Option.some.inj ho
              obtain ⟨y7, y8, y9, y10, hw, h7, h8, h9, h10⟩ := hX
              refine opx_callk rfl (Dp (hdp 2 136 (by decide) rfl (by kernel_rfl)) id) eg73 ((HNX.out 2 (by decide) (by decide) _ hw.nx).mono ?_)
              rintro e W' ⟨r, rfl, r0, r1, hN, hC⟩
              exact ⟨_, rfl, ⟨r, rfl, r0, by omega⟩, y7, y8, y9, y10, hw.next HD.out hN hC (Ne.symm b4), h7, h8, h9, h10⟩
            | 4 =>
              intro o L V ho hL hd a' W hX hfr hdp; obtain rfl := Option.some.inj ho
              obtain ⟨e, r, e', r0, r1⟩ := hdp 3 137 (by decide) rfl (by kernel_rfl)
              exact opx_of (op_addcl rfl (e.trans e') (by omega)) fun W' hb => ⟨⟨_, rfl, by omega, by omega⟩, (by obtain ⟨y7, y8, y9, y10, hw, bd⟩ := hX; exact ⟨y7, y8, y9, y10, hw.later hb, bd⟩)⟩
            | 5 =>
              intro o L V ho hL hd a' W hX hfr hdp; obtain rfl := Option.some.inj ho
              obtain ⟨e, r, e', r0, r1⟩ := hdp 1 135 (by decide) rfl (by kernel_rfl)
              obtain ⟨f, u, f', u0, u1⟩ := hdp 4 138 (by decide) rfl (by kernel_rfl)
              obtain ⟨d0, d1⟩ := tdiv_bd (y := u) r0 u0
              exact opx_of (op_quot rfl (e.trans e') (f.trans f') (by omega) (by omega)) fun W' hb => ⟨⟨_, rfl, d0, by omega⟩, (by obtain ⟨y7, y8, y9, y10, hw, bd⟩ := hX; exact ⟨y7, y8, y9, y10, hw.later hb, bd⟩)⟩
            | 6 => intro o L V ho hL hd a' W hX hfr hdp; obtain rfl := Option.some.inj ho; exact opx_of (op_fa24k rfl (hfr 14 (by decide)) (by decide)) fun W' hb => ⟨rfl, (by obtain ⟨y7, y8, y9, y10, hw, bd⟩ := hX; exact ⟨y7, y8, y9, y10, hw.later hb, bd⟩)⟩
            | 7 =>
              intro o L V ho hL hd a' W hX hfr hdp; obtain rfl := Option.some.inj ho
              obtain ⟨y7, y8, y9, y10, hw, h7, h8, h9, h10⟩ := hX
              exact opx_of (op_load3o rfl (Dp (hdp 6 140 (by decide) rfl (by kernel_rfl)) id) ((cell_of_block hw.bt 8).trans rfl)) fun W' hb => ⟨⟨y8, rfl, h8⟩, y7, y8, y9, y10, hw.later hb, h7, h8, h9, h10⟩
            | 8 => intro o L V ho hL hd a' W hX hfr hdp; obtain rfl := Option.some.inj ho; exact opx_of (op_move rfl (hfr 15 (by decide))) fun W' hb => ⟨rfl, (by obtain ⟨y7, y8, y9, y10, hw, bd⟩ := hX; exact ⟨y7, y8, y9, y10, hw.later hb, bd⟩)⟩
            | 9 =>
              intro o L V ho hL hd a' W hX hfr hdp; obtain rfl := Option.some.inj ho
              obtain ⟨y7, y8, y9, y10, hw, h7, h8, h9, h10⟩ := hX
              refine opx_callk rfl (Dp (hdp 8 142 (by decide) rfl (by kernel_rfl)) id) eg73 ((HNX.out 3 (by decide) (by decide) _ hw.nx).mono ?_)
              rintro e W' ⟨r, rfl, r0, r1, hN, hC⟩
              exact ⟨_, rfl, ⟨r, rfl, r0, by omega⟩, y7, y8, y9, y10, hw.next HD.out hN hC (Ne.symm b4), h7, h8, h9, h10⟩
            | 10 =>
              intro o L V ho hL hd a' W hX hfr hdp; obtain rfl := Option.some.inj ho
              obtain ⟨e, r, e', r0, r1⟩ := hdp 9 143 (by decide) rfl (by kernel_rfl)
              exact opx_of (op_addcl rfl (e.trans e') (by omega)) fun W' hb => ⟨⟨_, rfl, by omega, by omega⟩, (by obtain ⟨y7, y8, y9, y10, hw, bd⟩ := hX; exact ⟨y7, y8, y9, y10, hw.later hb, bd⟩)⟩
            | 11 =>
              intro o L V ho hL hd a' W hX hfr hdp; obtain rfl := Option.some.inj ho
              obtain ⟨e, r, e', r0, r1⟩ := hdp 7 141 (by decide) rfl (by kernel_rfl)
              obtain ⟨f, u, f', u0, u1⟩ := hdp 10 144 (by decide) rfl (by kernel_rfl)
              obtain ⟨d0, d1⟩ := tdiv_bd (y := u) r0 u0
              exact opx_of (op_quot rfl (e.trans e') (f.trans f') (by omega) (by omega)) fun W' hb => ⟨⟨_, rfl, d0, by omega⟩, (by obtain ⟨y7, y8, y9, y10, hw, bd⟩ := hX; exact ⟨y7, y8, y9, y10, hw.later hb, bd⟩)⟩
            | 12 => intro o L V ho hL hd a' W hX hfr hdp; obtain rfl := Option.some.inj ho; exact opx_of (op_fa24k rfl (hfr 14 (by decide)) (by decide)) fun W' hb => ⟨rfl, (by obtain ⟨y7, y8, y9, y10, hw, bd⟩ := hX; exact ⟨y7, y8, y9, y10, hw.later hb, bd⟩)⟩
            | 13 =>
              intro o L V ho hL hd a' W hX hfr hdp; obtain rfl := Option.some.inj ho
              obtain ⟨y7, y8, y9, y10, hw, h7, h8, h9, h10⟩ := hX
              exact opx_of (op_load3o rfl (Dp (hdp 12 146 (by decide) rfl (by kernel_rfl)) id) ((cell_of_block hw.bt 9).trans rfl)) fun W' hb => ⟨⟨y9, rfl, h9⟩, y7, y8, y9, y10, hw.later hb, h7, h8, h9, h10⟩
            | 14 => intro o L V ho hL hd a' W hX hfr hdp; obtain rfl := Option.some.inj ho; exact opx_of (op_move rfl (hfr 15 (by decide))) fun W' hb => ⟨rfl, (by obtain ⟨y7, y8, y9, y10, hw, bd⟩ := hX; exact ⟨y7, y8, y9, y10, hw.later hb, bd⟩)⟩
            | 15 =>
              intro o L V ho hL hd a' W hX hfr hdp; obtain rfl := Option.some.inj ho
              obtain ⟨y7, y8, y9, y10, hw, h7, h8, h9, h10⟩ := hX
              refine opx_callk rfl (Dp (hdp 14 148 (by decide) rfl (by kernel_rfl)) id) eg73 ((HNX.out 3 (by decide) (by decide) _ hw.nx).mono ?_)
              rintro e W' ⟨r, rfl, r0, r1, hN, hC⟩
              exact ⟨_, rfl, ⟨r, rfl, r0, by omega⟩, y7, y8, y9, y10, hw.next HD.out hN hC (Ne.symm b4), h7, h8, h9, h10⟩
            | 16 =>
              intro o L V ho hL hd a' W hX hfr hdp; obtain rfl := Option.some.inj ho
              obtain ⟨e, r, e', r0, r1⟩ := hdp 15 149 (by decide) rfl (by kernel_rfl)
              exact opx_of (op_addcl rfl (e.trans e') (by omega)) fun W' hb => ⟨⟨_, rfl, by omega, by omega⟩, (by obtain ⟨y7, y8, y9, y10, hw, bd⟩ := hX; exact ⟨y7, y8, y9, y10, hw.later hb, bd⟩)⟩
            | 17 =>
              intro o L V ho hL hd a' W hX hfr hdp; obtain rfl := Option.some.inj ho
              obtain ⟨e, r, e', r0, r1⟩ := hdp 13 147 (by decide) rfl (by kernel_rfl)
              obtain ⟨f, u, f', u0, u1⟩ := hdp 16 150 (by decide) rfl (by kernel_rfl)
              obtain ⟨d0, d1⟩ := tdiv_bd (y := u) r0 u0
              exact opx_of (op_quot rfl (e.trans e') (f.trans f') (by omega) (by omega)) fun W' hb => ⟨⟨_, rfl, d0, by omega⟩, (by obtain ⟨y7, y8, y9, y10, hw, bd⟩ := hX; exact ⟨y7, y8, y9, y10, hw.later hb, bd⟩)⟩
            | 18 => intro o L V ho hL hd a' W hX hfr hdp; obtain rfl := Option.some.inj ho; exact opx_of (op_fa24k rfl (hfr 14 (by decide)) (by decide)) fun W' hb => ⟨rfl, (by obtain ⟨y7, y8, y9, y10, hw, bd⟩ := hX; exact ⟨y7, y8, y9, y10, hw.later hb, bd⟩)⟩
            | 19 =>
              intro o L V ho hL hd a' W hX hfr hdp; obtain rfl := Option.some.inj ho
              obtain ⟨y7, y8, y9, y10, hw, h7, h8, h9, h10⟩ := hX
              exact opx_of (op_load3o rfl (Dp (hdp 18 152 (by decide) rfl (by kernel_rfl)) id) ((cell_of_block hw.bt 10).trans rfl)) fun W' hb => ⟨⟨y10, rfl, h10⟩, y7, y8, y9, y10, hw.later hb, h7, h8, h9, h10⟩
            | 20 => intro o L V ho hL hd a' W hX hfr hdp; obtain rfl := Option.some.inj ho; exact opx_of (op_move rfl (hfr 15 (by decide))) fun W' hb => ⟨rfl, (by obtain ⟨y7, y8, y9, y10, hw, bd⟩ := hX; exact ⟨y7, y8, y9, y10, hw.later hb, bd⟩)⟩
            | 21 =>
              intro o L V ho hL hd a' W hX hfr hdp; obtain rfl := Option.some.inj ho
              obtain ⟨y7, y8, y9, y10, hw, h7, h8, h9, h10⟩ := hX
              refine opx_callk rfl (Dp (hdp 20 154 (by decide) rfl (by kernel_rfl)) id) eg73 ((HNX.out 3 (by decide) (by decide) _ hw.nx).mono ?_)
              rintro e W' ⟨r, rfl, r0, r1, hN, hC⟩
              exact ⟨_, rfl, ⟨r, rfl, r0, by omega⟩, y7, y8, y9, y10, hw.next HD.out hN hC (Ne.symm b4), h7, h8, h9, h10⟩
            | 22 =>
              intro o L V ho hL hd a' W hX hfr hdp; obtain rfl := Option.some.inj ho
              obtain ⟨e, r, e', r0, r1⟩ := hdp 21 155 (by decide) rfl (by kernel_rfl)
              exact opx_of (op_addcl rfl (e.trans e') (by omega)) fun W' hb => ⟨⟨_, rfl, by omega, by omega⟩, (by obtain ⟨y7, y8, y9, y10, hw, bd⟩ := hX; exact ⟨y7, y8, y9, y10, hw.later hb, bd⟩)⟩
            | 23 =>
              intro o L V ho hL hd a' W hX hfr hdp; obtain rfl := Option.some.inj ho
              obtain ⟨e, r, e', r0, r1⟩ := hdp 19 153 (by decide) rfl (by kernel_rfl)
              obtain ⟨f, u, f', u0, u1⟩ := hdp 22 156 (by decide) rfl (by kernel_rfl)
              obtain ⟨d0, d1⟩ := tdiv_bd (y := u) r0 u0
              exact opx_of (op_quot rfl (e.trans e') (f.trans f') (by omega) (by omega)) fun W' hb => ⟨⟨_, rfl, d0, by omega⟩, (by obtain ⟨y7, y8, y9, y10, hw, bd⟩ := hX; exact ⟨y7, y8, y9, y10, hw.later hb, bd⟩)⟩
            | 24 => intro o L V ho hL hd a' W hX hfr hdp; obtain rfl := Option.some.inj ho; exact opx_of (op_fa24k rfl (hfr 14 (by decide)) (by decide)) fun W' hb => ⟨rfl, (by obtain ⟨y7, y8, y9, y10, hw, bd⟩ := hX; exact ⟨y7, y8, y9, y10, hw.later hb, bd⟩)⟩
            | 25 =>
              intro o L V ho hL hd a' W hX hfr hdp; obtain rfl := Option.some.inj ho
              obtain ⟨y7, y8, y9, y10, hw, h7, h8, h9, h10⟩ := hX
              obtain ⟨e, r, e', r0, r1⟩ := hdp 5 139 (by decide) rfl (by kernel_rfl)
              exact opx_store3 rfl rfl (Dp (hdp 24 158 (by decide) rfl (by kernel_rfl)) id) (e.trans e') hw.bt (by simp) fun W' hb' hc => ⟨trivial, r, y8, y9, y10, hw.ints HD.out hc (by simpa using hb') b1 b4 b5, ⟨r0, r1⟩, h8, h9, h10⟩
            | 26 => intro o L V ho hL hd a' W hX hfr hdp; obtain rfl := Option.some.inj ho; exact opx_of (op_fa24k rfl (hfr 14 (by decide)) (by decide)) fun W' hb => ⟨rfl, (by obtain ⟨y7, y8, y9, y10, hw, bd⟩ := hX; exact ⟨y7, y8, y9, y10, hw.later hb, bd⟩)⟩
            | 27 =>
              intro o L V ho hL hd a' W hX hfr hdp; obtain rfl := Option.some.inj ho
              obtain ⟨y7, y8, y9, y10, hw, h7, h8, h9, h10⟩ := hX
              obtain ⟨e, r, e', r0, r1⟩ := hdp 11 145 (by decide) rfl (by kernel_rfl)
              exact opx_store3 rfl rfl (Dp (hdp 26 159 (by decide) rfl (by kernel_rfl)) id) (e.trans e') hw.bt (by simp) fun W' hb' hc => ⟨trivial, y7, r, y9, y10, hw.ints HD.out hc (by simpa using hb') b1 b4 b5, h7, ⟨r0, r1⟩, h9, h10⟩
            | 28 => intro o L V ho hL hd a' W hX hfr hdp; obtain rfl := Option.some.inj ho; exact opx_of (op_fa24k rfl (hfr 14 (by decide)) (by decide)) fun W' hb => ⟨rfl, (by obtain ⟨y7, y8, y9, y10, hw, bd⟩ := hX; exact ⟨y7, y8, y9, y10, hw.later hb, bd⟩)⟩
            | 29 =>
              intro o L V ho hL hd a' W hX hfr hdp; obtain rfl := Option.some.inj ho
              obtain ⟨y7, y8, y9, y10, hw, h7, h8, h9, h10⟩ := hX
              obtain ⟨e, r, e', r0, r1⟩ := hdp 17 151 (by decide) rfl (by kernel_rfl)
              exact opx_store3 rfl rfl (Dp (hdp 28 160 (by decide) rfl (by kernel_rfl)) id) (e.trans e') hw.bt (by simp) fun W' hb' hc => ⟨trivial, y7, y8, r, y10, hw.ints HD.out hc (by simpa using hb') b1 b4 b5, h7, h8, ⟨r0, r1⟩, h10⟩
            | 30 => intro o L V ho hL hd a' W hX hfr hdp; obtain rfl := Option.some.inj ho; exact opx_of (op_fa24k rfl (hfr 14 (by decide)) (by decide)) fun W' hb => ⟨rfl, (by obtain ⟨y7, y8, y9, y10, hw, bd⟩ := hX; exact ⟨y7, y8, y9, y10, hw.later hb, bd⟩)⟩
            | 31 =>
              intro o L V ho hL hd a' W hX hfr hdp; obtain rfl := Option.some.inj ho
              obtain ⟨y7, y8, y9, y10, hw, h7, h8, h9, h10⟩ := hX
              obtain ⟨e, r, e', r0, r1⟩ := hdp 23 157 (by decide) rfl (by kernel_rfl)
              exact opx_store3 rfl rfl (Dp (hdp 30 161 (by decide) rfl (by kernel_rfl)) id) (e.trans e') hw.bt (by simp) fun W' hb' hc => ⟨trivial, y7, y8, y9, r, hw.ints HD.out hc (by simpa using hb') b1 b4 b5, h7, h8, h9, ⟨r0, r1⟩⟩
            | j + 32 => intro o L V ho; simp at ho
          case fin =>
            intro X4 L V hL hF hI
            obtain ⟨y7, y8, y9, y10, hw, h7, h8, h9, h10⟩ := hI
            have HW2 := Lib.hid hw
            clear hF hL hw HW
            simp only [fill, Act.put, List.setIfInBounds_toArray, List.set_cons_zero, List.set_cons_succ, List.set_nil, Nat.reduceAdd]
            generalize V 0 = z0, V 1 = z1, V 2 = z2, V 3 = z3, V 4 = z4, V 5 = z5, V 6 = z6, V 7 = z7, V 8 = z8, V 9 = z9, V 10 = z10, V 11 = z11, V 12 = z12, V 13 = z13, V 14 = z14, V 15 = z15, V 16 = z16, V 17 = z17, V 18 = z18, V 19 = z19, V 20 = z20, V 21 = z21, V 22 = z22, V 23 = z23, V 24 = z24, V 25 = z25, V 26 = z26, V 27 = z27, V 28 = z28, V 29 = z29, V 30 = z30, V 31 = z31
            clear V
            go_wp2_with fail
            refine HKU.out _ _ ?_
            clear HKU
            have hM := made2 (s := s) (t := ⟨s.cls, s.pow, s.dra, s.ton, ct, modC s.wa fWa s.wa.n, modC s.ic fIc s.ic.n, y7, y8, y9, y10⟩) HC.out h53 ⟨HTH.out, rfl, rfl, rfl, rfl, rfl, rfl, h7, h8, h9, h10⟩
            have hlow := HW2.out.nx.low
            have q1' := prow_cap HW2.out.r4
            have q2' := prow_cap HW2.out.r5
            have q3' := prow_cap HW2.out.r6
            rw [ptsL_len] at q1' q2' q3'
            have gt := good_of hM.1
            have t8 : ct.n ≤ 8 := gt.th.eight
            show Code.wp Tryd.prog better23 _ _ _
            apply Better_tail s ⟨s.cls, s.pow, s.dra, s.ton, ct, modC s.wa fWa s.wa.n, modC s.ic fIc s.ic.n, y7, y8, y9, y10⟩ ms ⟨some ⟨g4, 0, none⟩, some ⟨g5, 0, none⟩, some ⟨g6, 0, none⟩, q4, q5, q6⟩ ch tk B13 B14 p3 k3 cap3 hk3 p4 k4 cap4 hk4 w0 X4 HLM.out HST.out H3.out H4.out HC.out hM.1 hM.2 ht (HB.out.trans (hlow.mono HB.out.size)) (HS.out.later hlow) ⟨pts_of HW2.out.r4, pts_of HW2.out.r5, pts_of HW2.out.r6, q1', q2', q3', show ct.n ≤ 1000000 by omega, show s.wa.n ≤ 1000000 by omega, show s.ic.n ≤ 1000000 by omega⟩ ((hlow.block _ (lt_of_block HK1.out)).trans HK1.out) HW2.out.bt
end Go.Proofs.YtcoiklolgilhaaaDoor
