/- Pure facts for the law HullWaits: the first hours that Free names, and what less pressure does. A right ship, a right cell, right pressures. What the law HullWaits keeps in memory: two drawers, a ship, a cell, two rows of spans. Operations for it. -/
import Derived.Test.YtcoiklolgilhaaaGreatDoorRi
import Derived.Test.YtcoiklolgilhaaaGreatDoorPy
import Derived.Test.YtcoiklolgilhaaaGreatDoorQf
import Derived.Test.YtcoiklolgilhaaaGreatDoorRb
import Derived.Maps.AppendAt
namespace Go.Proofs.YtcoiklolgilhaaaGreatDoor
open Go.RowKit
set_option maxRecDepth 100000
theorem fstN_spec (f : Nat → Bool) : ∀ k i, (fstN f k i = -1 ∧ ∀ j, i ≤ j → j < i + k → f j = false) ∨ (∃ r : Nat, fstN f k i = (r : Int) ∧ i ≤ r ∧ r < i + k ∧ f r = true ∧ ∀ j, i ≤ j → j < r → f j = false)
  | 0, i => .inl ⟨rfl, fun j h1 h2 => by omega⟩
  | k + 1, i => by
    unfold fstN
    cases hf : f i with
    | true => exact .inr ⟨i, by simp, Nat.le_refl _, by omega, hf, fun j h1 h2 => by omega⟩
    | false =>
      rw [if_neg (by simp)]
      rcases fstN_spec f k (i + 1) with ⟨h1, h2⟩ | ⟨r, h1, h2, h3, h4, h5⟩
      · refine .inl ⟨h1, fun j hj hj' => ?_⟩
        by_cases e : j = i
        · rw [e]; exact hf
        · exact h2 j (by omega) (by omega)
      · refine .inr ⟨r, h1, by omega, by omega, h4, fun j hj hj' => ?_⟩
        by_cases e : j = i
        · rw [e]; exact hf
        · exact h5 j (by omega) (by omega)
def oneB (s : Sh) (hi : Ic) (b : Int) : Bool := decide ((speedP s (setP hi b) false : Int) < 10)
/-- what Free says of the first hours -/
def Fr (s : Sh) (lo hi : Ic) (q : Cv) (A B E : Int) : Prop :=
  (E = 4 ∧ ∀ i, i < q.n → oneB s hi (q.y i) = true) ∨
  (E = 0 ∧ ∃ a b : Nat, A = a ∧ B = b ∧ a ≤ b ∧ b < q.n ∧ oneB s hi (q.y b) = false ∧ (∀ j, j < b → oneB s hi (q.y j) = true) ∧ oneB s lo (q.x a) = false ∧ ∀ j, j < a → oneB s lo (q.x j) = true)
def OkQ (q : Cv) : Prop := ∀ i, i < q.n → 0 ≤ q.x i ∧ q.x i ≤ q.y i ∧ q.y i ≤ 3
theorem prE_of {q : Cv} (h : OkQ q) (hn : q.n ≤ 240) : prE q = 0 := by
  unfold prE
  rw [if_pos hn, if_pos]
  refine allN_iff.2 fun i hi => ?_
  unfold prOk
  exact decide_eq_true (h i hi)
theorem oneF_eq {s : Sh} (g : Good s) {lo hi : Ic} (gc : GoodC lo hi) {q : Cv} (h : OkQ q) {i : Nat} (hi' : i < q.n) : oneF s lo hi q i = !oneB s hi (q.y i) ∧ allF' s lo hi q i = !oneB s lo (q.x i) := by
  obtain ⟨h0, h1, h2⟩ := h i hi'
  have gq := setP_good gc h0 h1 h2
  unfold oneF allF' oneB
  rw [(bes_one (ch := false) g gq).1, (bes_one (ch := false) g gq).2]
  exact ⟨rfl, rfl⟩
theorem oneB_le {s : Sh} (g : Good s) {i j : Ic} (gi : GoodI i) (gj : GoodI j) (h : LeI i j) {a b : Int} (h0 : 0 ≤ a) (h1 : a ≤ b) (h2 : b ≤ 3) (ha : oneB s i a = true) : oneB s j b = true := by
  unfold oneB at *
  have := speed_le (a := false) (b := false) g (i := setP i a) (j := setP j b) ⟨gi.conc, gi.thick, gi.ridge, ⟨h0, by show a ≤ 3; omega⟩⟩ ⟨gj.conc, gj.thick, gj.ridge, ⟨by show 0 ≤ b; omega, h2⟩⟩ ⟨h.conc, h.thick, h.ridge, h1⟩ (fun h => h)
  simp only [decide_eq_true_eq] at *
  omega
theorem fr_of {s : Sh} (hc : chkP s = 0) {lo hi : Ic} (gc : GoodC lo hi) {q : Cv} (h : OkQ q) (hn : q.n ≤ 240) : ∃ A B E : Int, FreeRes s lo hi q = .tuple #[.agg #[.int .i64 A, .int .i64 B], .int .i64 E] ∧ Fr s lo hi q A B E := by
  have g := good_of hc
  have hz : orL [chkP s, cellE lo hi, prE q] = 0 := by rw [hc, cellE_of gc, prE_of h hn]; rfl
  unfold FreeRes
  rw [if_pos hz]
  rcases fstN_spec (oneF s lo hi q) q.n 0 with ⟨e, h1⟩ | ⟨b, e, _, h2, h3, h4⟩
  · rw [if_pos (by rw [e]; decide)]
    refine ⟨_, _, _, rfl, .inl ⟨rfl, fun i hi' => ?_⟩⟩
    have := h1 i (Nat.zero_le _) (by omega)
    rw [(oneF_eq g gc h hi').1] at this
    simpa using this
  · rw [if_neg (by rw [e]; omega)]
    have hb : b < q.n := by omega
    have ob := (oneF_eq g gc h hb).1
    have b1 : oneB s hi (q.y b) = false := by rw [h3] at ob; simpa using ob.symm
    have b2 : ∀ j, j < b → oneB s hi (q.y j) = true := fun j hj => by
      have := h4 j (Nat.zero_le _) hj
      rw [(oneF_eq g gc h (show j < q.n by omega)).1] at this
      simpa using this
    obtain ⟨q0, q1, q2⟩ := h b hb
    have b3 : oneB s lo (q.x b) = false := by
      cases hx : oneB s lo (q.x b) with
      | false => rfl
      | true => rw [oneB_le g gc.gl gc.gh gc.le q0 q1 q2 hx] at b1; cases b1
    rcases fstN_spec (allF' s lo hi q) q.n 0 with ⟨e', h1'⟩ | ⟨a, e', _, h2', h3', h4'⟩
    · have := h1' b (Nat.zero_le _) (by omega)
      rw [(oneF_eq g gc h hb).2, b3] at this
      cases this
    · have ha : a < q.n := by omega
      have oa := (oneF_eq g gc h ha).2
      have a1 : oneB s lo (q.x a) = false := by rw [h3'] at oa; simpa using oa.symm
      have a2 : ∀ j, j < a → oneB s lo (q.x j) = true := fun j hj => by
        have := h4' j (Nat.zero_le _) hj
        rw [(oneF_eq g gc h (show j < q.n by omega)).2] at this
        simpa using this
      refine ⟨_, _, _, rfl, .inr ⟨rfl, a, b, e', e, ?_, hb, b1, b2, a1, a2⟩⟩
      rcases Nat.lt_or_ge b a with hl | hl
      · rw [a2 b hl] at b3; cases b3
      · exact hl
/-- pressure that is nowhere greater -/
theorem free_le {s : Sh} (g : Good s) {lo hi : Ic} (gc : GoodC lo hi) {q r : Cv} (hq : OkQ q) (hr : OkQ r) (hn : r.n = q.n) (hx : ∀ i, i < q.n → r.x i ≤ q.x i) (hy : ∀ i, i < q.n → r.y i ≤ q.y i) {A B E C D F : Int} (h : Fr s lo hi q A B E) (k : Fr s lo hi r C D F) :
    (E = 4 ∧ (F = 4 ∨ F = 0)) ∨ (E = 0 ∧ F = 0 ∧ C ≤ A ∧ D ≤ B ∧ 0 ≤ A ∧ A ≤ B ∧ B < q.n) := by
  rcases h with ⟨e, _⟩ | ⟨e, a, b, rfl, rfl, hab, hb, b1, b2, a1, a2⟩
  · rcases k with ⟨f, _⟩ | ⟨f, _⟩
    · exact .inl ⟨e, .inl f⟩
    · exact .inl ⟨e, .inr f⟩
  · obtain ⟨r0, r1, r2⟩ := hr b (by omega)
    obtain ⟨q0, q1, q2⟩ := hq b hb
    have c1 : oneB s hi (r.y b) = false := by
      cases hz : oneB s hi (r.y b) with
      | false => rfl
      | true => rw [oneB_le g gc.gh gc.gh (LeI.refl _) (by omega) (hy b hb) q2 hz] at b1; cases b1
    obtain ⟨p0, p1, p2⟩ := hq a (by omega)
    obtain ⟨s0, s1, s2⟩ := hr a (by omega)
    have c2 : oneB s lo (r.x a) = false := by
      cases hz : oneB s lo (r.x a) with
      | false => rfl
      | true => rw [oneB_le g gc.gl gc.gl (LeI.refl _) s0 (hx a (by omega)) (by omega) hz] at a1; cases a1
    rcases k with ⟨f, kf⟩ | ⟨f, c, d, rfl, rfl, hcd, hd, d1, d2, d3, d4⟩
    · rw [kf b (by omega)] at c1; cases c1
    · refine .inr ⟨e, f, ?_, ?_, by omega, by omega, by omega⟩
      · rcases Nat.lt_or_ge a c with hl | hl
        · rw [d4 a hl] at c2; cases c2
        · omega
      · rcases Nat.lt_or_ge b d with hl | hl
        · rw [d2 b hl] at c1; cases c1
        · omega
theorem Free_ex (s : Sh) (ms : Mem3) (lo hi : Ic) (p : Option Addr) (n cap : Nat) (q : Cv) (w : World) (hs : ShipIn w s ms) (hl : Lim w) (hc : chkP s = 0) (gc : GoodC lo hi) (hq : OkQ q) (hn : q.n = n) (hm : n ≤ 240) (hP : Pts w p q) :
    Calls Tryz.prog 38 #[.agg (shipA s ms), .agg (cellV lo hi), .slice p n cap] w fun e w' => ∃ A B E : Int, e = .returned (.tuple #[.agg #[.int .i64 A, .int .i64 B], .int .i64 E]) ∧ Fr s lo hi q A B E ∧ Below w.heap.size w w' := by
  refine (Free_any s ms lo hi p n cap q w hs hl hn (by omega) hP).mono ?_
  rintro e w' ⟨rfl, hb⟩
  obtain ⟨A, B, E, h1, h2⟩ := fr_of hc gc hq (by omega)
  exact ⟨A, B, E, by rw [h1], h2, hb⟩
end Go.Proofs.YtcoiklolgilhaaaGreatDoor
namespace Go.Proofs.YtcoiklolgilhaaaGreatDoor
open Go.RowKit
set_option maxRecDepth 100000
theorem und91 : Tryz.prog.underlying 64 = some (.slice 28) := by kernel_rfl
theorem info57 : (Tryz.prog.info? 28).map (fun i => (i.zero, i.size, i.bytes)) = some (some (.agg #[.int .i64 0, .int .i64 0]), 2, 16) := by kernel_rfl
/-- a row of spans -/
abbrev SRow (W : World) (base : Nat) (v : Value) (l : List (Int × Int)) : Prop := W.ownsRow base 28 2 v l.length (flatP l)
theorem SRow.pts {W : World} {base : Nat} {p : Option Addr} {n c : Nat} {l : List (Int × Int)} (h : SRow W base (.slice p n c) l) : Pts W p (cvOf l) := fun i hi => by
  have hi' : i < l.length := hi
  rcases h.2 with ⟨_, e2⟩ | ⟨g, cap, cur, e1, _, hg, hn, _, hsz, htk⟩
  · rw [e2] at hi'; omega
  · simp only [Value.slice.injEq] at e1
    obtain ⟨rfl, _, _⟩ := e1
    obtain ⟨h1, h2⟩ := flatP_get l i hi'
    have hc := fun o => cell_of_block hg o
    have hlen : (flatP l).length = l.length * 2 := flatP_len l
    have get : ∀ j, j < l.length * 2 → cur[j]? = (flatP l)[j]? := fun j hj => by
      rw [← htk, List.getElem?_take_of_lt hj, Array.getElem?_toList]
    refine ⟨g, 0, rfl, lt_of_block hg, ?_, ?_⟩
    · rw [Nat.zero_add]; exact (hc _).trans ((get _ (by omega)).trans h1)
    · rw [Nat.zero_add]; exact (hc _).trans ((get _ (by omega)).trans h2)
theorem srow_one (W : World) (base : Nat) (x y : Int) (hb : base ≤ W.heap.size) : SRow (W.alloc (.cells #[.int .i64 x, .int .i64 y] 28)) base (.slice (some ⟨W.heap.size, 0, none⟩) 1 1) [(x, y)] :=
  ⟨rfl, .inr ⟨W.heap.size, 1, #[.int .i64 x, .int .i64 y], rfl, hb, block_new W _, Nat.le_refl _, by decide, rfl, rfl⟩⟩
theorem sown_ne {W : World} {base : Nat} {v : Value} {l : List (Int × Int)} (h : SRow W base v l) {b : Nat} (hb : b < base ∨ W.heap.size ≤ b) : some b ≠ v.ownBlock := by
  rcases h.2 with ⟨rfl, _⟩ | ⟨g, cap, cur, rfl, hbg, hg, _⟩
  · simp [Value.ownBlock]
  · intro e
    obtain rfl : b = g := by simpa [Value.ownBlock] using e
    have := (Array.getElem?_eq_some_iff.1 hg).1
    omega
theorem sown_base {W : World} {base : Nat} {v : Value} {l : List (Int × Int)} (h : SRow W base v l) : ∀ j, v.ownBlock = some j → base ≤ j := fun j e => by
  rcases h.2 with ⟨rfl, _⟩ | ⟨g, cap, cur, rfl, hbg, hg, _⟩
  · simp [Value.ownBlock] at e
  · obtain rfl : g = j := by simpa [Value.ownBlock] using e
    exact hbg
theorem srow_chg {W W' : World} {base b : Nat} {v : Value} {l : List (Int × Int)} (h : SRow W base v l) (hc : Chg b W W') (hb : b < base) : SRow W' base v l := by
  refine h.kept (row := some b) ⟨hc.2.2.1, hc.2.2.2.1, hc.2.2.2.2, Nat.le_of_eq hc.1.symm, fun k _ hk => hc.2.1 k (fun e => hk (by rw [e]))⟩ ?_
  right
  intro e
  have := sown_base h b e
  omega
theorem srow_grow {W W' : World} {base lim : Nat} {v : Value} {l : List (Int × Int)} {row : Option Nat} (h : SRow W base v l) (hg : W.grownBy W' row) (hr : ∀ j, row = some j → lim ≤ j) (hv : ∀ j, v.ownBlock = some j → j < lim) : SRow W' base v l := by
  refine h.kept hg ?_
  cases hvb : v.ownBlock with
  | none => exact .inl rfl
  | some j =>
    right
    intro e
    have h1 := hr j e.symm
    have h2 := hv j hvb
    omega
theorem sown_lt {W : World} {base : Nat} {v : Value} {l : List (Int × Int)} (h : SRow W base v l) : ∀ j, v.ownBlock = some j → j < W.heap.size := fun j e => by
  rcases h.2 with ⟨rfl, _⟩ | ⟨g, cap, cur, rfl, hbg, hg, _⟩
  · simp [Value.ownBlock] at e
  · obtain rfl : g = j := by simpa [Value.ownBlock] using e
    exact (Array.getElem?_eq_some_iff.1 hg).1

theorem srow_sto {W W' : World} {base b : Nat} {v : Value} {l : List (Int × Int)} (h : SRow W base v l) (hc : Chg b W W') (hne : v.ownBlock ≠ some b) : SRow W' base v l :=
  h.kept (row := some b) ⟨hc.2.2.1, hc.2.2.2.1, hc.2.2.2.2, Nat.le_of_eq hc.1.symm, fun k _ hk => hc.2.1 k (fun e => hk (by rw [e]))⟩ (.inr hne)
section
variable {Q : Exit → Act → World → Prop} {o : Oper} {a' : Act} {W : World}
theorem op_minc {t : Nat} {c x : Int} (hop : o.op = Op.call { callee := .builtin .min, args := #[.const (.int .i64 c), .tmp t], argTypes := #[3, 3] }) (ht : a'.eval (.tmp t) = .int .i64 x) :
    o.wp Tryz.prog a' W (fun a'' W' => a'' = a'.put o.dst (.int .i64 (mn c x)) ∧ Below W.heap.size W W') Q := by
  have hr := Below.refl W.heap.size W
  have ht' : a'.tmps[t]?.getD undef = .int .i64 x := by simpa [Act.eval] using ht
  unfold Oper.wp execOp
  rw [hop]
  have := mn_if c x
  by_cases h : x < c
  · rw [if_pos h] at this
    simp [go_sem, ht', hr, h, ← this]
  · rw [if_neg h] at this
    simp [go_sem, ht', hr, h, ← this]
theorem op_maxc {t : Nat} {c x : Int} (hop : o.op = Op.call { callee := .builtin .max, args := #[.const (.int .i64 c), .tmp t], argTypes := #[3, 3] }) (ht : a'.eval (.tmp t) = .int .i64 x) :
    o.wp Tryz.prog a' W (fun a'' W' => a'' = a'.put o.dst (.int .i64 (mx c x)) ∧ Below W.heap.size W W') Q := by
  have hr := Below.refl W.heap.size W
  have ht' : a'.tmps[t]?.getD undef = .int .i64 x := by simpa [Act.eval] using ht
  unfold Oper.wp execOp
  rw [hop]
  have := mx_if c x
  by_cases h : c < x
  · rw [if_pos h] at this
    simp [go_sem, ht', hr, h, ← this]
  · rw [if_neg h] at this
    simp [go_sem, ht', hr, h, ← this]
theorem op_maxt {s t : Nat} {c x : Int} (hop : o.op = Op.call { callee := .builtin .max, args := #[.tmp s, .tmp t], argTypes := #[3, 3] }) (hs : a'.eval (.tmp s) = .int .i64 c) (ht : a'.eval (.tmp t) = .int .i64 x) :
    o.wp Tryz.prog a' W (fun a'' W' => a'' = a'.put o.dst (.int .i64 (mx c x)) ∧ Below W.heap.size W W') Q := by
  have hr := Below.refl W.heap.size W
  have hs' : a'.tmps[s]?.getD undef = .int .i64 c := by simpa [Act.eval] using hs
  have ht' : a'.tmps[t]?.getD undef = .int .i64 x := by simpa [Act.eval] using ht
  unfold Oper.wp execOp
  rw [hop]
  have := mx_if c x
  by_cases h : c < x
  · rw [if_pos h] at this
    simp [go_sem, hs', ht', hr, h, ← this]
  · rw [if_neg h] at this
    simp [go_sem, hs', ht', hr, h, ← this]
end
section
variable (w1 : World) (p : Option Addr) (k cap : Nat) (p' : Option Addr) (k' cap' : Nat) (s : Sh) (m : Mem3) (lo hi : Ic)
structure Wm (W : World) : Prop where
  nx1 : NxIn w1 p k cap (w1.heap.size + 1 + 1 + 1) (w1.heap.size + 1 + 1) W
  nx2 : NxIn w1 p' k' cap' (w1.heap.size + 1 + 1 + 1 + 1 + 1) (w1.heap.size + 1 + 1 + 1 + 1) W
  k1 : W.heap[w1.heap.size]? = some (.cells (shipA s m) 24 (0, 0))
  k2 : W.heap[w1.heap.size + 1]? = some (.cells (cellV lo hi) 30 (0, 0))
structure WR (M : Nat) (v1 v2 : Value) (l1 l2 : List (Int × Int)) (W : World) : Prop where
  wm : Wm w1 p k cap p' k' cap' s m lo hi W
  r1 : SRow W M v1 l1
  r2 : SRow W M v2 l2
structure W7 (M : Nat) (v1 v2 : Value) (l1 l2 : List (Int × Int)) (B : Nat) (a : Int) (L : Nat → Bool) (W : World) : Prop where
  wr : WR w1 p k cap p' k' cap' s m lo hi M v1 v2 l1 l2 W
  b : ∃ y : Int, W.heap[B]? = some (.cells #[.int .i64 a, .int .i64 y] 28 (0, 0)) ∧ (L 7 = true → a ≤ y ∧ y ≤ 3)
structure W9 (M : Nat) (v1 v2 : Value) (l1 l2 : List (Int × Int)) (B M9 : Nat) (a y : Int) (L : Nat → Bool) (V : Nat → Value) (W : World) : Prop where
  wr : WR w1 p k cap p' k' cap' s m lo hi M v1 v2 l1 l2 W
  c : W.heap[B]? = some (.cells #[.int .i64 a, .int .i64 y] 28 (0, 0))
  m9 : M9 ≤ W.heap.size
  d : L 8 = true → L 7 = true
  b : L 7 = true → ∃ (B' : Nat) (u z : Int), V 7 = .pointer (some ⟨B', 0, none⟩) ∧ M9 ≤ B' ∧ W.heap[B']? = some (.cells #[.int .i64 u, .int .i64 z] 28 (0, 0)) ∧ (L 8 = true → 0 ≤ u ∧ u ≤ a ∧ z = 0)
structure W10 (M : Nat) (v1 v2 : Value) (l1 l2 : List (Int × Int)) (B B' : Nat) (a y u : Int) (L : Nat → Bool) (W : World) : Prop where
  wr : WR w1 p k cap p' k' cap' s m lo hi M v1 v2 l1 l2 W
  c : W.heap[B]? = some (.cells #[.int .i64 a, .int .i64 y] 28 (0, 0))
  b : ∃ z : Int, W.heap[B']? = some (.cells #[.int .i64 u, .int .i64 z] 28 (0, 0)) ∧ (L 9 = true → u ≤ z ∧ z ≤ y)
end
section
variable {w1 : World} {p : Option Addr} {k cap : Nat} {p' : Option Addr} {k' cap' : Nat} {s : Sh} {m : Mem3} {lo hi : Ic} {W W' : World} {M B B' M9 : Nat} {v1 v2 : Value} {l1 l2 : List (Int × Int)} {a y u : Int} {L : Nat → Bool} {V : Nat → Value}
theorem Wm.lt (h : Wm w1 p k cap p' k' cap' s m lo hi W) : w1.heap.size + 1 + 1 + 1 + 1 + 1 < W.heap.size := by
  obtain ⟨i, _, hi⟩ := h.nx2.i
  exact lt_of_block hi
theorem Wm.up (h : Wm w1 p k cap p' k' cap' s m lo hi W) {n : Nat} (hb : Below n W W') (hn : w1.heap.size + 1 + 1 + 1 + 1 + 1 + 1 ≤ n) : Wm w1 p k cap p' k' cap' s m lo hi W' :=
  ⟨h.nx1.keep (h.nx1.low.trans (hb.mono (by omega))) (hb.block _ (by omega)) (hb.block _ (by omega)), h.nx2.keep (h.nx2.low.trans (hb.mono (by omega))) (hb.block _ (by omega)) (hb.block _ (by omega)), (hb.block _ (by omega)).trans h.k1, (hb.block _ (by omega)).trans h.k2⟩
theorem Wm.later (h : Wm w1 p k cap p' k' cap' s m lo hi W) (hb : Below W.heap.size W W') : Wm w1 p k cap p' k' cap' s m lo hi W' := h.up hb h.lt
theorem Wm.ch1 (h : Wm w1 p k cap p' k' cap' s m lo hi W) (hN : NxIn w1 p k cap (w1.heap.size + 1 + 1 + 1) (w1.heap.size + 1 + 1) W') (hC : Chg (w1.heap.size + 1 + 1 + 1) W W') : Wm w1 p k cap p' k' cap' s m lo hi W' :=
  ⟨hN, h.nx2.keep hN.low (hC.2.1 _ (by omega)) (hC.2.1 _ (by omega)), (hC.2.1 _ (by omega)).trans h.k1, (hC.2.1 _ (by omega)).trans h.k2⟩
theorem Wm.ch2 (h : Wm w1 p k cap p' k' cap' s m lo hi W) (hN : NxIn w1 p' k' cap' (w1.heap.size + 1 + 1 + 1 + 1 + 1) (w1.heap.size + 1 + 1 + 1 + 1) W') (hC : Chg (w1.heap.size + 1 + 1 + 1 + 1 + 1) W W') : Wm w1 p k cap p' k' cap' s m lo hi W' :=
  ⟨h.nx1.keep hN.low (hC.2.1 _ (by omega)) (hC.2.1 _ (by omega)), hN, (hC.2.1 _ (by omega)).trans h.k1, (hC.2.1 _ (by omega)).trans h.k2⟩
theorem WR.later (h : WR w1 p k cap p' k' cap' s m lo hi M v1 v2 l1 l2 W) (hb : Below W.heap.size W W') : WR w1 p k cap p' k' cap' s m lo hi M v1 v2 l1 l2 W' := ⟨h.wm.later hb, row_later h.r1 hb, row_later h.r2 hb⟩
theorem WR.ch1 (h : WR w1 p k cap p' k' cap' s m lo hi M v1 v2 l1 l2 W) (hN : NxIn w1 p k cap (w1.heap.size + 1 + 1 + 1) (w1.heap.size + 1 + 1) W') (hC : Chg (w1.heap.size + 1 + 1 + 1) W W') (hM : w1.heap.size + 1 + 1 + 1 + 1 + 1 + 1 ≤ M) : WR w1 p k cap p' k' cap' s m lo hi M v1 v2 l1 l2 W' := ⟨h.wm.ch1 hN hC, srow_chg h.r1 hC (by omega), srow_chg h.r2 hC (by omega)⟩
theorem WR.ch2 (h : WR w1 p k cap p' k' cap' s m lo hi M v1 v2 l1 l2 W) (hN : NxIn w1 p' k' cap' (w1.heap.size + 1 + 1 + 1 + 1 + 1) (w1.heap.size + 1 + 1 + 1 + 1) W') (hC : Chg (w1.heap.size + 1 + 1 + 1 + 1 + 1) W W') (hM : w1.heap.size + 1 + 1 + 1 + 1 + 1 + 1 ≤ M) : WR w1 p k cap p' k' cap' s m lo hi M v1 v2 l1 l2 W' := ⟨h.wm.ch2 hN hC, srow_chg h.r1 hC (by omega), srow_chg h.r2 hC (by omega)⟩
theorem WR.sto (h : WR w1 p k cap p' k' cap' s m lo hi M v1 v2 l1 l2 W) {b : Nat} (hc : Chg b W W') (hM : w1.heap.size + 1 + 1 + 1 + 1 + 1 + 1 ≤ b) (h1 : v1.ownBlock ≠ some b) (h2 : v2.ownBlock ≠ some b) : WR w1 p k cap p' k' cap' s m lo hi M v1 v2 l1 l2 W' := ⟨h.wm.up (hc.below hM) (Nat.le_refl _), srow_sto h.r1 hc h1, srow_sto h.r2 hc h2⟩
theorem W7.later (h : W7 w1 p k cap p' k' cap' s m lo hi M v1 v2 l1 l2 B a L W) (hb : Below W.heap.size W W') : W7 w1 p k cap p' k' cap' s m lo hi M v1 v2 l1 l2 B a L W' := by
  obtain ⟨y, h1, h2⟩ := h.b
  exact ⟨h.wr.later hb, y, (hb.block _ (lt_of_block h1)).trans h1, h2⟩
theorem W7.set (h : W7 w1 p k cap p' k' cap' s m lo hi M v1 v2 l1 l2 B a L W) (i : Nat) (hi' : i ≠ 7) : W7 w1 p k cap p' k' cap' s m lo hi M v1 v2 l1 l2 B a (fun j => if j = i then true else L j) W := by
  refine ⟨h.wr, ?_⟩
  simp only [if_neg (Ne.symm hi')]
  exact h.b
theorem W9.later (h : W9 w1 p k cap p' k' cap' s m lo hi M v1 v2 l1 l2 B M9 a y L V W) (hb : Below W.heap.size W W') : W9 w1 p k cap p' k' cap' s m lo hi M v1 v2 l1 l2 B M9 a y L V W' := by
  refine ⟨h.wr.later hb, (hb.block _ (lt_of_block h.c)).trans h.c, Nat.le_trans h.m9 hb.size, h.d, fun e => ?_⟩
  obtain ⟨B', u, z, h1, h2, h3, h4⟩ := h.b e
  exact ⟨B', u, z, h1, h2, (hb.block _ (lt_of_block h3)).trans h3, h4⟩
theorem W9.set (h : W9 w1 p k cap p' k' cap' s m lo hi M v1 v2 l1 l2 B M9 a y L V W) (i : Nat) (h7 : i ≠ 7) (h8 : i ≠ 8) (x : Value) : W9 w1 p k cap p' k' cap' s m lo hi M v1 v2 l1 l2 B M9 a y (fun j => if j = i then true else L j) (fun j => if j = i then x else V j) W := by
  refine ⟨h.wr, h.c, h.m9, ?_, ?_⟩
  · simp only [if_neg (Ne.symm h7), if_neg (Ne.symm h8)]; exact h.d
  · simp only [if_neg (Ne.symm h7), if_neg (Ne.symm h8)]; exact h.b
theorem W10.later (h : W10 w1 p k cap p' k' cap' s m lo hi M v1 v2 l1 l2 B B' a y u L W) (hb : Below W.heap.size W W') : W10 w1 p k cap p' k' cap' s m lo hi M v1 v2 l1 l2 B B' a y u L W' := by
  obtain ⟨z, h1, h2⟩ := h.b
  exact ⟨h.wr.later hb, (hb.block _ (lt_of_block h.c)).trans h.c, z, (hb.block _ (lt_of_block h1)).trans h1, h2⟩
theorem W10.set (h : W10 w1 p k cap p' k' cap' s m lo hi M v1 v2 l1 l2 B B' a y u L W) (i : Nat) (hi' : i ≠ 9) : W10 w1 p k cap p' k' cap' s m lo hi M v1 v2 l1 l2 B B' a y u (fun j => if j = i then true else L j) W := by
  refine ⟨h.wr, h.c, ?_⟩
  simp only [if_neg (Ne.symm hi')]
  exact h.b
end
end Go.Proofs.YtcoiklolgilhaaaGreatDoor
