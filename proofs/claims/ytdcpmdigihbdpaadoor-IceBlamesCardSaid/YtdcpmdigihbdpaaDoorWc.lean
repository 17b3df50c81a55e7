/- The law IceGuilt over memory: any reports in any slice, any rates. The table of limits holds 100, 400, 100, 3. -/
import Derived.Test.YtdcpmdigihbdpaaDoorWb
import Derived.Test.YtdcpmdigihbdpaaDoorSj
import Derived.Test.YtdcpmdigihbdpaaDoorSo
import Derived.Test.YtdcpmdigihbdpaaDoorSp
namespace Go.Proofs.YtdcpmdigihbdpaaDoor
open Go.RowKit
set_option maxRecDepth 100000
theorem RepsO.later {w W : World} {p : Option Addr} {n : Nat} {R : Nat → Rep} (h : RepsO w p n R) (hb : Below w.heap.size w W) : RepsO W p n R := fun i hi => by
  obtain ⟨b, o, e, h1, h2⟩ := h i hi
  exact ⟨b, o, e, Nat.lt_of_lt_of_le h1 hb.size, fun c v hv => (hb.cell (p := ⟨b, o + i * 14 + c, none⟩) h1).trans (h2 c v hv)⟩
/-- Whether one of the first pairs has a number. -/
def inP (ps : List (Nat × Nat)) (i : Nat) : Nat → Bool
  | 0 => false
  | a + 1 => inP ps i a || ((ps[a]?.getD (0, 0)).1 == i || (ps[a]?.getD (0, 0)).2 == i)
theorem inP_false {ps : List (Nat × Nat)} {i : Nat} : ∀ {a : Nat}, inP ps i a = false → ∀ b, b < a → (ps[b]?.getD (0, 0)).1 ≠ i ∧ (ps[b]?.getD (0, 0)).2 ≠ i
  | a + 1, h, b, hb => by
    unfold inP at h
    simp only [Bool.or_eq_false_iff, beq_eq_false_iff_ne] at h
    by_cases e : b = a
    · subst e; exact h.2
    · exact inP_false h.1 b (by omega)
theorem inP_all {ps : List (Nat × Nat)} {i : Nat} (h : inP ps i ps.length = false) : ∀ p ∈ ps, p.1 ≠ i ∧ p.2 ≠ i := fun p hp => by
  obtain ⟨b, hb, rfl⟩ := List.mem_iff_getElem.1 hp
  have := inP_false h b hb
  rwa [List.getElem?_eq_getElem hb] at this
theorem pairRow_get : ∀ (l : List (Nat × Nat)) (a : Nat) (h : a < l.length), (pairRow l)[a * 2]? = some (.int .i64 ((l[a].1 : Nat) : Int)) ∧ (pairRow l)[a * 2 + 1]? = some (.int .i64 ((l[a].2 : Nat) : Int))
  | [], a, h => by simp at h
  | x :: r, 0, _ => ⟨rfl, rfl⟩
  | x :: r, a + 1, h => by
    have := pairRow_get r a (by simpa using h)
    have e : pairRow (x :: r) = [Value.int .i64 (x.1 : Int), Value.int .i64 (x.2 : Int)] ++ pairRow r := by simp [pairRow]
    rw [e, List.getElem?_append_right (by simp; omega), List.getElem?_append_right (by simp; omega)]
    have e1 : (a + 1) * 2 - [Value.int .i64 (x.1 : Int), Value.int .i64 (x.2 : Int)].length = a * 2 := by simp; omega
    have e2 : (a + 1) * 2 + 1 - [Value.int .i64 (x.1 : Int), Value.int .i64 (x.2 : Int)].length = a * 2 + 1 := by simp; omega
    rw [e1, e2]
    simpa using this
/-- Pairs in a slice. -/
def PairsAt (W : World) (p : Option Addr) (l : List (Nat × Nat)) : Prop := ∀ a (ha : a < l.length), ∃ b, p = some ⟨b, 0, none⟩ ∧ b < W.heap.size ∧ W.cell? ⟨b, a * 2, none⟩ = some (.int .i64 ((l[a].1 : Nat) : Int)) ∧ W.cell? ⟨b, a * 2 + 1, none⟩ = some (.int .i64 ((l[a].2 : Nat) : Int))
theorem PairsAt.later {w W : World} {p : Option Addr} {l : List (Nat × Nat)} (h : PairsAt w p l) (hb : Below w.heap.size w W) : PairsAt W p l := fun a ha => by
  obtain ⟨b, e, h1, h2, h3⟩ := h a ha
  exact ⟨b, e, Nat.lt_of_lt_of_le h1 hb.size, (hb.cell (p := ⟨b, a * 2, none⟩) h1).trans h2, (hb.cell (p := ⟨b, a * 2 + 1, none⟩) h1).trans h3⟩
theorem pairs_at {W : World} {base : Nat} {v : Value} {l : List (Nat × Nat)} (h : W.ownsRow base 77 2 v l.length (pairRow l)) : ∃ p c, v = .slice p l.length c ∧ PairsAt W p l := by
  have hr := h
  rcases h.2 with ⟨rfl, e⟩ | ⟨g, cap, cur, rfl, _, hg, _⟩
  · exact ⟨none, 0, by rw [e], fun a ha => by omega⟩
  · refine ⟨_, cap, rfl, fun a ha => ⟨g, rfl, lt_of_block hg, ?_, ?_⟩⟩
    · have := hr.cells (g := g) rfl (a * 2) _ (pairRow_get l a ha).1
      have hadd : (⟨g, 0, none⟩ : Addr).add (a * 2) = ⟨g, a * 2, none⟩ := by unfold Addr.add; split <;> simp_all
      rwa [hadd] at this
    · have := hr.cells (g := g) rfl (a * 2 + 1) _ (pairRow_get l a ha).2
      have hadd : (⟨g, 0, none⟩ : Addr).add (a * 2 + 1) = ⟨g, a * 2 + 1, none⟩ := by unfold Addr.add; split <;> simp_all
      rwa [hadd] at this
/-- Lists of numbers in a slice of slices. -/
def ListsAt (W : World) (p : Option Addr) (ls : List (List Nat)) : Prop := ∀ k (hk : k < ls.length), ∃ b pi ci, p = some ⟨b, 0, none⟩ ∧ b < W.heap.size ∧ W.cell? ⟨b, k, none⟩ = some (.slice pi (ls[k]'hk).length ci) ∧
  ∀ z (hz : z < (ls[k]'hk).length), ∃ bi, pi = some ⟨bi, 0, none⟩ ∧ bi < W.heap.size ∧ W.cell? ⟨bi, z, none⟩ = some (.int .i64 (((ls[k]'hk)[z]'hz : Nat) : Int))
theorem ListsAt.later {w W : World} {p : Option Addr} {ls : List (List Nat)} (h : ListsAt w p ls) (hb : Below w.heap.size w W) : ListsAt W p ls := fun k hk => by
  obtain ⟨b, pi, ci, e, h1, h2, h3⟩ := h k hk
  refine ⟨b, pi, ci, e, Nat.lt_of_lt_of_le h1 hb.size, (hb.cell (p := ⟨b, k, none⟩) h1).trans h2, fun z hz => ?_⟩
  obtain ⟨bi, e', k1, k2⟩ := h3 z hz
  exact ⟨bi, e', Nat.lt_of_lt_of_le k1 hb.size, (hb.cell (p := ⟨bi, z, none⟩) k1).trans k2⟩
theorem lists_at {W : World} {base : Nat} {v : Value} {ls : List (List Nat)} (h : Lists W base v ls) : ∃ p c, v = .slice p ls.length c ∧ ListsAt W p ls := by
  obtain ⟨p, c, e, hk⟩ := lists_slice h
  refine ⟨p, c, e, fun k h => ?_⟩
  obtain ⟨b, u, e1, h1, h2, h3⟩ := hk k h
  obtain ⟨pi, ci, rfl, h4⟩ := outs_cells h3
  exact ⟨b, pi, ci, e1, h1, h2, fun z hz => h4 z hz⟩
/-- What the law asks of guilt and of blamed sets. -/
structure GuiltOk (ls : List (List Nat)) (ps : List (Nat × Nat)) (n : Nat) (skl : Nat → List (List Nat)) : Prop where
  pos : 0 < ls.length
  most : ls.length ≤ 4096
  small : ∀ l ∈ ls, l.length ≤ n ∧ ∀ x ∈ l, x < n
  pairs : ps.length ≤ 144
  none : ∀ i, i < n → inP ps i ps.length = false → occ ls ls.length i = 0
  less : ∀ i, i < n → occ ls ls.length i ≠ 0 → 0 < (skl i).length ∧ ∀ (h : 0 < ls.length) (k : 0 < (skl i).length), ((skl i)[0]'k).length + 1 = (ls[0]'h).length
theorem guilt_ok {u d : Nat → Int} (R : Nat → Rep) {n : Nat} (hn : n ≤ 8) (hf : Fine u d 100 (rgRep R) n) : GuiltOk (blameL (tdLo (rgRep R) d 100) (tdHi (rgRep R) u 100) n) (cfOut (tdLo (rgRep R) d 100) (tdHi (rgRep R) u 100) n n) n
    (fun i => blameL (tdLo (fun j => rgRep R (skip i j)) d 100) (tdHi (fun j => rgRep R (skip i j)) u 100) (n - 1)) := by
  have ho := fine_ok hf
  have hl := cfOut_len (tdLo (rgRep R) d 100) (tdHi (rgRep R) u 100) n n
  refine ⟨blame_ne _ _ _, ?_, blame_lt _ _ _, ?_, ?_, ?_⟩
  · unfold blameL; rw [List.length_map, List.length_range]; exact found_len _ _ n (by omega)
  · have : n * n ≤ 8 * 8 := Nat.mul_le_mul hn hn
    omega
  · exact fun i hi h => occ_none (not_blamed (by omega) ho hi (inP_all h)) _ (Nat.le_refl _)
  · intro i hi h
    refine ⟨blame_ne _ _ _, fun h1 h2 => ?_⟩
    exact blame_skip (by omega) ho hi (List.getElem_mem _) (occ_some h) (List.getElem_mem _)
theorem guilt_cases {ls : List (List Nat)} {ps : List (Nat × Nat)} {n i : Nat} {skl : Nat → List (List Nat)} (h : GuiltOk ls ps n skl) (hi : i < n) (hb : 0 ≤ occ ls ls.length i) : (guiltF ls i = 0 ∧ occ ls ls.length i = 0) ∨ (inP ps i ps.length = true ∧ guiltF ls i = 1 ∧ 0 < occ ls ls.length i ∧ occ ls ls.length i ≠ ls.length) ∨
    (inP ps i ps.length = true ∧ guiltF ls i = 2 ∧ occ ls ls.length i = ls.length) := by
  have hp := h.pos
  have hin : occ ls ls.length i ≠ 0 → inP ps i ps.length = true := fun e => by
    cases e' : inP ps i ps.length with
    | true => rfl
    | false => exact absurd (h.none i hi e') e
  unfold guiltF
  by_cases e : occ ls ls.length i = ls.length
  · rw [if_pos e]
    exact .inr (.inr ⟨hin (by omega), rfl, e⟩)
  · rw [if_neg e]
    by_cases e2 : 0 < occ ls ls.length i
    · rw [if_pos e2]
      exact .inr (.inl ⟨hin (by omega), rfl, e2, e⟩)
    · rw [if_neg e2]
      exact .inl ⟨rfl, by omega⟩
theorem row_slice {W : World} {base n size : Nat} {e : TypeId} {v : Value} {xs : List Value} (h : W.ownsRow base e size v n xs) : ∃ p c, v = .slice p n c := by
  rcases h.2 with ⟨h1, h2⟩ | ⟨g, cap, cur, h1, _⟩
  · exact ⟨none, 0, by rw [h1, h2]⟩
  · exact ⟨_, _, h1⟩
section
variable {Q : Exit → Act → World → Prop} {o : Oper} {a : Act} {W : World} {R : Value → World → Prop}
theorem opx_slice63 {s t b n k cap : Nat} (hk : k ≤ n) (hop : o.op = Op.slice 63 (.tmp s) (some (.tmp t)) none none) (he : a.eval (.tmp s) = .slice (some ⟨b, 0, none⟩) n cap) (ht : a.eval (.tmp t) = .int .i64 k) (hR : R (.slice (some ⟨b, if cap = k then 0 else k * 14, none⟩) (n - k) (cap - k)) W) : o.wp Tryd.prog a W (fun a'' W'' => ∃ x, a'' = a.put o.dst x ∧ R x W'') Q := by
  have he' : a.tmps[s]?.getD undef = .slice (some ⟨b, 0, none⟩) n cap := by simpa [Act.eval] using he
  have ht' : a.tmps[t]?.getD undef = .int .i64 k := by simpa [Act.eval] using ht
  have hn0 : (0 : Int) ≤ (k : Int) := by omega
  have hn12 : (k : Int) ≤ (n : Int) := by omega
  refine op_val ?_ hR
  unfold execOp
  rw [hop]
  simp [go_sem, he', ht', hn0, hn12]
  split <;> rfl
theorem opx_callc3 {f s0 s1 : Nat} {v0 v1 c : Value} {ts : Array TypeId} (hop : o.op = Op.call { callee := .value (.func f), args := #[.tmp s0, .tmp s1, .const c], argTypes := ts })
    (h0 : a.eval (.tmp s0) = v0) (h1 : a.eval (.tmp s1) = v1) (eg : ∀ args w, (callFunc f args).run Tryd.prog w = .ok (.enter f args) w) (hc : Calls Tryd.prog f #[v0, v1, c] W fun e w' => ∃ x, e = .returned x ∧ R x w') : o.wp Tryd.prog a W (fun a'' W'' => ∃ x, a'' = a.put o.dst x ∧ R x W'') Q := by
  have h0' : a.tmps[s0]?.getD undef = v0 := by simpa [Act.eval] using h0
  have h1' : a.tmps[s1]?.getD undef = v1 := by simpa [Act.eval] using h1
  unfold Oper.wp execOp
  rw [hop]
  simp [go_sem, h0', h1', eg]
  refine hc.mono ?_
  rintro e w' ⟨x, rfl, hb⟩
  exact ⟨x, rfl, hb⟩
theorem opx_load41' {s b : Nat} {u d : Nat → Int} (hop : o.op = Op.load 41 (.tmp s)) (he : a.eval (.tmp s) = .pointer (some ⟨b, 0, none⟩)) (hb : W.heap[b]? = some (.cells (ratesA u d) 41 (0, 0))) (hR : R (.agg (ratesA u d)) W) : o.wp Tryd.prog a W (fun a'' W'' => ∃ x, a'' = a.put o.dst x ∧ R x W'') Q := by
  obtain ⟨⟨c0, c1, c2, c3, c4, c5, c6, c7⟩, _⟩ := cells8 hb
  have he' : a.tmps[s]?.getD undef = .pointer (some ⟨b, 0, none⟩) := by simpa [Act.eval] using he
  refine op_val ?_ hR
  unfold execOp
  rw [hop]
  simp [go_sem, he', c0, c1, c2, c3, c4, c5, c6, c7]
theorem opx_appends63 {s t n m c k : Nat} {base : Nat} {v : Value} {xs : List Value} {ad : Addr} {X : Nat → Rep} (hop : o.op = Op.call { callee := .builtin .append, args := #[.tmp s, .tmp t], argTypes := #[63, 63] })
    (he : a.eval (.tmp s) = v) (ht : a.eval (.tmp t) = .slice (some ad) m c) (hown : W.ownsRow base 67 14 v n xs) (hcl : ∀ j u, (repRow X m)[j]? = some u → W.cell? (ad.add j) = some u) (hn : n + m ≤ 5000) (hb : base ≤ W.heap.size) (hk : n + m = k)
    (hR : ∀ v' W', W'.ownsRow base 67 14 v' k (xs ++ repRow X m) → W.grownBy W' v.ownBlock → R v' W') : o.wp Tryd.prog a W (fun a'' W'' => ∃ x, a'' = a.put o.dst x ∧ R x W'') Q := by
  subst hk
  obtain ⟨i0, hi, hz0, hz1, hz2⟩ := info_parts info67
  obtain ⟨v', w', hr, h2, h3, _⟩ := run_append_own (P := Tryd.prog) W base 63 o.type 67 i0 (.agg #[.int .i64 0, .int .i64 0, .int .i64 0, .int .i64 0, .int .i64 0, .int .i64 0, .int .i64 0, .int .i64 0, .int .i64 0, .int .i64 0, .int .i64 0, .int .i64 0, .int .i64 0, .int .i64 0]) 14 112 und63 hi hz0 hz1 hz2 rfl (by decide) v n xs hown ad m c (repRow X m) (repRow_len _ _) hcl (repRow_int _ _) (by simp only [maxLen]; omega) (by omega) hb
  refine op_val (x := v') (W' := w') ?_ (hR v' w' h2 h3)
  unfold execOp
  simp only [hop, resolve, invoke, builtin, Sem.run_bind, Sem.run_pure, Result.andThen_ok, List.map_toArray, List.map_cons, List.map_nil, he, ht, hr]
end
theorem eg43 : ∀ args w, (callFunc 43 args).run Tryd.prog w = .ok (.enter 43 args) w := Go.Proofs.enters_of Tryd.func43 (by kernel_rfl) rfl
/-- Rows of reports at an address. -/
def SegAt (X : World) (ad : Addr) (R : Nat → Rep) (m : Nat) : Prop := ∀ j u, (repRow R m)[j]? = some u → X.cell? (ad.add j) = some u
theorem add_at (b off j : Nat) : (⟨b, off, none⟩ : Addr).add j = ⟨b, off + j, none⟩ := by unfold Addr.add; split <;> simp_all
theorem SegAt.heap {W X : World} {b off : Nat} {R : Nat → Rep} {m : Nat} (h : SegAt W ⟨b, off, none⟩ R m) (e : X.heap[b]? = W.heap[b]?) : SegAt X ⟨b, off, none⟩ R m := fun j u hu => by
  have := h j u hu
  rw [add_at] at this ⊢
  simpa [World.cell?, e] using this
theorem seg_of {W : World} {b n : Nat} {R : Nat → Rep} (h : Reps W (some ⟨b, 0, none⟩) n R) (k m off : Nat) (hm : k + m ≤ n) (ho : 0 < m → off = k * 14) : SegAt W ⟨b, off, none⟩ (fun j => R (k + j)) m := fun j u hu => by
  obtain ⟨h1, h2⟩ := repRow_inv hu
  obtain ⟨b', e, _, hc⟩ := h (k + j / 14) (by omega)
  cases e
  have := hc (j % 14) u h2
  rw [add_at, ho (by omega)]
  have e2 : k * 14 + j = (k + j / 14) * 14 + j % 14 := by omega
  rw [e2]; exact this
theorem SegAt.shift {X : World} {ad : Addr} {R : Nat → Rep} {k m : Nat} (h : SegAt X ad (fun j => R (k + 1 + j)) m) : SegAt X ad (fun j => R (skip k (k + j))) m := fun j u hu => h j u (by
  rw [repRow_congr (R' := fun j => R (skip k (k + j))) (fun j _ => by show R (k + 1 + j) = R (skip k (k + j)); unfold skip; rw [if_neg (by omega)]; congr 1; omega)]; exact hu)
theorem ListsAt.head {W : World} {p : Option Addr} {ls : List (List Nat)} (h : ListsAt W p ls) (hk : 0 < ls.length) : ∃ b pi ci, p = some ⟨b, 0, none⟩ ∧ W.cell? ⟨b, 0, none⟩ = some (.slice pi (ls[0]'hk).length ci) := by
  obtain ⟨b, pi, ci, e, _, h2, _⟩ := h 0 hk
  exact ⟨b, pi, ci, e, h2⟩
/-- What is known of each value of the region that asks whom the others blame. -/
def g32Pv (u d : Nat → Int) (R : Nat → Rep) (v : Value) (b k n c : Nat) (sk : List (List Nat)) (j : Nat) (y : Value) (X : World) : Prop :=
  match j with
  | 0 => y = v
  | 1 => y = .slice (some ⟨b, 0, none⟩) n c
  | 2 => y = .int .i64 (k : Int)
  | 3 => y = .int .i64 ((k + 1 : Nat) : Int)
  | 4 => ∃ off c', y = .slice (some ⟨b, off, none⟩) (n - (k + 1)) c' ∧ SegAt X ⟨b, off, none⟩ (fun j => R (skip k (k + j))) (n - (k + 1))
  | 5 => ∃ p c', y = .slice p (n - 1) c' ∧ Reps X p (n - 1) (fun j => R (skip k j))
  | 6 => y = .agg (ratesA u d)
  | 7 | 8 => ∃ p c', y = .tuple #[.slice p sk.length c', .int .i64 0] ∧ ListsAt X p sk
  | 9 | 11 => ∃ p c', y = .slice p sk.length c' ∧ ListsAt X p sk
  | 10 | 12 => y = .int .i64 0
  | _ => True
theorem g32Pv_later {u d : Nat → Int} {R : Nat → Rep} {v : Value} {b k n c : Nat} {sk : List (List Nat)} {j : Nat} {y : Value} {X X' : World} (hbX : b < X.heap.size) (h : g32Pv u d R v b k n c sk j y X) (hb : Below X.heap.size X X') : g32Pv u d R v b k n c sk j y X' := by
  match j with
  | 0 | 1 | 2 | 3 | 6 | 10 | 12 => exact h
  | 4 => obtain ⟨off, c', e, h1⟩ := h; exact ⟨off, c', e, h1.heap (hb.block b hbX)⟩
  | 5 => obtain ⟨p, c', e, h1⟩ := h; exact ⟨p, c', e, h1.later hb⟩
  | 7 | 8 | 9 | 11 => obtain ⟨p, c', e, h1⟩ := h; exact ⟨p, c', e, h1.later hb⟩
  | j + 13 => trivial
structure G32Wd (w W : World) (L : Nat → Bool) (X : World) : Prop where
  ahead : L 5 = false → Below W.heap.size W X
  below : Below w.heap.size w X
  size : W.heap.size ≤ X.heap.size
  ord : ∀ j, 7 ≤ j → L j = true → L 5 = true
theorem G32Wd.later {w W : World} {L : Nat → Bool} {X X' : World} (h : G32Wd w W L X) (hb : Below X.heap.size X X') {i : Nat} (h1 : 5 ≠ i) (h2 : 7 ≤ i → L 5 = true) : G32Wd w W (fun j => if j = i then true else L j) X' :=
  ⟨fun e => (h.ahead (by rw [if_neg h1] at e; exact e)).trans (hb.mono h.size), h.below.trans (hb.mono h.below.size), Nat.le_trans h.size hb.size,
    fun j hj e => by rw [if_neg h1]; by_cases c : j = i; (· subst c; exact h2 hj); (· rw [if_neg c] at e; exact h.ord j hj e)⟩
set_option maxHeartbeats 16000000 in
theorem Guilt_law (u d : Nat → Int) (p : Option Addr) (n cap : Nat) (R : Nat → Rep) (w : World) (hl : Lim w) (hR : RepsO w p n R) :
    Calls Tryd.prog 7 #[.slice p n cap, .agg (ratesA u d)] w fun e w' => e = .returned (.bool true) ∧ Below w.heap.size w w' := by
  have hpos := hl.pos
  have HL := Lib.hid hl
  have HR := Lib.hid hR
  clear hl hR
  have K0 := Lib.hid (block_new w (.cells (ratesA u d) 29))
  have KB := Lib.hid (show Below w.heap.size w (w.alloc (.cells (ratesA u d) 29)) from (Below.refl _ _).alloc (Nat.le_refl _) _)
  by_cases h8 : 8 < n
  · have h8' : (8 : Int) < (n : Int) := by omega
    go_enter Tryd.func7, Tryd.ntmps7
    go_wp2_with fail
    generalize w.alloc (.cells (ratesA u d) 29) = V at *
    refine (awake_any V (HL.out.below hpos KB.out)).mono ?_
    rintro e W ⟨rfl, hb⟩
    replace KB := Lib.hid (keep_bl1 KB.out hb)
    clear hb
    go_wp2_with fail
    go_ret
    exact ⟨rfl, KB.out⟩
  · have h8' : ¬ (8 : Int) < (n : Int) := by omega
    go_enter Tryd.func7, Tryd.ntmps7
    have cR := (cells8 K0.out).1
    obtain ⟨r0, r1, r2, r3, r4, r5, r6, r7⟩ := cR
    go_wp2_with fail
    clear r0 r1 r2 r3 r4 r5 r6 r7
    generalize w.alloc (.cells (ratesA u d) 29) = V at *
    refine (Rates_any u d V).mono ?_
    rintro e W ⟨rfl, hb⟩
    replace KB := Lib.hid (keep_bl (o' := .cells (ratesA u d) 41) KB.out hb)
    have K1 := Lib.hid (block_new W (.cells (ratesA u d) 41))
    clear hb K0
    go_wp2_with fail
    generalize W.alloc (.cells (ratesA u d) 41) = V1 at *
    refine (Right_full p n cap R (by omega) V1 (HR.out.later KB.out)).mono ?_
    rintro e W1 ⟨p1, c1, rfl, hX, hb, hnc⟩
    replace K1 := Lib.hid (keep_blk1 K1.out hb)
    replace KB := Lib.hid (keep_bl1 KB.out hb)
    have HX := Lib.hid hX
    clear hb hX
    have cR := (cells8 K1.out).1
    obtain ⟨r0, r1, r2, r3, r4, r5, r6, r7⟩ := cR
    go_wp2_with fail
    clear r0 r1 r2 r3 r4 r5 r6 r7
    refine (CheckRates_any u d W1).mono ?_
    rintro e W2 ⟨rfl, hb⟩
    replace K1 := Lib.hid (keep_blk1 K1.out hb)
    replace KB := Lib.hid (keep_bl1 KB.out hb)
    replace HX := Lib.hid (HX.out.later hb)
    clear hb
    by_cases hr : okRates u d = true
    · have he0 : errB (okRates u d) 6 = 0 := by rw [hr]; rfl
      rw [he0]
      have hf : Fine u d 100 (rgRep R) n := rg_fine R (fun j => j) hr (by omega) (fun a b h _ => h) (fun j hj => by omega)
      have HF := Lib.hid hf
      have HG0 := Lib.hid (guilt_ok R (by omega) hf)
      have HS := Lib.hid (fun i (hi : i < n) => (rg_fine R (skip i) hr (by omega) (fun a b h _ => skip_mono h) (fun j hj => by have := skip_lt hi hj; omega) : Fine u d 100 (fun j => rgRep R (skip i j)) (n - 1)))
      clear hf hr he0
      have cR := (cells8 K1.out).1
      obtain ⟨r0, r1, r2, r3, r4, r5, r6, r7⟩ := cR
      go_wp2_with fail
      clear r0 r1 r2 r3 r4 r5 r6 r7
      refine (Guilt_fine u d 100 p1 n c1 (rgRep R) HF.out W2 (HL.out.below hpos KB.out) HX.out).mono ?_
      rintro e W3 ⟨g, rfl, hg1, hg2, hG, hb⟩
      replace K1 := Lib.hid (keep_blk1 K1.out hb)
      replace KB := Lib.hid (keep_bl1 KB.out hb)
      replace HX := Lib.hid (HX.out.later hb)
      have HG := Lib.hid hG
      clear hb hG hg1
      have cR := (cells8 K1.out).1
      obtain ⟨r0, r1, r2, r3, r4, r5, r6, r7⟩ := cR
      go_wp2_with fail
      clear r0 r1 r2 r3 r4 r5 r6 r7
      refine (Blame_fine u d 100 p1 n c1 (rgRep R) HF.out W3 (HL.out.below hpos KB.out) HX.out).mono ?_
      rintro e W4 ⟨vs, rfl, hLs, hb⟩
      obtain ⟨pl, cl, rfl, hla⟩ := lists_at hLs
      replace K1 := Lib.hid (keep_blk1 K1.out hb)
      replace KB := Lib.hid (keep_bl1 KB.out hb)
      replace HX := Lib.hid (HX.out.later hb)
      replace HG := Lib.hid (HG.out.of_heap (hb.block g hg2))
      have hg2 := Nat.lt_of_lt_of_le hg2 hb.size
      have HLA := Lib.hid hla
      clear hb hLs hla
      have cR := (cells8 K1.out).1
      obtain ⟨r0, r1, r2, r3, r4, r5, r6, r7⟩ := cR
      go_wp2_with fail
      clear r0 r1 r2 r3 r4 r5 r6 r7
      refine (Conflicts_fine u d 100 p1 n c1 (rgRep R) HF.out W4 (HL.out.below hpos KB.out) HX.out).mono ?_
      rintro e W5 ⟨vp, rfl, hP, hb⟩
      obtain ⟨pp, cp, rfl, hpa⟩ := pairs_at hP
      replace K1 := Lib.hid (keep_blk1 K1.out hb)
      replace KB := Lib.hid (keep_bl1 KB.out hb)
      replace HX := Lib.hid (HX.out.later hb)
      replace HG := Lib.hid (HG.out.of_heap (hb.block g hg2))
      have hg3 := Nat.lt_of_lt_of_le hg2 hb.size
      replace HLA := Lib.hid (HLA.out.later hb)
      have HPA := Lib.hid hpa
      clear hb hP hpa HF hg2
      generalize blameL (tdLo (rgRep R) d 100) (tdHi (rgRep R) u 100) n = ls at *
      generalize cfOut (tdLo (rgRep R) d 100) (tdHi (rgRep R) u 100) n n = ps at *
      have hlp := HG0.out.pos
      have hlm := HG0.out.most
      have hpm := HG0.out.pairs
      have hl0 : ¬ ls.length = 0 := by omega
      have hl0' : ¬ (ls.length : Int) = 0 := by omega
      have hl0b : ((ls.length : Int) == 0) = false := by rw [beq_eq_false_iff_ne]; omega
      go_wp2_with fail
      go_loopw [13] (fun v wr => ∃ k : Nat, k ≤ n ∧ v = .int .i64 k ∧ Hid (Below W5.heap.size W5 wr)) (fun v _ => n - (intOf v).toNat)
      case atStart => exact ⟨0, by omega, rfl, Lib.hid (Below.refl _ _)⟩
      case round =>
        obtain ⟨k, hk, rfl, hB⟩ := hrel
        by_cases hlt : k < n
        · have hkn : (k : Int) < (n : Int) := by omega
          have hk0 : (0 : Int) ≤ (k : Int) := by omega
          have L1 := Lib.hid (HLA.out.later hB.out)
          have P1 := Lib.hid (HPA.out.later hB.out)
          have hgz := Nat.lt_of_lt_of_le hg3 hB.out.size
          have hgc := (((HG.out.of_heap (hB.out.block g hg3)).cell hlt).1)
          have hob := fun a => occ_bd ls k (fun l' hl' => Nat.le_trans (HG0.out.small l' hl').1 (show n ≤ 12 by omega)) a
          have HOB := Lib.hid hob
          have hgk := guilt_cases HG0.out hlt (hob _).1
          have HGC := Lib.hid hgc
          have HGK := Lib.hid hgk
          clear hob hgc hgk
          obtain ⟨wo, hwo⟩ : ∃ wo, wo = wr := ⟨_, rfl⟩
          subst hwo
          go_wp2_with fail
          go_loop [14, 16] (fun c v => ∃ a : Nat, a ≤ ls.length ∧ v = .int .i64 a ∧ ∃ x : Int, c = .int .i64 x ∧ Hid (x = occ ls a k) ∧ 0 ≤ x ∧ x ≤ 100000) (fun _ v => ls.length - (intOf v).toNat)
          case atStart => exact ⟨0, by omega, rfl, 0, rfl, Lib.hid rfl, by omega, by omega⟩
          case round =>
            obtain ⟨a, ha, rfl, x, rfl, hx, hx0, hx1⟩ := hrel
            by_cases hal : a < ls.length
            · have ha0 : (0 : Int) ≤ (a : Int) := by omega
              have ha1 : (a : Int) < (ls.length : Int) := by omega
              obtain ⟨b, pi, ci, rfl, hbs, hbc, hbz⟩ := L1.out a hal
              have HBZ := Lib.hid hbz
              have hlE := Lib.hid (show ls[a]? = some ls[a] from List.getElem?_eq_getElem hal)
              have hls := (HG0.out.small _ (List.getElem_mem hal)).1
              clear hbz
              generalize ls[a] = l at *
              go_wp2_with fail
              go_loop [14, 17] (fun c v => ∃ z : Nat, z ≤ l.length ∧ v = .int .i64 z ∧ ∃ x : Int, c = .int .i64 x ∧ Hid (x = occ ls a k + occ1 l z k) ∧ 0 ≤ x ∧ x ≤ 100000) (fun _ v => l.length - (intOf v).toNat)
              case atStart => exact ⟨0, by omega, rfl, x, rfl, Lib.hid (by rw [hx.out]; simp [occ1]), hx0, hx1⟩
              case round =>
                obtain ⟨z, hz, rfl, y, rfl, hy, hy0, hy1⟩ := hrel
                by_cases hzl : z < l.length
                · have hz0 : (0 : Int) ≤ (z : Int) := by omega
                  have hz1 : (z : Int) < (l.length : Int) := by omega
                  obtain ⟨bi, rfl, hbi, hbc2⟩ := HBZ.out z hzl
                  have hme := Lib.hid (show l[z]?.getD 0 = l[z] by simp [hzl])
                  have hbd := HOB.out a
                  have hbd1 := occ1_bd l k z
                  have hy2 : y + 1 ≤ 100000 := by rw [hy.out]; omega
                  clear hbd hbd1
                  generalize l[z] = e at *
                  by_cases hek : e = k
                  · have HE := Lib.hid (show occ1 l (z + 1) k = occ1 l z k + 1 by show occ1 l z k + (if l[z]?.getD 0 = k then 1 else 0) = _; rw [hme.out, if_pos hek])
                    subst hek
                    go_wp2_with fail
                    go_round
                    case rel => exact ⟨z + 1, by omega, by go_num, y + 1, by go_num, Lib.hid (by rw [HE.out, hy.out]; omega), by omega, by omega⟩
                    case measure => simp [intOf]; omega
                  · have HE := Lib.hid (show occ1 l (z + 1) k = occ1 l z k by show occ1 l z k + (if l[z]?.getD 0 = k then 1 else 0) = _; rw [hme.out, if_neg hek]; omega)
                    have hek' : ¬ (e : Int) = (k : Int) := by omega
                    go_wp2_with fail
                    go_round
                    case rel => exact ⟨z + 1, by omega, by go_num, y, rfl, Lib.hid (by rw [HE.out, hy.out]), by omega, by omega⟩
                    case measure => simp [intOf]; omega
                · obtain rfl : z = l.length := by omega
                  have HE := Lib.hid (show occ ls (a + 1) k = occ ls a k + occ1 l l.length k by
                    show occ ls a k + occ1 (ls[a]?.getD []) (ls[a]?.getD []).length k = _
                    rw [hlE.out]; rfl)
                  go_wp2_with fail
                  go_round
                  case rel => exact ⟨a + 1, by omega, by go_num, y, rfl, Lib.hid (by rw [HE.out, hy.out]), by omega, by omega⟩
                  case measure => simp [intOf]; omega
            · obtain rfl : a = ls.length := by omega
              go_wp2_with fail
              go_loop [15, 18] (fun c v => ∃ a : Nat, a ≤ ps.length ∧ v = .int .i64 a ∧ ∃ q : Bool, c = .bool q ∧ Hid (q = inP ps k a)) (fun _ v => ps.length - (intOf v).toNat)
              case atStart => exact ⟨0, by omega, rfl, false, rfl, Lib.hid rfl⟩
              case round =>
                obtain ⟨a, ha, rfl, q, rfl, hq⟩ := hrel
                by_cases hap : a < ps.length
                · have ha0 : (0 : Int) ≤ (a : Int) := by omega
                  have ha1 : (a : Int) < (ps.length : Int) := by omega
                  obtain ⟨b, rfl, hbs, hc1, hc2⟩ := P1.out a hap
                  have hpe := Lib.hid (show ps[a]?.getD (0, 0) = ps[a] by simp [hap])
                  generalize ps[a] = e at *
                  obtain ⟨e1, e2⟩ := e
                  simp only at hc1 hc2
                  have HE := Lib.hid (show inP ps k (a + 1) = (q || (e1 == k || e2 == k)) by show (inP ps k a || _) = _; rw [hpe.out, hq.out])
                  clear hpe
                  cases q with
                  | true =>
                    go_wp2_with fail
                    go_round
                    case rel => exact ⟨a + 1, by omega, by go_num, true, rfl, Lib.hid (by rw [HE.out]; rfl)⟩
                    case measure => simp [intOf]; omega
                  | false =>
                    by_cases h1 : e1 = k
                    · have HE2 := Lib.hid (show inP ps k (a + 1) = true by rw [HE.out, h1]; simp)
                      subst h1
                      go_wp2_with fail
                      go_round
                      case rel => exact ⟨a + 1, by omega, by go_num, true, rfl, Lib.hid (by rw [HE2.out])⟩
                      case measure => simp [intOf]; omega
                    · have h1' : ¬ (e1 : Int) = (k : Int) := by omega
                      by_cases h2 : e2 = k
                      · have HE2 := Lib.hid (show inP ps k (a + 1) = true by rw [HE.out, h2]; simp)
                        subst h2
                        go_wp2_with fail
                        go_round
                        case rel => exact ⟨a + 1, by omega, by go_num, true, rfl, Lib.hid (by rw [HE2.out])⟩
                        case measure => simp [intOf]; omega
                      · have h2' : ¬ (e2 : Int) = (k : Int) := by omega
                        have HE2 := Lib.hid (show inP ps k (a + 1) = false by rw [HE.out]; simp [h1, h2])
                        have h1b : ((e1 : Int) == (k : Int)) = false := by rw [beq_eq_false_iff_ne]; omega
                        have h2b : ((e2 : Int) == (k : Int)) = false := by rw [beq_eq_false_iff_ne]; omega
                        go_wp2_with fail
                        go_round
                        case rel => exact ⟨a + 1, by omega, by go_num, false, by simp, Lib.hid (by rw [HE2.out])⟩
                        case measure => simp [intOf]; omega
                · obtain rfl : a = ps.length := by omega
                  have hgc := HGC.out
                  have hgk := HGK.out
                  rw [← hx.out, ← hq.out] at hgk
                  obtain ⟨gx, hgx⟩ : ∃ gx, gx = guiltF ls k := ⟨_, rfl⟩
                  rw [← hgx] at hgc hgk
                  clear hgx
                  rcases hgk with ⟨rfl, rfl⟩ | ⟨rfl, rfl, h1, h2⟩ | ⟨rfl, rfl, rfl⟩
                  · cases q with
                    | true =>
                      go_wp2_with fail
                      go_roundw
                      case rel => exact ⟨k + 1, by omega, by go_num, hB⟩
                      case measure => simp [intOf]; omega
                    | false =>
                      go_wp2_with fail
                      go_roundw
                      case rel => exact ⟨k + 1, by omega, by go_num, hB⟩
                      case measure => simp [intOf]; omega
                  · have h0 : ¬ x = 0 := by omega
                    have h0b : (x == 0) = false := by rw [beq_eq_false_iff_ne]; omega
                    have h2b : (x == (ls.length : Int)) = false := by rw [beq_eq_false_iff_ne]; exact h2
                    go_wp2_with fail
                    go_roundw
                    case rel => exact ⟨k + 1, by omega, by go_num, hB⟩
                    case measure => simp [intOf]; omega
                  · have h0b : ((ls.length : Int) == 0) = false := by rw [beq_eq_false_iff_ne]; omega
                    have h3 : (0 : Int) < (ls.length : Int) := by omega
                    obtain ⟨hskp, hskl⟩ := HG0.out.less k hlt (by rw [← hx.out]; omega)
                    have hskl := hskl hlp hskp
                    have HSK := Lib.hid hskl
                    clear hskl
                    generalize hsk : blameL (tdLo (fun j => rgRep R (skip k j)) d 100) (tdHi (fun j => rgRep R (skip k j)) u 100) (n - 1) = sk at *
                    have HSKE := Lib.hid hsk
                    clear hsk
                    have hXo : Reps wo p1 n (rgRep R) := HX.out.later hB.out
                    obtain ⟨b, rfl, hbo, _⟩ := hXo k hlt
                    have K1o := Lib.hid (keep_blk1 K1.out hB.out)
                    have KBo := Lib.hid (keep_bl1 KB.out hB.out)
                    have HSEG0 := Lib.hid (fun j u (hu : (repRow (rgRep R) k)[j]? = some u) => ((Below.cell (p := (⟨b, 0, none⟩ : Addr).add j) ((Below.refl wo.heap.size wo).alloc (Nat.le_refl _) (.cells #[] 67)) (by rw [add_at]; exact hbo)).trans (seg_of (R := rgRep R) hXo 0 k 0 (by omega) (fun _ => by omega) j u (by simpa using hu)) : (wo.alloc (.cells #[] 67)).cell? ((⟨b, 0, none⟩ : Addr).add j) = some u))
                    have HSEG := Lib.hid (fun X (hX : Below wo.heap.size wo X) => ((seg_of (R := rgRep R) hXo (k + 1) (n - (k + 1)) (if c1 = k + 1 then 0 else (k + 1) * 14) (by omega) (fun h => by rw [if_neg (by omega)])).heap (hX.block b hbo) : SegAt X ⟨b, if c1 = k + 1 then 0 else (k + 1) * 14, none⟩ (fun j => rgRep R (k + 1 + j)) (n - (k + 1)))|>.shift)
                    clear hXo
                    have hkc : (k : Int) ≤ (c1 : Int) := by omega
                    obtain ⟨i0, hi, hz0, hz1, hz2⟩ := info_parts info67
                    go_wp2_with (at_builtin; refine Hid.out ?_)
                    refine Lib.hid ?_
                    refine wpList_append_own _ rfl (.tmp 185) (.tmp 188) 63 rfl wo.heap.size 67 i0 (.agg #[.int .i64 0, .int .i64 0, .int .i64 0, .int .i64 0, .int .i64 0, .int .i64 0, .int .i64 0, .int .i64 0, .int .i64 0, .int .i64 0, .int .i64 0, .int .i64 0, .int .i64 0, .int .i64 0]) 14 112 und63 hi hz0 hz1 hz2 rfl (by decide) (.slice (some ⟨wo.heap.size, 0, none⟩) 0 0) 0 [] rfl (World.ownsRow_made wo #[] 0 (Nat.le_refl _) (by decide) rfl) ⟨b, 0, none⟩ k c1 (repRow (rgRep R) k) rfl (repRow_len _ _) HSEG0.out (repRow_int _ _) (by simp only [maxLen]; omega) (by omega) (by simp) ?_
                    intro v' w1 hown' hgrow _
                    simp only [Nat.zero_add, List.nil_append] at hown'
                    have HO := Lib.hid (show w1.ownsRow wo.heap.size 67 14 v' k (repRow (fun j => rgRep R (skip k j)) k) by
                      rw [repRow_congr (R' := rgRep R) (fun j hj => by show rgRep R (skip k j) = _; unfold skip; rw [if_pos hj])]; exact hown')
                    have HB1 := Lib.hid (((Below.refl wo.heap.size wo).alloc (Nat.le_refl _) (.cells #[] 67)).grown hgrow (by simp) (fun j e => by
                      have : wo.heap.size = j := by simpa [Value.ownBlock] using e
                      omega))
                    obtain ⟨pr, cr, rfl⟩ := row_slice hown'
                    have hvlt := hown'.lt
                    clear hown' hgrow
                    go_wp2_with fail
                    refine wp_region_valsL [191, 192, 193, 194, 195, 196, 197, 198, 190, 199, 200, 20, 21] (G32Wd wo w1) (g32Pv u d (rgRep R) (.slice pr k cr) b k n c1 sk)
                      (by kernel_rfl) (by kernel_rfl) (fun s hs h => by simp at hs ⊢; omega) (by simp) ⟨fun _ => ⟨rfl, rfl, rfl, Nat.le_refl _, fun _ _ => rfl⟩, ⟨HB1.out.os, HB1.out.tape, HB1.out.output, HB1.out.size, HB1.out.block⟩, Nat.le_refl _, (fun _ _ h => by cases h)⟩ ?val ?fin
                    case val =>
                      intro j
                      match j with
                        | 0 => intro o L ho hLi hd a' X hX hfr hdp; obtain rfl := Option.some.inj ho; exact opx_move rfl (hfr 19 (by decide)) ⟨(hX.later (Below.refl _ _) (by decide) (fun h => absurd h (by decide))), rfl, fun _ _ _ h => h⟩
                        | 1 => intro o L ho hLi hd a' X hX hfr hdp; obtain rfl := Option.some.inj ho; exact opx_move rfl (hfr 6 (by decide)) ⟨(hX.later (Below.refl _ _) (by decide) (fun h => absurd h (by decide))), rfl, fun _ _ _ h => h⟩
                        | 2 => intro o L ho hLi hd a' X hX hfr hdp; obtain rfl := Option.some.inj ho; exact opx_move rfl (hfr 13 (by decide)) ⟨(hX.later (Below.refl _ _) (by decide) (fun h => absurd h (by decide))), rfl, fun _ _ _ h => h⟩
                        | 3 => intro o L ho hLi hd a' X hX hfr hdp; obtain rfl := Option.some.inj ho; exact opx_addr rfl (hdp 2 193 (by decide) rfl (by kernel_rfl)) hk0 (by omega) ⟨(hX.later (Below.refl _ _) (by decide) (fun h => absurd h (by decide))), by simp [g32Pv], fun _ _ _ h => h⟩
                        | 4 => intro o L ho hLi hd a' X hX hfr hdp; obtain rfl := Option.some.inj ho; exact opx_slice63 (k := k + 1) (by omega) rfl (hdp 1 192 (by decide) rfl (by kernel_rfl)) (hdp 3 194 (by decide) rfl (by kernel_rfl)) ⟨(hX.later (Below.refl _ _) (by decide) (fun h => absurd h (by decide))), ⟨_, _, rfl, HSEG.out X hX.below⟩, fun _ _ _ h => h⟩
                        | 5 =>
                          intro o L ho hLi hd a' X hX hfr hdp; obtain rfl := Option.some.inj ho
                          obtain ⟨off, c', e4, hseg⟩ := (hdp 4 195 (by decide) rfl (by kernel_rfl))
                          have hOX := row_later HO.out (hX.ahead hLi)
                          refine opx_appends63 (k := n - 1) rfl (hdp 0 191 (by decide) rfl (by kernel_rfl)) e4 hOX hseg (by omega) hX.below.size (by omega) ?_
                          intro v' X' hr' hg'
                          obtain ⟨p', c'', e⟩ := row_slice hr'
                          subst e
                          refine ⟨⟨fun e => by simp at e, hX.below.grown hg' hX.below.size (fun j e => (hvlt j e).1), Nat.le_trans hX.size hg'.size, fun _ _ _ => by simp⟩, ⟨p', c'', rfl, ?_⟩, ?_⟩
                          · refine reps_of_row (m := n - 1) (c := c'') (base := wo.heap.size) ?_
                            have e := repRow_add (fun j => rgRep R (skip k j)) k (n - (k + 1))
                            rw [show k + (n - (k + 1)) = n - 1 by omega] at e
                            rw [e]; exact hr'
                          · intro j y hj h
                            match j with
                            | 0 | 1 | 2 | 3 | 6 | 10 | 12 => exact h
                            | 4 => obtain ⟨off', c3, q1, q2⟩ := h; exact ⟨off', c3, q1, q2.heap (hg'.block b (Nat.lt_of_lt_of_le hbo (hX.below.size)) (fun e => by have := (hvlt b e.symm).1; omega))⟩
                            | 5 => rw [hLi] at hj; cases hj
                            | 7 => have := hX.ord 7 (by decide) hj; rw [hLi] at this; cases this
                            | 8 => have := hX.ord 8 (by decide) hj; rw [hLi] at this; cases this
                            | 9 => have := hX.ord 9 (by decide) hj; rw [hLi] at this; cases this
                            | 11 => have := hX.ord 11 (by decide) hj; rw [hLi] at this; cases this
                            | j + 13 => trivial
                        | 6 => intro o L ho hLi hd a' X hX hfr hdp; obtain rfl := Option.some.inj ho; exact opx_load41' rfl (hfr 5 (by decide)) ((hX.below.block _ (lt_of_block K1o.out)).trans K1o.out) ⟨(hX.later (Below.refl _ _) (by decide) (fun h => absurd h (by decide))), rfl, fun _ _ _ h => h⟩
                        | 7 =>
                          intro o L ho hLi hd a' X hX hfr hdp; obtain rfl := Option.some.inj ho
                          obtain ⟨p', c', e5, hreps⟩ := (hdp 5 196 (by decide) rfl (by kernel_rfl))
                          refine opx_callc3 rfl e5 (hdp 6 197 (by decide) rfl (by kernel_rfl)) eg43 ((Blame_fine u d 100 p' (n - 1) c' (fun j => rgRep R (skip k j)) (HS.out k hlt) X (HL.out.below hpos (KBo.out.trans (hX.below.mono KBo.out.size))) hreps).mono ?_)
                          rintro e W' ⟨vs, rfl, hLs, hb⟩
                          rw [HSKE.out] at hLs
                          obtain ⟨pl', cl', rfl, hla⟩ := lists_at hLs
                          exact ⟨_, rfl, hX.later hb (by decide) (fun _ => by simpa using hd 5 (by kernel_rfl)), ⟨pl', cl', rfl, hla⟩, fun _ _ _ h => g32Pv_later (Nat.lt_of_lt_of_le hbo hX.below.size) h hb⟩
                        | 8 => intro o L ho hLi hd a' X hX hfr hdp; obtain rfl := Option.some.inj ho; exact opx_move rfl rfl ⟨(hX.later (Below.refl _ _) (by decide) (fun _ => hX.ord 7 (by decide) (hd 7 (by kernel_rfl)))), (hdp 7 198 (by decide) rfl (by kernel_rfl)), fun _ _ _ h => h⟩
                        | 9 =>
                          intro o L ho hLi hd a' X hX hfr hdp; obtain rfl := Option.some.inj ho
                          obtain ⟨p', c', e8, hla⟩ := (hdp 8 190 (by decide) rfl (by kernel_rfl))
                          exact opx_extract0 rfl e8 ⟨(hX.later (Below.refl _ _) (by decide) (fun _ => hX.ord 8 (by decide) (hd 8 (by kernel_rfl)))), ⟨p', c', rfl, hla⟩, fun _ _ _ h => h⟩
                        | 10 =>
                          intro o L ho hLi hd a' X hX hfr hdp; obtain rfl := Option.some.inj ho
                          obtain ⟨p', c', e8, hla⟩ := (hdp 8 190 (by decide) rfl (by kernel_rfl))
                          exact opx_extract1 rfl e8 ⟨(hX.later (Below.refl _ _) (by decide) (fun _ => hX.ord 8 (by decide) (hd 8 (by kernel_rfl)))), rfl, fun _ _ _ h => h⟩
                        | 11 => intro o L ho hLi hd a' X hX hfr hdp; obtain rfl := Option.some.inj ho; exact opx_assign rfl rfl ⟨(hX.later (Below.refl _ _) (by decide) (fun _ => hX.ord 9 (by decide) (hd 9 (by kernel_rfl)))), (hdp 9 199 (by decide) rfl (by kernel_rfl)), fun _ _ _ h => h⟩
                        | 12 => intro o L ho hLi hd a' X hX hfr hdp; obtain rfl := Option.some.inj ho; exact opx_assign rfl rfl ⟨(hX.later (Below.refl _ _) (by decide) (fun _ => hX.ord 10 (by decide) (hd 10 (by kernel_rfl)))), (hdp 10 200 (by decide) rfl (by kernel_rfl)), fun _ _ _ h => h⟩
                        | j + 13 => intro o L ho; simp at ho
                    case fin =>
                      intro X L Vv hLL hX hV
                      obtain ⟨ps', cs', e11, hla⟩ := hV 11 (by decide)
                      have e12 := hV 12 (by decide)
                      have HBX := Lib.hid (hB.out.trans (hX.below.mono hB.out.size))
                      have L2 := Lib.hid (L1.out.later hX.below)
                      simp only [g32Pv] at e12
                      simp only [fill, Act.put, List.setIfInBounds_toArray, List.set_cons_zero, List.set_cons_succ, Nat.reduceAdd, e11, e12]
                      obtain ⟨b0, pi0, ci0, hp0, hc0⟩ := L2.out.head hlp
                      obtain ⟨b1, pi1, ci1, hp1, hc1⟩ := hla.head hskp
                      clear hla
                      obtain rfl := hp0
                      obtain rfl := hp1
                      have hsl : (sk[0]'hskp).length ≤ 100 := by
                        have := HSK.out
                        have h12 := (HG0.out.small _ (List.getElem_mem hlp)).1
                        omega
                      have hmm := HSK.out
                      generalize (sk[0]'hskp).length = m1 at hmm hc1 hsl
                      generalize (ls[0]'hlp).length = m0 at hmm hc0
                      obtain rfl : m0 = m1 + 1 := by omega
                      have hs0b : ((sk.length : Int) == 0) = false := by rw [beq_eq_false_iff_ne]; omega
                      have hsi : (0 : Int) < (sk.length : Int) := by omega
                      have hli : (0 : Int) < (ls.length : Int) := by omega
                      have hw : IntKind.i64.wrap (((m1 + 1 : Nat) : Int) - 1) = (m1 : Int) := by rw [IntKind.wrap_i64]; omega
                      clear hX hLL hV e11 e12 hmm HSK HSKE HSEG HSEG0 HO HB1 L2
                      go_wp2_with fail
                      go_quiet (fail)
                      go_wp2_with fail
                      go_roundw
                      case rel => exact ⟨k + 1, by omega, by go_num, Lib.hid (below_drewN HBX.out _)⟩
                      case measure => simp [intOf]; omega
        · obtain rfl : k = n := by omega
          replace KB := Lib.hid (keep_bl1 KB.out hB.out)
          go_wp2_with fail
          refine (awake_any wr (HL.out.below hpos KB.out)).mono ?_
          rintro e W ⟨rfl, hb⟩
          replace KB := Lib.hid (keep_bl1 KB.out hb)
          clear hb
          go_wp2_with fail
          go_ret
          exact ⟨rfl, KB.out⟩
    · have he0 : errB (okRates u d) 6 = 6 := by
        cases e : okRates u d with
        | true => exact absurd e hr
        | false => rfl
      rw [he0]
      go_wp2_with fail
      refine (awake_any W2 (HL.out.below hpos KB.out)).mono ?_
      rintro e W ⟨rfl, hb⟩
      replace KB := Lib.hid (keep_bl1 KB.out hb)
      clear hb
      go_wp2_with fail
      go_ret
      exact ⟨rfl, KB.out⟩
end Go.Proofs.YtdcpmdigihbdpaaDoor
