/- The contract of ice.Blame: reports without an error. The table of limits holds 100, 400, 100, 3. -/
import Derived.Test.YtdcpmdigihbdpaaDoorSd
namespace Go.Proofs.YtdcpmdigihbdpaaDoor
open Go.RowKit Go.Shelf
attribute [local go_sem] Oper.semAt_some
set_option maxRecDepth 100000
/-- Whom each of the greatest sets leaves out, from the last to the first. -/
def blameK (CL CH : Nat → Nat → Int) (n : Nat) (k : Nat) : List Nat := outs (setF n ((foundL CL CH n)[(foundL CL CH n).length - 1 - k]?.getD 0)) n
def blameL (CL CH : Nat → Nat → Int) (n : Nat) : List (List Nat) := (List.range (foundL CL CH n).length).map (blameK CL CH n)
theorem found_len (CL CH : Nat → Nat → Int) (n : Nat) (hn : n ≤ 12) : (foundL CL CH n).length ≤ 4096 := by
  have h1 := gr_len n (agB CL CH n) (List.range (2 ^ n))
  have h2 := Nat.pow_le_pow_right (show 0 < 2 by decide) hn
  simp only [List.length_range] at h1
  exact Nat.le_trans h1 (by simpa using h2)
theorem eg102 : ∀ args w, (callFunc 102 args).run Tryd.prog w = .ok (.enter 102 args) w := Go.Proofs.enters_of Tryd.func102 (by kernel_rfl) rfl
section
variable {P : Program} {Q : Exit → Act → World → Prop}
theorem wp_region_valsL {id : Nat} {a : Act} {w : World} {l : List Oper} (slots : List Nat) (Wd : (Nat → Bool) → World → Prop) (Pv : Nat → Value → World → Prop)
    (hm : P.follows .mixedOrders = true) (hB : allSB l.toArray slots = true) (hsz : ∀ s ∈ slots, s < 1000 → s < a.tmps.size) (hts : a.tmps.size ≤ 1000)
    (h0 : Wd (fun _ => false) { w with drawn := w.drawn + 1 })
    (hval : ∀ i o L, l[i]? = some o → L i = false → (∀ j, Region.waitsFor .any l.toArray i j = true → L j = true) → ∀ a' W, Wd L W → (∀ t, t ∉ slots → a'.eval (.tmp t) = a.eval (.tmp t)) →
      (∀ j s, s < 1000 → slots[j]? = some s → Region.waitsFor .any l.toArray i j = true → Pv j (a'.eval (.tmp s)) W) →
      o.wp P a' W (fun a'' W' => ∃ x, a'' = a'.put o.dst x ∧ Wd (fun j => if j = i then true else L j) W' ∧ Pv i x W' ∧ ∀ j v, L j = true → Pv j v W → Pv j v W') Q)
    (hend : ∀ (W : World) (L : Nat → Bool) (V : Nat → Value), (∀ i, i < l.length → L i = true) → Wd L W → (∀ i, i < l.length → Pv i (V i) W) → Q .normal (fill slots 0 (fun i => some (V i)) a) W) :
    (Code.region id l.toArray true).wp P Q a w := by
  refine wp_region_all slots (fun L V W => Wd L W ∧ ∀ j, L j = true → Pv j (V j) W) hm hB hsz hts ⟨h0, fun j h => by cases h⟩ ?_ ?_
  · intro i o L V ho hL hdep a' W hR hfr hdp
    refine Oper.wp_mono ?_ (hval i o L ho hL hdep a' W hR.1 hfr (fun j s hs hss hw => by rw [hdp j s hs hss hw]; exact hR.2 j (hdep j hw)))
    rintro a'' W' ⟨x, rfl, h1, h2, h3⟩
    refine ⟨x, rfl, h1, fun j hj => ?_⟩
    by_cases e : j = i
    · subst e; simpa using h2
    · simp only [if_neg e] at hj ⊢
      exact h3 j _ hj (hR.2 j hj)
  · intro W L V hL hR
    exact hend W L V hL hR.1 (fun i hi => hR.2 i (hL i hi))
variable {F : Fence} {n : Nat}
theorem wpIn_region_valsL {id : Nat} {a : Act} {w : World} {l : List Oper} (slots : List Nat) (Wd : (Nat → Bool) → World → Prop) (Pv : Nat → Value → World → Prop)
    (hm : P.follows .mixedOrders = true) (hB : allSB l.toArray slots = true) (hsz : ∀ s ∈ slots, s < 1000 → s < a.tmps.size) (hts : a.tmps.size ≤ 1000)
    (h0 : Wd (fun _ => false) { w with drawn := w.drawn + 1 })
    (hval : ∀ i o L, l[i]? = some o → L i = false → (∀ j, Region.waitsFor .any l.toArray i j = true → L j = true) → ∀ a' W, Wd L W → (∀ t, t ∉ slots → a'.eval (.tmp t) = a.eval (.tmp t)) →
      (∀ j s, s < 1000 → slots[j]? = some s → Region.waitsFor .any l.toArray i j = true → Pv j (a'.eval (.tmp s)) W) →
      o.wpIn F n P a' W (fun a'' W' => ∃ x, a'' = a'.put o.dst x ∧ Wd (fun j => if j = i then true else L j) W' ∧ Pv i x W' ∧ ∀ j v, L j = true → Pv j v W → Pv j v W') Q)
    (hend : ∀ (W : World) (L : Nat → Bool) (V : Nat → Value), (∀ i, i < l.length → L i = true) → Wd L W → (∀ i, i < l.length → Pv i (V i) W) → Q .normal (fill slots 0 (fun i => some (V i)) a) W) :
    (Code.region id l.toArray true).wpIn F n P Q a w := by
  refine wpIn_region_all slots (fun L V W => Wd L W ∧ ∀ j, L j = true → Pv j (V j) W) hm hB hsz hts ⟨h0, fun j h => by cases h⟩ ?_ ?_
  · intro i o L V ho hL hdep a' W hR hfr hdp
    refine Oper.wpIn_mono ?_ (hval i o L ho hL hdep a' W hR.1 hfr (fun j s hs hss hw => by rw [hdp j s hs hss hw]; exact hR.2 j (hdep j hw)))
    rintro a'' W' ⟨x, rfl, h1, h2, h3⟩
    refine ⟨x, rfl, h1, fun j hj => ?_⟩
    by_cases e : j = i
    · subst e; simpa using h2
    · simp only [if_neg e] at hj ⊢
      exact h3 j _ hj (hR.2 j hj)
  · intro W L V hL hR
    exact hend W L V hL hR.1 (fun i hi => hR.2 i (hL i hi))
end
/-- What is known of each value of the round's region. -/
def blPv (v : Value) (s : Nat → Bool) (p : Option Addr) (n cap base b10 z : Nat) (o : List Nat) (ls : List (List Nat)) (j : Nat) (y : Value) (X : World) : Prop :=
  match j with
  | 0 => y = v
  | 1 => y = .agg (setA s)
  | 2 => y = .slice p n cap
  | 3 => y = .int .i64 n
  | 4 => Outs X base y o
  | 5 => ∃ B u, y = .slice (some ⟨B, 0, none⟩) 1 1 ∧ z ≤ B ∧ X.heap[B]? = some (.cells #[u] 89 (0, 0)) ∧ Outs X base u o
  | 6 => (∃ g' c', y = .slice (some ⟨g', 0, none⟩) ls.length c') ∧ Lists X base y ls
  | 7 => ∃ v', Boxed X b10 84 v' ∧ Lists X base v' ls
  | _ => True
theorem blPv_later {v : Value} {s : Nat → Bool} {p : Option Addr} {n cap base b10 z : Nat} {o : List Nat} {ls : List (List Nat)} {j : Nat} {y : Value} {X X' : World} (h : blPv v s p n cap base b10 z o ls j y X) (hb : Below X.heap.size X X') : blPv v s p n cap base b10 z o ls j y X' := by
  match j with
  | 0 | 1 | 2 | 3 => exact h
  | 4 => exact Outs.later h hb
  | 5 => obtain ⟨B, u, e1, e2, e3, e4⟩ := h; exact ⟨B, u, e1, e2, (hb.block B (lt_of_block e3)).trans e3, e4.later hb⟩
  | 6 => exact ⟨h.1, h.2.later hb⟩
  | 7 => obtain ⟨v', e1, e2⟩ := h; exact ⟨v', boxed_later e1 hb, e2.later hb⟩
  | j + 8 => trivial
/-- What is known of the memory in the round's region. -/
structure BlWd (w W : World) (v : Value) (b10 b63 b161 gf z bx : Nat) (s63 s161 : Value) (s : Nat → Bool) (L : Nat → Bool) (X : World) : Prop where
  ahead : L 6 = false → Below W.heap.size W X
  box : L 7 = false → Boxed X b10 84 v
  below : Below w.heap.size w X
  keeps : KeepsFrom z W X
  kp : KpB2 b161 gf W X
  size : W.heap.size ≤ X.heap.size
  x63 : Boxed X b63 63 s63
  x161 : Boxed X b161 161 s161
  xs : X.heap[bx]? = some (.cells (setA s) 152 (0, 0))
  xg : ∃ cur, X.heap[gf]? = some (.cells cur 152 (0, 0))
  o76 : L 7 = true → L 6 = true
  o60 : L 6 = true → L 0 = true
theorem BlWd.later {w W : World} {v : Value} {b10 b63 b161 gf z bx : Nat} {s63 s161 : Value} {s : Nat → Bool} {L : Nat → Bool} {X X' : World} (h : BlWd w W v b10 b63 b161 gf z bx s63 s161 s L X) (hb : Below X.heap.size X X') (l161 : b161 < W.heap.size) (lg : gf < W.heap.size) {i : Nat} (hi6 : 6 ≠ i) (hi7 : 7 ≠ i) :
    BlWd w W v b10 b63 b161 gf z bx s63 s161 s (fun j => if j = i then true else L j) X' :=
  ⟨fun e => (h.ahead (by rw [if_neg hi6] at e; exact e)).trans (hb.mono h.size), fun e => boxed_later (h.box (by rw [if_neg hi7] at e; exact e)) hb, h.below.trans (hb.mono h.below.size), h.keeps.trans (kf_below hb),
    h.kp.trans ⟨KpB.of_grown (grown_below hb) (Nat.lt_of_lt_of_le l161 h.size) (by simp), KpB.of_grown (grown_below hb) (Nat.lt_of_lt_of_le lg h.size) (by simp)⟩, Nat.le_trans h.size hb.size, boxed_later h.x63 hb, boxed_later h.x161 hb,
    (hb.block _ (lt_of_block h.xs)).trans h.xs, (by obtain ⟨cur, e⟩ := h.xg; exact ⟨cur, (hb.block _ (lt_of_block e)).trans e⟩), fun e => by rw [if_neg hi7] at e; rw [if_neg hi6]; exact h.o76 e, fun e => by rw [if_neg hi6] at e; by_cases h0 : 0 = i; (· rw [if_pos h0]); (· rw [if_neg h0]; exact h.o60 e)⟩
theorem outs_slice {W : World} {base : Nat} {u : Value} {l : List Nat} (h : Outs W base u l) : ∃ p n c, u = .slice p n c := by
  rcases h.row.2 with ⟨rfl, _⟩ | ⟨g, cap, cur, rfl, _⟩
  · exact ⟨_, _, _, rfl⟩
  · exact ⟨_, _, _, rfl⟩
set_option maxHeartbeats 4000000 in
theorem Blame_fine (u d : Nat → Int) (now : Int) (p : Option Addr) (n cap : Nat) (R : Nat → Rep) (hf : Fine u d now R n) (w : World) (hl : Lim w) (hR : Reps w p n R) :
    Calls Tryd.prog 43 #[.slice p n cap, .agg (ratesA u d), .int .i64 now] w fun e w' => ∃ v, e = .returned (.tuple #[v, .int .i64 0]) ∧ Lists w' w.heap.size v (blameL (tdLo R d now) (tdHi R u now) n) ∧ Below w.heap.size w w' := by
  have hpos := hl.pos
  have hn := hf.2.1
  have HL := Lib.hid hl
  have HR := Lib.hid hR
  have HF := Lib.hid hf
  clear hl hR hf
  have hof := ofOneCell_any u d now p n cap (by omega) R
  rw [HF.out.one, HF.out.work] at hof
  have HO := Lib.hid hof
  clear hof
  refine (callsIn_wide (n := 6)).1 ?_
  refine callsIn_of_wp_marks Tryd.func43 rfl trivial ?_ rfl
  simp only [Tryd.ntmps43, List.size_toArray, List.length_cons, List.length_nil, Nat.reduceAdd, Nat.reduceSub, Array.replicate_succ, Array.replicate_zero, List.push_toArray, List.append_toArray, List.nil_append, List.cons_append]
  obtain ⟨a1, a2, a3, a4⟩ := two_allocs w (.cells #[.slice p n cap] 63) (.cells (ratesA u d) 41)
  have A1 := Lib.hid a1
  have AB := Lib.hid a4
  have s0 := (cell_of_block a1 0).trans rfl
  obtain ⟨⟨c0, c1, c2, c3, c4, c5, c6, c7⟩, _⟩ := cells8 a2
  clear a1 a2 a4
  gi_wp2
  generalize (w.alloc (.cells #[.slice p n cap] 63)).alloc (.cells (ratesA u d) 41) = V at *
  refine ⟨trivial, (callsIn_wide.2 (HO.out V (HL.out.below hpos AB.out) (HR.out.later AB.out))).mono ?_⟩
  rintro e W1 ⟨rfl, hb1⟩
  have z1 := hb1.size
  have B1 := (hb1.block w.heap.size (by omega)).trans A1.out
  have BB := AB.out.trans (hb1.mono AB.out.size)
  clear hb1 A1 AB c0 c1 c2 c3 c4 c5 c6 c7 s0
  obtain ⟨m1, m2, m3, m4⟩ := two_allocs W1 (.cells (workA u d now (.slice p n cap)) 139) (.cells #[.slice none 0 0] 84)
  have C1 := Lib.hid ((m4.block w.heap.size (by omega)).trans B1)
  have CN := Lib.hid m2
  have CB := Lib.hid (BB.trans (m4.mono BB.size))
  obtain ⟨⟨c0, c1, c2, c3, c4, c5, c6, c7, c8, c9⟩, _⟩ := cells10 m1
  clear m1 m2 m4 B1 BB
  gi_wp2
  generalize (W1.alloc (.cells (workA u d now (.slice p n cap)) 139)).alloc (.cells #[.slice none 0 0] 84) = V2 at *
  refine ⟨trivial, (callsIn_wide.2 (told_any u d now p n cap R hn V2 (HL.out.below hpos CB.out) (HR.out.later CB.out) HF.out.tell)).mono ?_⟩
  rintro e W2 ⟨g, rfl, hg1, hg2, hC, hb2⟩
  have z2 := hb2.size
  have HC := Lib.hid hC
  have D1 := Lib.hid ((hb2.block w.heap.size (by omega)).trans C1.out)
  have DN := Lib.hid ((hb2.block (W1.heap.size + 1) (by omega)).trans CN.out)
  have DB := Lib.hid (CB.out.trans (hb2.mono CB.out.size))
  clear hb2 hC C1 CN CB c0 c1 c2 c3 c4 c5 c6 c7 c8 c9
  gi_wp2
  refine ⟨trivial, (callsIn_wide.2 (greatest_f (tdLo R d now) (tdHi R u now) g n hn W2 (HL.out.below hpos DB.out) hg2 HC.out)).mono ?_⟩
  rintro e W3 ⟨v3, rfl, hrow, hb3⟩
  have z3 := hb3.size
  have hfl := found_len (tdLo R d now) (tdHi R u now) n hn
  have hpl : 0 < (foundL (tdLo R d now) (tdHi R u now) n).length := List.length_pos_iff.2 (found_ne (tdLo R d now) (tdHi R u now) n)
  have hgall : ∀ i, i < (foundL (tdLo R d now) (tdHi R u now) n).length → ∀ gf cf, v3 = .slice (some ⟨gf, 0, none⟩) (foundL (tdLo R d now) (tdHi R u now) n).length cf → ∀ j, j < 12 → W3.cell? ⟨gf, i * 12 + j, none⟩ = some (.bool (setF n ((foundL (tdLo R d now) (tdHi R u now) n)[i]?.getD 0) j)) := by
    intro i hi gf cf hv j hj
    obtain ⟨gf', cf', e1, _, _, h⟩ := row12 hrow rfl hi
    rw [hv] at e1
    cases e1
    rw [h j hj]
    simp [hi]
  obtain ⟨gf, cf, rfl, hgf1, hgf2, _⟩ := row12 hrow rfl hpl
  have HG := Lib.hid (fun i hi => hgall i hi gf cf rfl)
  have hgt0 : ∃ cur, W3.heap[gf]? = some (.cells cur 152 (0, 0)) := by
    rcases hrow.2 with ⟨h, _⟩ | ⟨g', c', cur, e1, _, e2, _⟩
    · cases h
    · cases e1; exact ⟨cur, e2⟩
  have E1 := Lib.hid ((hb3.block w.heap.size (by omega)).trans D1.out)
  have EN := Lib.hid ((hb3.block (W1.heap.size + 1) (by omega)).trans DN.out)
  have EB := Lib.hid (DB.out.trans (hb3.mono DB.out.size))
  clear hrow hgall hb3 D1 DN DB HC
  gi_wp2
  refine ⟨trivial, (callsIn_wide.2 (backward_any _ _ _ W3)).mono ?_⟩
  rintro e W4 ⟨rfl, rfl⟩
  have e0 := Below.heap_alloc W3 (.cells #[.slice (some ⟨gf, 0, none⟩) (foundL (tdLo R d now) (tdHi R u now) n).length cf] 161)
  have F1 : Boxed (W3.alloc (.cells #[.slice (some ⟨gf, 0, none⟩) (foundL (tdLo R d now) (tdHi R u now) n).length cf] 161)) w.heap.size 63 (.slice p n cap) := (e0 _ (by omega)).trans E1.out
  have FN : Boxed (W3.alloc (.cells #[.slice (some ⟨gf, 0, none⟩) (foundL (tdLo R d now) (tdHi R u now) n).length cf] 161)) (W1.heap.size + 1) 84 (.slice none 0 0) := (e0 _ (by omega)).trans EN.out
  have FS : Boxed (W3.alloc (.cells #[.slice (some ⟨gf, 0, none⟩) (foundL (tdLo R d now) (tdHi R u now) n).length cf] 161)) W3.heap.size 161 (.slice (some ⟨gf, 0, none⟩) (foundL (tdLo R d now) (tdHi R u now) n).length cf) := block_new _ _
  have FB := EB.out.alloc EB.out.size (.cells #[.slice (some ⟨gf, 0, none⟩) (foundL (tdLo R d now) (tdHi R u now) n).length cf] 161)
  have FG := fun i hi j hj => (World.cell?_of_block (a := ⟨gf, i * 12 + j, none⟩) (e0 gf hgf2)).trans (HG.out i hi j hj)
  have FT : ∃ cur, (W3.alloc (.cells #[.slice (some ⟨gf, 0, none⟩) (foundL (tdLo R d now) (tdHi R u now) n).length cf] 161)).heap[gf]? = some (.cells cur 152 (0, 0)) := by obtain ⟨cur, e⟩ := hgt0; exact ⟨cur, (e0 _ (lt_of_block e)).trans e⟩
  have fsz : (W3.alloc (.cells #[.slice (some ⟨gf, 0, none⟩) (foundL (tdLo R d now) (tdHi R u now) n).length cf] 161)).heap.size = W3.heap.size + 1 := by simp
  clear e0 E1 EN EB HG
  gi_wp2
  generalize W3.alloc (.cells #[.slice (some ⟨gf, 0, none⟩) (foundL (tdLo R d now) (tdHi R u now) n).length cf] 161) = W0 at *
  refine wpIn_rangeFunc_ownH rfl (by omega) (gf := 124) (lb := #[.pointer (some ⟨W3.heap.size, 0, none⟩)]) rfl trivial (enters_of Tryd.func124 (by kernel_rfl) rfl)
    (back_stops (6 - 1) (by omega) W3.heap.size gf n cf (foundL (tdLo R d now) (tdHi R u now) n) hfl W0 (by omega) (by omega) FS.cell FG) (fun h k => KpB2.trans h k) (fun W l o o' hlt ho _ _ => ⟨⟨by simp, World.putObj_heap_other (by omega)⟩, by simp, World.putObj_heap_other (by omega)⟩) (Below.refl _ _) (fun _ => rfl)
    (fun pre W => ((((∃ v, Boxed W (W1.heap.size + 1) 84 v ∧ Lists W w.heap.size v (pre.map (blameK (tdLo R d now) (tdHi R u now) n))) ∧ Boxed W w.heap.size 63 (.slice p n cap)) ∧ Boxed W W3.heap.size 161 (.slice (some ⟨gf, 0, none⟩) (foundL (tdLo R d now) (tdHi R u now) n).length cf)) ∧ (∃ cur, W.heap[gf]? = some (.cells cur 152 (0, 0)))) ∧ Below w.heap.size w W)
    (fun _ _ _ => False)
    (OwnFrom.and (OwnFrom.and (OwnFrom.and (OwnFrom.and (lists_own W0.heap.size w.heap.size (W1.heap.size + 1) (fun (pre : List Nat) => pre.map (blameK (tdLo R d now) (tdHi R u now) n))) (Own.from (boxed_own w.heap.size 63 (fun _ => .slice p n cap)) _)) (Own.from (boxed_own W3.heap.size 161 (fun _ => .slice (some ⟨gf, 0, none⟩) (foundL (tdLo R d now) (tdHi R u now) n).length cf)) _)) (fun (_ : List Nat) X Y row hs hg hr => by obtain ⟨cur, e⟩ := hs; exact ⟨cur, (hg.block gf (lt_of_block e) (fun e' => by obtain ⟨_, o, ho, hcl⟩ := hr gf e'.symm; rw [e] at ho; cases ho; cases hcl)).trans e⟩)) (ownFrom_below (Nat.le_refl _) (by have := FB.size; omega)))
    (fun _ _ _ _ _ hs _ _ => hs)
    ⟨⟨⟨⟨⟨_, FN, Lists.nil _ _⟩, F1⟩, FS⟩, FT⟩, FB⟩
    (fun x a' W => ∃ Bx, W0.heap.size ≤ Bx ∧ W.heap[Bx]? = some (.cells (setA (setF n ((foundL (tdLo R d now) (tdHi R u now) n)[(foundL (tdLo R d now) (tdHi R u now) n).length - 1 - x]?.getD 0))) 152 (0, 0)) ∧ a'.eval (.tmp 3) = .pointer (some ⟨w.heap.size, 0, none⟩) ∧ a'.eval (.tmp 10) = .pointer (some ⟨W1.heap.size + 1, 0, none⟩) ∧ a'.eval (.tmp 12) = .pointer (some ⟨Bx, 0, none⟩) ∧ a'.tmps.size = 37)
    (fun x a' s W W' row hs hg hr => by
      obtain ⟨Bx, h1, h2, h3⟩ := hs
      exact ⟨Bx, h1, (hg.block Bx (lt_of_block h2) (fun e => by obtain ⟨_, o, ho, hcl⟩ := hr Bx e.symm; rw [h2] at ho; cases ho; cases hcl)).trans h2, h3⟩)
    ?assign ?body ?done ?stop
  case assign =>
    rintro l pre x W K ⟨⟨⟨⟨⟨v, hv, hL⟩, b63⟩, b161⟩, hgt⟩, hB⟩ hK
    unfold backE
    gi_wp2
    exact hK _ _ ((KeepsOthers.alloc _ _).from _) ⟨KpB.of_grown (World.grownBy_alloc W _ none) b161.lt (by simp), KpB.of_grown (World.grownBy_alloc W _ none) (by have := b161.lt; omega) (by simp)⟩
      ⟨⟨⟨⟨⟨v, hv.alloc _, hL.later ((Below.refl _ _).alloc (Nat.le_refl _) _)⟩, b63.alloc _⟩, b161.alloc _⟩, (by obtain ⟨cur, e⟩ := hgt; exact ⟨cur, (Below.heap_alloc W _ gf (lt_of_block e)).trans e⟩)⟩, hB.alloc hB.size _⟩ ⟨W.heap.size, by have := b161.lt; omega, block_new W _, rfl, rfl, rfl, rfl⟩
  case body =>
    rintro l pre x a' W hl ⟨r, hr⟩ ⟨⟨⟨⟨⟨v, hv, hL⟩, b63⟩, b161⟩, hgt⟩, hB⟩ ⟨Bx, hBx, hX, h3, h10, h12, hts⟩ hlt
    have hzW := hB.size
    have l161 := b161.lt
    have l10 := hv.lt
    have l63 := b63.lt
    have lX := lt_of_block hX
    obtain ⟨vs0, hv0, _, _⟩ := id hL
    have hvlt : ∀ k, v.ownBlock = some k → w.heap.size ≤ k ∧ k < W.heap.size := hv0.lt
    refine wpIn_block ?_
    have hgfW : gf < W.heap.size := by omega
    have hfn : pre.length < 4096 := by omega
    refine wpIn_region_valsL [29, 30, 31, 32, 33, 34, 35, 1000]
      (BlWd w W v (W1.heap.size + 1) w.heap.size W3.heap.size gf W0.heap.size Bx (.slice p n cap) (.slice (some ⟨gf, 0, none⟩) (foundL (tdLo R d now) (tdHi R u now) n).length cf) (setF n ((foundL (tdLo R d now) (tdHi R u now) n)[(foundL (tdLo R d now) (tdHi R u now) n).length - 1 - x]?.getD 0)))
      (blPv v (setF n ((foundL (tdLo R d now) (tdHi R u now) n)[(foundL (tdLo R d now) (tdHi R u now) n).length - 1 - x]?.getD 0)) p n cap w.heap.size (W1.heap.size + 1) W.heap.size (blameK (tdLo R d now) (tdHi R u now) n x) ((pre ++ [x]).map (blameK (tdLo R d now) (tdHi R u now) n)))
      (by kernel_rfl) (by kernel_rfl) (fun s hs h => by rw [hts]; simp at hs; omega) (by omega) ⟨fun _ => ⟨rfl, rfl, rfl, Nat.le_refl _, fun _ _ => rfl⟩, fun _ => hv, ⟨hB.os, hB.tape, hB.output, hB.size, hB.block⟩, ⟨Nat.le_refl _, fun _ _ _ h _ => h⟩, ⟨⟨Nat.le_refl _, rfl⟩, Nat.le_refl _, rfl⟩, Nat.le_refl _, b63, b161, hX, hgt, (fun h => by cases h), (fun h => by cases h)⟩ ?val ?fin
    case val =>
      intro i
      match i with
      | 0 => intro o L ho hLi hd a'' X hW hfr hdp; obtain rfl := Option.some.inj ho; exact opIn_load84 rfl ((hfr 10 (by decide)).trans h10) (hW.box (by cases h : L 7 with | false => rfl | true => exact absurd (hW.o60 (hW.o76 h)) (by rw [hLi]; decide))).cell ⟨hW.later (Below.refl _ _) l161 hgfW (by decide) (by decide), rfl, fun _ _ _ h => h⟩
      | 1 => intro o L ho hLi hd a'' X hW hfr hdp; obtain rfl := Option.some.inj ho; exact opIn_load152 rfl ((hfr 12 (by decide)).trans h12) hW.xs ⟨hW.later (Below.refl _ _) l161 hgfW (by decide) (by decide), rfl, fun _ _ _ h => h⟩
      | 2 => intro o L ho hLi hd a'' X hW hfr hdp; obtain rfl := Option.some.inj ho; exact opIn_load63 rfl ((hfr 3 (by decide)).trans h3) hW.x63.cell ⟨hW.later (Below.refl _ _) l161 hgfW (by decide) (by decide), rfl, fun _ _ _ h => h⟩
      | 3 => intro o L ho hLi hd a'' X hW hfr hdp; obtain rfl := Option.some.inj ho; exact opIn_len und63 rfl (hdp 2 31 (by decide) rfl (by kernel_rfl)) ⟨hW.later (Below.refl _ _) l161 hgfW (by decide) (by decide), rfl, fun _ _ _ h => h⟩
      | 4 =>
        intro o L ho hLi hd a'' X hW hfr hdp; obtain rfl := Option.some.inj ho
        refine opIn_call2 rfl (hdp 1 30 (by decide) rfl (by kernel_rfl)) (hdp 3 32 (by decide) rfl (by kernel_rfl)) eg102 ((without_any (setF n ((foundL (tdLo R d now) (tdHi R u now) n)[(foundL (tdLo R d now) (tdHi R u now) n).length - 1 - x]?.getD 0)) n hn X).mono ?_)
        rintro e X' ⟨y, rfl, hO, hb⟩
        refine ⟨y, rfl, hW.later hb l161 hgfW (by decide) (by decide), ⟨?_, hO.nil⟩, fun _ _ _ h => blPv_later h hb⟩
        obtain ⟨k1, k2⟩ := hO.row
        have := hW.below.size
        refine ⟨k1, ?_⟩
        rcases k2 with h | ⟨gg, c, cur, e1, e2, e3⟩
        · exact .inl h
        · exact .inr ⟨gg, c, cur, e1, by omega, e3⟩
      | 5 =>
        intro o L ho hLi hd a'' X hW hfr hdp; obtain rfl := Option.some.inj ho
        have hO := hdp 4 33 (by decide) rfl (by kernel_rfl)
        obtain ⟨p', n', c', e⟩ := outs_slice hO
        have hb : Below X.heap.size X (X.alloc (.cells #[.slice p' n' c'] 89)) := (Below.refl _ _).alloc (Nat.le_refl _) _
        refine opIn_build84 rfl e ⟨hW.later hb l161 hgfW (by decide) (by decide), ⟨_, _, rfl, hW.size, block_new X _, ?_⟩, fun _ _ _ h => blPv_later h hb⟩
        have hO' := Outs.later hO hb
        rw [e] at hO'
        exact hO'
      | 6 =>
        intro o L ho hLi hd a'' X hW hfr hdp; obtain rfl := Option.some.inj ho
        have e0 := hdp 0 29 (by decide) rfl (by kernel_rfl)
        obtain ⟨B, u5, e1, e2, e3, e4⟩ := hdp 5 34 (by decide) rfl (by kernel_rfl)
        have hWX := hW.ahead hLi
        have hLX := hL.later hWX
        obtain ⟨vs, k1, k2, k3⟩ := id hLX
        obtain ⟨p', n', c', rfl⟩ := outs_slice e4
        refine opIn_append84 rfl e0 e1 k1 e3 rfl (by simp; omega) hW.below.size ?_
        intro v' X' hr' hg'
        have hne : ∀ {b : Nat} {cs : Array Value} {t : TypeId} {f : Nat × Nat}, X.heap[b]? = some (.cells cs t f) → t ≠ 89 → some b ≠ v.ownBlock := fun hb ht => by
          rcases row_ne k1 hb ht with h | h
          · rw [h]; simp
          · exact fun e => h e.symm
        have hsX := hg'.size
        refine ⟨⟨fun e => by simp at e, fun e => (hW.box (by simpa using e)).kept hg' (hne (hW.box (by simpa using e)) (by decide)), hW.below.grown hg' hW.below.size (fun k e => (hvlt k e).1), hW.keeps.trans ((KeepsOthers.of_grownBy hg' (fun j o ej hj => ?_)).from _),
          hW.kp.trans ⟨KpB.of_grown hg' hW.x161.lt (hne hW.x161 (by decide)), ?_⟩, Nat.le_trans hW.size hsX, hW.x63.kept hg' (hne hW.x63 (by decide)), hW.x161.kept hg' (hne hW.x161 (by decide)), (hg'.block _ (lt_of_block hW.xs) (hne hW.xs (by decide))).trans hW.xs, ?_, fun _ => by simp, fun _ => by simpa using hd 0 (by kernel_rfl)⟩, ⟨?_, ?_⟩, ?_⟩
        · rcases k1.2 with ⟨rfl, _⟩ | ⟨gg, cap', cur, rfl, _, hgb, _⟩
          · simp [Value.ownBlock] at ej
          · obtain rfl : gg = j := by simpa [Value.ownBlock] using ej
            rw [hgb] at hj; cases hj; rfl
        · obtain ⟨cur, e⟩ := hW.xg
          exact KpB.of_grown hg' (lt_of_block e) (hne e (by decide))
        · obtain ⟨cur, e⟩ := hW.xg
          exact ⟨cur, (hg'.block _ (lt_of_block e) (hne e (by decide))).trans e⟩
        · obtain ⟨g', c', e⟩ := ownsRow_succ hr'
          exact ⟨g', c', by rw [e]; simp⟩
        · rw [List.map_append]
          exact Lists.snoc hLX e4 hg' (fun xs hxs => by
            have : xs = vs := by
              rcases hxs.2 with ⟨rfl, h0⟩ | ⟨g1, c1, cur1, ev, _, hb1, _, _, _, ht1⟩
              · rcases k1.2 with ⟨_, h0'⟩ | ⟨g2, c2, cur2, ev2, _⟩
                · have a1 := hxs.1; have a2 := k1.1
                  rw [h0] at a1; rw [h0'] at a2
                  have q1 : xs = [] := List.eq_nil_of_length_eq_zero (by simpa using a1)
                  have q2 : vs = [] := List.eq_nil_of_length_eq_zero (by simpa using a2)
                  rw [q1, q2]
                · cases ev2
              · rcases k1.2 with ⟨h, _⟩ | ⟨g2, c2, cur2, ev2, _, hb2, _, _, _, ht2⟩
                · rw [h] at ev; cases ev
                · rw [ev] at ev2
                  cases ev2
                  rw [hb1] at hb2
                  simp at hb2
                  rw [← ht1, ← ht2, hb2]
            rw [this]; exact hr')
        · intro j y hj h
          match j with
          | 0 | 1 | 2 | 3 => exact h
          | 4 => exact Outs.kept h hg' (row_ne_row (Outs.row h) k1 (by decide))
          | 5 =>
            obtain ⟨B', u6, q1, q2, q3, q4⟩ := h
            exact ⟨B', u6, q1, q2, (hg'.block B' (lt_of_block q3) (fun e => by have := (hvlt B' e.symm).2; omega)).trans q3, q4.kept hg' (row_ne_row q4.row k1 (by decide))⟩
          | 6 => rw [hLi] at hj; cases hj
          | 7 => have := hW.o76 hj; rw [hLi] at this; cases this
          | j + 8 => trivial
      | 7 =>
        intro o L ho hLi hd a'' X hW hfr hdp; obtain rfl := Option.some.inj ho
        obtain ⟨⟨g', c', e1⟩, e2⟩ := hdp 6 35 (by decide) rfl (by kernel_rfl)
        have hbx := hW.box hLi
        refine opIn_store84 rfl ((hfr 10 (by decide)).trans h10) e1 hbx ?_
        have hl6 := hd 6 (by kernel_rfl)
        have hoth : ∀ {b : Nat} {o : Obj}, b ≠ W1.heap.size + 1 → X.heap[b]? = some o → (X.setCell ⟨W1.heap.size + 1, 0, none⟩ (.slice (some ⟨g', 0, none⟩) ((pre ++ [x]).map (blameK (tdLo R d now) (tdHi R u now) n)).length c')).heap[b]? = some o := fun hne h => (Below.heap_setCell _ _ _ _ hne).trans h
        have hgne : gf ≠ W1.heap.size + 1 := fun e => by
          obtain ⟨cur, e5⟩ := hW.xg
          rw [e, show X.heap[W1.heap.size + 1]? = _ from hbx] at e5
          simp at e5
        have hszs : (X.setCell ⟨W1.heap.size + 1, 0, none⟩ (.slice (some ⟨g', 0, none⟩) ((pre ++ [x]).map (blameK (tdLo R d now) (tdHi R u now) n)).length c')).heap.size = X.heap.size := by simp [World.setCell]
        have hxne : W3.heap.size ≠ W1.heap.size + 1 := by omega
        refine ⟨⟨fun e => by simp [hl6] at e, fun e => by simp at e, hW.below.setCell (p := ⟨W1.heap.size + 1, 0, none⟩) (by simp; omega) _, hW.keeps.trans ((KeepsOthers.setCell _ _ _).from _),
          hW.kp.trans ⟨⟨Nat.le_of_eq hszs.symm, Below.heap_setCell _ _ _ _ hxne⟩, Nat.le_of_eq hszs.symm, Below.heap_setCell _ _ _ _ hgne⟩, by rw [hszs]; exact hW.size, hoth (by omega) hW.x63, hoth hxne hW.x161, hoth (by omega) hW.xs, ?_, fun _ => by simpa using hl6, fun _ => by simpa using hd 0 (by kernel_rfl)⟩, ⟨_, hbx.set _, ?_⟩, ?_⟩
        · obtain ⟨cur, e⟩ := hW.xg
          exact ⟨cur, hoth hgne e⟩
        · rw [e1] at e2
          exact Lists.box e2 hbx (by decide) (by decide)
        · intro j y hj h
          match j with
          | 0 | 1 | 2 | 3 => exact h
          | 4 => exact Outs.box h hbx (by decide)
          | 5 =>
            obtain ⟨B', u6, q1, q2, q3, q4⟩ := h
            exact ⟨B', u6, q1, q2, hoth (by omega) q3, q4.box hbx (by decide)⟩
          | 6 => exact ⟨h.1, Lists.box h.2 hbx (by decide) (by decide)⟩
          | 7 => rw [hLi] at hj; cases hj
          | j + 8 => trivial
      | j + 8 => intro o L ho; simp at ho
    case fin =>
      intro X L V hLL hW hV
      obtain ⟨v', e1, e2⟩ := hV 7 (by decide)
      exact ⟨hW.keeps, hW.kp, ⟨⟨⟨⟨v', e1, e2⟩, hW.x63⟩, hW.x161⟩, hW.xg⟩, hW.below⟩
  case done =>
    rintro D ys W hD rfl ⟨⟨⟨⟨⟨v, hv, hL⟩, b63⟩, b161⟩, hgt⟩, hB⟩ hK
    have cF := hv.cell
    have hDne : ∀ {e : TypeId} {size m : Nat} {u5 : Value} {xs : List Value}, W.ownsRow w.heap.size e size u5 m xs → u5.ownBlock = none ∨ u5.ownBlock ≠ some D := by
      intro e size m u5 xs h
      rcases h.2 with ⟨rfl, _⟩ | ⟨gg, cap', cur, rfl, _, hgb, _⟩
      · exact .inl rfl
      · refine .inr fun e' => ?_
        obtain rfl : gg = D := by simpa [Value.ownBlock] using e'
        rw [hgb] at hK; cases hK
    obtain ⟨vs, k1, _, _⟩ := id hL
    gi_wp2
    refine ⟨by simp, .inl ⟨_, _, rfl, run_takeDeferred hK, ?_⟩⟩
    exact ⟨.tuple #[v, .int .i64 0], by simp [results, Tryd.f43, go_sem], v, rfl, hL.kept (grownBy_putObj' _ _ _) (hDne k1) (fun u5 l5 ho => hDne ho.row), hB.trans (belowK_b (w := w) (Nat.le_refl _) W D _ _ (by have := hB.size; omega) hK rfl rfl)⟩
  case stop =>
    rintro D c pre W _ _ h _
    exact h.elim
end Go.Proofs.YtdcpmdigihbdpaaDoor
