/- The law IceLattice over memory: three cells out of at least three reports. The table of limits holds 100, 400, 100, 3. -/
import Derived.Test.YtdcpmdigihbdpaaDoorSp
namespace Go.Proofs.YtdcpmdigihbdpaaDoor
open Go.RowKit
set_option maxRecDepth 100000
theorem list_val {ops : Array Oper} {o : Oper} {rest : List Oper} {a : Act} {W : World} {Q : Exit → Act → World → Prop} {v : Value} (hw : Region.wanted o (yielded ops a.tmps) = true)
    (hr : (execOp a.eval o).run Tryd.prog W = .ok (.value v) W) (hK : wpList Tryd.prog ops Q rest (a.put o.dst v) W) : wpList Tryd.prog ops Q (o :: rest) a W := by
  unfold wpList
  rw [if_pos hw]
  refine .inl ?_
  unfold Oper.wp
  rw [hr]
  exact hK
theorem list_eql32 {ops : Array Oper} {o : Oper} {rest : List Oper} {a : Act} {W : World} {Q : Exit → Act → World → Prop} {s t : Nat} (lo hi lo' hi' : Nat → Int) {r : Bool} (hop : o.op = Op.binOp .eql 32 (.tmp s) (.tmp t) 32) (hw : Region.wanted o (yielded ops a.tmps) = true)
    (he : a.eval (.tmp s) = .agg (cellA lo hi)) (ht : a.eval (.tmp t) = .agg (cellA lo' hi')) (hs : sameB lo hi lo' hi' = r) (hK : wpList Tryd.prog ops Q rest (a.put o.dst (.bool r)) W) : wpList Tryd.prog ops Q (o :: rest) a W := by
  have he' : a.tmps[s]?.getD undef = .agg (cellA lo hi) := by simpa [Act.eval] using he
  have ht' : a.tmps[t]?.getD undef = .agg (cellA lo' hi') := by simpa [Act.eval] using ht
  refine list_val hw ?_ hK
  unfold execOp
  rw [hop]
  simp [go_sem, he', ht']
  rw [← hs]
  unfold sameB allB
  (repeat' split) <;> simp_all
theorem list_neq32 {ops : Array Oper} {o : Oper} {rest : List Oper} {a : Act} {W : World} {Q : Exit → Act → World → Prop} {s t : Nat} (lo hi lo' hi' : Nat → Int) (hop : o.op = Op.binOp .neq 32 (.tmp s) (.tmp t) 32) (hw : Region.wanted o (yielded ops a.tmps) = true)
    (he : a.eval (.tmp s) = .agg (cellA lo hi)) (ht : a.eval (.tmp t) = .agg (cellA lo' hi')) (hs : sameB lo hi lo' hi' = true) (hK : wpList Tryd.prog ops Q rest (a.put o.dst (.bool false)) W) : wpList Tryd.prog ops Q (o :: rest) a W := by
  have he' : a.tmps[s]?.getD undef = .agg (cellA lo hi) := by simpa [Act.eval] using he
  have ht' : a.tmps[t]?.getD undef = .agg (cellA lo' hi') := by simpa [Act.eval] using ht
  refine list_val hw ?_ hK
  unfold execOp
  rw [hop]
  simp [go_sem, he', ht']
  unfold sameB allB at hs
  simp only [Bool.and_eq_true, beq_iff_eq] at hs
  simp [hs]
theorem two_ok {lo hi lo' hi' : Nat → Int} (h : okCell lo hi = true) (h' : okCell lo' hi' = true) : twoE lo hi lo' hi' = 0 := by
  unfold twoE
  rw [h, h']
  rfl
section
variable {lo hi lo' hi' : Nat → Int}
theorem Meet_yes (h : okCell lo hi = true) (h' : okCell lo' hi' = true) (hm : meetB lo hi lo' hi' = true) (V : World) (hl : Lim V) : Calls Tryd.prog 24 #[.agg (cellA lo hi), .agg (cellA lo' hi')] V fun e w' => e = .returned (.tuple #[.agg (cellA (mxF lo lo') (mnF hi hi')), .int .i64 0]) ∧ Below V.heap.size V w' := by
  have e : meetRes lo hi lo' hi' = .tuple #[.agg (cellA (mxF lo lo') (mnF hi hi')), .int .i64 0] := by unfold meetRes; rw [if_pos (two_ok h h'), hm]; rfl
  have := Meet_any lo hi lo' hi' V hl
  rwa [e] at this
theorem Meet_no (h : okCell lo hi = true) (h' : okCell lo' hi' = true) (hm : meetB lo hi lo' hi' = false) (V : World) (hl : Lim V) : Calls Tryd.prog 24 #[.agg (cellA lo hi), .agg (cellA lo' hi')] V fun e w' => e = .returned (.tuple #[.agg (cellA (fun _ => 0) (fun _ => 0)), .int .i64 21]) ∧ Below V.heap.size V w' := by
  have e : meetRes lo hi lo' hi' = .tuple #[.agg zero8, .int .i64 21] := by unfold meetRes; rw [if_pos (two_ok h h'), hm]; rfl
  have := Meet_any lo hi lo' hi' V hl
  rwa [e] at this
theorem Hull_yes (h : okCell lo hi = true) (h' : okCell lo' hi' = true) (V : World) (hl : Lim V) : Calls Tryd.prog 26 #[.agg (cellA lo hi), .agg (cellA lo' hi')] V fun e w' => e = .returned (.tuple #[.agg (cellA (mnF lo lo') (mxF hi hi')), .int .i64 0]) ∧ Below V.heap.size V w' := by
  have e : hullRes lo hi lo' hi' = .tuple #[.agg (cellA (mnF lo lo') (mxF hi hi')), .int .i64 0] := by unfold hullRes; rw [if_pos (two_ok h h')]
  have := Hull_any lo hi lo' hi' V hl
  rwa [e] at this
theorem Inside_yes (h : okCell lo hi = true) (h' : okCell lo' hi' = true) (V : World) (hl : Lim V) : Calls Tryd.prog 22 #[.agg (cellA lo hi), .agg (cellA lo' hi')] V fun e w' => e = .returned (.tuple #[.bool (insideB lo hi lo' hi'), .int .i64 0]) ∧ Below V.heap.size V w' := by
  have e : insideRes lo hi lo' hi' = .tuple #[.bool (insideB lo hi lo' hi'), .int .i64 0] := by unfold insideRes; rw [if_pos (two_ok h h')]
  have := Inside_any lo hi lo' hi' V hl
  rwa [e] at this
theorem Has_yes {n : Nat → Int} (h : okCell lo hi = true) (h' : okIce n = true) (V : World) (hl : Lim V) : Calls Tryd.prog 20 #[.agg (cellA lo hi), .agg (iceA n)] V fun e w' => e = .returned (.tuple #[.bool (hasB lo hi n), .int .i64 0]) ∧ Below V.heap.size V w' := by
  have e0 : hasE lo hi n = 0 := by unfold hasE orL errB; rw [h, h']; rfl
  have e : hasRes lo hi n = .tuple #[.bool (hasB lo hi n), .int .i64 0] := by unfold hasRes; rw [if_pos e0]
  have := Has_any lo hi n V hl
  rwa [e] at this
end
theorem ranged_any' (a b c d : Int) (V : World) (_ : Lim V) : Calls Tryd.prog 50 #[.int .i64 a, .int .i64 b, .int .i64 c, .int .i64 d] V fun e w' => e = .returned (.agg (iceA (rgN a b c d))) ∧ Below V.heap.size V w' := ranged_any a b c d V
theorem rg_ok (R : Nat → Rep) (i : Nat) : okCell (rgRep R i).lo (rgRep R i).hi = true := by
  rw [okCell_iff]
  intro q hq
  have hb := lim_bd q
  have h1 := Int.emod_nonneg ((R i).lo q) (show lim q + 1 ≠ 0 by omega)
  have h2 := Int.emod_lt_of_pos ((R i).lo q) (show 0 < lim q + 1 by omega)
  have h3 := Int.emod_nonneg ((R i).hi q) (show lim q + 1 ≠ 0 by omega)
  have h4 := Int.emod_lt_of_pos ((R i).hi q) (show 0 < lim q + 1 by omega)
  show 0 ≤ mnM (lim q) ((R i).lo q) ((R i).hi q) ∧ mnM (lim q) ((R i).lo q) ((R i).hi q) ≤ mxM (lim q) ((R i).lo q) ((R i).hi q) ∧ mxM (lim q) ((R i).lo q) ((R i).hi q) ≤ lim q
  unfold mnM mxM mn mx
  omega
set_option maxHeartbeats 40000000 in
theorem Lattice_any (p : Option Addr) (n cap : Nat) (R : Nat → Rep) (a b c d : Int) (w : World) (hl : Lim w) (h3 : 3 ≤ n) (hc : n ≤ cap) (hR : RepsO w p n R) :
    Calls Tryd.prog 8 #[.slice p n cap, .int .i64 a, .int .i64 b, .int .i64 c, .int .i64 d] w fun e w' => e = .returned (.bool true) ∧ Below w.heap.size w w' := by
  have hpos := hl.pos
  have HL := Lib.hid hl
  have HR := Lib.hid (show RepsO w p 3 R from fun i hi => hR i (by omega))
  clear hl hR
  have hn3 : ¬ (n : Int) < 3 := by omega
  have hc3 : (3 : Int) ≤ (cap : Int) := by omega
  obtain ⟨b0, o0, rfl, _, _⟩ := HR.out 0 (by decide)
  go_enter Tryd.func8, Tryd.ntmps8
  go_wp2_with fail
  refine (Right_any (some ⟨b0, o0, none⟩) 3 cap R (by decide) w HR.out).mono ?_
  rintro e V ⟨p', c', rfl, hRp, hb⟩
  obtain ⟨g, rfl, hg, _⟩ := hRp 0 (by decide)
  have HG := Lib.hid (fun X (hX : Below V.heap.size V X) q (hq : q < 3) c v (hv : (repA (rgRep R q))[c]? = some v) => by
    obtain ⟨g', eg, _, hcl⟩ := hRp q hq
    obtain rfl : g = g' := by simpa using eg
    exact (hX.cell (p := ⟨g, q * 14 + c, none⟩) hg).trans (hcl c v hv))
  have VB := Lib.hid hb
  clear hRp hb HR hc3
  go_wp2_with fail
  refine wp_region_all [51, 52, 53, 54, 55, 56, 57, 58, 59, 60, 61, 62, 12, 13, 14, 1000, 1001, 1002] (LtW V g c' (fun i => (rgRep R i).lo) (fun i => (rgRep R i).hi))
    (by kernel_rfl) (by kernel_rfl) (fun s hs h => by simp at hs ⊢; omega) (by simp) ⟨⟨rfl, rfl, rfl, Nat.le_refl _, fun _ _ => rfl⟩, (fun _ _ h => by cases h), (fun _ _ h => by cases h), (fun _ _ h => by cases h), (fun _ _ h => by cases h), (fun _ _ h => by cases h), (fun _ _ _ _ _ h => by cases h), (fun _ _ h => by cases h)⟩ ?val ?fin
  case val =>
    intro j
    match j with
    | 0 => intro o L Vv ho hLi hd a' X hX hfr hdp; obtain rfl := Option.some.inj ho; exact opx_move rfl (hfr 11 (by decide)) (hX.set (by decide) (fun _ _ _ => rfl) (fun _ _ e => absurd e (by omega)) (fun _ _ e => absurd e (by omega)) (fun _ _ e => absurd e (by omega)))
    | 1 => intro o L Vv ho hLi hd a' X hX hfr hdp; obtain rfl := Option.some.inj ho; exact opx_index63 (i := 0) (by decide) (by decide) rfl ((hdp 0 51 (by decide) rfl (by kernel_rfl)).trans (hX.v0 0 (by decide) (hd 0 (by kernel_rfl)))) (hX.set (by decide) (fun _ _ e => absurd e (by omega)) (fun q' _ e => (by omega : q' = 0) ▸ rfl) (fun _ _ e => absurd e (by omega)) (fun _ _ e => absurd e (by omega)))
    | 2 => intro o L Vv ho hLi hd a' X hX hfr hdp; obtain rfl := Option.some.inj ho; exact opx_field rfl ((hdp 1 52 (by decide) rfl (by kernel_rfl)).trans (hX.v1 0 (by decide) (hd 1 (by kernel_rfl)))) (.inl ⟨rfl, rfl, rfl⟩) (hX.set (by decide) (fun _ _ e => absurd e (by omega)) (fun _ _ e => absurd e (by omega)) (fun q' _ e => (by omega : q' = 0) ▸ rfl) (fun _ _ e => absurd e (by omega)))
    | 3 => intro o L Vv ho hLi hd a' X hX hfr hdp; obtain rfl := Option.some.inj ho; exact opx_load32 rfl ((hdp 2 53 (by decide) rfl (by kernel_rfl)).trans (hX.v2 0 (by decide) (hd 2 (by kernel_rfl)))) (HG.out X hX.below 0 (by decide) 6 _ rfl) (HG.out X hX.below 0 (by decide) 7 _ rfl) (HG.out X hX.below 0 (by decide) 8 _ rfl) (HG.out X hX.below 0 (by decide) 9 _ rfl) (HG.out X hX.below 0 (by decide) 10 _ rfl) (HG.out X hX.below 0 (by decide) 11 _ rfl) (HG.out X hX.below 0 (by decide) 12 _ rfl) (HG.out X hX.below 0 (by decide) 13 _ rfl) (hX.set (by decide) (fun _ _ e => absurd e (by omega)) (fun _ _ e => absurd e (by omega)) (fun _ _ e => absurd e (by omega)) (fun q' _ e => (by omega : q' = 0) ▸ rfl))
    | 4 => intro o L Vv ho hLi hd a' X hX hfr hdp; obtain rfl := Option.some.inj ho; exact opx_move rfl (hfr 11 (by decide)) (hX.set (by decide) (fun _ _ _ => rfl) (fun _ _ e => absurd e (by omega)) (fun _ _ e => absurd e (by omega)) (fun _ _ e => absurd e (by omega)))
    | 5 => intro o L Vv ho hLi hd a' X hX hfr hdp; obtain rfl := Option.some.inj ho; exact opx_index63 (i := 1) (by decide) (by decide) rfl ((hdp 4 55 (by decide) rfl (by kernel_rfl)).trans (hX.v0 1 (by decide) (hd 4 (by kernel_rfl)))) (hX.set (by decide) (fun _ _ e => absurd e (by omega)) (fun q' _ e => (by omega : q' = 1) ▸ rfl) (fun _ _ e => absurd e (by omega)) (fun _ _ e => absurd e (by omega)))
    | 6 => intro o L Vv ho hLi hd a' X hX hfr hdp; obtain rfl := Option.some.inj ho; exact opx_field rfl ((hdp 5 56 (by decide) rfl (by kernel_rfl)).trans (hX.v1 1 (by decide) (hd 5 (by kernel_rfl)))) (.inl ⟨rfl, rfl, rfl⟩) (hX.set (by decide) (fun _ _ e => absurd e (by omega)) (fun _ _ e => absurd e (by omega)) (fun q' _ e => (by omega : q' = 1) ▸ rfl) (fun _ _ e => absurd e (by omega)))
    | 7 => intro o L Vv ho hLi hd a' X hX hfr hdp; obtain rfl := Option.some.inj ho; exact opx_load32 rfl ((hdp 6 57 (by decide) rfl (by kernel_rfl)).trans (hX.v2 1 (by decide) (hd 6 (by kernel_rfl)))) (HG.out X hX.below 1 (by decide) 6 _ rfl) (HG.out X hX.below 1 (by decide) 7 _ rfl) (HG.out X hX.below 1 (by decide) 8 _ rfl) (HG.out X hX.below 1 (by decide) 9 _ rfl) (HG.out X hX.below 1 (by decide) 10 _ rfl) (HG.out X hX.below 1 (by decide) 11 _ rfl) (HG.out X hX.below 1 (by decide) 12 _ rfl) (HG.out X hX.below 1 (by decide) 13 _ rfl) (hX.set (by decide) (fun _ _ e => absurd e (by omega)) (fun _ _ e => absurd e (by omega)) (fun _ _ e => absurd e (by omega)) (fun q' _ e => (by omega : q' = 1) ▸ rfl))
    | 8 => intro o L Vv ho hLi hd a' X hX hfr hdp; obtain rfl := Option.some.inj ho; exact opx_move rfl (hfr 11 (by decide)) (hX.set (by decide) (fun _ _ _ => rfl) (fun _ _ e => absurd e (by omega)) (fun _ _ e => absurd e (by omega)) (fun _ _ e => absurd e (by omega)))
    | 9 => intro o L Vv ho hLi hd a' X hX hfr hdp; obtain rfl := Option.some.inj ho; exact opx_index63 (i := 2) (by decide) (by decide) rfl ((hdp 8 59 (by decide) rfl (by kernel_rfl)).trans (hX.v0 2 (by decide) (hd 8 (by kernel_rfl)))) (hX.set (by decide) (fun _ _ e => absurd e (by omega)) (fun q' _ e => (by omega : q' = 2) ▸ rfl) (fun _ _ e => absurd e (by omega)) (fun _ _ e => absurd e (by omega)))
    | 10 => intro o L Vv ho hLi hd a' X hX hfr hdp; obtain rfl := Option.some.inj ho; exact opx_field rfl ((hdp 9 60 (by decide) rfl (by kernel_rfl)).trans (hX.v1 2 (by decide) (hd 9 (by kernel_rfl)))) (.inl ⟨rfl, rfl, rfl⟩) (hX.set (by decide) (fun _ _ e => absurd e (by omega)) (fun _ _ e => absurd e (by omega)) (fun q' _ e => (by omega : q' = 2) ▸ rfl) (fun _ _ e => absurd e (by omega)))
    | 11 => intro o L Vv ho hLi hd a' X hX hfr hdp; obtain rfl := Option.some.inj ho; exact opx_load32 rfl ((hdp 10 61 (by decide) rfl (by kernel_rfl)).trans (hX.v2 2 (by decide) (hd 10 (by kernel_rfl)))) (HG.out X hX.below 2 (by decide) 6 _ rfl) (HG.out X hX.below 2 (by decide) 7 _ rfl) (HG.out X hX.below 2 (by decide) 8 _ rfl) (HG.out X hX.below 2 (by decide) 9 _ rfl) (HG.out X hX.below 2 (by decide) 10 _ rfl) (HG.out X hX.below 2 (by decide) 11 _ rfl) (HG.out X hX.below 2 (by decide) 12 _ rfl) (HG.out X hX.below 2 (by decide) 13 _ rfl) (hX.set (by decide) (fun _ _ e => absurd e (by omega)) (fun _ _ e => absurd e (by omega)) (fun _ _ e => absurd e (by omega)) (fun q' _ e => (by omega : q' = 2) ▸ rfl))
    | 12 => intro o L Vv ho hLi hd a' X hX hfr hdp; obtain rfl := Option.some.inj ho; exact opx_alloc32 rfl (hX.made (r := 0) (by decide) hLi)
    | 13 => intro o L Vv ho hLi hd a' X hX hfr hdp; obtain rfl := Option.some.inj ho; exact opx_alloc32 rfl (hX.made (r := 1) (by decide) hLi)
    | 14 => intro o L Vv ho hLi hd a' X hX hfr hdp; obtain rfl := Option.some.inj ho; exact opx_alloc32 rfl (hX.made (r := 2) (by decide) hLi)
    | 15 =>
      intro o L Vv ho hLi hd a' X hX hfr hdp; obtain rfl := Option.some.inj ho
      obtain ⟨B, e1, e2, e3⟩ := hX.v12 0 (by decide) (hd 12 (by kernel_rfl))
      simp only [hLi, Bool.false_eq_true, if_false] at e3
      exact op_store8 rfl ((hdp 12 12 (by decide) rfl (by kernel_rfl)).trans e1) ((hdp 3 54 (by decide) rfl (by kernel_rfl)).trans (hX.v3 0 (by decide) (hd 3 (by kernel_rfl)))) e3 (fun W' h1 h2 => hX.stored (r := 0) (by decide) (hd 12 (by kernel_rfl)) e1 e2 h1 h2)
    | 16 =>
      intro o L Vv ho hLi hd a' X hX hfr hdp; obtain rfl := Option.some.inj ho
      obtain ⟨B, e1, e2, e3⟩ := hX.v12 1 (by decide) (hd 13 (by kernel_rfl))
      simp only [hLi, Bool.false_eq_true, if_false] at e3
      exact op_store8 rfl ((hdp 13 13 (by decide) rfl (by kernel_rfl)).trans e1) ((hdp 7 58 (by decide) rfl (by kernel_rfl)).trans (hX.v3 1 (by decide) (hd 7 (by kernel_rfl)))) e3 (fun W' h1 h2 => hX.stored (r := 1) (by decide) (hd 13 (by kernel_rfl)) e1 e2 h1 h2)
    | 17 =>
      intro o L Vv ho hLi hd a' X hX hfr hdp; obtain rfl := Option.some.inj ho
      obtain ⟨B, e1, e2, e3⟩ := hX.v12 2 (by decide) (hd 14 (by kernel_rfl))
      simp only [hLi, Bool.false_eq_true, if_false] at e3
      exact op_store8 rfl ((hdp 14 14 (by decide) rfl (by kernel_rfl)).trans e1) ((hdp 11 62 (by decide) rfl (by kernel_rfl)).trans (hX.v3 2 (by decide) (hd 11 (by kernel_rfl)))) e3 (fun W' h1 h2 => hX.stored (r := 2) (by decide) (hd 14 (by kernel_rfl)) e1 e2 h1 h2)
    | j + 18 => intro o L Vv ho; simp at ho
  case fin =>
    intro X L Vv hLL hX
    obtain ⟨B0, e0, l0, k0⟩ := hX.v12 0 (by decide) (hLL 12 (by decide))
    obtain ⟨B1, e1, l1', k1⟩ := hX.v12 1 (by decide) (hLL 13 (by decide))
    obtain ⟨B2, e2, l2', k2⟩ := hX.v12 2 (by decide) (hLL 14 (by decide))
    have a15 := hLL 15 (by decide)
    have a16 := hLL 16 (by decide)
    have a17 := hLL 17 (by decide)
    simp only [Nat.reduceAdd, a15, a16, a17, if_true] at e0 e1 e2 k0 k1 k2
    have O1 := rg_ok R 0
    have O2 := rg_ok R 1
    have O3 := rg_ok R 2
    have KB := Lib.hid (keep_bl1 VB.out hX.below)
    simp only [fill, Act.put, List.setIfInBounds_toArray, List.set_cons_zero, List.set_cons_succ, Nat.reduceAdd, e0, e1, e2]
    clear hX hLL e0 e1 e2 a15 a16 a17 HG VB l0 l1' l2'
    generalize (rgRep R 0).lo = l1 at *
    generalize (rgRep R 0).hi = h1 at *
    generalize (rgRep R 1).lo = l2 at *
    generalize (rgRep R 1).hi = h2 at *
    generalize (rgRep R 2).lo = l3 at *
    generalize (rgRep R 2).hi = h3 at *
    have KP := Lib.hid k0
    have KQ := Lib.hid k1
    have KS := Lib.hid k2
    clear k0 k1 k2
    have P1 := Lib.hid O1
    have P2 := Lib.hid O2
    have P3 := Lib.hid O3
    clear O1 O2 O3
    have HIs0 : ∃ is, Hid (insideB l1 h1 l2 h2 = is) := ⟨_, Lib.hid rfl⟩
    obtain ⟨is, HIs⟩ := HIs0
    have HS2 := Lib.hid ((inside_hull P1.out P2.out).symm.trans HIs.out)
    cases hM : meetB l1 h1 l2 h2 with
    | true =>
      have HM := Lib.hid hM
      have HM2 := Lib.hid ((meetB_comm l2 h2 l1 h1).trans hM)
      have HS1 := Lib.hid (show sameB (mxF l1 l2) (mnF h1 h2) l1 h1 = is by have := inside_meet (lo' := l2) (hi' := h2) P1.out; rw [hM, HIs.out] at this; simpa using this.symm)
      clear hM
      have cP := (cells8 KP.out).1
      obtain ⟨cP0, cP1, cP2, cP3, cP4, cP5, cP6, cP7⟩ := cP
      have cQ := (cells8 KQ.out).1
      obtain ⟨cQ0, cQ1, cQ2, cQ3, cQ4, cQ5, cQ6, cQ7⟩ := cQ
      go_wp2_with fail
      clear cP0 cP1 cP2 cP3 cP4 cP5 cP6 cP7 cQ0 cQ1 cQ2 cQ3 cQ4 cQ5 cQ6 cQ7 
      have hcon := Meet_yes P1.out P2.out HM.out X (HL.out.below hpos KB.out)
      refine hcon.mono ?_
      clear hcon
      rintro e W1 ⟨rfl, hb⟩
      have KB1 := Lib.hid (keep_bl (o' := .cells (cellA (mxF l1 l2) (mnF h1 h2)) 32) KB.out hb)
      have KP1 := Lib.hid (keep_blk (o' := .cells (cellA (mxF l1 l2) (mnF h1 h2)) 32) KP.out hb)
      have KQ1 := Lib.hid (keep_blk (o' := .cells (cellA (mxF l1 l2) (mnF h1 h2)) 32) KQ.out hb)
      have KS1 := Lib.hid (keep_blk (o' := .cells (cellA (mxF l1 l2) (mnF h1 h2)) 32) KS.out hb)
      clear hb KB KP KQ KS
      have KM1 := Lib.hid (block_new W1 (.cells (cellA (mxF l1 l2) (mnF h1 h2)) 32))
      have cP := (cells8 KP1.out).1
      obtain ⟨cP0, cP1, cP2, cP3, cP4, cP5, cP6, cP7⟩ := cP
      have cQ := (cells8 KQ1.out).1
      obtain ⟨cQ0, cQ1, cQ2, cQ3, cQ4, cQ5, cQ6, cQ7⟩ := cQ
      go_wp2_with fail
      clear cP0 cP1 cP2 cP3 cP4 cP5 cP6 cP7 cQ0 cQ1 cQ2 cQ3 cQ4 cQ5 cQ6 cQ7 
      generalize W1.alloc (.cells (cellA (mxF l1 l2) (mnF h1 h2)) 32) = V2 at *
      have hcon := Meet_yes P2.out P1.out HM2.out V2 (HL.out.below hpos KB1.out)
      rw [mxF_comm l2 l1] at hcon
      rw [mnF_comm h2 h1] at hcon
      refine hcon.mono ?_
      clear hcon
      rintro e W3 ⟨rfl, hb⟩
      have KB3 := Lib.hid (keep_bl (o' := .cells (cellA (mxF l1 l2) (mnF h1 h2)) 32) KB1.out hb)
      have KP3 := Lib.hid (keep_blk (o' := .cells (cellA (mxF l1 l2) (mnF h1 h2)) 32) KP1.out hb)
      have KQ3 := Lib.hid (keep_blk (o' := .cells (cellA (mxF l1 l2) (mnF h1 h2)) 32) KQ1.out hb)
      have KS3 := Lib.hid (keep_blk (o' := .cells (cellA (mxF l1 l2) (mnF h1 h2)) 32) KS1.out hb)
      have KM3 := Lib.hid (keep_blk (o' := .cells (cellA (mxF l1 l2) (mnF h1 h2)) 32) KM1.out hb)
      clear hb KB1 KP1 KQ1 KS1 KM1
      have KM23 := Lib.hid (block_new W3 (.cells (cellA (mxF l1 l2) (mnF h1 h2)) 32))
      have cP := (cells8 KP3.out).1
      obtain ⟨cP0, cP1, cP2, cP3, cP4, cP5, cP6, cP7⟩ := cP
      go_wp2_with fail
      clear cP0 cP1 cP2 cP3 cP4 cP5 cP6 cP7 
      generalize W3.alloc (.cells (cellA (mxF l1 l2) (mnF h1 h2)) 32) = V4 at *
      have hcon := Meet_yes P1.out P1.out (meetB_own P1.out) V4 (HL.out.below hpos KB3.out)
      rw [mxF_own] at hcon
      rw [mnF_own] at hcon
      refine hcon.mono ?_
      clear hcon
      rintro e W5 ⟨rfl, hb⟩
      have KB5 := Lib.hid (keep_bl (o' := .cells (cellA l1 h1) 32) KB3.out hb)
      have KP5 := Lib.hid (keep_blk (o' := .cells (cellA l1 h1) 32) KP3.out hb)
      have KQ5 := Lib.hid (keep_blk (o' := .cells (cellA l1 h1) 32) KQ3.out hb)
      have KS5 := Lib.hid (keep_blk (o' := .cells (cellA l1 h1) 32) KS3.out hb)
      have KM5 := Lib.hid (keep_blk (o' := .cells (cellA l1 h1) 32) KM3.out hb)
      have KM25 := Lib.hid (keep_blk (o' := .cells (cellA l1 h1) 32) KM23.out hb)
      clear hb KB3 KP3 KQ3 KS3 KM3 KM23
      have KP25 := Lib.hid (block_new W5 (.cells (cellA l1 h1) 32))
      have cP := (cells8 KP5.out).1
      obtain ⟨cP0, cP1, cP2, cP3, cP4, cP5, cP6, cP7⟩ := cP
      have cQ := (cells8 KQ5.out).1
      obtain ⟨cQ0, cQ1, cQ2, cQ3, cQ4, cQ5, cQ6, cQ7⟩ := cQ
      go_wp2_with fail
      clear cP0 cP1 cP2 cP3 cP4 cP5 cP6 cP7 cQ0 cQ1 cQ2 cQ3 cQ4 cQ5 cQ6 cQ7 
      generalize W5.alloc (.cells (cellA l1 h1) 32) = V6 at *
      have hcon := Inside_yes P1.out P2.out V6 (HL.out.below hpos KB5.out)
      rw [HIs.out] at hcon
      refine hcon.mono ?_
      clear hcon
      rintro e W7 ⟨rfl, hb⟩
      have KB7 := Lib.hid (keep_bl1 KB5.out hb)
      have KP7 := Lib.hid (keep_blk1 KP5.out hb)
      have KQ7 := Lib.hid (keep_blk1 KQ5.out hb)
      have KS7 := Lib.hid (keep_blk1 KS5.out hb)
      have KM7 := Lib.hid (keep_blk1 KM5.out hb)
      have KM27 := Lib.hid (keep_blk1 KM25.out hb)
      have KP27 := Lib.hid (keep_blk1 KP25.out hb)
      clear hb KB5 KP5 KQ5 KS5 KM5 KM25 KP25
      have cP := (cells8 KP7.out).1
      obtain ⟨cP0, cP1, cP2, cP3, cP4, cP5, cP6, cP7⟩ := cP
      have cQ := (cells8 KQ7.out).1
      obtain ⟨cQ0, cQ1, cQ2, cQ3, cQ4, cQ5, cQ6, cQ7⟩ := cQ
      have cM := (cells8 KM7.out).1
      obtain ⟨cM0, cM1, cM2, cM3, cM4, cM5, cM6, cM7⟩ := cM
      have cM2 := (cells8 KM27.out).1
      obtain ⟨cM20, cM21, cM22, cM23, cM24, cM25, cM26, cM27⟩ := cM2
      have cP2 := (cells8 KP27.out).1
      obtain ⟨cP20, cP21, cP22, cP23, cP24, cP25, cP26, cP27⟩ := cP2
      go_wp2_with (first | (refine list_neq32 (mxF l1 l2) (mnF h1 h2) (mxF l1 l2) (mnF h1 h2) rfl rfl rfl rfl (sameB_own _ _) ?_; simp only [Act.put, List.setIfInBounds_toArray, List.set_cons_zero, List.set_cons_succ]) | (refine list_neq32 l1 h1 l1 h1 rfl rfl rfl rfl (sameB_own _ _) ?_; simp only [Act.put, List.setIfInBounds_toArray, List.set_cons_zero, List.set_cons_succ]) | (refine list_eql32 (mxF l1 l2) (mnF h1 h2) l1 h1 rfl rfl rfl rfl HS1.out ?_; simp only [Act.put, List.setIfInBounds_toArray, List.set_cons_zero, List.set_cons_succ]))
      clear cP0 cP1 cP2 cP3 cP4 cP5 cP6 cP7 cQ0 cQ1 cQ2 cQ3 cQ4 cQ5 cQ6 cQ7 cM0 cM1 cM2 cM3 cM4 cM5 cM6 cM7 cM20 cM21 cM22 cM23 cM24 cM25 cM26 cM27 cP20 cP21 cP22 cP23 cP24 cP25 cP26 cP27 
      have hcon := Hull_yes P1.out P2.out W7 (HL.out.below hpos KB7.out)
      refine hcon.mono ?_
      clear hcon
      rintro e W8 ⟨rfl, hb⟩
      clear KM27
      clear KP27
      have KB8 := Lib.hid (keep_bl (o' := .cells (cellA (mnF l1 l2) (mxF h1 h2)) 32) KB7.out hb)
      have KP8 := Lib.hid (keep_blk (o' := .cells (cellA (mnF l1 l2) (mxF h1 h2)) 32) KP7.out hb)
      have KQ8 := Lib.hid (keep_blk (o' := .cells (cellA (mnF l1 l2) (mxF h1 h2)) 32) KQ7.out hb)
      have KS8 := Lib.hid (keep_blk (o' := .cells (cellA (mnF l1 l2) (mxF h1 h2)) 32) KS7.out hb)
      have KM8 := Lib.hid (keep_blk (o' := .cells (cellA (mnF l1 l2) (mxF h1 h2)) 32) KM7.out hb)
      clear hb KB7 KP7 KQ7 KS7 KM7
      have KH18 := Lib.hid (block_new W8 (.cells (cellA (mnF l1 l2) (mxF h1 h2)) 32))
      have cP := (cells8 KP8.out).1
      obtain ⟨cP0, cP1, cP2, cP3, cP4, cP5, cP6, cP7⟩ := cP
      have cQ := (cells8 KQ8.out).1
      obtain ⟨cQ0, cQ1, cQ2, cQ3, cQ4, cQ5, cQ6, cQ7⟩ := cQ
      go_wp2_with fail
      clear cP0 cP1 cP2 cP3 cP4 cP5 cP6 cP7 cQ0 cQ1 cQ2 cQ3 cQ4 cQ5 cQ6 cQ7 
      generalize W8.alloc (.cells (cellA (mnF l1 l2) (mxF h1 h2)) 32) = V9 at *
      have hcon := Hull_yes P2.out P1.out V9 (HL.out.below hpos KB8.out)
      rw [mnF_comm l2 l1] at hcon
      rw [mxF_comm h2 h1] at hcon
      refine hcon.mono ?_
      clear hcon
      rintro e W10 ⟨rfl, hb⟩
      have KB10 := Lib.hid (keep_bl (o' := .cells (cellA (mnF l1 l2) (mxF h1 h2)) 32) KB8.out hb)
      have KP10 := Lib.hid (keep_blk (o' := .cells (cellA (mnF l1 l2) (mxF h1 h2)) 32) KP8.out hb)
      have KQ10 := Lib.hid (keep_blk (o' := .cells (cellA (mnF l1 l2) (mxF h1 h2)) 32) KQ8.out hb)
      have KS10 := Lib.hid (keep_blk (o' := .cells (cellA (mnF l1 l2) (mxF h1 h2)) 32) KS8.out hb)
      have KM10 := Lib.hid (keep_blk (o' := .cells (cellA (mnF l1 l2) (mxF h1 h2)) 32) KM8.out hb)
      have KH110 := Lib.hid (keep_blk (o' := .cells (cellA (mnF l1 l2) (mxF h1 h2)) 32) KH18.out hb)
      clear hb KB8 KP8 KQ8 KS8 KM8 KH18
      have KH210 := Lib.hid (block_new W10 (.cells (cellA (mnF l1 l2) (mxF h1 h2)) 32))
      have cH1 := (cells8 KH110.out).1
      obtain ⟨cH10, cH11, cH12, cH13, cH14, cH15, cH16, cH17⟩ := cH1
      have cH2 := (cells8 KH210.out).1
      obtain ⟨cH20, cH21, cH22, cH23, cH24, cH25, cH26, cH27⟩ := cH2
      have cQ := (cells8 KQ10.out).1
      obtain ⟨cQ0, cQ1, cQ2, cQ3, cQ4, cQ5, cQ6, cQ7⟩ := cQ
      have cS := (cells8 KS10.out).1
      obtain ⟨cS0, cS1, cS2, cS3, cS4, cS5, cS6, cS7⟩ := cS
      go_wp2_with (first | (refine list_neq32 (mnF l1 l2) (mxF h1 h2) (mnF l1 l2) (mxF h1 h2) rfl rfl rfl rfl (sameB_own _ _) ?_; simp only [Act.put, List.setIfInBounds_toArray, List.set_cons_zero, List.set_cons_succ]) | (refine list_eql32 (mnF l1 l2) (mxF h1 h2) l2 h2 rfl rfl rfl rfl HS2.out ?_; simp only [Act.put, List.setIfInBounds_toArray, List.set_cons_zero, List.set_cons_succ]))
      clear cH10 cH11 cH12 cH13 cH14 cH15 cH16 cH17 cH20 cH21 cH22 cH23 cH24 cH25 cH26 cH27 cQ0 cQ1 cQ2 cQ3 cQ4 cQ5 cQ6 cQ7 cS0 cS1 cS2 cS3 cS4 cS5 cS6 cS7 
      generalize W10.alloc (.cells (cellA (mnF l1 l2) (mxF h1 h2)) 32) = V11 at *
      have hcon := Hull_yes (hull_ok P1.out P2.out) P3.out V11 (HL.out.below hpos KB10.out)
      refine hcon.mono ?_
      clear hcon
      rintro e W12 ⟨rfl, hb⟩
      clear KH110
      clear KH210
      have KB12 := Lib.hid (keep_bl (o' := .cells (cellA (mnF (mnF l1 l2) l3) (mxF (mxF h1 h2) h3)) 32) KB10.out hb)
      have KP12 := Lib.hid (keep_blk (o' := .cells (cellA (mnF (mnF l1 l2) l3) (mxF (mxF h1 h2) h3)) 32) KP10.out hb)
      have KQ12 := Lib.hid (keep_blk (o' := .cells (cellA (mnF (mnF l1 l2) l3) (mxF (mxF h1 h2) h3)) 32) KQ10.out hb)
      have KS12 := Lib.hid (keep_blk (o' := .cells (cellA (mnF (mnF l1 l2) l3) (mxF (mxF h1 h2) h3)) 32) KS10.out hb)
      have KM12 := Lib.hid (keep_blk (o' := .cells (cellA (mnF (mnF l1 l2) l3) (mxF (mxF h1 h2) h3)) 32) KM10.out hb)
      clear hb KB10 KP10 KQ10 KS10 KM10
      have KA112 := Lib.hid (block_new W12 (.cells (cellA (mnF (mnF l1 l2) l3) (mxF (mxF h1 h2) h3)) 32))
      have cQ := (cells8 KQ12.out).1
      obtain ⟨cQ0, cQ1, cQ2, cQ3, cQ4, cQ5, cQ6, cQ7⟩ := cQ
      have cS := (cells8 KS12.out).1
      obtain ⟨cS0, cS1, cS2, cS3, cS4, cS5, cS6, cS7⟩ := cS
      go_wp2_with fail
      clear cQ0 cQ1 cQ2 cQ3 cQ4 cQ5 cQ6 cQ7 cS0 cS1 cS2 cS3 cS4 cS5 cS6 cS7 
      generalize W12.alloc (.cells (cellA (mnF (mnF l1 l2) l3) (mxF (mxF h1 h2) h3)) 32) = V13 at *
      have hcon := Hull_yes P2.out P3.out V13 (HL.out.below hpos KB12.out)
      refine hcon.mono ?_
      clear hcon
      rintro e W14 ⟨rfl, hb⟩
      have KB14 := Lib.hid (keep_bl (o' := .cells (cellA (mnF l2 l3) (mxF h2 h3)) 32) KB12.out hb)
      have KP14 := Lib.hid (keep_blk (o' := .cells (cellA (mnF l2 l3) (mxF h2 h3)) 32) KP12.out hb)
      have KQ14 := Lib.hid (keep_blk (o' := .cells (cellA (mnF l2 l3) (mxF h2 h3)) 32) KQ12.out hb)
      have KS14 := Lib.hid (keep_blk (o' := .cells (cellA (mnF l2 l3) (mxF h2 h3)) 32) KS12.out hb)
      have KM14 := Lib.hid (keep_blk (o' := .cells (cellA (mnF l2 l3) (mxF h2 h3)) 32) KM12.out hb)
      have KA114 := Lib.hid (keep_blk (o' := .cells (cellA (mnF l2 l3) (mxF h2 h3)) 32) KA112.out hb)
      clear hb KB12 KP12 KQ12 KS12 KM12 KA112
      have KI14 := Lib.hid (block_new W14 (.cells (cellA (mnF l2 l3) (mxF h2 h3)) 32))
      have cP := (cells8 KP14.out).1
      obtain ⟨cP0, cP1, cP2, cP3, cP4, cP5, cP6, cP7⟩ := cP
      have cI := (cells8 KI14.out).1
      obtain ⟨cI0, cI1, cI2, cI3, cI4, cI5, cI6, cI7⟩ := cI
      go_wp2_with fail
      clear cP0 cP1 cP2 cP3 cP4 cP5 cP6 cP7 cI0 cI1 cI2 cI3 cI4 cI5 cI6 cI7 
      generalize W14.alloc (.cells (cellA (mnF l2 l3) (mxF h2 h3)) 32) = V15 at *
      have hcon := Hull_yes P1.out (hull_ok P2.out P3.out) V15 (HL.out.below hpos KB14.out)
      rw [← mnF_assoc] at hcon
      rw [← mxF_assoc] at hcon
      refine hcon.mono ?_
      clear hcon
      rintro e W16 ⟨rfl, hb⟩
      clear KI14
      have KB16 := Lib.hid (keep_bl (o' := .cells (cellA (mnF (mnF l1 l2) l3) (mxF (mxF h1 h2) h3)) 32) KB14.out hb)
      have KP16 := Lib.hid (keep_blk (o' := .cells (cellA (mnF (mnF l1 l2) l3) (mxF (mxF h1 h2) h3)) 32) KP14.out hb)
      have KQ16 := Lib.hid (keep_blk (o' := .cells (cellA (mnF (mnF l1 l2) l3) (mxF (mxF h1 h2) h3)) 32) KQ14.out hb)
      have KS16 := Lib.hid (keep_blk (o' := .cells (cellA (mnF (mnF l1 l2) l3) (mxF (mxF h1 h2) h3)) 32) KS14.out hb)
      have KM16 := Lib.hid (keep_blk (o' := .cells (cellA (mnF (mnF l1 l2) l3) (mxF (mxF h1 h2) h3)) 32) KM14.out hb)
      have KA116 := Lib.hid (keep_blk (o' := .cells (cellA (mnF (mnF l1 l2) l3) (mxF (mxF h1 h2) h3)) 32) KA114.out hb)
      clear hb KB14 KP14 KQ14 KS14 KM14 KA114
      have KA216 := Lib.hid (block_new W16 (.cells (cellA (mnF (mnF l1 l2) l3) (mxF (mxF h1 h2) h3)) 32))
      have cA1 := (cells8 KA116.out).1
      obtain ⟨cA10, cA11, cA12, cA13, cA14, cA15, cA16, cA17⟩ := cA1
      have cM := (cells8 KM16.out).1
      obtain ⟨cM0, cM1, cM2, cM3, cM4, cM5, cM6, cM7⟩ := cM
      have cA2 := (cells8 KA216.out).1
      obtain ⟨cA20, cA21, cA22, cA23, cA24, cA25, cA26, cA27⟩ := cA2
      have LET := Lib.hid (KB16.out.size)
      have NETP := Lib.hid (Nat.ne_of_lt (lt_of_block KP16.out))
      have NETQ := Lib.hid (Nat.ne_of_lt (lt_of_block KQ16.out))
      have NETS := Lib.hid (Nat.ne_of_lt (lt_of_block KS16.out))
      have NETM := Lib.hid (Nat.ne_of_lt (lt_of_block KM16.out))
      have NETA1 := Lib.hid (Nat.ne_of_lt (lt_of_block KA116.out))
      have NETA2 := Lib.hid (Nat.ne_of_lt (lt_of_block KA216.out))
      have KB17 := Lib.hid (KB16.out.alloc KB16.out.size (.cells (cellA (mxF l1 l2) (mnF h1 h2)) 32))
      have KP17 := Lib.hid ((Below.heap_alloc (W16.alloc (.cells (cellA (mnF (mnF l1 l2) l3) (mxF (mxF h1 h2) h3)) 32)) (.cells (cellA (mxF l1 l2) (mnF h1 h2)) 32) _ (lt_of_block KP16.out)).trans KP16.out)
      have KQ17 := Lib.hid ((Below.heap_alloc (W16.alloc (.cells (cellA (mnF (mnF l1 l2) l3) (mxF (mxF h1 h2) h3)) 32)) (.cells (cellA (mxF l1 l2) (mnF h1 h2)) 32) _ (lt_of_block KQ16.out)).trans KQ16.out)
      have KS17 := Lib.hid ((Below.heap_alloc (W16.alloc (.cells (cellA (mnF (mnF l1 l2) l3) (mxF (mxF h1 h2) h3)) 32)) (.cells (cellA (mxF l1 l2) (mnF h1 h2)) 32) _ (lt_of_block KS16.out)).trans KS16.out)
      have KM17 := Lib.hid ((Below.heap_alloc (W16.alloc (.cells (cellA (mnF (mnF l1 l2) l3) (mxF (mxF h1 h2) h3)) 32)) (.cells (cellA (mxF l1 l2) (mnF h1 h2)) 32) _ (lt_of_block KM16.out)).trans KM16.out)
      have KA117 := Lib.hid ((Below.heap_alloc (W16.alloc (.cells (cellA (mnF (mnF l1 l2) l3) (mxF (mxF h1 h2) h3)) 32)) (.cells (cellA (mxF l1 l2) (mnF h1 h2)) 32) _ (lt_of_block KA116.out)).trans KA116.out)
      have KA217 := Lib.hid ((Below.heap_alloc (W16.alloc (.cells (cellA (mnF (mnF l1 l2) l3) (mxF (mxF h1 h2) h3)) 32)) (.cells (cellA (mxF l1 l2) (mnF h1 h2)) 32) _ (lt_of_block KA216.out)).trans KA216.out)
      have KT17 := Lib.hid (block_new (W16.alloc (.cells (cellA (mnF (mnF l1 l2) l3) (mxF (mxF h1 h2) h3)) 32)) (.cells (cellA (mxF l1 l2) (mnF h1 h2)) 32))
      simp only [World.size_alloc] at KT17 LET NETP NETQ NETS NETM NETA1 NETA2
      clear KB16 KP16 KQ16 KS16 KM16 KA116 KA216
      have dM := (cells8 KM17.out).1
      obtain ⟨dM0, dM1, dM2, dM3, dM4, dM5, dM6, dM7⟩ := dM
      have dS := (cells8 KS17.out).1
      obtain ⟨dS0, dS1, dS2, dS3, dS4, dS5, dS6, dS7⟩ := dS
      go_wp2_with (first | (refine list_neq32 (mnF (mnF l1 l2) l3) (mxF (mxF h1 h2) h3) (mnF (mnF l1 l2) l3) (mxF (mxF h1 h2) h3) rfl rfl rfl rfl (sameB_own _ _) ?_; simp only [Act.put, List.setIfInBounds_toArray, List.set_cons_zero, List.set_cons_succ]))
      clear  cA20 cA21 cA22 cA23 cA24 cA25 cA26 cA27 cA10 cA11 cA12 cA13 cA14 cA15 cA16 cA17 cM0 cM1 cM2 cM3 cM4 cM5 cM6 cM7 dM0 dM1 dM2 dM3 dM4 dM5 dM6 dM7 dS0 dS1 dS2 dS3 dS4 dS5 dS6 dS7
      generalize (W16.alloc (.cells (cellA (mnF (mnF l1 l2) l3) (mxF (mxF h1 h2) h3)) 32)).alloc (.cells (cellA (mxF l1 l2) (mnF h1 h2)) 32) = V18 at *
      clear KA117 NETA1
      clear KA217 NETA2
      cases hN : meetB (mxF l1 l2) (mnF h1 h2) l3 h3 with
      | true =>
        have HN := Lib.hid hN
        have HN5 := (meet_assoc (l1 := l1) (h1 := h1) (l2 := l2) (h2 := h2) (l3 := l3) (h3 := h3)).symm
        rw [hN, HM.out] at HN5
        simp only [Bool.and_self, Bool.and_eq_true] at HN5
        have HN2 := Lib.hid HN5.1
        have HN3 := Lib.hid HN5.2
        clear hN HN5
        have hcon := Meet_yes (meet_ok P1.out P2.out HM.out) P3.out HN.out V18 (HL.out.below hpos KB17.out)
        refine hcon.mono ?_
        clear hcon
        rintro e W19 ⟨rfl, hb⟩
        have KB19 := Lib.hid (keep_bl1 KB17.out hb)
        have KP19 := Lib.hid (keep_blk1 KP17.out hb)
        have KQ19 := Lib.hid (keep_blk1 KQ17.out hb)
        have KS19 := Lib.hid (keep_blk1 KS17.out hb)
        have KM19 := Lib.hid (keep_blk1 KM17.out hb)
        have KT19 := Lib.hid (keep_blk1 KT17.out hb)
        clear hb KB17 KP17 KQ17 KS17 KM17 KT17
        go_wp2_with (first | (refine list_store8 (y0 := (mxF (mxF l1 l2) l3) 0) (y1 := (mnF (mnF h1 h2) h3) 0) (y2 := (mxF (mxF l1 l2) l3) 1) (y3 := (mnF (mnF h1 h2) h3) 1) (y4 := (mxF (mxF l1 l2) l3) 2) (y5 := (mnF (mnF h1 h2) h3) 2) (y6 := (mxF (mxF l1 l2) l3) 3) (y7 := (mnF (mnF h1 h2) h3) 3) rfl rfl rfl (.inl rfl) rfl rfl KT19.out ?_; intro Z20 hz hc; have KT20 := Lib.hid hz; have KB20 := Lib.hid (KB19.out.trans (hc.below LET.out)); have KP20 := Lib.hid ((hc.2.1 _ NETP.out).trans KP19.out); have KQ20 := Lib.hid ((hc.2.1 _ NETQ.out).trans KQ19.out); have KS20 := Lib.hid ((hc.2.1 _ NETS.out).trans KS19.out); have KM20 := Lib.hid ((hc.2.1 _ NETM.out).trans KM19.out); clear hz hc KB19 KP19 KQ19 KS19 KM19 KT19; have rQ := (cells8 KQ20.out).1; obtain ⟨rQ0, rQ1, rQ2, rQ3, rQ4, rQ5, rQ6, rQ7⟩ := rQ; have rS := (cells8 KS20.out).1; obtain ⟨rS0, rS1, rS2, rS3, rS4, rS5, rS6, rS7⟩ := rS))
        clear  rQ0 rQ1 rQ2 rQ3 rQ4 rQ5 rQ6 rQ7 rS0 rS1 rS2 rS3 rS4 rS5 rS6 rS7
        have hcon := Meet_yes P2.out P3.out HN2.out Z20 (HL.out.below hpos KB20.out)
        refine hcon.mono ?_
        clear hcon
        rintro e W21 ⟨rfl, hb⟩
        have LEV := Lib.hid (keep_bl1 KB20.out hb).size
        have NEVP := Lib.hid (Nat.ne_of_lt (lt_of_block (keep_blk1 KP20.out hb)))
        have NEVQ := Lib.hid (Nat.ne_of_lt (lt_of_block (keep_blk1 KQ20.out hb)))
        have NEVS := Lib.hid (Nat.ne_of_lt (lt_of_block (keep_blk1 KS20.out hb)))
        have NEVM := Lib.hid (Nat.ne_of_lt (lt_of_block (keep_blk1 KM20.out hb)))
        have NEVT := Lib.hid (Nat.ne_of_lt (lt_of_block (keep_blk1 KT20.out hb)))
        have KB21 := Lib.hid (keep_bl (o' := .cells (cellA (mxF l2 l3) (mnF h2 h3)) 32) KB20.out hb)
        have KP21 := Lib.hid (keep_blk (o' := .cells (cellA (mxF l2 l3) (mnF h2 h3)) 32) KP20.out hb)
        have KQ21 := Lib.hid (keep_blk (o' := .cells (cellA (mxF l2 l3) (mnF h2 h3)) 32) KQ20.out hb)
        have KS21 := Lib.hid (keep_blk (o' := .cells (cellA (mxF l2 l3) (mnF h2 h3)) 32) KS20.out hb)
        have KM21 := Lib.hid (keep_blk (o' := .cells (cellA (mxF l2 l3) (mnF h2 h3)) 32) KM20.out hb)
        have KT21 := Lib.hid (keep_blk (o' := .cells (cellA (mxF l2 l3) (mnF h2 h3)) 32) KT20.out hb)
        clear hb KB20 KP20 KQ20 KS20 KM20 KT20
        have KV21 := Lib.hid (block_new W21 (.cells (cellA (mxF l2 l3) (mnF h2 h3)) 32))
        have cP := (cells8 KP21.out).1
        obtain ⟨cP0, cP1, cP2, cP3, cP4, cP5, cP6, cP7⟩ := cP
        have cV := (cells8 KV21.out).1
        obtain ⟨cV0, cV1, cV2, cV3, cV4, cV5, cV6, cV7⟩ := cV
        go_wp2_with fail
        clear cP0 cP1 cP2 cP3 cP4 cP5 cP6 cP7 cV0 cV1 cV2 cV3 cV4 cV5 cV6 cV7 
        generalize W21.alloc (.cells (cellA (mxF l2 l3) (mnF h2 h3)) 32) = V22 at *
        have hcon := Meet_yes P1.out (meet_ok P2.out P3.out HN2.out) HN3.out V22 (HL.out.below hpos KB21.out)
        rw [← mxF_assoc] at hcon
        rw [← mnF_assoc] at hcon
        refine hcon.mono ?_
        clear hcon
        rintro e W23 ⟨rfl, hb⟩
        have KB23 := Lib.hid (keep_bl1 KB21.out hb)
        have KP23 := Lib.hid (keep_blk1 KP21.out hb)
        have KQ23 := Lib.hid (keep_blk1 KQ21.out hb)
        have KS23 := Lib.hid (keep_blk1 KS21.out hb)
        have KM23 := Lib.hid (keep_blk1 KM21.out hb)
        have KT23 := Lib.hid (keep_blk1 KT21.out hb)
        have KV23 := Lib.hid (keep_blk1 KV21.out hb)
        clear hb KB21 KP21 KQ21 KS21 KM21 KT21 KV21
        go_wp2_with (first | (refine list_neq32 (mxF (mxF l1 l2) l3) (mnF (mnF h1 h2) h3) (mxF (mxF l1 l2) l3) (mnF (mnF h1 h2) h3) rfl rfl rfl rfl (sameB_own _ _) ?_; simp only [Act.put, List.setIfInBounds_toArray, List.set_cons_zero, List.set_cons_succ]) | (refine list_store8 (y0 := (mxF (mxF l1 l2) l3) 0) (y1 := (mnF (mnF h1 h2) h3) 0) (y2 := (mxF (mxF l1 l2) l3) 1) (y3 := (mnF (mnF h1 h2) h3) 1) (y4 := (mxF (mxF l1 l2) l3) 2) (y5 := (mnF (mnF h1 h2) h3) 2) (y6 := (mxF (mxF l1 l2) l3) 3) (y7 := (mnF (mnF h1 h2) h3) 3) rfl rfl rfl (.inl rfl) rfl rfl KV23.out ?_; intro Z24 hz hc; have KV24 := Lib.hid hz; have KB24 := Lib.hid (KB23.out.trans (hc.below LEV.out)); have KP24 := Lib.hid ((hc.2.1 _ NEVP.out).trans KP23.out); have KQ24 := Lib.hid ((hc.2.1 _ NEVQ.out).trans KQ23.out); have KS24 := Lib.hid ((hc.2.1 _ NEVS.out).trans KS23.out); have KM24 := Lib.hid ((hc.2.1 _ NEVM.out).trans KM23.out); have KT24 := Lib.hid ((hc.2.1 _ NEVT.out).trans KT23.out); clear hz hc KB23 KP23 KQ23 KS23 KM23 KT23 KV23; have rT := (cells8 KT24.out).1; obtain ⟨rT0, rT1, rT2, rT3, rT4, rT5, rT6, rT7⟩ := rT; have rV := (cells8 KV24.out).1; obtain ⟨rV0, rV1, rV2, rV3, rV4, rV5, rV6, rV7⟩ := rV))
        clear  rT0 rT1 rT2 rT3 rT4 rT5 rT6 rT7 rV0 rV1 rV2 rV3 rV4 rV5 rV6 rV7
        have hcon := ranged_any' a b c d Z24 (HL.out.below hpos KB24.out)
        refine hcon.mono ?_
        clear hcon
        rintro e W25 ⟨rfl, hb⟩
        clear KS24
        clear KT24
        clear KV24
        have KB25 := Lib.hid (keep_bl (o' := .cells (iceA (rgN a b c d)) 37) KB24.out hb)
        have KP25 := Lib.hid (keep_blk (o' := .cells (iceA (rgN a b c d)) 37) KP24.out hb)
        have KQ25 := Lib.hid (keep_blk (o' := .cells (iceA (rgN a b c d)) 37) KQ24.out hb)
        have KM25 := Lib.hid (keep_blk (o' := .cells (iceA (rgN a b c d)) 37) KM24.out hb)
        clear hb KB24 KP24 KQ24 KM24
        have KY25 := Lib.hid (block_new W25 (.cells (iceA (rgN a b c d)) 37))
        have Hone0 : ∃ one, Hid (hasB l1 h1 (rgN a b c d) = one) := ⟨_, Lib.hid rfl⟩
        obtain ⟨one, Hone⟩ := Hone0
        have Htwo0 : ∃ two, Hid (hasB l2 h2 (rgN a b c d) = two) := ⟨_, Lib.hid rfl⟩
        obtain ⟨two, Htwo⟩ := Htwo0
        have cP := (cells8 KP25.out).1
        obtain ⟨cP0, cP1, cP2, cP3, cP4, cP5, cP6, cP7⟩ := cP
        have cY := (cells4 KY25.out).1
        obtain ⟨cY0, cY1, cY2, cY3⟩ := cY
        go_wp2_with fail
        clear cP0 cP1 cP2 cP3 cP4 cP5 cP6 cP7 cY0 cY1 cY2 cY3 
        generalize W25.alloc (.cells (iceA (rgN a b c d)) 37) = V26 at *
        have hcon := Has_yes P1.out (rgN_ok a b c d) V26 (HL.out.below hpos KB25.out)
        rw [Hone.out] at hcon
        refine hcon.mono ?_
        clear hcon
        rintro e W27 ⟨rfl, hb⟩
        have KB27 := Lib.hid (keep_bl1 KB25.out hb)
        have KP27 := Lib.hid (keep_blk1 KP25.out hb)
        have KQ27 := Lib.hid (keep_blk1 KQ25.out hb)
        have KM27 := Lib.hid (keep_blk1 KM25.out hb)
        have KY27 := Lib.hid (keep_blk1 KY25.out hb)
        clear hb KB25 KP25 KQ25 KM25 KY25
        have cQ := (cells8 KQ27.out).1
        obtain ⟨cQ0, cQ1, cQ2, cQ3, cQ4, cQ5, cQ6, cQ7⟩ := cQ
        have cY := (cells4 KY27.out).1
        obtain ⟨cY0, cY1, cY2, cY3⟩ := cY
        go_wp2_with fail
        clear cQ0 cQ1 cQ2 cQ3 cQ4 cQ5 cQ6 cQ7 cY0 cY1 cY2 cY3 
        have hcon := Has_yes P2.out (rgN_ok a b c d) W27 (HL.out.below hpos KB27.out)
        rw [Htwo.out] at hcon
        refine hcon.mono ?_
        clear hcon
        rintro e W28 ⟨rfl, hb⟩
        have KB28 := Lib.hid (keep_bl1 KB27.out hb)
        have KP28 := Lib.hid (keep_blk1 KP27.out hb)
        have KQ28 := Lib.hid (keep_blk1 KQ27.out hb)
        have KM28 := Lib.hid (keep_blk1 KM27.out hb)
        have KY28 := Lib.hid (keep_blk1 KY27.out hb)
        clear hb KB27 KP27 KQ27 KM27 KY27
        have cM := (cells8 KM28.out).1
        obtain ⟨cM0, cM1, cM2, cM3, cM4, cM5, cM6, cM7⟩ := cM
        have cY := (cells4 KY28.out).1
        obtain ⟨cY0, cY1, cY2, cY3⟩ := cY
        go_wp2_with fail
        clear cM0 cM1 cM2 cM3 cM4 cM5 cM6 cM7 cY0 cY1 cY2 cY3 
        have hcon := Has_yes (meet_ok P1.out P2.out HM.out) (rgN_ok a b c d) W28 (HL.out.below hpos KB28.out)
        rw [has_meet, Hone.out, Htwo.out] at hcon
        refine hcon.mono ?_
        clear hcon
        rintro e W29 ⟨rfl, hb⟩
        have KB29 := Lib.hid (keep_bl1 KB28.out hb)
        have KP29 := Lib.hid (keep_blk1 KP28.out hb)
        have KQ29 := Lib.hid (keep_blk1 KQ28.out hb)
        have KM29 := Lib.hid (keep_blk1 KM28.out hb)
        have KY29 := Lib.hid (keep_blk1 KY28.out hb)
        clear hb KB28 KP28 KQ28 KM28 KY28
        cases one with
        | true =>
          cases two with
          | true =>
            go_wp2_with fail
            refine (awake_any W29 (HL.out.below hpos KB29.out)).mono ?_
            rintro e We ⟨rfl, hb⟩
            have KBe := Lib.hid (keep_bl1 KB29.out hb)
            clear hb
            go_wp2_with fail
            go_ret
            exact ⟨rfl, KBe.out⟩
          | false =>
            go_wp2_with fail
            refine (awake_any W29 (HL.out.below hpos KB29.out)).mono ?_
            rintro e We ⟨rfl, hb⟩
            have KBe := Lib.hid (keep_bl1 KB29.out hb)
            clear hb
            go_wp2_with fail
            go_ret
            exact ⟨rfl, KBe.out⟩
        | false =>
          cases two with
          | true =>
            go_wp2_with fail
            refine (awake_any W29 (HL.out.below hpos KB29.out)).mono ?_
            rintro e We ⟨rfl, hb⟩
            have KBe := Lib.hid (keep_bl1 KB29.out hb)
            clear hb
            go_wp2_with fail
            go_ret
            exact ⟨rfl, KBe.out⟩
          | false =>
            go_wp2_with fail
            refine (awake_any W29 (HL.out.below hpos KB29.out)).mono ?_
            rintro e We ⟨rfl, hb⟩
            have KBe := Lib.hid (keep_bl1 KB29.out hb)
            clear hb
            go_wp2_with fail
            go_ret
            exact ⟨rfl, KBe.out⟩
      | false =>
        have HN := Lib.hid hN
        have HN5 := (meet_assoc (l1 := l1) (h1 := h1) (l2 := l2) (h2 := h2) (l3 := l3) (h3 := h3)).symm
        rw [hN, Bool.and_false] at HN5
        have HN3 := Lib.hid HN5
        clear hN HN5
        have hcon := Meet_no (meet_ok P1.out P2.out HM.out) P3.out HN.out V18 (HL.out.below hpos KB17.out)
        refine hcon.mono ?_
        clear hcon
        rintro e W19 ⟨rfl, hb⟩
        have KB19 := Lib.hid (keep_bl1 KB17.out hb)
        have KP19 := Lib.hid (keep_blk1 KP17.out hb)
        have KQ19 := Lib.hid (keep_blk1 KQ17.out hb)
        have KS19 := Lib.hid (keep_blk1 KS17.out hb)
        have KM19 := Lib.hid (keep_blk1 KM17.out hb)
        have KT19 := Lib.hid (keep_blk1 KT17.out hb)
        clear hb KB17 KP17 KQ17 KS17 KM17 KT17
        go_wp2_with (first | (refine list_store8 (y0 := (fun _ => 0) 0) (y1 := (fun _ => 0) 0) (y2 := (fun _ => 0) 1) (y3 := (fun _ => 0) 1) (y4 := (fun _ => 0) 2) (y5 := (fun _ => 0) 2) (y6 := (fun _ => 0) 3) (y7 := (fun _ => 0) 3) rfl rfl rfl (.inl rfl) rfl rfl KT19.out ?_; intro Z20 hz hc; have KT20 := Lib.hid hz; have KB20 := Lib.hid (KB19.out.trans (hc.below LET.out)); have KP20 := Lib.hid ((hc.2.1 _ NETP.out).trans KP19.out); have KQ20 := Lib.hid ((hc.2.1 _ NETQ.out).trans KQ19.out); have KS20 := Lib.hid ((hc.2.1 _ NETS.out).trans KS19.out); have KM20 := Lib.hid ((hc.2.1 _ NETM.out).trans KM19.out); clear hz hc KB19 KP19 KQ19 KS19 KM19 KT19; have rQ := (cells8 KQ20.out).1; obtain ⟨rQ0, rQ1, rQ2, rQ3, rQ4, rQ5, rQ6, rQ7⟩ := rQ; have rS := (cells8 KS20.out).1; obtain ⟨rS0, rS1, rS2, rS3, rS4, rS5, rS6, rS7⟩ := rS))
        clear  rQ0 rQ1 rQ2 rQ3 rQ4 rQ5 rQ6 rQ7 rS0 rS1 rS2 rS3 rS4 rS5 rS6 rS7
        cases hN2 : meetB l2 h2 l3 h3 with
        | true =>
          have HN2 := Lib.hid hN2
          have HN4 := Lib.hid (show meetB l1 h1 (mxF l2 l3) (mnF h2 h3) = false by have := HN3.out; rw [hN2] at this; simpa using this)
          clear hN2
          have hcon := Meet_yes P2.out P3.out HN2.out Z20 (HL.out.below hpos KB20.out)
          refine hcon.mono ?_
          clear hcon
          rintro e W21 ⟨rfl, hb⟩
          have LEV := Lib.hid (keep_bl1 KB20.out hb).size
          have NEVP := Lib.hid (Nat.ne_of_lt (lt_of_block (keep_blk1 KP20.out hb)))
          have NEVQ := Lib.hid (Nat.ne_of_lt (lt_of_block (keep_blk1 KQ20.out hb)))
          have NEVS := Lib.hid (Nat.ne_of_lt (lt_of_block (keep_blk1 KS20.out hb)))
          have NEVM := Lib.hid (Nat.ne_of_lt (lt_of_block (keep_blk1 KM20.out hb)))
          have NEVT := Lib.hid (Nat.ne_of_lt (lt_of_block (keep_blk1 KT20.out hb)))
          have KB21 := Lib.hid (keep_bl (o' := .cells (cellA (mxF l2 l3) (mnF h2 h3)) 32) KB20.out hb)
          have KP21 := Lib.hid (keep_blk (o' := .cells (cellA (mxF l2 l3) (mnF h2 h3)) 32) KP20.out hb)
          have KQ21 := Lib.hid (keep_blk (o' := .cells (cellA (mxF l2 l3) (mnF h2 h3)) 32) KQ20.out hb)
          have KS21 := Lib.hid (keep_blk (o' := .cells (cellA (mxF l2 l3) (mnF h2 h3)) 32) KS20.out hb)
          have KM21 := Lib.hid (keep_blk (o' := .cells (cellA (mxF l2 l3) (mnF h2 h3)) 32) KM20.out hb)
          have KT21 := Lib.hid (keep_blk (o' := .cells (cellA (mxF l2 l3) (mnF h2 h3)) 32) KT20.out hb)
          clear hb KB20 KP20 KQ20 KS20 KM20 KT20
          have KV21 := Lib.hid (block_new W21 (.cells (cellA (mxF l2 l3) (mnF h2 h3)) 32))
          have cP := (cells8 KP21.out).1
          obtain ⟨cP0, cP1, cP2, cP3, cP4, cP5, cP6, cP7⟩ := cP
          have cV := (cells8 KV21.out).1
          obtain ⟨cV0, cV1, cV2, cV3, cV4, cV5, cV6, cV7⟩ := cV
          go_wp2_with fail
          clear cP0 cP1 cP2 cP3 cP4 cP5 cP6 cP7 cV0 cV1 cV2 cV3 cV4 cV5 cV6 cV7 
          generalize W21.alloc (.cells (cellA (mxF l2 l3) (mnF h2 h3)) 32) = V22 at *
          have hcon := Meet_no P1.out (meet_ok P2.out P3.out HN2.out) HN4.out V22 (HL.out.below hpos KB21.out)
          refine hcon.mono ?_
          clear hcon
          rintro e W23 ⟨rfl, hb⟩
          have KB23 := Lib.hid (keep_bl1 KB21.out hb)
          have KP23 := Lib.hid (keep_blk1 KP21.out hb)
          have KQ23 := Lib.hid (keep_blk1 KQ21.out hb)
          have KS23 := Lib.hid (keep_blk1 KS21.out hb)
          have KM23 := Lib.hid (keep_blk1 KM21.out hb)
          have KT23 := Lib.hid (keep_blk1 KT21.out hb)
          have KV23 := Lib.hid (keep_blk1 KV21.out hb)
          clear hb KB21 KP21 KQ21 KS21 KM21 KT21 KV21
          go_wp2_with (first | (refine list_neq32 (fun _ => 0) (fun _ => 0) (fun _ => 0) (fun _ => 0) rfl rfl rfl rfl (sameB_own _ _) ?_; simp only [Act.put, List.setIfInBounds_toArray, List.set_cons_zero, List.set_cons_succ]) | (refine list_store8 (y0 := (fun _ => 0) 0) (y1 := (fun _ => 0) 0) (y2 := (fun _ => 0) 1) (y3 := (fun _ => 0) 1) (y4 := (fun _ => 0) 2) (y5 := (fun _ => 0) 2) (y6 := (fun _ => 0) 3) (y7 := (fun _ => 0) 3) rfl rfl rfl (.inl rfl) rfl rfl KV23.out ?_; intro Z24 hz hc; have KV24 := Lib.hid hz; have KB24 := Lib.hid (KB23.out.trans (hc.below LEV.out)); have KP24 := Lib.hid ((hc.2.1 _ NEVP.out).trans KP23.out); have KQ24 := Lib.hid ((hc.2.1 _ NEVQ.out).trans KQ23.out); have KS24 := Lib.hid ((hc.2.1 _ NEVS.out).trans KS23.out); have KM24 := Lib.hid ((hc.2.1 _ NEVM.out).trans KM23.out); have KT24 := Lib.hid ((hc.2.1 _ NEVT.out).trans KT23.out); clear hz hc KB23 KP23 KQ23 KS23 KM23 KT23 KV23; have rT := (cells8 KT24.out).1; obtain ⟨rT0, rT1, rT2, rT3, rT4, rT5, rT6, rT7⟩ := rT; have rV := (cells8 KV24.out).1; obtain ⟨rV0, rV1, rV2, rV3, rV4, rV5, rV6, rV7⟩ := rV))
          clear  rT0 rT1 rT2 rT3 rT4 rT5 rT6 rT7 rV0 rV1 rV2 rV3 rV4 rV5 rV6 rV7
          have hcon := ranged_any' a b c d Z24 (HL.out.below hpos KB24.out)
          refine hcon.mono ?_
          clear hcon
          rintro e W25 ⟨rfl, hb⟩
          clear KS24
          clear KT24
          clear KV24
          have KB25 := Lib.hid (keep_bl (o' := .cells (iceA (rgN a b c d)) 37) KB24.out hb)
          have KP25 := Lib.hid (keep_blk (o' := .cells (iceA (rgN a b c d)) 37) KP24.out hb)
          have KQ25 := Lib.hid (keep_blk (o' := .cells (iceA (rgN a b c d)) 37) KQ24.out hb)
          have KM25 := Lib.hid (keep_blk (o' := .cells (iceA (rgN a b c d)) 37) KM24.out hb)
          clear hb KB24 KP24 KQ24 KM24
          have KY25 := Lib.hid (block_new W25 (.cells (iceA (rgN a b c d)) 37))
          have Hone0 : ∃ one, Hid (hasB l1 h1 (rgN a b c d) = one) := ⟨_, Lib.hid rfl⟩
          obtain ⟨one, Hone⟩ := Hone0
          have Htwo0 : ∃ two, Hid (hasB l2 h2 (rgN a b c d) = two) := ⟨_, Lib.hid rfl⟩
          obtain ⟨two, Htwo⟩ := Htwo0
          have cP := (cells8 KP25.out).1
          obtain ⟨cP0, cP1, cP2, cP3, cP4, cP5, cP6, cP7⟩ := cP
          have cY := (cells4 KY25.out).1
          obtain ⟨cY0, cY1, cY2, cY3⟩ := cY
          go_wp2_with fail
          clear cP0 cP1 cP2 cP3 cP4 cP5 cP6 cP7 cY0 cY1 cY2 cY3 
          generalize W25.alloc (.cells (iceA (rgN a b c d)) 37) = V26 at *
          have hcon := Has_yes P1.out (rgN_ok a b c d) V26 (HL.out.below hpos KB25.out)
          rw [Hone.out] at hcon
          refine hcon.mono ?_
          clear hcon
          rintro e W27 ⟨rfl, hb⟩
          have KB27 := Lib.hid (keep_bl1 KB25.out hb)
          have KP27 := Lib.hid (keep_blk1 KP25.out hb)
          have KQ27 := Lib.hid (keep_blk1 KQ25.out hb)
          have KM27 := Lib.hid (keep_blk1 KM25.out hb)
          have KY27 := Lib.hid (keep_blk1 KY25.out hb)
          clear hb KB25 KP25 KQ25 KM25 KY25
          have cQ := (cells8 KQ27.out).1
          obtain ⟨cQ0, cQ1, cQ2, cQ3, cQ4, cQ5, cQ6, cQ7⟩ := cQ
          have cY := (cells4 KY27.out).1
          obtain ⟨cY0, cY1, cY2, cY3⟩ := cY
          go_wp2_with fail
          clear cQ0 cQ1 cQ2 cQ3 cQ4 cQ5 cQ6 cQ7 cY0 cY1 cY2 cY3 
          have hcon := Has_yes P2.out (rgN_ok a b c d) W27 (HL.out.below hpos KB27.out)
          rw [Htwo.out] at hcon
          refine hcon.mono ?_
          clear hcon
          rintro e W28 ⟨rfl, hb⟩
          have KB28 := Lib.hid (keep_bl1 KB27.out hb)
          have KP28 := Lib.hid (keep_blk1 KP27.out hb)
          have KQ28 := Lib.hid (keep_blk1 KQ27.out hb)
          have KM28 := Lib.hid (keep_blk1 KM27.out hb)
          have KY28 := Lib.hid (keep_blk1 KY27.out hb)
          clear hb KB27 KP27 KQ27 KM27 KY27
          have cM := (cells8 KM28.out).1
          obtain ⟨cM0, cM1, cM2, cM3, cM4, cM5, cM6, cM7⟩ := cM
          have cY := (cells4 KY28.out).1
          obtain ⟨cY0, cY1, cY2, cY3⟩ := cY
          go_wp2_with fail
          clear cM0 cM1 cM2 cM3 cM4 cM5 cM6 cM7 cY0 cY1 cY2 cY3 
          have hcon := Has_yes (meet_ok P1.out P2.out HM.out) (rgN_ok a b c d) W28 (HL.out.below hpos KB28.out)
          rw [has_meet, Hone.out, Htwo.out] at hcon
          refine hcon.mono ?_
          clear hcon
          rintro e W29 ⟨rfl, hb⟩
          have KB29 := Lib.hid (keep_bl1 KB28.out hb)
          have KP29 := Lib.hid (keep_blk1 KP28.out hb)
          have KQ29 := Lib.hid (keep_blk1 KQ28.out hb)
          have KM29 := Lib.hid (keep_blk1 KM28.out hb)
          have KY29 := Lib.hid (keep_blk1 KY28.out hb)
          clear hb KB28 KP28 KQ28 KM28 KY28
          cases one with
          | true =>
            cases two with
            | true =>
              go_wp2_with fail
              refine (awake_any W29 (HL.out.below hpos KB29.out)).mono ?_
              rintro e We ⟨rfl, hb⟩
              have KBe := Lib.hid (keep_bl1 KB29.out hb)
              clear hb
              go_wp2_with fail
              go_ret
              exact ⟨rfl, KBe.out⟩
            | false =>
              go_wp2_with fail
              refine (awake_any W29 (HL.out.below hpos KB29.out)).mono ?_
              rintro e We ⟨rfl, hb⟩
              have KBe := Lib.hid (keep_bl1 KB29.out hb)
              clear hb
              go_wp2_with fail
              go_ret
              exact ⟨rfl, KBe.out⟩
          | false =>
            cases two with
            | true =>
              go_wp2_with fail
              refine (awake_any W29 (HL.out.below hpos KB29.out)).mono ?_
              rintro e We ⟨rfl, hb⟩
              have KBe := Lib.hid (keep_bl1 KB29.out hb)
              clear hb
              go_wp2_with fail
              go_ret
              exact ⟨rfl, KBe.out⟩
            | false =>
              go_wp2_with fail
              refine (awake_any W29 (HL.out.below hpos KB29.out)).mono ?_
              rintro e We ⟨rfl, hb⟩
              have KBe := Lib.hid (keep_bl1 KB29.out hb)
              clear hb
              go_wp2_with fail
              go_ret
              exact ⟨rfl, KBe.out⟩
        | false =>
          have HN2 := Lib.hid hN2
          clear hN2
          have hcon := Meet_no P2.out P3.out HN2.out Z20 (HL.out.below hpos KB20.out)
          refine hcon.mono ?_
          clear hcon
          rintro e W21 ⟨rfl, hb⟩
          have KB21 := Lib.hid (keep_bl (o' := .cells (cellA (fun _ => 0) (fun _ => 0)) 32) KB20.out hb)
          have KP21 := Lib.hid (keep_blk (o' := .cells (cellA (fun _ => 0) (fun _ => 0)) 32) KP20.out hb)
          have KQ21 := Lib.hid (keep_blk (o' := .cells (cellA (fun _ => 0) (fun _ => 0)) 32) KQ20.out hb)
          have KS21 := Lib.hid (keep_blk (o' := .cells (cellA (fun _ => 0) (fun _ => 0)) 32) KS20.out hb)
          have KM21 := Lib.hid (keep_blk (o' := .cells (cellA (fun _ => 0) (fun _ => 0)) 32) KM20.out hb)
          have KT21 := Lib.hid (keep_blk (o' := .cells (cellA (fun _ => 0) (fun _ => 0)) 32) KT20.out hb)
          clear hb KB20 KP20 KQ20 KS20 KM20 KT20
          have KV21 := Lib.hid (block_new W21 (.cells (cellA (fun _ => 0) (fun _ => 0)) 32))
          have cT := (cells8 KT21.out).1
          obtain ⟨cT0, cT1, cT2, cT3, cT4, cT5, cT6, cT7⟩ := cT
          have cV := (cells8 KV21.out).1
          obtain ⟨cV0, cV1, cV2, cV3, cV4, cV5, cV6, cV7⟩ := cV
          go_wp2_with (first | (refine list_neq32 (fun _ => 0) (fun _ => 0) (fun _ => 0) (fun _ => 0) rfl rfl rfl rfl (sameB_own _ _) ?_; simp only [Act.put, List.setIfInBounds_toArray, List.set_cons_zero, List.set_cons_succ]))
          clear cT0 cT1 cT2 cT3 cT4 cT5 cT6 cT7 cV0 cV1 cV2 cV3 cV4 cV5 cV6 cV7 
          generalize W21.alloc (.cells (cellA (fun _ => 0) (fun _ => 0)) 32) = V22 at *
          have hcon := ranged_any' a b c d V22 (HL.out.below hpos KB21.out)
          refine hcon.mono ?_
          clear hcon
          rintro e W23 ⟨rfl, hb⟩
          clear KS21
          clear KT21
          clear KV21
          have KB23 := Lib.hid (keep_bl (o' := .cells (iceA (rgN a b c d)) 37) KB21.out hb)
          have KP23 := Lib.hid (keep_blk (o' := .cells (iceA (rgN a b c d)) 37) KP21.out hb)
          have KQ23 := Lib.hid (keep_blk (o' := .cells (iceA (rgN a b c d)) 37) KQ21.out hb)
          have KM23 := Lib.hid (keep_blk (o' := .cells (iceA (rgN a b c d)) 37) KM21.out hb)
          clear hb KB21 KP21 KQ21 KM21
          have KY23 := Lib.hid (block_new W23 (.cells (iceA (rgN a b c d)) 37))
          have Hone0 : ∃ one, Hid (hasB l1 h1 (rgN a b c d) = one) := ⟨_, Lib.hid rfl⟩
          obtain ⟨one, Hone⟩ := Hone0
          have Htwo0 : ∃ two, Hid (hasB l2 h2 (rgN a b c d) = two) := ⟨_, Lib.hid rfl⟩
          obtain ⟨two, Htwo⟩ := Htwo0
          have cP := (cells8 KP23.out).1
          obtain ⟨cP0, cP1, cP2, cP3, cP4, cP5, cP6, cP7⟩ := cP
          have cY := (cells4 KY23.out).1
          obtain ⟨cY0, cY1, cY2, cY3⟩ := cY
          go_wp2_with fail
          clear cP0 cP1 cP2 cP3 cP4 cP5 cP6 cP7 cY0 cY1 cY2 cY3 
          generalize W23.alloc (.cells (iceA (rgN a b c d)) 37) = V24 at *
          have hcon := Has_yes P1.out (rgN_ok a b c d) V24 (HL.out.below hpos KB23.out)
          rw [Hone.out] at hcon
          refine hcon.mono ?_
          clear hcon
          rintro e W25 ⟨rfl, hb⟩
          have KB25 := Lib.hid (keep_bl1 KB23.out hb)
          have KP25 := Lib.hid (keep_blk1 KP23.out hb)
          have KQ25 := Lib.hid (keep_blk1 KQ23.out hb)
          have KM25 := Lib.hid (keep_blk1 KM23.out hb)
          have KY25 := Lib.hid (keep_blk1 KY23.out hb)
          clear hb KB23 KP23 KQ23 KM23 KY23
          have cQ := (cells8 KQ25.out).1
          obtain ⟨cQ0, cQ1, cQ2, cQ3, cQ4, cQ5, cQ6, cQ7⟩ := cQ
          have cY := (cells4 KY25.out).1
          obtain ⟨cY0, cY1, cY2, cY3⟩ := cY
          go_wp2_with fail
          clear cQ0 cQ1 cQ2 cQ3 cQ4 cQ5 cQ6 cQ7 cY0 cY1 cY2 cY3 
          have hcon := Has_yes P2.out (rgN_ok a b c d) W25 (HL.out.below hpos KB25.out)
          rw [Htwo.out] at hcon
          refine hcon.mono ?_
          clear hcon
          rintro e W26 ⟨rfl, hb⟩
          have KB26 := Lib.hid (keep_bl1 KB25.out hb)
          have KP26 := Lib.hid (keep_blk1 KP25.out hb)
          have KQ26 := Lib.hid (keep_blk1 KQ25.out hb)
          have KM26 := Lib.hid (keep_blk1 KM25.out hb)
          have KY26 := Lib.hid (keep_blk1 KY25.out hb)
          clear hb KB25 KP25 KQ25 KM25 KY25
          have cM := (cells8 KM26.out).1
          obtain ⟨cM0, cM1, cM2, cM3, cM4, cM5, cM6, cM7⟩ := cM
          have cY := (cells4 KY26.out).1
          obtain ⟨cY0, cY1, cY2, cY3⟩ := cY
          go_wp2_with fail
          clear cM0 cM1 cM2 cM3 cM4 cM5 cM6 cM7 cY0 cY1 cY2 cY3 
          have hcon := Has_yes (meet_ok P1.out P2.out HM.out) (rgN_ok a b c d) W26 (HL.out.below hpos KB26.out)
          rw [has_meet, Hone.out, Htwo.out] at hcon
          refine hcon.mono ?_
          clear hcon
          rintro e W27 ⟨rfl, hb⟩
          have KB27 := Lib.hid (keep_bl1 KB26.out hb)
          have KP27 := Lib.hid (keep_blk1 KP26.out hb)
          have KQ27 := Lib.hid (keep_blk1 KQ26.out hb)
          have KM27 := Lib.hid (keep_blk1 KM26.out hb)
          have KY27 := Lib.hid (keep_blk1 KY26.out hb)
          clear hb KB26 KP26 KQ26 KM26 KY26
          cases one with
          | true =>
            cases two with
            | true =>
              go_wp2_with fail
              refine (awake_any W27 (HL.out.below hpos KB27.out)).mono ?_
              rintro e We ⟨rfl, hb⟩
              have KBe := Lib.hid (keep_bl1 KB27.out hb)
              clear hb
              go_wp2_with fail
              go_ret
              exact ⟨rfl, KBe.out⟩
            | false =>
              go_wp2_with fail
              refine (awake_any W27 (HL.out.below hpos KB27.out)).mono ?_
              rintro e We ⟨rfl, hb⟩
              have KBe := Lib.hid (keep_bl1 KB27.out hb)
              clear hb
              go_wp2_with fail
              go_ret
              exact ⟨rfl, KBe.out⟩
          | false =>
            cases two with
            | true =>
              go_wp2_with fail
              refine (awake_any W27 (HL.out.below hpos KB27.out)).mono ?_
              rintro e We ⟨rfl, hb⟩
              have KBe := Lib.hid (keep_bl1 KB27.out hb)
              clear hb
              go_wp2_with fail
              go_ret
              exact ⟨rfl, KBe.out⟩
            | false =>
              go_wp2_with fail
              refine (awake_any W27 (HL.out.below hpos KB27.out)).mono ?_
              rintro e We ⟨rfl, hb⟩
              have KBe := Lib.hid (keep_bl1 KB27.out hb)
              clear hb
              go_wp2_with fail
              go_ret
              exact ⟨rfl, KBe.out⟩
    | false =>
      have HM := Lib.hid hM
      have HM2 := Lib.hid ((meetB_comm l2 h2 l1 h1).trans hM)
      have HI0 : is = false := by have := inside_meet (lo' := l2) (hi' := h2) P1.out; rw [hM, HIs.out] at this; simpa using this
      subst HI0
      have HN5 := (meet_assoc (l1 := l1) (h1 := h1) (l2 := l2) (h2 := h2) (l3 := l3) (h3 := h3)).symm
      rw [hM, Bool.false_and] at HN5
      have HN3 := Lib.hid HN5
      clear hM HN5
      have cP := (cells8 KP.out).1
      obtain ⟨cP0, cP1, cP2, cP3, cP4, cP5, cP6, cP7⟩ := cP
      have cQ := (cells8 KQ.out).1
      obtain ⟨cQ0, cQ1, cQ2, cQ3, cQ4, cQ5, cQ6, cQ7⟩ := cQ
      go_wp2_with fail
      clear cP0 cP1 cP2 cP3 cP4 cP5 cP6 cP7 cQ0 cQ1 cQ2 cQ3 cQ4 cQ5 cQ6 cQ7 
      have hcon := Meet_no P1.out P2.out HM.out X (HL.out.below hpos KB.out)
      refine hcon.mono ?_
      clear hcon
      rintro e W1 ⟨rfl, hb⟩
      have KB1 := Lib.hid (keep_bl (o' := .cells (cellA (fun _ => 0) (fun _ => 0)) 32) KB.out hb)
      have KP1 := Lib.hid (keep_blk (o' := .cells (cellA (fun _ => 0) (fun _ => 0)) 32) KP.out hb)
      have KQ1 := Lib.hid (keep_blk (o' := .cells (cellA (fun _ => 0) (fun _ => 0)) 32) KQ.out hb)
      have KS1 := Lib.hid (keep_blk (o' := .cells (cellA (fun _ => 0) (fun _ => 0)) 32) KS.out hb)
      clear hb KB KP KQ KS
      have KM1 := Lib.hid (block_new W1 (.cells (cellA (fun _ => 0) (fun _ => 0)) 32))
      have cP := (cells8 KP1.out).1
      obtain ⟨cP0, cP1, cP2, cP3, cP4, cP5, cP6, cP7⟩ := cP
      have cQ := (cells8 KQ1.out).1
      obtain ⟨cQ0, cQ1, cQ2, cQ3, cQ4, cQ5, cQ6, cQ7⟩ := cQ
      go_wp2_with fail
      clear cP0 cP1 cP2 cP3 cP4 cP5 cP6 cP7 cQ0 cQ1 cQ2 cQ3 cQ4 cQ5 cQ6 cQ7 
      generalize W1.alloc (.cells (cellA (fun _ => 0) (fun _ => 0)) 32) = V2 at *
      have hcon := Meet_no P2.out P1.out HM2.out V2 (HL.out.below hpos KB1.out)
      refine hcon.mono ?_
      clear hcon
      rintro e W3 ⟨rfl, hb⟩
      have KB3 := Lib.hid (keep_bl (o' := .cells (cellA (fun _ => 0) (fun _ => 0)) 32) KB1.out hb)
      have KP3 := Lib.hid (keep_blk (o' := .cells (cellA (fun _ => 0) (fun _ => 0)) 32) KP1.out hb)
      have KQ3 := Lib.hid (keep_blk (o' := .cells (cellA (fun _ => 0) (fun _ => 0)) 32) KQ1.out hb)
      have KS3 := Lib.hid (keep_blk (o' := .cells (cellA (fun _ => 0) (fun _ => 0)) 32) KS1.out hb)
      have KM3 := Lib.hid (keep_blk (o' := .cells (cellA (fun _ => 0) (fun _ => 0)) 32) KM1.out hb)
      clear hb KB1 KP1 KQ1 KS1 KM1
      have KM23 := Lib.hid (block_new W3 (.cells (cellA (fun _ => 0) (fun _ => 0)) 32))
      have cP := (cells8 KP3.out).1
      obtain ⟨cP0, cP1, cP2, cP3, cP4, cP5, cP6, cP7⟩ := cP
      go_wp2_with fail
      clear cP0 cP1 cP2 cP3 cP4 cP5 cP6 cP7 
      generalize W3.alloc (.cells (cellA (fun _ => 0) (fun _ => 0)) 32) = V4 at *
      have hcon := Meet_yes P1.out P1.out (meetB_own P1.out) V4 (HL.out.below hpos KB3.out)
      rw [mxF_own] at hcon
      rw [mnF_own] at hcon
      refine hcon.mono ?_
      clear hcon
      rintro e W5 ⟨rfl, hb⟩
      have KB5 := Lib.hid (keep_bl (o' := .cells (cellA l1 h1) 32) KB3.out hb)
      have KP5 := Lib.hid (keep_blk (o' := .cells (cellA l1 h1) 32) KP3.out hb)
      have KQ5 := Lib.hid (keep_blk (o' := .cells (cellA l1 h1) 32) KQ3.out hb)
      have KS5 := Lib.hid (keep_blk (o' := .cells (cellA l1 h1) 32) KS3.out hb)
      have KM5 := Lib.hid (keep_blk (o' := .cells (cellA l1 h1) 32) KM3.out hb)
      have KM25 := Lib.hid (keep_blk (o' := .cells (cellA l1 h1) 32) KM23.out hb)
      clear hb KB3 KP3 KQ3 KS3 KM3 KM23
      have KP25 := Lib.hid (block_new W5 (.cells (cellA l1 h1) 32))
      have cP := (cells8 KP5.out).1
      obtain ⟨cP0, cP1, cP2, cP3, cP4, cP5, cP6, cP7⟩ := cP
      have cQ := (cells8 KQ5.out).1
      obtain ⟨cQ0, cQ1, cQ2, cQ3, cQ4, cQ5, cQ6, cQ7⟩ := cQ
      go_wp2_with fail
      clear cP0 cP1 cP2 cP3 cP4 cP5 cP6 cP7 cQ0 cQ1 cQ2 cQ3 cQ4 cQ5 cQ6 cQ7 
      generalize W5.alloc (.cells (cellA l1 h1) 32) = V6 at *
      have hcon := Inside_yes P1.out P2.out V6 (HL.out.below hpos KB5.out)
      rw [HIs.out] at hcon
      refine hcon.mono ?_
      clear hcon
      rintro e W7 ⟨rfl, hb⟩
      have KB7 := Lib.hid (keep_bl1 KB5.out hb)
      have KP7 := Lib.hid (keep_blk1 KP5.out hb)
      have KQ7 := Lib.hid (keep_blk1 KQ5.out hb)
      have KS7 := Lib.hid (keep_blk1 KS5.out hb)
      have KM7 := Lib.hid (keep_blk1 KM5.out hb)
      have KM27 := Lib.hid (keep_blk1 KM25.out hb)
      have KP27 := Lib.hid (keep_blk1 KP25.out hb)
      clear hb KB5 KP5 KQ5 KS5 KM5 KM25 KP25
      have cP := (cells8 KP7.out).1
      obtain ⟨cP0, cP1, cP2, cP3, cP4, cP5, cP6, cP7⟩ := cP
      have cQ := (cells8 KQ7.out).1
      obtain ⟨cQ0, cQ1, cQ2, cQ3, cQ4, cQ5, cQ6, cQ7⟩ := cQ
      have cM := (cells8 KM7.out).1
      obtain ⟨cM0, cM1, cM2, cM3, cM4, cM5, cM6, cM7⟩ := cM
      have cM2 := (cells8 KM27.out).1
      obtain ⟨cM20, cM21, cM22, cM23, cM24, cM25, cM26, cM27⟩ := cM2
      have cP2 := (cells8 KP27.out).1
      obtain ⟨cP20, cP21, cP22, cP23, cP24, cP25, cP26, cP27⟩ := cP2
      go_wp2_with (first | (refine list_neq32 (fun _ => 0) (fun _ => 0) (fun _ => 0) (fun _ => 0) rfl rfl rfl rfl (sameB_own _ _) ?_; simp only [Act.put, List.setIfInBounds_toArray, List.set_cons_zero, List.set_cons_succ]) | (refine list_neq32 l1 h1 l1 h1 rfl rfl rfl rfl (sameB_own _ _) ?_; simp only [Act.put, List.setIfInBounds_toArray, List.set_cons_zero, List.set_cons_succ]))
      clear cP0 cP1 cP2 cP3 cP4 cP5 cP6 cP7 cQ0 cQ1 cQ2 cQ3 cQ4 cQ5 cQ6 cQ7 cM0 cM1 cM2 cM3 cM4 cM5 cM6 cM7 cM20 cM21 cM22 cM23 cM24 cM25 cM26 cM27 cP20 cP21 cP22 cP23 cP24 cP25 cP26 cP27 
      have hcon := Hull_yes P1.out P2.out W7 (HL.out.below hpos KB7.out)
      refine hcon.mono ?_
      clear hcon
      rintro e W8 ⟨rfl, hb⟩
      clear KM27
      clear KP27
      have KB8 := Lib.hid (keep_bl (o' := .cells (cellA (mnF l1 l2) (mxF h1 h2)) 32) KB7.out hb)
      have KP8 := Lib.hid (keep_blk (o' := .cells (cellA (mnF l1 l2) (mxF h1 h2)) 32) KP7.out hb)
      have KQ8 := Lib.hid (keep_blk (o' := .cells (cellA (mnF l1 l2) (mxF h1 h2)) 32) KQ7.out hb)
      have KS8 := Lib.hid (keep_blk (o' := .cells (cellA (mnF l1 l2) (mxF h1 h2)) 32) KS7.out hb)
      have KM8 := Lib.hid (keep_blk (o' := .cells (cellA (mnF l1 l2) (mxF h1 h2)) 32) KM7.out hb)
      clear hb KB7 KP7 KQ7 KS7 KM7
      have KH18 := Lib.hid (block_new W8 (.cells (cellA (mnF l1 l2) (mxF h1 h2)) 32))
      have cP := (cells8 KP8.out).1
      obtain ⟨cP0, cP1, cP2, cP3, cP4, cP5, cP6, cP7⟩ := cP
      have cQ := (cells8 KQ8.out).1
      obtain ⟨cQ0, cQ1, cQ2, cQ3, cQ4, cQ5, cQ6, cQ7⟩ := cQ
      go_wp2_with fail
      clear cP0 cP1 cP2 cP3 cP4 cP5 cP6 cP7 cQ0 cQ1 cQ2 cQ3 cQ4 cQ5 cQ6 cQ7 
      generalize W8.alloc (.cells (cellA (mnF l1 l2) (mxF h1 h2)) 32) = V9 at *
      have hcon := Hull_yes P2.out P1.out V9 (HL.out.below hpos KB8.out)
      rw [mnF_comm l2 l1] at hcon
      rw [mxF_comm h2 h1] at hcon
      refine hcon.mono ?_
      clear hcon
      rintro e W10 ⟨rfl, hb⟩
      have KB10 := Lib.hid (keep_bl (o' := .cells (cellA (mnF l1 l2) (mxF h1 h2)) 32) KB8.out hb)
      have KP10 := Lib.hid (keep_blk (o' := .cells (cellA (mnF l1 l2) (mxF h1 h2)) 32) KP8.out hb)
      have KQ10 := Lib.hid (keep_blk (o' := .cells (cellA (mnF l1 l2) (mxF h1 h2)) 32) KQ8.out hb)
      have KS10 := Lib.hid (keep_blk (o' := .cells (cellA (mnF l1 l2) (mxF h1 h2)) 32) KS8.out hb)
      have KM10 := Lib.hid (keep_blk (o' := .cells (cellA (mnF l1 l2) (mxF h1 h2)) 32) KM8.out hb)
      have KH110 := Lib.hid (keep_blk (o' := .cells (cellA (mnF l1 l2) (mxF h1 h2)) 32) KH18.out hb)
      clear hb KB8 KP8 KQ8 KS8 KM8 KH18
      have KH210 := Lib.hid (block_new W10 (.cells (cellA (mnF l1 l2) (mxF h1 h2)) 32))
      have cH1 := (cells8 KH110.out).1
      obtain ⟨cH10, cH11, cH12, cH13, cH14, cH15, cH16, cH17⟩ := cH1
      have cH2 := (cells8 KH210.out).1
      obtain ⟨cH20, cH21, cH22, cH23, cH24, cH25, cH26, cH27⟩ := cH2
      have cQ := (cells8 KQ10.out).1
      obtain ⟨cQ0, cQ1, cQ2, cQ3, cQ4, cQ5, cQ6, cQ7⟩ := cQ
      have cS := (cells8 KS10.out).1
      obtain ⟨cS0, cS1, cS2, cS3, cS4, cS5, cS6, cS7⟩ := cS
      go_wp2_with (first | (refine list_neq32 (mnF l1 l2) (mxF h1 h2) (mnF l1 l2) (mxF h1 h2) rfl rfl rfl rfl (sameB_own _ _) ?_; simp only [Act.put, List.setIfInBounds_toArray, List.set_cons_zero, List.set_cons_succ]) | (refine list_eql32 (mnF l1 l2) (mxF h1 h2) l2 h2 rfl rfl rfl rfl HS2.out ?_; simp only [Act.put, List.setIfInBounds_toArray, List.set_cons_zero, List.set_cons_succ]))
      clear cH10 cH11 cH12 cH13 cH14 cH15 cH16 cH17 cH20 cH21 cH22 cH23 cH24 cH25 cH26 cH27 cQ0 cQ1 cQ2 cQ3 cQ4 cQ5 cQ6 cQ7 cS0 cS1 cS2 cS3 cS4 cS5 cS6 cS7 
      generalize W10.alloc (.cells (cellA (mnF l1 l2) (mxF h1 h2)) 32) = V11 at *
      have hcon := Hull_yes (hull_ok P1.out P2.out) P3.out V11 (HL.out.below hpos KB10.out)
      refine hcon.mono ?_
      clear hcon
      rintro e W12 ⟨rfl, hb⟩
      clear KH110
      clear KH210
      have KB12 := Lib.hid (keep_bl (o' := .cells (cellA (mnF (mnF l1 l2) l3) (mxF (mxF h1 h2) h3)) 32) KB10.out hb)
      have KP12 := Lib.hid (keep_blk (o' := .cells (cellA (mnF (mnF l1 l2) l3) (mxF (mxF h1 h2) h3)) 32) KP10.out hb)
      have KQ12 := Lib.hid (keep_blk (o' := .cells (cellA (mnF (mnF l1 l2) l3) (mxF (mxF h1 h2) h3)) 32) KQ10.out hb)
      have KS12 := Lib.hid (keep_blk (o' := .cells (cellA (mnF (mnF l1 l2) l3) (mxF (mxF h1 h2) h3)) 32) KS10.out hb)
      have KM12 := Lib.hid (keep_blk (o' := .cells (cellA (mnF (mnF l1 l2) l3) (mxF (mxF h1 h2) h3)) 32) KM10.out hb)
      clear hb KB10 KP10 KQ10 KS10 KM10
      have KA112 := Lib.hid (block_new W12 (.cells (cellA (mnF (mnF l1 l2) l3) (mxF (mxF h1 h2) h3)) 32))
      have cQ := (cells8 KQ12.out).1
      obtain ⟨cQ0, cQ1, cQ2, cQ3, cQ4, cQ5, cQ6, cQ7⟩ := cQ
      have cS := (cells8 KS12.out).1
      obtain ⟨cS0, cS1, cS2, cS3, cS4, cS5, cS6, cS7⟩ := cS
      go_wp2_with fail
      clear cQ0 cQ1 cQ2 cQ3 cQ4 cQ5 cQ6 cQ7 cS0 cS1 cS2 cS3 cS4 cS5 cS6 cS7 
      generalize W12.alloc (.cells (cellA (mnF (mnF l1 l2) l3) (mxF (mxF h1 h2) h3)) 32) = V13 at *
      have hcon := Hull_yes P2.out P3.out V13 (HL.out.below hpos KB12.out)
      refine hcon.mono ?_
      clear hcon
      rintro e W14 ⟨rfl, hb⟩
      have KB14 := Lib.hid (keep_bl (o' := .cells (cellA (mnF l2 l3) (mxF h2 h3)) 32) KB12.out hb)
      have KP14 := Lib.hid (keep_blk (o' := .cells (cellA (mnF l2 l3) (mxF h2 h3)) 32) KP12.out hb)
      have KQ14 := Lib.hid (keep_blk (o' := .cells (cellA (mnF l2 l3) (mxF h2 h3)) 32) KQ12.out hb)
      have KS14 := Lib.hid (keep_blk (o' := .cells (cellA (mnF l2 l3) (mxF h2 h3)) 32) KS12.out hb)
      have KM14 := Lib.hid (keep_blk (o' := .cells (cellA (mnF l2 l3) (mxF h2 h3)) 32) KM12.out hb)
      have KA114 := Lib.hid (keep_blk (o' := .cells (cellA (mnF l2 l3) (mxF h2 h3)) 32) KA112.out hb)
      clear hb KB12 KP12 KQ12 KS12 KM12 KA112
      have KI14 := Lib.hid (block_new W14 (.cells (cellA (mnF l2 l3) (mxF h2 h3)) 32))
      have cP := (cells8 KP14.out).1
      obtain ⟨cP0, cP1, cP2, cP3, cP4, cP5, cP6, cP7⟩ := cP
      have cI := (cells8 KI14.out).1
      obtain ⟨cI0, cI1, cI2, cI3, cI4, cI5, cI6, cI7⟩ := cI
      go_wp2_with fail
      clear cP0 cP1 cP2 cP3 cP4 cP5 cP6 cP7 cI0 cI1 cI2 cI3 cI4 cI5 cI6 cI7 
      generalize W14.alloc (.cells (cellA (mnF l2 l3) (mxF h2 h3)) 32) = V15 at *
      have hcon := Hull_yes P1.out (hull_ok P2.out P3.out) V15 (HL.out.below hpos KB14.out)
      rw [← mnF_assoc] at hcon
      rw [← mxF_assoc] at hcon
      refine hcon.mono ?_
      clear hcon
      rintro e W16 ⟨rfl, hb⟩
      clear KI14
      have KB16 := Lib.hid (keep_bl (o' := .cells (cellA (mnF (mnF l1 l2) l3) (mxF (mxF h1 h2) h3)) 32) KB14.out hb)
      have KP16 := Lib.hid (keep_blk (o' := .cells (cellA (mnF (mnF l1 l2) l3) (mxF (mxF h1 h2) h3)) 32) KP14.out hb)
      have KQ16 := Lib.hid (keep_blk (o' := .cells (cellA (mnF (mnF l1 l2) l3) (mxF (mxF h1 h2) h3)) 32) KQ14.out hb)
      have KS16 := Lib.hid (keep_blk (o' := .cells (cellA (mnF (mnF l1 l2) l3) (mxF (mxF h1 h2) h3)) 32) KS14.out hb)
      have KM16 := Lib.hid (keep_blk (o' := .cells (cellA (mnF (mnF l1 l2) l3) (mxF (mxF h1 h2) h3)) 32) KM14.out hb)
      have KA116 := Lib.hid (keep_blk (o' := .cells (cellA (mnF (mnF l1 l2) l3) (mxF (mxF h1 h2) h3)) 32) KA114.out hb)
      clear hb KB14 KP14 KQ14 KS14 KM14 KA114
      have KA216 := Lib.hid (block_new W16 (.cells (cellA (mnF (mnF l1 l2) l3) (mxF (mxF h1 h2) h3)) 32))
      have cA1 := (cells8 KA116.out).1
      obtain ⟨cA10, cA11, cA12, cA13, cA14, cA15, cA16, cA17⟩ := cA1
      have cM := (cells8 KM16.out).1
      obtain ⟨cM0, cM1, cM2, cM3, cM4, cM5, cM6, cM7⟩ := cM
      have cA2 := (cells8 KA216.out).1
      obtain ⟨cA20, cA21, cA22, cA23, cA24, cA25, cA26, cA27⟩ := cA2
      have LET := Lib.hid (KB16.out.size)
      have NETP := Lib.hid (Nat.ne_of_lt (lt_of_block KP16.out))
      have NETQ := Lib.hid (Nat.ne_of_lt (lt_of_block KQ16.out))
      have NETS := Lib.hid (Nat.ne_of_lt (lt_of_block KS16.out))
      have NETM := Lib.hid (Nat.ne_of_lt (lt_of_block KM16.out))
      have NETA1 := Lib.hid (Nat.ne_of_lt (lt_of_block KA116.out))
      have NETA2 := Lib.hid (Nat.ne_of_lt (lt_of_block KA216.out))
      have KB17 := Lib.hid (KB16.out.alloc KB16.out.size (.cells (cellA (fun _ => 0) (fun _ => 0)) 32))
      have KP17 := Lib.hid ((Below.heap_alloc (W16.alloc (.cells (cellA (mnF (mnF l1 l2) l3) (mxF (mxF h1 h2) h3)) 32)) (.cells (cellA (fun _ => 0) (fun _ => 0)) 32) _ (lt_of_block KP16.out)).trans KP16.out)
      have KQ17 := Lib.hid ((Below.heap_alloc (W16.alloc (.cells (cellA (mnF (mnF l1 l2) l3) (mxF (mxF h1 h2) h3)) 32)) (.cells (cellA (fun _ => 0) (fun _ => 0)) 32) _ (lt_of_block KQ16.out)).trans KQ16.out)
      have KS17 := Lib.hid ((Below.heap_alloc (W16.alloc (.cells (cellA (mnF (mnF l1 l2) l3) (mxF (mxF h1 h2) h3)) 32)) (.cells (cellA (fun _ => 0) (fun _ => 0)) 32) _ (lt_of_block KS16.out)).trans KS16.out)
      have KM17 := Lib.hid ((Below.heap_alloc (W16.alloc (.cells (cellA (mnF (mnF l1 l2) l3) (mxF (mxF h1 h2) h3)) 32)) (.cells (cellA (fun _ => 0) (fun _ => 0)) 32) _ (lt_of_block KM16.out)).trans KM16.out)
      have KA117 := Lib.hid ((Below.heap_alloc (W16.alloc (.cells (cellA (mnF (mnF l1 l2) l3) (mxF (mxF h1 h2) h3)) 32)) (.cells (cellA (fun _ => 0) (fun _ => 0)) 32) _ (lt_of_block KA116.out)).trans KA116.out)
      have KA217 := Lib.hid ((Below.heap_alloc (W16.alloc (.cells (cellA (mnF (mnF l1 l2) l3) (mxF (mxF h1 h2) h3)) 32)) (.cells (cellA (fun _ => 0) (fun _ => 0)) 32) _ (lt_of_block KA216.out)).trans KA216.out)
      have KT17 := Lib.hid (block_new (W16.alloc (.cells (cellA (mnF (mnF l1 l2) l3) (mxF (mxF h1 h2) h3)) 32)) (.cells (cellA (fun _ => 0) (fun _ => 0)) 32))
      simp only [World.size_alloc] at KT17 LET NETP NETQ NETS NETM NETA1 NETA2
      clear KB16 KP16 KQ16 KS16 KM16 KA116 KA216
      have dQ := (cells8 KQ17.out).1
      obtain ⟨dQ0, dQ1, dQ2, dQ3, dQ4, dQ5, dQ6, dQ7⟩ := dQ
      have dS := (cells8 KS17.out).1
      obtain ⟨dS0, dS1, dS2, dS3, dS4, dS5, dS6, dS7⟩ := dS
      go_wp2_with (first | (refine list_neq32 (mnF (mnF l1 l2) l3) (mxF (mxF h1 h2) h3) (mnF (mnF l1 l2) l3) (mxF (mxF h1 h2) h3) rfl rfl rfl rfl (sameB_own _ _) ?_; simp only [Act.put, List.setIfInBounds_toArray, List.set_cons_zero, List.set_cons_succ]))
      clear  cA20 cA21 cA22 cA23 cA24 cA25 cA26 cA27 cA10 cA11 cA12 cA13 cA14 cA15 cA16 cA17 cM0 cM1 cM2 cM3 cM4 cM5 cM6 cM7 dQ0 dQ1 dQ2 dQ3 dQ4 dQ5 dQ6 dQ7 dS0 dS1 dS2 dS3 dS4 dS5 dS6 dS7
      generalize (W16.alloc (.cells (cellA (mnF (mnF l1 l2) l3) (mxF (mxF h1 h2) h3)) 32)).alloc (.cells (cellA (fun _ => 0) (fun _ => 0)) 32) = V18 at *
      clear KA117 NETA1
      clear KA217 NETA2
      cases hN2 : meetB l2 h2 l3 h3 with
      | true =>
        have HN2 := Lib.hid hN2
        have HN4 := Lib.hid (show meetB l1 h1 (mxF l2 l3) (mnF h2 h3) = false by have := HN3.out; rw [hN2] at this; simpa using this)
        clear hN2
        have hcon := Meet_yes P2.out P3.out HN2.out V18 (HL.out.below hpos KB17.out)
        refine hcon.mono ?_
        clear hcon
        rintro e W19 ⟨rfl, hb⟩
        have LEV := Lib.hid (keep_bl1 KB17.out hb).size
        have NEVP := Lib.hid (Nat.ne_of_lt (lt_of_block (keep_blk1 KP17.out hb)))
        have NEVQ := Lib.hid (Nat.ne_of_lt (lt_of_block (keep_blk1 KQ17.out hb)))
        have NEVS := Lib.hid (Nat.ne_of_lt (lt_of_block (keep_blk1 KS17.out hb)))
        have NEVM := Lib.hid (Nat.ne_of_lt (lt_of_block (keep_blk1 KM17.out hb)))
        have NEVT := Lib.hid (Nat.ne_of_lt (lt_of_block (keep_blk1 KT17.out hb)))
        have KB19 := Lib.hid (keep_bl (o' := .cells (cellA (mxF l2 l3) (mnF h2 h3)) 32) KB17.out hb)
        have KP19 := Lib.hid (keep_blk (o' := .cells (cellA (mxF l2 l3) (mnF h2 h3)) 32) KP17.out hb)
        have KQ19 := Lib.hid (keep_blk (o' := .cells (cellA (mxF l2 l3) (mnF h2 h3)) 32) KQ17.out hb)
        have KS19 := Lib.hid (keep_blk (o' := .cells (cellA (mxF l2 l3) (mnF h2 h3)) 32) KS17.out hb)
        have KM19 := Lib.hid (keep_blk (o' := .cells (cellA (mxF l2 l3) (mnF h2 h3)) 32) KM17.out hb)
        have KT19 := Lib.hid (keep_blk (o' := .cells (cellA (mxF l2 l3) (mnF h2 h3)) 32) KT17.out hb)
        clear hb KB17 KP17 KQ17 KS17 KM17 KT17
        have KV19 := Lib.hid (block_new W19 (.cells (cellA (mxF l2 l3) (mnF h2 h3)) 32))
        have cP := (cells8 KP19.out).1
        obtain ⟨cP0, cP1, cP2, cP3, cP4, cP5, cP6, cP7⟩ := cP
        have cV := (cells8 KV19.out).1
        obtain ⟨cV0, cV1, cV2, cV3, cV4, cV5, cV6, cV7⟩ := cV
        go_wp2_with fail
        clear cP0 cP1 cP2 cP3 cP4 cP5 cP6 cP7 cV0 cV1 cV2 cV3 cV4 cV5 cV6 cV7 
        generalize W19.alloc (.cells (cellA (mxF l2 l3) (mnF h2 h3)) 32) = V20 at *
        have hcon := Meet_no P1.out (meet_ok P2.out P3.out HN2.out) HN4.out V20 (HL.out.below hpos KB19.out)
        refine hcon.mono ?_
        clear hcon
        rintro e W21 ⟨rfl, hb⟩
        have KB21 := Lib.hid (keep_bl1 KB19.out hb)
        have KP21 := Lib.hid (keep_blk1 KP19.out hb)
        have KQ21 := Lib.hid (keep_blk1 KQ19.out hb)
        have KS21 := Lib.hid (keep_blk1 KS19.out hb)
        have KM21 := Lib.hid (keep_blk1 KM19.out hb)
        have KT21 := Lib.hid (keep_blk1 KT19.out hb)
        have KV21 := Lib.hid (keep_blk1 KV19.out hb)
        clear hb KB19 KP19 KQ19 KS19 KM19 KT19 KV19
        go_wp2_with (first | (refine list_neq32 (fun _ => 0) (fun _ => 0) (fun _ => 0) (fun _ => 0) rfl rfl rfl rfl (sameB_own _ _) ?_; simp only [Act.put, List.setIfInBounds_toArray, List.set_cons_zero, List.set_cons_succ]) | (refine list_store8 (y0 := (fun _ => 0) 0) (y1 := (fun _ => 0) 0) (y2 := (fun _ => 0) 1) (y3 := (fun _ => 0) 1) (y4 := (fun _ => 0) 2) (y5 := (fun _ => 0) 2) (y6 := (fun _ => 0) 3) (y7 := (fun _ => 0) 3) rfl rfl rfl (.inl rfl) rfl rfl KV21.out ?_; intro Z22 hz hc; have KV22 := Lib.hid hz; have KB22 := Lib.hid (KB21.out.trans (hc.below LEV.out)); have KP22 := Lib.hid ((hc.2.1 _ NEVP.out).trans KP21.out); have KQ22 := Lib.hid ((hc.2.1 _ NEVQ.out).trans KQ21.out); have KS22 := Lib.hid ((hc.2.1 _ NEVS.out).trans KS21.out); have KM22 := Lib.hid ((hc.2.1 _ NEVM.out).trans KM21.out); have KT22 := Lib.hid ((hc.2.1 _ NEVT.out).trans KT21.out); clear hz hc KB21 KP21 KQ21 KS21 KM21 KT21 KV21; have rT := (cells8 KT22.out).1; obtain ⟨rT0, rT1, rT2, rT3, rT4, rT5, rT6, rT7⟩ := rT; have rV := (cells8 KV22.out).1; obtain ⟨rV0, rV1, rV2, rV3, rV4, rV5, rV6, rV7⟩ := rV))
        clear  rT0 rT1 rT2 rT3 rT4 rT5 rT6 rT7 rV0 rV1 rV2 rV3 rV4 rV5 rV6 rV7
        have hcon := ranged_any' a b c d Z22 (HL.out.below hpos KB22.out)
        refine hcon.mono ?_
        clear hcon
        rintro e W23 ⟨rfl, hb⟩
        clear KS22
        clear KT22
        clear KV22
        have KB23 := Lib.hid (keep_bl (o' := .cells (iceA (rgN a b c d)) 37) KB22.out hb)
        have KP23 := Lib.hid (keep_blk (o' := .cells (iceA (rgN a b c d)) 37) KP22.out hb)
        have KQ23 := Lib.hid (keep_blk (o' := .cells (iceA (rgN a b c d)) 37) KQ22.out hb)
        have KM23 := Lib.hid (keep_blk (o' := .cells (iceA (rgN a b c d)) 37) KM22.out hb)
        clear hb KB22 KP22 KQ22 KM22
        have KY23 := Lib.hid (block_new W23 (.cells (iceA (rgN a b c d)) 37))
        have Hone0 : ∃ one, Hid (hasB l1 h1 (rgN a b c d) = one) := ⟨_, Lib.hid rfl⟩
        obtain ⟨one, Hone⟩ := Hone0
        have Htwo0 : ∃ two, Hid (hasB l2 h2 (rgN a b c d) = two) := ⟨_, Lib.hid rfl⟩
        obtain ⟨two, Htwo⟩ := Htwo0
        have cP := (cells8 KP23.out).1
        obtain ⟨cP0, cP1, cP2, cP3, cP4, cP5, cP6, cP7⟩ := cP
        have cY := (cells4 KY23.out).1
        obtain ⟨cY0, cY1, cY2, cY3⟩ := cY
        go_wp2_with fail
        clear cP0 cP1 cP2 cP3 cP4 cP5 cP6 cP7 cY0 cY1 cY2 cY3 
        generalize W23.alloc (.cells (iceA (rgN a b c d)) 37) = V24 at *
        have hcon := Has_yes P1.out (rgN_ok a b c d) V24 (HL.out.below hpos KB23.out)
        rw [Hone.out] at hcon
        refine hcon.mono ?_
        clear hcon
        rintro e W25 ⟨rfl, hb⟩
        have KB25 := Lib.hid (keep_bl1 KB23.out hb)
        have KP25 := Lib.hid (keep_blk1 KP23.out hb)
        have KQ25 := Lib.hid (keep_blk1 KQ23.out hb)
        have KM25 := Lib.hid (keep_blk1 KM23.out hb)
        have KY25 := Lib.hid (keep_blk1 KY23.out hb)
        clear hb KB23 KP23 KQ23 KM23 KY23
        have cQ := (cells8 KQ25.out).1
        obtain ⟨cQ0, cQ1, cQ2, cQ3, cQ4, cQ5, cQ6, cQ7⟩ := cQ
        have cY := (cells4 KY25.out).1
        obtain ⟨cY0, cY1, cY2, cY3⟩ := cY
        go_wp2_with fail
        clear cQ0 cQ1 cQ2 cQ3 cQ4 cQ5 cQ6 cQ7 cY0 cY1 cY2 cY3 
        have hcon := Has_yes P2.out (rgN_ok a b c d) W25 (HL.out.below hpos KB25.out)
        rw [Htwo.out] at hcon
        refine hcon.mono ?_
        clear hcon
        rintro e W26 ⟨rfl, hb⟩
        have KB26 := Lib.hid (keep_bl1 KB25.out hb)
        have KP26 := Lib.hid (keep_blk1 KP25.out hb)
        have KQ26 := Lib.hid (keep_blk1 KQ25.out hb)
        have KM26 := Lib.hid (keep_blk1 KM25.out hb)
        have KY26 := Lib.hid (keep_blk1 KY25.out hb)
        clear hb KB25 KP25 KQ25 KM25 KY25
        cases one with
        | true =>
          cases two with
          | true =>
            have hno := has_none (n := (rgN a b c d)) HM.out
            rw [Hone.out, Htwo.out] at hno
            cases hno
          | false =>
            go_wp2_with fail
            refine (awake_any W26 (HL.out.below hpos KB26.out)).mono ?_
            rintro e We ⟨rfl, hb⟩
            have KBe := Lib.hid (keep_bl1 KB26.out hb)
            clear hb
            go_wp2_with fail
            go_ret
            exact ⟨rfl, KBe.out⟩
        | false =>
          cases two with
          | true =>
            go_wp2_with fail
            refine (awake_any W26 (HL.out.below hpos KB26.out)).mono ?_
            rintro e We ⟨rfl, hb⟩
            have KBe := Lib.hid (keep_bl1 KB26.out hb)
            clear hb
            go_wp2_with fail
            go_ret
            exact ⟨rfl, KBe.out⟩
          | false =>
            go_wp2_with fail
            refine (awake_any W26 (HL.out.below hpos KB26.out)).mono ?_
            rintro e We ⟨rfl, hb⟩
            have KBe := Lib.hid (keep_bl1 KB26.out hb)
            clear hb
            go_wp2_with fail
            go_ret
            exact ⟨rfl, KBe.out⟩
      | false =>
        have HN2 := Lib.hid hN2
        clear hN2
        have hcon := Meet_no P2.out P3.out HN2.out V18 (HL.out.below hpos KB17.out)
        refine hcon.mono ?_
        clear hcon
        rintro e W19 ⟨rfl, hb⟩
        have KB19 := Lib.hid (keep_bl (o' := .cells (cellA (fun _ => 0) (fun _ => 0)) 32) KB17.out hb)
        have KP19 := Lib.hid (keep_blk (o' := .cells (cellA (fun _ => 0) (fun _ => 0)) 32) KP17.out hb)
        have KQ19 := Lib.hid (keep_blk (o' := .cells (cellA (fun _ => 0) (fun _ => 0)) 32) KQ17.out hb)
        have KS19 := Lib.hid (keep_blk (o' := .cells (cellA (fun _ => 0) (fun _ => 0)) 32) KS17.out hb)
        have KM19 := Lib.hid (keep_blk (o' := .cells (cellA (fun _ => 0) (fun _ => 0)) 32) KM17.out hb)
        have KT19 := Lib.hid (keep_blk (o' := .cells (cellA (fun _ => 0) (fun _ => 0)) 32) KT17.out hb)
        clear hb KB17 KP17 KQ17 KS17 KM17 KT17
        have KV19 := Lib.hid (block_new W19 (.cells (cellA (fun _ => 0) (fun _ => 0)) 32))
        have cT := (cells8 KT19.out).1
        obtain ⟨cT0, cT1, cT2, cT3, cT4, cT5, cT6, cT7⟩ := cT
        have cV := (cells8 KV19.out).1
        obtain ⟨cV0, cV1, cV2, cV3, cV4, cV5, cV6, cV7⟩ := cV
        go_wp2_with (first | (refine list_neq32 (fun _ => 0) (fun _ => 0) (fun _ => 0) (fun _ => 0) rfl rfl rfl rfl (sameB_own _ _) ?_; simp only [Act.put, List.setIfInBounds_toArray, List.set_cons_zero, List.set_cons_succ]))
        clear cT0 cT1 cT2 cT3 cT4 cT5 cT6 cT7 cV0 cV1 cV2 cV3 cV4 cV5 cV6 cV7 
        generalize W19.alloc (.cells (cellA (fun _ => 0) (fun _ => 0)) 32) = V20 at *
        have hcon := ranged_any' a b c d V20 (HL.out.below hpos KB19.out)
        refine hcon.mono ?_
        clear hcon
        rintro e W21 ⟨rfl, hb⟩
        clear KS19
        clear KT19
        clear KV19
        have KB21 := Lib.hid (keep_bl (o' := .cells (iceA (rgN a b c d)) 37) KB19.out hb)
        have KP21 := Lib.hid (keep_blk (o' := .cells (iceA (rgN a b c d)) 37) KP19.out hb)
        have KQ21 := Lib.hid (keep_blk (o' := .cells (iceA (rgN a b c d)) 37) KQ19.out hb)
        have KM21 := Lib.hid (keep_blk (o' := .cells (iceA (rgN a b c d)) 37) KM19.out hb)
        clear hb KB19 KP19 KQ19 KM19
        have KY21 := Lib.hid (block_new W21 (.cells (iceA (rgN a b c d)) 37))
        have Hone0 : ∃ one, Hid (hasB l1 h1 (rgN a b c d) = one) := ⟨_, Lib.hid rfl⟩
        obtain ⟨one, Hone⟩ := Hone0
        have Htwo0 : ∃ two, Hid (hasB l2 h2 (rgN a b c d) = two) := ⟨_, Lib.hid rfl⟩
        obtain ⟨two, Htwo⟩ := Htwo0
        have cP := (cells8 KP21.out).1
        obtain ⟨cP0, cP1, cP2, cP3, cP4, cP5, cP6, cP7⟩ := cP
        have cY := (cells4 KY21.out).1
        obtain ⟨cY0, cY1, cY2, cY3⟩ := cY
        go_wp2_with fail
        clear cP0 cP1 cP2 cP3 cP4 cP5 cP6 cP7 cY0 cY1 cY2 cY3 
        generalize W21.alloc (.cells (iceA (rgN a b c d)) 37) = V22 at *
        have hcon := Has_yes P1.out (rgN_ok a b c d) V22 (HL.out.below hpos KB21.out)
        rw [Hone.out] at hcon
        refine hcon.mono ?_
        clear hcon
        rintro e W23 ⟨rfl, hb⟩
        have KB23 := Lib.hid (keep_bl1 KB21.out hb)
        have KP23 := Lib.hid (keep_blk1 KP21.out hb)
        have KQ23 := Lib.hid (keep_blk1 KQ21.out hb)
        have KM23 := Lib.hid (keep_blk1 KM21.out hb)
        have KY23 := Lib.hid (keep_blk1 KY21.out hb)
        clear hb KB21 KP21 KQ21 KM21 KY21
        have cQ := (cells8 KQ23.out).1
        obtain ⟨cQ0, cQ1, cQ2, cQ3, cQ4, cQ5, cQ6, cQ7⟩ := cQ
        have cY := (cells4 KY23.out).1
        obtain ⟨cY0, cY1, cY2, cY3⟩ := cY
        go_wp2_with fail
        clear cQ0 cQ1 cQ2 cQ3 cQ4 cQ5 cQ6 cQ7 cY0 cY1 cY2 cY3 
        have hcon := Has_yes P2.out (rgN_ok a b c d) W23 (HL.out.below hpos KB23.out)
        rw [Htwo.out] at hcon
        refine hcon.mono ?_
        clear hcon
        rintro e W24 ⟨rfl, hb⟩
        have KB24 := Lib.hid (keep_bl1 KB23.out hb)
        have KP24 := Lib.hid (keep_blk1 KP23.out hb)
        have KQ24 := Lib.hid (keep_blk1 KQ23.out hb)
        have KM24 := Lib.hid (keep_blk1 KM23.out hb)
        have KY24 := Lib.hid (keep_blk1 KY23.out hb)
        clear hb KB23 KP23 KQ23 KM23 KY23
        cases one with
        | true =>
          cases two with
          | true =>
            have hno := has_none (n := (rgN a b c d)) HM.out
            rw [Hone.out, Htwo.out] at hno
            cases hno
          | false =>
            go_wp2_with fail
            refine (awake_any W24 (HL.out.below hpos KB24.out)).mono ?_
            rintro e We ⟨rfl, hb⟩
            have KBe := Lib.hid (keep_bl1 KB24.out hb)
            clear hb
            go_wp2_with fail
            go_ret
            exact ⟨rfl, KBe.out⟩
        | false =>
          cases two with
          | true =>
            go_wp2_with fail
            refine (awake_any W24 (HL.out.below hpos KB24.out)).mono ?_
            rintro e We ⟨rfl, hb⟩
            have KBe := Lib.hid (keep_bl1 KB24.out hb)
            clear hb
            go_wp2_with fail
            go_ret
            exact ⟨rfl, KBe.out⟩
          | false =>
            go_wp2_with fail
            refine (awake_any W24 (HL.out.below hpos KB24.out)).mono ?_
            rintro e We ⟨rfl, hb⟩
            have KBe := Lib.hid (keep_bl1 KB24.out hb)
            clear hb
            go_wp2_with fail
            go_ret
            exact ⟨rfl, KBe.out⟩
end Go.Proofs.YtdcpmdigihbdpaaDoor
