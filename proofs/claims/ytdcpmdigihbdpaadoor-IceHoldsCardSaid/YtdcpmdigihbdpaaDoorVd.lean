/- The reports of a course: they have no error, and what they tell has the course. -/
import Derived.Test.YtdcpmdigihbdpaaDoorVc
import Derived.Test.YtdcpmdigihbdpaaDoorVa
namespace Go.Proofs.YtdcpmdigihbdpaaDoor
open Go.RowKit
set_option maxRecDepth 100000
/-- The report of hour N i of a course. -/
def hdRep (X : Nat → Nat → Int) (N : Nat → Int) (i : Nat) : Rep :=
  { id := i, src := 1 + (i : Int) % 3, hour := N i % 60, x := 0, y := 0, has := 1 + wrap64 ((N i).tdiv 60) % 15, lo := arLo (X (N i % 60).toNat) (wrap64 ((N i).tdiv 7)), hi := arHi (X (N i % 60).toNat) (wrap64 ((N i).tdiv 11)) }
theorem ar_has {x : Nat → Int} {q : Nat} (a b : Int) (hx : 0 ≤ x q ∧ x q ≤ lim q) : 0 ≤ arLo x a q ∧ arLo x a q ≤ x q ∧ x q ≤ arHi x b q ∧ arHi x b q ≤ lim q := by
  have p0 := Int.emod_nonneg a (show (30 : Int) ≠ 0 by decide)
  have q0 := Int.emod_nonneg b (show (30 : Int) ≠ 0 by decide)
  unfold arLo arHi mx mn
  omega
theorem hd_seen (X : Nat → Nat → Int) (N : Nat → Int) : ∀ (k : Nat) (z : Int), (k : Int) ≤ z → seenF (hdRep X N) k z = false
  | 0, _, _ => rfl
  | k + 1, z, h => by
    unfold seenF
    have e : (z == (hdRep X N k).id) = false := by
      rw [show (hdRep X N k).id = (k : Int) from rfl]
      simp; omega
    rw [hd_seen X N k z (by omega), e]
    rfl
theorem hd_fine {x0 u d : Nat → Int} {X : Nat → Nat → Int} {N : Nat → Int} {n now : Nat} (h : Good x0 u d X 81) (hr : okRates u d = true) (hn : n ≤ 9) (hw : now ≤ 80) (hl : ∀ i, i < n → N i % 60 ≤ (now : Int)) : Fine u d now (hdRep X N) n := by
  refine ⟨?_, by omega, fwE_zero fun j hj => ?_⟩
  · unfold inE hourE
    rw [hr, if_pos (by omega)]
    rfl
  · have h0 := Int.emod_nonneg (N j) (show (60 : Int) ≠ 0 by decide)
    have h1 := Int.emod_lt_of_pos (N j) (show (0 : Int) < 60 by decide)
    have s0 := Int.emod_nonneg (j : Int) (show (3 : Int) ≠ 0 by decide)
    have s1 := Int.emod_lt_of_pos (j : Int) (show (0 : Int) < 3 by decide)
    have g0 := Int.emod_nonneg (wrap64 ((N j).tdiv 60)) (show (15 : Int) ≠ 0 by decide)
    have g1 := Int.emod_lt_of_pos (wrap64 ((N j).tdiv 60)) (show (0 : Int) < 15 by decide)
    have hok : okRep (hdRep X N j) = true := by
      have e6 : allB (repB (hdRep X N j)) = true := allB_yes fun q hq => by
        have := ar_has (q := q) (wrap64 ((N j).tdiv 7)) (wrap64 ((N j).tdiv 11)) (h.ok (N j % 60).toNat (by omega) q hq)
        unfold repB
        have e : okSpan ((hdRep X N j).lo q) ((hdRep X N j).hi q) q = true := by
          show okSpan (arLo (X (N j % 60).toNat) (wrap64 ((N j).tdiv 7)) q) (arHi (X (N j % 60).toNat) (wrap64 ((N j).tdiv 11)) q) q = true
          unfold okSpan
          simp
          omega
        rw [e, Bool.or_true]
      unfold okRep
      rw [e6]
      simp only [inB, Bool.and_eq_true, decide_eq_true_eq, and_true]
      simp only [hdRep]
      refine ⟨⟨⟨⟨⟨?_, ?_⟩, ?_⟩, ?_⟩, ?_⟩, ?_⟩ <;> omega
    have hc := cntF_bd (hdRep X N) j (hdRep X N j).x (hdRep X N j).y
    have ha : astB (hdRep X N) (hdRep X N j) = false := by
      unfold astB
      rw [show (hdRep X N j).x = 0 from rfl, show (hdRep X N 0).x = 0 from rfl, show (hdRep X N j).y = 0 from rfl, show (hdRep X N 0).y = 0 from rfl]
      rfl
    unfold errF errC
    rw [hok, hd_seen X N j (hdRep X N j).id (Int.le_refl _), ha, if_neg (by decide), if_neg (by decide), if_neg (by decide), if_neg (by show ¬ (now : Int) < N j % 60; have := hl j hj; omega), if_neg (by omega)]
theorem hd_have {x0 u d : Nat → Int} {X : Nat → Nat → Int} {N : Nat → Int} {n now : Nat} (h : Good x0 u d X 81) (hw : now ≤ 80) (hl : ∀ i, i < n → N i % 60 ≤ (now : Int)) : HaveAll (tdLo (hdRep X N) d now) (tdHi (hdRep X N) u now) n (X now) := by
  refine ⟨h.ok now (by omega), fun i hi q hq => ?_⟩
  have h0 := Int.emod_nonneg (N i) (show (60 : Int) ≠ 0 by decide)
  have h1 := hl i hi
  have hk := h.ok (N i % 60).toNat (by omega) q hq
  have ha := ar_has (q := q) (wrap64 ((N i).tdiv 7)) (wrap64 ((N i).tdiv 11)) hk
  have hc := h.can (s := (N i % 60).toNat) (t := now) (by omega) (by omega) q hq
  rw [show (((N i % 60).toNat : Nat) : Int) = N i % 60 by omega] at hc
  refine told_has q (x := X (N i % 60).toNat) ?_ (h.ok now (by omega) q hq) hc
  unfold tLo tHi
  split
  · exact ⟨ha.2.1, ha.2.2.1⟩
  · exact hk
section
variable {Q : Exit → Act → World → Prop} {o : Oper} {a : Act} {W : World} {R : Value → World → Prop}
theorem opx_rem3 {s k : Nat} (hop : o.op = Op.binOp .rem 3 (.tmp s) (.const (.int .i64 3)) 3) (he : a.eval (.tmp s) = .int .i64 k) (hR : R (.int .i64 ((k : Int) % 3)) W) : o.wp Tryd.prog a W (fun a'' W'' => ∃ x, a'' = a.put o.dst x ∧ R x W'') Q := by
  have he' : a.tmps[s]?.getD undef = .int .i64 k := by simpa [Act.eval] using he
  have ht : (k : Int).tmod 3 = (k : Int) % 3 := Int.tmod_eq_emod_of_nonneg (by omega)
  refine op_val ?_ hR
  unfold execOp
  rw [hop]
  simp [go_sem, he', ht]
theorem opx_quo {s : Nat} {n c : Int} (hc : c = 60 ∨ c = 7 ∨ c = 11) (hop : o.op = Op.binOp .quo 3 (.tmp s) (.const (.int .i64 c)) 3) (he : a.eval (.tmp s) = .int .i64 n) (hR : R (.int .i64 (wrap64 (n.tdiv c))) W) : o.wp Tryd.prog a W (fun a'' W'' => ∃ x, a'' = a.put o.dst x ∧ R x W'') Q := by
  have he' : a.tmps[s]?.getD undef = .int .i64 n := by simpa [Act.eval] using he
  refine op_val ?_ hR
  unfold execOp
  rw [hop]
  rcases hc with rfl | rfl | rfl <;> (simp [go_sem, he']; rw [IntKind.wrap_i64, wrap64])
theorem opx_index89 {s t g o0 n cap i : Nat} (hi : i < n) (hop : o.op = Op.indexAddr 89 (.tmp s) (.tmp t)) (he : a.eval (.tmp s) = .slice (some ⟨g, o0, none⟩) n cap) (ht : a.eval (.tmp t) = .int .i64 i) (hR : R (.pointer (some ⟨g, o0 + i, none⟩)) W) : o.wp Tryd.prog a W (fun a'' W'' => ∃ x, a'' = a.put o.dst x ∧ R x W'') Q := by
  have he' : a.tmps[s]?.getD undef = .slice (some ⟨g, o0, none⟩) n cap := by simpa [Act.eval] using he
  have ht' : a.tmps[t]?.getD undef = .int .i64 i := by simpa [Act.eval] using ht
  have hi' : (i : Int) < (n : Int) := by omega
  have hi0 : (0 : Int) ≤ (i : Int) := by omega
  refine op_val ?_ hR
  unfold execOp
  rw [hop]
  simp [go_sem, he', ht', hi', hi0]
theorem opx_index57 {s t g o0 n cap i : Nat} (hi : i < n) (hop : o.op = Op.indexAddr 57 (.tmp s) (.tmp t)) (he : a.eval (.tmp s) = .slice (some ⟨g, o0, none⟩) n cap) (ht : a.eval (.tmp t) = .int .i64 i) (hR : R (.pointer (some ⟨g, o0 + i * 4, none⟩)) W) : o.wp Tryd.prog a W (fun a'' W'' => ∃ x, a'' = a.put o.dst x ∧ R x W'') Q := by
  have he' : a.tmps[s]?.getD undef = .slice (some ⟨g, o0, none⟩) n cap := by simpa [Act.eval] using he
  have ht' : a.tmps[t]?.getD undef = .int .i64 i := by simpa [Act.eval] using ht
  have hi' : (i : Int) < (n : Int) := by omega
  have hi0 : (0 : Int) ≤ (i : Int) := by omega
  refine op_val ?_ hR
  unfold execOp
  rw [hop]
  simp [go_sem, he', ht', hi', hi0]
theorem opx_load37o {s g off : Nat} {x0 x1 x2 x3 : Value} (hop : o.op = Op.load 37 (.tmp s)) (he : a.eval (.tmp s) = .pointer (some ⟨g, off, none⟩))
    (c0 : W.cell? ⟨g, off, none⟩ = some x0) (c1 : W.cell? ⟨g, off + 1, none⟩ = some x1) (c2 : W.cell? ⟨g, off + 2, none⟩ = some x2) (c3 : W.cell? ⟨g, off + 3, none⟩ = some x3)
    (hR : R (.agg #[x0, x1, x2, x3]) W) : o.wp Tryd.prog a W (fun a'' W'' => ∃ x, a'' = a.put o.dst x ∧ R x W'') Q := by
  have he' : a.tmps[s]?.getD undef = .pointer (some ⟨g, off, none⟩) := by simpa [Act.eval] using he
  refine op_val ?_ hR
  unfold execOp
  rw [hop]
  simp [go_sem, he', c0, c1, c2, c3]
end
end Go.Proofs.YtdcpmdigihbdpaaDoor
