/- Lemmas for the laws on cells: how two cells are compared, and three cells that are taken out of reports in any order. -/
import Derived.Test.YtdcpmdigihbdpaaDoorSj
import Derived.Test.YtdcpmdigihbdpaaDoorSn
import Derived.Test.YtdcpmdigihbdpaaDoorSo
namespace Go.Proofs.YtdcpmdigihbdpaaDoor
open Go.RowKit
set_option maxRecDepth 100000
theorem eqIn32 (lo hi lo' hi' : Nat → Int) (W : World) : (Op.equalIn 10000 32 (.agg (cellA lo hi)) (.agg (cellA lo' hi'))).run Tryd.prog W = .ok (sameB lo hi lo' hi') W := by
  simp [go_sem]
  unfold sameB allB
  (repeat' split) <;> simp_all
section
variable {Q : Exit → Act → World → Prop} {o : Oper} {a : Act} {W : World} {R : Value → World → Prop}
theorem opx_index63 {s g n cap i : Nat} (hi : i < n) (h8 : i < 8) (hop : o.op = Op.indexAddr 63 (.tmp s) (.const (.int .i64 i))) (he : a.eval (.tmp s) = .slice (some ⟨g, 0, none⟩) n cap) (hR : R (.pointer (some ⟨g, i * 14, none⟩)) W) : o.wp Tryd.prog a W (fun a'' W'' => ∃ x, a'' = a.put o.dst x ∧ R x W'') Q := by
  have he' : a.tmps[s]?.getD undef = .slice (some ⟨g, 0, none⟩) n cap := by simpa [Act.eval] using he
  have hi' : (i : Int) < (n : Int) := by omega
  have hi0 : (0 : Int) ≤ (i : Int) := by omega
  refine op_val ?_ hR
  unfold execOp
  rw [hop]
  simp [go_sem, he', hi', hi0]
end
/-- What is known while three cells are taken out. -/
structure LtW (V0 : World) (g c0 : Nat) (CL CH : Nat → Nat → Int) (L : Nat → Bool) (V : Nat → Value) (X : World) : Prop where
  below : Below V0.heap.size V0 X
  v0 : ∀ q, q < 3 → L (4 * q) = true → V (4 * q) = .slice (some ⟨g, 0, none⟩) 3 c0
  v1 : ∀ q, q < 3 → L (4 * q + 1) = true → V (4 * q + 1) = .pointer (some ⟨g, q * 14, none⟩)
  v2 : ∀ q, q < 3 → L (4 * q + 2) = true → V (4 * q + 2) = .pointer (some ⟨g, q * 14 + 6, none⟩)
  v3 : ∀ q, q < 3 → L (4 * q + 3) = true → V (4 * q + 3) = .agg (cellA (CL q) (CH q))
  v12 : ∀ q, q < 3 → L (12 + q) = true → ∃ B, V (12 + q) = .pointer (some ⟨B, 0, none⟩) ∧ V0.heap.size ≤ B ∧ X.heap[B]? = some (.cells (if L (15 + q) = true then cellA (CL q) (CH q) else zero8) 32 (0, 0))
  ne : ∀ q r, q < 3 → r < 3 → q ≠ r → L (12 + q) = true → L (12 + r) = true → V (12 + q) ≠ V (12 + r)
  o15 : ∀ q, q < 3 → L (15 + q) = true → L (12 + q) = true
theorem LtW.set {V0 : World} {g c0 : Nat} {CL CH : Nat → Nat → Int} {L : Nat → Bool} {V : Nat → Value} {X : World} (h : LtW V0 g c0 CL CH L V X) {i : Nat} {x : Value} (hi : i < 12)
    (h0 : ∀ q, q < 3 → i = 4 * q → x = .slice (some ⟨g, 0, none⟩) 3 c0) (h1 : ∀ q, q < 3 → i = 4 * q + 1 → x = .pointer (some ⟨g, q * 14, none⟩)) (h2 : ∀ q, q < 3 → i = 4 * q + 2 → x = .pointer (some ⟨g, q * 14 + 6, none⟩))
    (h3 : ∀ q, q < 3 → i = 4 * q + 3 → x = .agg (cellA (CL q) (CH q))) : LtW V0 g c0 CL CH (fun j => if j = i then true else L j) (fun j => if j = i then x else V j) X := by
  refine ⟨h.below, fun q hq hL => ?_, fun q hq hL => ?_, fun q hq hL => ?_, fun q hq hL => ?_, fun q hq hL => ?_, fun q r hq hr hne h1 h2 => ?_, fun q hq hL => ?_⟩
  · by_cases e : 4 * q = i
    · simp only [if_pos e]; exact h0 q hq e.symm
    · simp only [if_neg e] at hL ⊢; exact h.v0 q hq hL
  · by_cases e : 4 * q + 1 = i
    · simp only [if_pos e]; exact h1 q hq e.symm
    · simp only [if_neg e] at hL ⊢; exact h.v1 q hq hL
  · by_cases e : 4 * q + 2 = i
    · simp only [if_pos e]; exact h2 q hq e.symm
    · simp only [if_neg e] at hL ⊢; exact h.v2 q hq hL
  · by_cases e : 4 * q + 3 = i
    · simp only [if_pos e]; exact h3 q hq e.symm
    · simp only [if_neg e] at hL ⊢; exact h.v3 q hq hL
  · simp only [if_neg (show ¬ 12 + q = i by omega), if_neg (show ¬ 15 + q = i by omega)] at hL ⊢
    exact h.v12 q hq hL
  · simp only [if_neg (show ¬ 12 + q = i by omega), if_neg (show ¬ 12 + r = i by omega)] at h1 h2 ⊢
    exact h.ne q r hq hr hne h1 h2
  · simp only [if_neg (show ¬ 12 + q = i by omega), if_neg (show ¬ 15 + q = i by omega)] at hL ⊢
    exact h.o15 q hq hL
theorem LtW.made {V0 : World} {g c0 : Nat} {CL CH : Nat → Nat → Int} {L : Nat → Bool} {V : Nat → Value} {X : World} (h : LtW V0 g c0 CL CH L V X) {r : Nat} (hr : r < 3) (hLr : L (12 + r) = false) :
    LtW V0 g c0 CL CH (fun j => if j = 12 + r then true else L j) (fun j => if j = 12 + r then .pointer (some ⟨X.heap.size, 0, none⟩) else V j) (X.alloc (.cells zero8 32)) := by
  have h15 : L (15 + r) = false := by
    cases e : L (15 + r) with
    | false => rfl
    | true => have := h.o15 r hr e; rw [hLr] at this; cases this
  have hz := h.below.size
  refine ⟨h.below.alloc hz _, fun q hq hL => ?_, fun q hq hL => ?_, fun q hq hL => ?_, fun q hq hL => ?_, fun q hq hL => ?_, fun q r' hq hr' hne h1 h2 => ?_, fun q hq hL => ?_⟩
  · simp only [if_neg (show ¬ 4 * q = 12 + r by omega)] at hL ⊢; exact h.v0 q hq hL
  · simp only [if_neg (show ¬ 4 * q + 1 = 12 + r by omega)] at hL ⊢; exact h.v1 q hq hL
  · simp only [if_neg (show ¬ 4 * q + 2 = 12 + r by omega)] at hL ⊢; exact h.v2 q hq hL
  · simp only [if_neg (show ¬ 4 * q + 3 = 12 + r by omega)] at hL ⊢; exact h.v3 q hq hL
  · by_cases e : q = r
    · subst e
      simp only [if_true, if_neg (show ¬ 15 + q = 12 + q by omega), h15]
      exact ⟨_, rfl, hz, block_new X _⟩
    · simp only [if_neg (show ¬ 12 + q = 12 + r by omega), if_neg (show ¬ 15 + q = 12 + r by omega)] at hL ⊢
      obtain ⟨B, e1, e2, e3⟩ := h.v12 q hq hL
      exact ⟨B, e1, e2, (Below.heap_alloc X _ B (lt_of_block e3)).trans e3⟩
  · by_cases e : q = r
    · subst e
      simp only [if_true, if_neg (show ¬ 12 + r' = 12 + q by omega)] at h2 ⊢
      obtain ⟨B, e1, e2, e3⟩ := h.v12 r' hr' h2
      have := lt_of_block e3
      rw [e1]
      intro e
      simp at e <;> omega
    · by_cases e' : r' = r
      · subst e'
        simp only [if_true, if_neg (show ¬ 12 + q = 12 + r' by omega)] at h1 ⊢
        obtain ⟨B, e1, e2, e3⟩ := h.v12 q hq h1
        have := lt_of_block e3
        rw [e1]
        intro e
        simp at e <;> omega
      · simp only [if_neg (show ¬ 12 + q = 12 + r by omega), if_neg (show ¬ 12 + r' = 12 + r by omega)] at h1 h2 ⊢
        exact h.ne q r' hq hr' hne h1 h2
  · by_cases e : q = r
    · subst e; simp
    · simp only [if_neg (show ¬ 12 + q = 12 + r by omega), if_neg (show ¬ 15 + q = 12 + r by omega)] at hL ⊢
      exact h.o15 q hq hL
theorem LtW.stored {V0 : World} {g c0 : Nat} {CL CH : Nat → Nat → Int} {L : Nat → Bool} {V : Nat → Value} {X X' : World} (h : LtW V0 g c0 CL CH L V X) {r B : Nat} {x : Value} (hr : r < 3) (hLr : L (12 + r) = true) (hB : V (12 + r) = .pointer (some ⟨B, 0, none⟩)) (hz : V0.heap.size ≤ B)
    (hX : X'.heap[B]? = some (.cells (cellA (CL r) (CH r)) 32 (0, 0))) (hc : Chg B X X') :
    LtW V0 g c0 CL CH (fun j => if j = 15 + r then true else L j) (fun j => if j = 15 + r then x else V j) X' := by
  refine ⟨h.below.trans (hc.below hz), fun q hq hL => ?_, fun q hq hL => ?_, fun q hq hL => ?_, fun q hq hL => ?_, fun q hq hL => ?_, fun q r' hq hr' hne h1 h2 => ?_, fun q hq hL => ?_⟩
  · simp only [if_neg (show ¬ 4 * q = 15 + r by omega)] at hL ⊢; exact h.v0 q hq hL
  · simp only [if_neg (show ¬ 4 * q + 1 = 15 + r by omega)] at hL ⊢; exact h.v1 q hq hL
  · simp only [if_neg (show ¬ 4 * q + 2 = 15 + r by omega)] at hL ⊢; exact h.v2 q hq hL
  · simp only [if_neg (show ¬ 4 * q + 3 = 15 + r by omega)] at hL ⊢; exact h.v3 q hq hL
  · simp only [if_neg (show ¬ 12 + q = 15 + r by omega)] at hL ⊢
    by_cases e : q = r
    · subst e
      simp only [if_true]
      exact ⟨B, hB, hz, hX⟩
    · simp only [if_neg (show ¬ 15 + q = 15 + r by omega)]
      obtain ⟨B', e1, e2, e3⟩ := h.v12 q hq hL
      refine ⟨B', e1, e2, (hc.2.1 B' fun e' => ?_).trans e3⟩
      exact h.ne q r hq hr e hL hLr (by rw [e1, hB, e'])
  · simp only [if_neg (show ¬ 12 + q = 15 + r by omega), if_neg (show ¬ 12 + r' = 15 + r by omega)] at h1 h2 ⊢
    exact h.ne q r' hq hr' hne h1 h2
  · simp only [if_neg (show ¬ 12 + q = 15 + r by omega)]
    by_cases e : q = r
    · subst e; exact hLr
    · simp only [if_neg (show ¬ 15 + q = 15 + r by omega)] at hL
      exact h.o15 q hq hL
/-- A block is as it was while a call makes memory and its result is laid. -/
theorem keep_blk {X W1 : World} {b : Nat} {o o' : Obj} (h : X.heap[b]? = some o) (hb : Below X.heap.size X W1) : (W1.alloc o').heap[b]? = some o := by
  have h1 := (hb.block b (lt_of_block h)).trans h
  exact (Below.heap_alloc W1 _ b (lt_of_block h1)).trans h1
theorem keep_blk1 {X W1 : World} {b : Nat} {o : Obj} (h : X.heap[b]? = some o) (hb : Below X.heap.size X W1) : W1.heap[b]? = some o := (hb.block b (lt_of_block h)).trans h
theorem keep_bl {w X W1 : World} {o' : Obj} (h : Below w.heap.size w X) (hb : Below X.heap.size X W1) : Below w.heap.size w (W1.alloc o') := (h.trans (hb.mono h.size)).alloc (Nat.le_trans h.size hb.size) _
theorem keep_bl1 {w X W1 : World} (h : Below w.heap.size w X) (hb : Below X.heap.size X W1) : Below w.heap.size w W1 := h.trans (hb.mono h.size)
end Go.Proofs.YtdcpmdigihbdpaaDoor
