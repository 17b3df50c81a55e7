/- Pure facts on lists of points that grow by one; rows of points in memory; stores of slices. No condition. -/
import Derived.Test.YtcoiklolgilhaaaGreatDoorQb
import Derived.Test.YtcoiklolgilhaaaGreatDoorQe
namespace Go.Proofs.YtcoiklolgilhaaaGreatDoor
open Go.RowKit
set_option maxRecDepth 100000
def flatP (l : List (Int × Int)) : List Value := l.flatMap fun q => [.int .i64 q.1, .int .i64 q.2]
theorem flatP_snoc (l : List (Int × Int)) (x y : Int) : flatP (l ++ [(x, y)]) = flatP l ++ [.int .i64 x, .int .i64 y] := by simp [flatP]
theorem flatP_len (l : List (Int × Int)) : (flatP l).length = l.length * 2 := by
  induction l with
  | nil => rfl
  | cons q l ih =>
    have e : flatP (q :: l) = .int .i64 q.1 :: .int .i64 q.2 :: flatP l := rfl
    rw [e]
    simp only [List.length_cons, ih]
    omega
theorem flatP_get (l : List (Int × Int)) (i : Nat) (h : i < l.length) : (flatP l)[i * 2]? = some (.int .i64 ((cvOf l).x i)) ∧ (flatP l)[i * 2 + 1]? = some (.int .i64 ((cvOf l).y i)) := by
  induction l generalizing i with
  | nil => simp at h
  | cons q l ih =>
    have e : flatP (q :: l) = .int .i64 q.1 :: .int .i64 q.2 :: flatP l := rfl
    cases i with
    | zero => simp [e, cvOf]
    | succ i =>
      obtain ⟨h1, h2⟩ := ih i (by simpa using h)
      have e2 : (i + 1) * 2 = i * 2 + 1 + 1 := by omega
      rw [e, e2]
      simp only [List.getElem?_cons_succ]
      refine ⟨h1.trans ?_, h2.trans ?_⟩ <;> simp [cvOf]
theorem cv_snoc_old (l : List (Int × Int)) (q : Int × Int) {i : Nat} (h : i < l.length) : (cvOf (l ++ [q])).x i = (cvOf l).x i ∧ (cvOf (l ++ [q])).y i = (cvOf l).y i := by
  simp [cvOf, List.getElem?_append_left h]
theorem cv_snoc_new (l : List (Int × Int)) (q : Int × Int) : (cvOf (l ++ [q])).x l.length = q.1 ∧ (cvOf (l ++ [q])).y l.length = q.2 := by
  simp [cvOf]
/-- points that grow to the right: by at least d0, each one at most d1 of them; y from y0 on, each at most b0 and b1 of them, and never less (up) or never more -/
structure Pl (l : List (Int × Int)) (d0 d1 b0 b1 y0 : Int) (up : Bool) (X Y : Int) : Prop where
  len : 1 ≤ l.length
  zero : (cvOf l).x 0 = 0
  y0 : (cvOf l).y 0 = y0
  lastx : (cvOf l).x (l.length - 1) = X
  lasty : (cvOf l).y (l.length - 1) = Y
  step : ∀ i, i + 1 < l.length → (cvOf l).x i + d0 ≤ (cvOf l).x (i + 1)
  most : ∀ i, i < l.length → (cvOf l).x i ≤ d1 * i
  low : ∀ i, i < l.length → 0 ≤ (cvOf l).y i
  high : ∀ i, i < l.length → (cvOf l).y i ≤ b0 + b1 * i
  mono : ∀ i, i + 1 < l.length → if up = true then (cvOf l).y i ≤ (cvOf l).y (i + 1) else (cvOf l).y (i + 1) ≤ (cvOf l).y i
theorem Pl.one {d0 d1 b0 b1 y : Int} {up : Bool} (h0 : 0 ≤ y) (h1 : y ≤ b0) : Pl [(0, y)] d0 d1 b0 b1 y up 0 y := by
  have z : ∀ i, i < 1 → i = 0 := fun i h => by omega
  refine ⟨by simp, rfl, rfl, rfl, rfl, fun i h => by simp at h, fun i h => ?_, fun i h => ?_, fun i h => ?_, fun i h => by simp at h⟩
  · obtain rfl := z i (by simpa using h); simp [cvOf]
  · obtain rfl := z i (by simpa using h); simpa [cvOf] using h0
  · obtain rfl := z i (by simpa using h); simpa [cvOf] using h1
theorem Pl.snoc {l : List (Int × Int)} {d0 d1 b0 b1 y0 : Int} {up : Bool} {X Y X' Y' : Int} (h : Pl l d0 d1 b0 b1 y0 up X Y) (h1 : X + d0 ≤ X') (h2 : X' ≤ d1 * (l.length : Int)) (h3 : 0 ≤ Y') (h4 : Y' ≤ b0 + b1 * (l.length : Int)) (h5 : if up = true then Y ≤ Y' else Y' ≤ Y) :
    Pl (l ++ [(X', Y')]) d0 d1 b0 b1 y0 up X' Y' := by
  have hl := h.len
  have hn := cv_snoc_new l (X', Y')
  have ho := fun i (hi : i < l.length) => cv_snoc_old l (X', Y') hi
  have e : (l ++ [(X', Y')]).length = l.length + 1 := by simp
  have hlast := ho (l.length - 1) (by omega)
  rw [h.lastx, h.lasty] at hlast
  refine ⟨by omega, (ho 0 (by omega)).1.trans h.zero, (ho 0 (by omega)).2.trans h.y0, by rw [e]; exact hn.1, by rw [e]; exact hn.2, fun i hi => ?_, fun i hi => ?_, fun i hi => ?_, fun i hi => ?_, fun i hi => ?_⟩
  · by_cases c : i + 1 < l.length
    · rw [(ho i (by omega)).1, (ho (i + 1) c).1]; exact h.step i c
    · obtain rfl : i = l.length - 1 := by omega
      rw [hlast.1, show l.length - 1 + 1 = l.length by omega, hn.1]; exact h1
  · by_cases c : i < l.length
    · rw [(ho i c).1]; exact h.most i c
    · obtain rfl : i = l.length := by omega
      rw [hn.1]; exact h2
  · by_cases c : i < l.length
    · rw [(ho i c).2]; exact h.low i c
    · obtain rfl : i = l.length := by omega
      rw [hn.2]; exact h3
  · by_cases c : i < l.length
    · rw [(ho i c).2]; exact h.high i c
    · obtain rfl : i = l.length := by omega
      rw [hn.2]; exact h4
  · by_cases c : i + 1 < l.length
    · rw [(ho i (by omega)).2, (ho (i + 1) c).2]; exact h.mono i c
    · obtain rfl : i = l.length - 1 := by omega
      rw [hlast.2, show l.length - 1 + 1 = l.length by omega, hn.2]; exact h5
theorem Pl.x_bd {l : List (Int × Int)} {d0 d1 b0 b1 y0 : Int} {up : Bool} {X Y : Int} (h : Pl l d0 d1 b0 b1 y0 up X Y) : X ≤ d1 * ((l.length - 1 : Nat) : Int) ∧ Y ≤ b0 + b1 * ((l.length - 1 : Nat) : Int) ∧ 0 ≤ Y := by
  have hl := h.len
  have a := h.most (l.length - 1) (by omega)
  have b := h.high (l.length - 1) (by omega)
  have c := h.low (l.length - 1) (by omega)
  rw [h.lastx] at a
  rw [h.lasty] at b c
  exact ⟨a, b, c⟩
/-- such points are a curve -/
theorem Pl.cv {l : List (Int × Int)} {d0 d1 b0 b1 y0 : Int} {up : Bool} {X Y : Int} (h : Pl l d0 d1 b0 b1 y0 up X Y) (hd : 1 ≤ d0) (h2 : 2 ≤ l.length) (h8 : l.length ≤ 8) (hx : ∀ i : Nat, i < l.length → d1 * i ≤ 400) (hy : ∀ i : Nat, i < l.length → b0 + b1 * i ≤ 20000) : IsCv (cvOf l) :=
  ⟨h2, h8, h.zero, fun i hi => Int.le_trans (h.most i hi) (hx i hi), h.low, fun i hi => Int.le_trans (h.high i hi) (hy i hi), fun i hi => by have := h.step i hi; omega⟩
theorem Pl.up {l : List (Int × Int)} {d0 d1 b0 b1 y0 : Int} {X Y : Int} (h : Pl l d0 d1 b0 b1 y0 true X Y) : ∀ i, i + 1 < (cvOf l).n → (cvOf l).y i ≤ (cvOf l).y (i + 1) := fun i hi => by simpa using h.mono i hi
theorem Pl.down {l : List (Int × Int)} {d0 d1 b0 b1 y0 : Int} {X Y : Int} (h : Pl l d0 d1 b0 b1 y0 false X Y) : ∀ i, i + 1 < (cvOf l).n → (cvOf l).y (i + 1) ≤ (cvOf l).y i := fun i hi => by simpa using h.mono i hi
theorem Pl.x_least {l : List (Int × Int)} {d0 d1 b0 b1 y0 : Int} {up : Bool} {X Y : Int} (h : Pl l d0 d1 b0 b1 y0 up X Y) (hd : 0 ≤ d0) (h2 : 2 ≤ l.length) : d0 ≤ X := by
  have h1 := h.step 0 (by omega)
  rw [h.zero] at h1
  have : ∀ j, 1 ≤ j → j < l.length → d0 ≤ (cvOf l).x j := by
    intro j
    induction j with
    | zero => intro h; omega
    | succ j ih =>
      intro _ hj
      by_cases e : j = 0
      · subst e; omega
      · have := ih (by omega) (by omega); have := h.step j hj; omega
  have := this (l.length - 1) (by omega) (by omega)
  rw [h.lastx] at this
  exact this
/-- a row of points -/
abbrev PRow (W : World) (base : Nat) (v : Value) (l : List (Int × Int)) : Prop := W.ownsRow base 89 2 v l.length (flatP l)
theorem PRow.pts {W : World} {base : Nat} {p : Option Addr} {n c : Nat} {l : List (Int × Int)} (h : PRow W base (.slice p n c) l) : Pts W p (cvOf l) := fun i hi => by
  have hi' : i < l.length := hi
  rcases h.2 with ⟨_, e2⟩ | ⟨g, cap, cur, e1, _, hg, hn, _, hsz, htk⟩
  · rw [e2] at hi'; omega
  · simp only [Value.slice.injEq] at e1
    obtain ⟨rfl, _, _⟩ := e1
    obtain ⟨h1, h2⟩ := flatP_get l i hi'
    have hc := fun o => cell_of_block hg o
    have hlen : (flatP l).length = l.length * 2 := flatP_len l
    have get : ∀ j, j < l.length * 2 → cur[j]? = (flatP l)[j]? := fun j hj => by
      rw [← htk, List.getElem?_take_of_lt hj, Array.getElem?_toList]
    refine ⟨g, 0, rfl, lt_of_block hg, ?_, ?_⟩
    · rw [Nat.zero_add]; exact (hc _).trans ((get _ (by omega)).trans h1)
    · rw [Nat.zero_add]; exact (hc _).trans ((get _ (by omega)).trans h2)
theorem prow_one (W : World) (base : Nat) (x y : Int) (hb : base ≤ W.heap.size) : PRow (W.alloc (.cells #[.int .i64 x, .int .i64 y] 89)) base (.slice (some ⟨W.heap.size, 0, none⟩) 1 1) [(x, y)] :=
  ⟨rfl, .inr ⟨W.heap.size, 1, #[.int .i64 x, .int .i64 y], rfl, hb, block_new W _, Nat.le_refl _, by decide, rfl, rfl⟩⟩
theorem pown_ne {W : World} {base : Nat} {v : Value} {l : List (Int × Int)} (h : PRow W base v l) {b : Nat} (hb : b < base ∨ W.heap.size ≤ b) : some b ≠ v.ownBlock := by
  rcases h.2 with ⟨rfl, _⟩ | ⟨g, cap, cur, rfl, hbg, hg, _⟩
  · simp [Value.ownBlock]
  · intro e
    obtain rfl : b = g := by simpa [Value.ownBlock] using e
    have := (Array.getElem?_eq_some_iff.1 hg).1
    omega
theorem pown_base {W : World} {base : Nat} {v : Value} {l : List (Int × Int)} (h : PRow W base v l) : ∀ j, v.ownBlock = some j → base ≤ j := fun j e => by
  rcases h.2 with ⟨rfl, _⟩ | ⟨g, cap, cur, rfl, hbg, hg, _⟩
  · simp [Value.ownBlock] at e
  · obtain rfl : g = j := by simpa [Value.ownBlock] using e
    exact hbg
theorem prow_chg {W W' : World} {base b : Nat} {v : Value} {l : List (Int × Int)} (h : PRow W base v l) (hc : Chg b W W') (hb : b < base) : PRow W' base v l := by
  refine h.kept (row := some b) ⟨hc.2.2.1, hc.2.2.2.1, hc.2.2.2.2, Nat.le_of_eq hc.1.symm, fun k _ hk => hc.2.1 k (fun e => hk (by rw [e]))⟩ ?_
  right
  intro e
  have := pown_base h b e
  omega
theorem prow_grow {W W' : World} {base lim : Nat} {v : Value} {l : List (Int × Int)} {row : Option Nat} (h : PRow W base v l) (hg : W.grownBy W' row) (hr : ∀ j, row = some j → lim ≤ j) (hv : ∀ j, v.ownBlock = some j → j < lim) : PRow W' base v l := by
  refine h.kept hg ?_
  cases hvb : v.ownBlock with
  | none => exact .inl rfl
  | some j =>
    right
    intro e
    have h1 := hr j e.symm
    have h2 := hv j hvb
    omega
theorem pown_lt {W : World} {base : Nat} {v : Value} {l : List (Int × Int)} (h : PRow W base v l) : ∀ j, v.ownBlock = some j → j < W.heap.size := fun j e => by
  rcases h.2 with ⟨rfl, _⟩ | ⟨g, cap, cur, rfl, hbg, hg, _⟩
  · simp [Value.ownBlock] at e
  · obtain rfl : g = j := by simpa [Value.ownBlock] using e
    exact (Array.getElem?_eq_some_iff.1 hg).1
theorem list_store22 {Q : Exit → Act → World → Prop} {W : World} {ops : Array Oper} {o : Oper} {rest : List Oper} {a : Act} {s r b off n c : Nat} {q : Option Addr} {t : TypeId} {cs : Array Value} (hg : o.guard = none) (hd : o.dst = none) (hop : o.op = Op.store 22 (.tmp s) (.tmp r))
    (he : a.eval (.tmp s) = .pointer (some ⟨b, off, none⟩)) (hv : a.eval (.tmp r) = .slice q n c) (hb : W.heap[b]? = some (.cells cs t (0, 0))) (hlt : off < cs.size)
    (hK : ∀ W', W'.heap[b]? = some (.cells (cs.setIfInBounds off (.slice q n c)) t (0, 0)) → Chg b W W' → wpList Tryz.prog ops Q rest a W') : wpList Tryz.prog ops Q (o :: rest) a W := by
  have cc := (cell_of_block hb off).trans (Array.getElem?_eq_getElem hlt)
  have f := frozen_of_block hb off
  have he' : a.tmps[s]?.getD undef = .pointer (some ⟨b, off, none⟩) := by simpa [Act.eval] using he
  have hv' : a.tmps[r]?.getD undef = .slice q n c := by simpa [Act.eval] using hv
  refine list_store hg hd ?_ (hK (W.setCell ⟨b, off, none⟩ (.slice q n c)) (setCell_block hb off _) (chg_setCell W b off _))
  unfold execOp
  rw [hop]
  simp [go_sem, he', hv', cc, f]
theorem und22 : Tryz.prog.underlying 22 = some (.slice 89) := by kernel_rfl
theorem info30 : (Tryz.prog.info? 89).map (fun i => (i.zero, i.size, i.bytes)) = some (some (.agg #[.int .i64 0, .int .i64 0]), 2, 16) := by kernel_rfl
end Go.Proofs.YtcoiklolgilhaaaGreatDoor
