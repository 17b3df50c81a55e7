/- Stores of a cell in the midst of a row, new slices; reports and told cells in memory. No condition. -/
import Derived.Test.YtdcpmdigihbdpaaDoorRd
import Derived.Test.YtdcpmdigihbdpaaDoorRc
import Derived.Laws.MakeOwn
import Derived.OwnWalk
namespace Go.Proofs.YtdcpmdigihbdpaaDoor
open Go.RowKit
set_option maxRecDepth 100000
def Rest (arr arr' : Array Value) (off : Nat) : Prop := arr'.size = arr.size ∧ ∀ j, j < off ∨ off + 8 ≤ j → arr'[j]? = arr[j]?
def At8 (arr : Array Value) (off : Nat) (y0 y1 y2 y3 y4 y5 y6 y7 : Int) : Prop := arr[off]? = some (.int .i64 y0) ∧ arr[off + 1]? = some (.int .i64 y1) ∧ arr[off + 2]? = some (.int .i64 y2) ∧ arr[off + 3]? = some (.int .i64 y3) ∧
  arr[off + 4]? = some (.int .i64 y4) ∧ arr[off + 5]? = some (.int .i64 y5) ∧ arr[off + 6]? = some (.int .i64 y6) ∧ arr[off + 7]? = some (.int .i64 y7)
def put8 (arr : Array Value) (off : Nat) (y0 y1 y2 y3 y4 y5 y6 y7 : Value) : Array Value :=
  (((((((arr.setIfInBounds off y0).setIfInBounds (off + 1) y1).setIfInBounds (off + 2) y2).setIfInBounds (off + 3) y3).setIfInBounds (off + 4) y4).setIfInBounds (off + 5) y5).setIfInBounds (off + 6) y6).setIfInBounds (off + 7) y7
theorem put8_rest (arr : Array Value) (off : Nat) (y0 y1 y2 y3 y4 y5 y6 y7 : Value) : Rest arr (put8 arr off y0 y1 y2 y3 y4 y5 y6 y7) off := by
  refine ⟨by simp [put8], fun j hj => ?_⟩
  unfold put8
  simp only [Array.getElem?_setIfInBounds]
  repeat (rw [if_neg (by omega)])
theorem put8_at (arr : Array Value) (off : Nat) (h : off + 8 ≤ arr.size) (y0 y1 y2 y3 y4 y5 y6 y7 : Int) : At8 (put8 arr off (.int .i64 y0) (.int .i64 y1) (.int .i64 y2) (.int .i64 y3) (.int .i64 y4) (.int .i64 y5) (.int .i64 y6) (.int .i64 y7)) off y0 y1 y2 y3 y4 y5 y6 y7 := by
  unfold put8 At8
  simp only [Array.getElem?_setIfInBounds, Array.size_setIfInBounds]
  refine ⟨?_, ?_, ?_, ?_, ?_, ?_, ?_, ?_⟩ <;> (repeat (first | (rw [if_neg (by omega)]) | (rw [if_pos (by omega)]) | (rw [if_pos trivial])))
theorem list_storeAt {ops : Array Oper} {o : Oper} {rest : List Oper} {a : Act} {W : World} {Q : Exit → Act → World → Prop} {s r g off : Nat} {t : TypeId} {arr : Array Value} {y0 y1 y2 y3 y4 y5 y6 y7 : Int} (hg : o.guard = none) (hd : o.dst = none) (hop : o.op = Op.store 32 (.tmp s) (.tmp r))
    (he : a.eval (.tmp s) = .pointer (some ⟨g, off, none⟩)) (hv : a.eval (.tmp r) = .agg #[.int .i64 y0, .int .i64 y1, .int .i64 y2, .int .i64 y3, .int .i64 y4, .int .i64 y5, .int .i64 y6, .int .i64 y7])
    (hb : W.heap[g]? = some (.cells arr t (0, 0))) (hl : off + 8 ≤ arr.size)
    (hK : ∀ W' arr', W'.heap[g]? = some (.cells arr' t (0, 0)) → Rest arr arr' off → At8 arr' off y0 y1 y2 y3 y4 y5 y6 y7 → Chg g W W' → wpList Tryd.prog ops Q rest a W') : wpList Tryd.prog ops Q (o :: rest) a W := by
  have f := frozen_of_block hb
  have c := fun k (hk : k < arr.size) => (cell_of_block hb k).trans (Array.getElem?_eq_getElem hk)
  have c0 := c off (by omega)
  have c1 := c (off + 1) (by omega)
  have c2 := c (off + 2) (by omega)
  have c3 := c (off + 3) (by omega)
  have c4 := c (off + 4) (by omega)
  have c5 := c (off + 5) (by omega)
  have c6 := c (off + 6) (by omega)
  have c7 := c (off + 7) (by omega)
  have he' : a.tmps[s]?.getD undef = .pointer (some ⟨g, off, none⟩) := by simpa [Act.eval] using he
  have hv' : a.tmps[r]?.getD undef = .agg #[.int .i64 y0, .int .i64 y1, .int .i64 y2, .int .i64 y3, .int .i64 y4, .int .i64 y5, .int .i64 y6, .int .i64 y7] := by simpa [Act.eval] using hv
  have hX := setCell_block (setCell_block (setCell_block (setCell_block (setCell_block (setCell_block (setCell_block (setCell_block hb off (.int .i64 y0)) (off + 1) (.int .i64 y1)) (off + 2) (.int .i64 y2)) (off + 3) (.int .i64 y3)) (off + 4) (.int .i64 y4)) (off + 5) (.int .i64 y5)) (off + 6) (.int .i64 y6)) (off + 7) (.int .i64 y7)
  refine list_store hg hd ?_ (hK _ _ hX (put8_rest _ _ _ _ _ _ _ _ _ _) (put8_at _ _ hl _ _ _ _ _ _ _ _)
    ((((((((chg_setCell W g off _).trans (chg_setCell _ g (off + 1) _)).trans (chg_setCell _ g (off + 2) _)).trans (chg_setCell _ g (off + 3) _)).trans (chg_setCell _ g (off + 4) _)).trans (chg_setCell _ g (off + 5) _)).trans (chg_setCell _ g (off + 6) _)).trans (chg_setCell _ g (off + 7) _)))
  unfold execOp
  rw [hop]
  simp [go_sem, he', hv', f, c0, c1, c2, c3, c4, c5, c6, c7]
theorem list_make {ops : Array Oper} {o : Oper} {rest : List Oper} {a : Act} {W : World} {Q : Exit → Act → World → Prop} {s n size : Nat} {t e : TypeId} {i : TypeInfo} {z : Value} (hg : o.guard = none) (hop : o.op = Op.makeSlice t (.tmp s) (.tmp s))
    (he : a.eval (.tmp s) = .int .i64 (n : Int)) (ht : Tryd.prog.underlying t = some (.slice e)) (hi : Tryd.prog.info? e = some i) (hz : i.zero = some z) (hs : i.size = size) (hby : i.bytes ≤ 1000) (hn : n ≤ 100)
    (hK : ∀ W', W'.heap[W.heap.size]? = some (.cells (madeCells z.cells (n * size)) e (0, 0)) → W'.heap.size = W.heap.size + 1 → Below W.heap.size W W' → wpList Tryd.prog ops Q rest (a.put o.dst (.slice (some ⟨W.heap.size, 0, none⟩) n n)) W') : wpList Tryd.prog ops Q (o :: rest) a W := by
  have hr := run_make (P := Tryd.prog) W t e i z ht hi hz .i64 .i64 (n : Int) (n : Int) (by omega) (by omega) (by
    have h1 : i.bytes * n ≤ 1000 * 100 := Nat.mul_le_mul hby hn
    have h2 : (i.bytes : Int) * (n : Int) = ((i.bytes * n : Nat) : Int) := by simp
    rw [h2]; omega) (by omega)
  simp only [Int.toNat_natCast, hs] at hr
  have hK' := hK _ (block_new W (.cells (madeCells z.cells (n * size)) e)) (by simp) ((Below.refl _ _).alloc (Nat.le_refl _) _)
  have he' : a.tmps[s]?.getD undef = .int .i64 (n : Int) := by simpa [Act.eval] using he
  unfold wpList
  have hw : Region.wanted o (yielded ops a.tmps) = true := by unfold Region.wanted; rw [hg]
  rw [if_pos hw]
  refine .inl ?_
  unfold Oper.wp execOp
  rw [hop]
  simp [go_sem, he', hr]
  exact hK'
theorem info32 : (Tryd.prog.info? 32).map (fun i => (i.zero, i.size, i.bytes)) = some (some (.agg #[.int .i64 0, .int .i64 0, .int .i64 0, .int .i64 0, .int .i64 0, .int .i64 0, .int .i64 0, .int .i64 0]), 8, 64) := by kernel_rfl
theorem info3 : (Tryd.prog.info? 3).map (fun i => (i.zero, i.size, i.bytes)) = some (some (.int .i64 0), 1, 8) := by kernel_rfl
theorem info4 : (Tryd.prog.info? 4).map (fun i => (i.zero, i.size, i.bytes)) = some (some (.bool false), 1, 1) := by kernel_rfl
theorem info152 : (Tryd.prog.info? 152).map (fun i => (i.zero, i.size, i.bytes)) = some (some (.agg #[.bool false, .bool false, .bool false, .bool false, .bool false, .bool false, .bool false, .bool false, .bool false, .bool false, .bool false, .bool false]), 12, 12) := by kernel_rfl
theorem info89 : (Tryd.prog.info? 89).map (fun i => (i.zero, i.size, i.bytes)) = some (some (.slice none 0 0), 1, 24) := by kernel_rfl
theorem info77 : (Tryd.prog.info? 77).map (fun i => (i.zero, i.size, i.bytes)) = some (some (.agg #[.int .i64 0, .int .i64 0]), 2, 16) := by kernel_rfl
theorem info67 : (Tryd.prog.info? 67).map (fun i => (i.zero, i.size, i.bytes)) = some (some (.agg #[.int .i64 0, .int .i64 0, .int .i64 0, .int .i64 0, .int .i64 0, .int .i64 0, .int .i64 0, .int .i64 0, .int .i64 0, .int .i64 0, .int .i64 0, .int .i64 0, .int .i64 0, .int .i64 0]), 14, 112) := by kernel_rfl
theorem und125 : Tryd.prog.underlying 125 = some (.slice 32) := by kernel_rfl
theorem und89 : Tryd.prog.underlying 89 = some (.slice 3) := by kernel_rfl
theorem und78 : Tryd.prog.underlying 78 = some (.slice 4) := by kernel_rfl
theorem und161 : Tryd.prog.underlying 161 = some (.slice 152) := by kernel_rfl
theorem und84 : Tryd.prog.underlying 84 = some (.slice 89) := by kernel_rfl
theorem und73 : Tryd.prog.underlying 73 = some (.slice 77) := by kernel_rfl
theorem und63 : Tryd.prog.underlying 63 = some (.slice 67) := by kernel_rfl
/-- n reports lie at p. -/
def Reps (W : World) (p : Option Addr) (n : Nat) (R : Nat → Rep) : Prop := ∀ i, i < n → ∃ b, p = some ⟨b, 0, none⟩ ∧ b < W.heap.size ∧ ∀ c v, (repA (R i))[c]? = some v → W.cell? ⟨b, i * 14 + c, none⟩ = some v
theorem Reps.later {w W : World} {n : Nat} {p : Option Addr} {R : Nat → Rep} (h : Reps w p n R) (hb : Below w.heap.size w W) : Reps W p n R := by
  intro i hi
  obtain ⟨b, rfl, hlt, hc⟩ := h i hi
  exact ⟨b, rfl, Nat.lt_of_lt_of_le hlt hb.size, fun c v hv => (hb.cell (p := ⟨b, i * 14 + c, none⟩) hlt).trans (hc c v hv)⟩
theorem Reps.cells {W : World} {n : Nat} {p : Option Addr} {R : Nat → Rep} (h : Reps W p n R) {i : Nat} (hi : i < n) : ∃ b, p = some ⟨b, 0, none⟩ ∧ b < W.heap.size ∧
    W.cell? ⟨b, i * 14, none⟩ = some (.int .i64 (R i).id) ∧ W.cell? ⟨b, i * 14 + 1, none⟩ = some (.int .i64 (R i).src) ∧ W.cell? ⟨b, i * 14 + 2, none⟩ = some (.int .i64 (R i).hour) ∧ W.cell? ⟨b, i * 14 + 3, none⟩ = some (.int .i64 (R i).x) ∧
    W.cell? ⟨b, i * 14 + 4, none⟩ = some (.int .i64 (R i).y) ∧ W.cell? ⟨b, i * 14 + 5, none⟩ = some (.int .i64 (R i).has) ∧ W.cell? ⟨b, i * 14 + 6, none⟩ = some (.int .i64 ((R i).lo 0)) ∧ W.cell? ⟨b, i * 14 + 7, none⟩ = some (.int .i64 ((R i).hi 0)) ∧
    W.cell? ⟨b, i * 14 + 8, none⟩ = some (.int .i64 ((R i).lo 1)) ∧ W.cell? ⟨b, i * 14 + 9, none⟩ = some (.int .i64 ((R i).hi 1)) ∧ W.cell? ⟨b, i * 14 + 10, none⟩ = some (.int .i64 ((R i).lo 2)) ∧ W.cell? ⟨b, i * 14 + 11, none⟩ = some (.int .i64 ((R i).hi 2)) ∧
    W.cell? ⟨b, i * 14 + 12, none⟩ = some (.int .i64 ((R i).lo 3)) ∧ W.cell? ⟨b, i * 14 + 13, none⟩ = some (.int .i64 ((R i).hi 3)) := by
  obtain ⟨b, e, hb, hc⟩ := h i hi
  exact ⟨b, e, hb, hc 0 _ rfl, hc 1 _ rfl, hc 2 _ rfl, hc 3 _ rfl, hc 4 _ rfl, hc 5 _ rfl, hc 6 _ rfl, hc 7 _ rfl, hc 8 _ rfl, hc 9 _ rfl, hc 10 _ rfl, hc 11 _ rfl, hc 12 _ rfl, hc 13 _ rfl⟩
def Tellable (u d : Nat → Int) (now : Int) (r : Rep) : Prop := (0 ≤ r.has ∧ r.has ≤ 15) ∧ ageOK (tLo r) (tHi r) u d ∧ 0 ≤ now - r.hour ∧ now - r.hour ≤ 10000
def tdLo (R : Nat → Rep) (d : Nat → Int) (now : Int) (i : Nat) : Nat → Int := agLo (tLo (R i)) d (now - (R i).hour)
def tdHi (R : Nat → Rep) (u : Nat → Int) (now : Int) (i : Nat) : Nat → Int := agHi (tHi (R i)) u (now - (R i).hour)
def Told (W : World) (g n k : Nat) (CL CH : Nat → Nat → Int) : Prop := ∃ arr, W.heap[g]? = some (.cells arr 32 (0, 0)) ∧ arr.size = n * 8 ∧ ∀ i, i < k → At8 arr (i * 8) (CL i 0) (CH i 0) (CL i 1) (CH i 1) (CL i 2) (CH i 2) (CL i 3) (CH i 3)
theorem Told.cellsAt {W : World} {g n : Nat} {CL CH : Nat → Nat → Int} (h : Told W g n n CL CH) : CellsAt W g n CL CH := by
  obtain ⟨arr, hb, _, ha⟩ := h
  intro i hi
  obtain ⟨h0, h1, h2, h3, h4, h5, h6, h7⟩ := ha i hi
  have c := fun k => cell_of_block hb k
  exact ⟨(c _).trans h0, (c _).trans h1, (c _).trans h2, (c _).trans h3, (c _).trans h4, (c _).trans h5, (c _).trans h6, (c _).trans h7⟩
theorem Told.of_block {w W : World} {g n k : Nat} {CL CH : Nat → Nat → Int} (h : Told w g n k CL CH) (e : W.heap[g]? = w.heap[g]?) : Told W g n k CL CH := by
  obtain ⟨arr, hb, hs, ha⟩ := h
  exact ⟨arr, e.trans hb, hs, ha⟩
theorem Told.succ {W' : World} {g n k : Nat} {CL CH : Nat → Nat → Int} {arr arr' : Array Value} (hs : arr.size = n * 8) (ha : ∀ i, i < k → At8 arr (i * 8) (CL i 0) (CH i 0) (CL i 1) (CH i 1) (CL i 2) (CH i 2) (CL i 3) (CH i 3)) (hb' : W'.heap[g]? = some (.cells arr' 32 (0, 0)))
    (hr : Rest arr arr' (k * 8)) (ht : At8 arr' (k * 8) (CL k 0) (CH k 0) (CL k 1) (CH k 1) (CL k 2) (CH k 2) (CL k 3) (CH k 3)) : Told W' g n (k + 1) CL CH := by
  refine ⟨arr', hb', hr.1.trans hs, fun i hi => ?_⟩
  by_cases e : i = k
  · rw [e]; exact ht
  · have h := ha i (by omega)
    unfold At8 at h ⊢
    obtain ⟨h0, h1, h2, h3, h4, h5, h6, h7⟩ := h
    have r := fun j (hj : j < k * 8) => hr.2 j (.inl hj)
    exact ⟨(r _ (by omega)).trans h0, (r _ (by omega)).trans h1, (r _ (by omega)).trans h2, (r _ (by omega)).trans h3, (r _ (by omega)).trans h4, (r _ (by omega)).trans h5, (r _ (by omega)).trans h6, (r _ (by omega)).trans h7⟩
end Go.Proofs.YtdcpmdigihbdpaaDoor
