/- Helper lemmas on blocks of cells, and the contract of ice.cellOf: for whatever function value whose calls yield the spans. No condition. -/
import Derived.Test.YtdcpmdigihbdpaaDoorProg
import Derived.WalkKit
import Derived.WalkLawsBesides
import Derived.Shelf.Abstract
import Derived.Deep.QuietTactic
import Derived.BigQuiet
import Derived.Lib.Hide
namespace Go.Proofs.YtdcpmdigihbdpaaDoor
open Go.RowKit
set_option maxRecDepth 100000
def Keep (n : Nat) (W W' : World) : Prop := W.heap.size ≤ W'.heap.size ∧ ∀ k, n ≤ k → k < W.heap.size → W'.heap[k]? = W.heap[k]?
theorem Keep.trans {n : Nat} {A B C : World} (h : Keep n A B) (k : Keep n B C) : Keep n A C :=
  ⟨Nat.le_trans h.1 k.1, fun i hi hs => (k.2 i hi (Nat.lt_of_lt_of_le hs h.1)).trans (h.2 i hi hs)⟩
theorem cell_of_block {W : World} {b : Nat} {vs : Array Value} {t : TypeId} (h : W.heap[b]? = some (.cells vs t (0, 0))) (o : Nat) : W.cell? ⟨b, o, none⟩ = vs[o]? := by
  simp [World.cell?, h]
theorem frozen_of_block {W : World} {b : Nat} {vs : Array Value} {t : TypeId} (h : W.heap[b]? = some (.cells vs t (0, 0))) (o : Nat) : W.frozen? ⟨b, o, none⟩ = false := by
  simp [World.frozen?, h]
theorem cells8 {W : World} {b : Nat} {x0 x1 x2 x3 x4 x5 x6 x7 : Value} {t : TypeId} (h : W.heap[b]? = some (.cells #[x0, x1, x2, x3, x4, x5, x6, x7] t (0, 0))) :
    (W.cell? ⟨b, 0, none⟩ = some x0 ∧ W.cell? ⟨b, 1, none⟩ = some x1 ∧ W.cell? ⟨b, 2, none⟩ = some x2 ∧ W.cell? ⟨b, 3, none⟩ = some x3 ∧ W.cell? ⟨b, 4, none⟩ = some x4 ∧ W.cell? ⟨b, 5, none⟩ = some x5 ∧ W.cell? ⟨b, 6, none⟩ = some x6 ∧ W.cell? ⟨b, 7, none⟩ = some x7) ∧
    (W.frozen? ⟨b, 0, none⟩ = false ∧ W.frozen? ⟨b, 1, none⟩ = false ∧ W.frozen? ⟨b, 2, none⟩ = false ∧ W.frozen? ⟨b, 3, none⟩ = false ∧ W.frozen? ⟨b, 4, none⟩ = false ∧ W.frozen? ⟨b, 5, none⟩ = false ∧ W.frozen? ⟨b, 6, none⟩ = false ∧ W.frozen? ⟨b, 7, none⟩ = false) := by
  refine ⟨⟨?_, ?_, ?_, ?_, ?_, ?_, ?_, ?_⟩, ⟨?_, ?_, ?_, ?_, ?_, ?_, ?_, ?_⟩⟩ <;> first | exact frozen_of_block h _ | (rw [cell_of_block h]; rfl)
theorem block_new (W : World) (o : Obj) : (W.alloc o).heap[W.heap.size]? = some o := by
  show (W.heap.push o)[W.heap.size]? = _
  simp
theorem setCell_block {W : World} {b : Nat} {vs : Array Value} {t : TypeId} (h : W.heap[b]? = some (.cells vs t (0, 0))) (o : Nat) (v : Value) : (W.setCell ⟨b, o, none⟩ v).heap[b]? = some (.cells (vs.setIfInBounds o v) t (0, 0)) := by
  simp [World.setCell, Array.getElem?_modify, h]
def World.store8 (W : World) (b : Nat) (y0 y1 y2 y3 y4 y5 y6 y7 : Value) : World :=
  (((((((W.setCell ⟨b, 0, none⟩ y0).setCell ⟨b, 1, none⟩ y1).setCell ⟨b, 2, none⟩ y2).setCell ⟨b, 3, none⟩ y3).setCell ⟨b, 4, none⟩ y4).setCell ⟨b, 5, none⟩ y5).setCell ⟨b, 6, none⟩ y6).setCell ⟨b, 7, none⟩ y7
theorem store8_block {W : World} {b : Nat} {x0 x1 x2 x3 x4 x5 x6 x7 : Value} {t : TypeId} (h : W.heap[b]? = some (.cells #[x0, x1, x2, x3, x4, x5, x6, x7] t (0, 0))) (y0 y1 y2 y3 y4 y5 y6 y7 : Value) :
    (World.store8 W b y0 y1 y2 y3 y4 y5 y6 y7).heap[b]? = some (.cells #[y0, y1, y2, y3, y4, y5, y6, y7] t (0, 0)) := by
  unfold World.store8
  have h0 := setCell_block h 0 y0
  simp only [List.setIfInBounds_toArray, List.set_cons_zero] at h0
  have h1 := setCell_block h0 1 y1
  simp only [List.setIfInBounds_toArray, List.set_cons_zero, List.set_cons_succ] at h1
  have h2 := setCell_block h1 2 y2
  simp only [List.setIfInBounds_toArray, List.set_cons_zero, List.set_cons_succ] at h2
  have h3 := setCell_block h2 3 y3
  simp only [List.setIfInBounds_toArray, List.set_cons_zero, List.set_cons_succ] at h3
  have h4 := setCell_block h3 4 y4
  simp only [List.setIfInBounds_toArray, List.set_cons_zero, List.set_cons_succ] at h4
  have h5 := setCell_block h4 5 y5
  simp only [List.setIfInBounds_toArray, List.set_cons_zero, List.set_cons_succ] at h5
  have h6 := setCell_block h5 6 y6
  simp only [List.setIfInBounds_toArray, List.set_cons_zero, List.set_cons_succ] at h6
  have h7 := setCell_block h6 7 y7
  simp only [List.setIfInBounds_toArray, List.set_cons_zero, List.set_cons_succ] at h7
  exact h7
theorem cellOf_any (g : Nat) (lb : Array Value) (eg : ∀ args w, (callFunc g args).run Tryd.prog w = .ok (.enter g args) w) (Iv : Nat → World → Prop) (lo hi : Nat → Int) (w : World)
    (hstep : ∀ (q : Nat) (W : World), q < 4 → Iv q W → Calls Tryd.prog g (#[.int .i64 (q : Int)] ++ lb) W fun e W' => e = .returned (.agg #[.int .i64 (lo q), .int .i64 (hi q)]) ∧ Iv (q + 1) W' ∧ Keep w.heap.size W W')
    (h0 : ∀ o, Iv 0 (w.alloc o)) (hset : ∀ q W o v, Iv q W → Iv q (W.setCell ⟨w.heap.size, o, none⟩ v)) :
    Calls Tryd.prog 67 #[.func (.func g) #[] lb] w fun e w' => e = .returned (.agg #[.int .i64 (lo 0), .int .i64 (hi 0), .int .i64 (lo 1), .int .i64 (hi 1), .int .i64 (lo 2), .int .i64 (hi 2), .int .i64 (lo 3), .int .i64 (hi 3)]) ∧ Iv 4 w' := by
  have H := Lib.hid hstep; clear hstep
  have H0 := Lib.hid (h0 (.cells #[.int .i64 0, .int .i64 0, .int .i64 0, .int .i64 0, .int .i64 0, .int .i64 0, .int .i64 0, .int .i64 0] 32)); clear h0
  have HS := Lib.hid hset; clear hset
  have hb0 := Lib.hid (block_new w (.cells #[.int .i64 0, .int .i64 0, .int .i64 0, .int .i64 0, .int .i64 0, .int .i64 0, .int .i64 0, .int .i64 0] 32))
  go_enter Tryd.func67, Tryd.ntmps67
  go_wp2_with fail
  refine (H.out 0 _ (by omega) H0.out).mono ?_
  rintro e W1 ⟨rfl, h1, k1⟩
  have h1' := Lib.hid h1; clear h1
  go_wp2_with fail
  refine (H.out 1 _ (by omega) h1'.out).mono ?_
  rintro e W2 ⟨rfl, h2, k2⟩
  have h2' := Lib.hid h2; clear h2
  go_wp2_with fail
  refine (H.out 2 _ (by omega) h2'.out).mono ?_
  rintro e W3 ⟨rfl, h3, k3⟩
  have h3' := Lib.hid h3; clear h3
  go_wp2_with fail
  refine (H.out 3 _ (by omega) h3'.out).mono ?_
  rintro e W4 ⟨rfl, h4, k4⟩
  have h4' := Lib.hid h4; clear h4
  have hk := ((k1.trans k2).trans k3).trans k4
  have hB := Lib.hid ((hk.2 w.heap.size (Nat.le_refl _) (by simp)).trans hb0.out)
  obtain ⟨⟨c0, c1, c2, c3, c4, c5, c6, c7⟩, f0, f1, f2, f3, f4, f5, f6, f7⟩ := cells8 hB.out
  clear k1 k2 k3 k4 hk
  go_wp2_with fail
  clear c0 c1 c2 c3 c4 c5 c6 c7 f0 f1 f2 f3 f4 f5 f6 f7
  have hX := store8_block hB.out (.int .i64 (lo 0)) (.int .i64 (hi 0)) (.int .i64 (lo 1)) (.int .i64 (hi 1)) (.int .i64 (lo 2)) (.int .i64 (hi 2)) (.int .i64 (lo 3)) (.int .i64 (hi 3))
  have hI : Iv 4 (World.store8 W4 w.heap.size (.int .i64 (lo 0)) (.int .i64 (hi 0)) (.int .i64 (lo 1)) (.int .i64 (hi 1)) (.int .i64 (lo 2)) (.int .i64 (hi 2)) (.int .i64 (lo 3)) (.int .i64 (hi 3))) := by
    unfold World.store8; repeat' (refine HS.out _ _ _ _ ?_)
    exact h4'.out
  unfold World.store8 at hX hI
  generalize (((((((W4.setCell ⟨w.heap.size, 0, none⟩ _).setCell ⟨w.heap.size, 1, none⟩ _).setCell ⟨w.heap.size, 2, none⟩ _).setCell ⟨w.heap.size, 3, none⟩ _).setCell ⟨w.heap.size, 4, none⟩ _).setCell ⟨w.heap.size, 5, none⟩ _).setCell ⟨w.heap.size, 6, none⟩ _).setCell ⟨w.heap.size, 7, none⟩ _ = X at hX hI ⊢
  obtain ⟨⟨c0, c1, c2, c3, c4, c5, c6, c7⟩, _⟩ := cells8 hX
  refine bodyPost_ret (v := .agg #[.int .i64 (lo 0), .int .i64 (hi 0), .int .i64 (lo 1), .int .i64 (hi 1), .int .i64 (lo 2), .int .i64 (hi 2), .int .i64 (lo 3), .int .i64 (hi 3)]) ?_ rfl ⟨rfl, hI⟩
  simp [results, Tryd.results67, go_sem, c0, c1, c2, c3, c4, c5, c6, c7]
end Go.Proofs.YtdcpmdigihbdpaaDoor
