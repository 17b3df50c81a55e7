/- Small lemmas on memory: new blocks one behind the other, what lies below them, loads and field addresses. No condition. -/
import Derived.Test.YtcoiklolgilhaaaGreatDoorClos
import Derived.Test.YtcoiklolgilhaaaGreatDoorMulti
namespace Go.Proofs.YtcoiklolgilhaaaGreatDoor
open Go.RowKit
set_option maxRecDepth 100000
theorem eg55 : ∀ args w, (callFunc 135 args).run Tryz.prog w = .ok (.enter 135 args) w := Go.Proofs.enters_of Tryz.func135 (by kernel_rfl) rfl
theorem eg61 : ∀ args w, (callFunc 126 args).run Tryz.prog w = .ok (.enter 126 args) w := Go.Proofs.enters_of Tryz.func126 (by kernel_rfl) rfl
theorem two_allocs (w : World) (o1 o2 : Obj) : ((w.alloc o1).alloc o2).heap[w.heap.size]? = some o1 ∧ ((w.alloc o1).alloc o2).heap[w.heap.size + 1]? = some o2 ∧
    ((w.alloc o1).alloc o2).heap.size = w.heap.size + 1 + 1 ∧ Below w.heap.size w ((w.alloc o1).alloc o2) := by
  have e1 := block_new w o1
  have e2 := block_new (w.alloc o1) o2
  simp only [World.size_alloc] at e2
  exact ⟨(Below.heap_alloc _ _ _ (by simp)).trans e1, e2, by simp, ((Below.refl _ _).alloc (Nat.le_refl _) _).alloc (by simp) _⟩
theorem three_allocs (w : World) (o1 o2 o3 : Obj) : (((w.alloc o1).alloc o2).alloc o3).heap[w.heap.size]? = some o1 ∧ (((w.alloc o1).alloc o2).alloc o3).heap[w.heap.size + 1]? = some o2 ∧
    (((w.alloc o1).alloc o2).alloc o3).heap[w.heap.size + 1 + 1]? = some o3 ∧ (((w.alloc o1).alloc o2).alloc o3).heap.size = w.heap.size + 1 + 1 + 1 ∧ Below w.heap.size w (((w.alloc o1).alloc o2).alloc o3) := by
  obtain ⟨e1, e2, es, eb⟩ := two_allocs w o1 o2
  have e3 := block_new ((w.alloc o1).alloc o2) o3
  simp only [World.size_alloc] at e3
  exact ⟨(Below.heap_alloc _ _ _ (by omega)).trans e1, (Below.heap_alloc _ _ _ (by omega)).trans e2, e3, by simp, eb.alloc eb.size _⟩
theorem five_allocs (w : World) (o1 o2 o3 o4 o5 : Obj) : (((((w.alloc o1).alloc o2).alloc o3).alloc o4).alloc o5).heap[w.heap.size]? = some o1 ∧ (((((w.alloc o1).alloc o2).alloc o3).alloc o4).alloc o5).heap[w.heap.size + 1]? = some o2 ∧
    (((((w.alloc o1).alloc o2).alloc o3).alloc o4).alloc o5).heap[w.heap.size + 1 + 1]? = some o3 ∧ (((((w.alloc o1).alloc o2).alloc o3).alloc o4).alloc o5).heap[w.heap.size + 1 + 1 + 1]? = some o4 ∧
    (((((w.alloc o1).alloc o2).alloc o3).alloc o4).alloc o5).heap[w.heap.size + 1 + 1 + 1 + 1]? = some o5 ∧
    (((((w.alloc o1).alloc o2).alloc o3).alloc o4).alloc o5).heap.size = w.heap.size + 1 + 1 + 1 + 1 + 1 ∧ Below w.heap.size w (((((w.alloc o1).alloc o2).alloc o3).alloc o4).alloc o5) := by
  obtain ⟨e1, e2, e3, es, eb⟩ := three_allocs w o1 o2 o3
  have e4 := block_new (((w.alloc o1).alloc o2).alloc o3) o4
  have e5 := block_new ((((w.alloc o1).alloc o2).alloc o3).alloc o4) o5
  simp only [World.size_alloc] at e4 e5
  have s4 : ((((w.alloc o1).alloc o2).alloc o3).alloc o4).heap.size = w.heap.size + 1 + 1 + 1 + 1 := by simp
  exact ⟨(Below.heap_alloc _ _ _ (by omega)).trans ((Below.heap_alloc _ _ _ (by omega)).trans e1), (Below.heap_alloc _ _ _ (by omega)).trans ((Below.heap_alloc _ _ _ (by omega)).trans e2),
    (Below.heap_alloc _ _ _ (by omega)).trans ((Below.heap_alloc _ _ _ (by omega)).trans e3), (Below.heap_alloc _ _ _ (by omega)).trans e4, e5, by simp, (eb.alloc eb.size _).alloc (by omega) _⟩
theorem spans_below {w W : World} {B : Nat} {lo hi : Nat → Int} (hb : Below w.heap.size w W) (hB : B < w.heap.size) (h : Spans w B lo hi) : Spans W B lo hi := fun q hq =>
  ⟨(hb.cell (p := ⟨B, q * 2, none⟩) hB).trans (h q hq).1, (hb.cell (p := ⟨B, q * 2 + 1, none⟩) hB).trans (h q hq).2⟩
theorem nums_below {w W : World} {B : Nat} {n : Nat → Int} (hb : Below w.heap.size w W) (hB : B < w.heap.size) (h : Nums w B n) : Nums W B n := fun q hq =>
  (hb.cell (p := ⟨B, q, none⟩) hB).trans (h q hq)
theorem lt_of_block {W : World} {B : Nat} {o : Obj} (h : W.heap[B]? = some o) : B < W.heap.size := (Array.getElem?_eq_some_iff.1 h).1
variable {Q : Exit → Act → World → Prop}
theorem op_load4b {o : Oper} {a' : Act} {W : World} {s b : Nat} {t : TypeId} {x0 x1 x2 x3 : Value} (hop : o.op = Op.load 26 (.tmp s)) (he : a'.eval (.tmp s) = ptr b) (hb : W.heap[b]? = some (.cells #[x0, x1, x2, x3] t (0, 0))) :
    o.wp Tryz.prog a' W (fun a'' W' => a'' = a'.put o.dst (.agg #[x0, x1, x2, x3]) ∧ Below W.heap.size W W') Q := by
  obtain ⟨⟨c0, c1, c2, c3⟩, _⟩ := cells4 hb
  exact op_load4 hop he c0 c1 c2 c3
end Go.Proofs.YtcoiklolgilhaaaGreatDoor
