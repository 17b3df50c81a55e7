/- Contracts of the closures of package ice that look at one quantity. Where they read the table of limits: it holds 100, 400, 100, 3; what they capture holds the numbers that are named. -/
import Derived.Test.YtcoiklolgilhaaaGreatDoorEvery
import Derived.Test.YtcoiklolgilhaaaGreatDoorOps
import Derived.Deep.RegionHeld3
import Derived.StillTailTactics
namespace Go.Proofs.YtcoiklolgilhaaaGreatDoor
open Go.RowKit
set_option maxRecDepth 100000
theorem quiet_left {P : Program} {f : FuncId} {args : Array Value} {w : World} {n : Nat} {v : Value}
    (h : Calls P f args (w.drewN n) fun e w' => e = .returned v ∧ w.drewN n = w') : Calls P f args (w.drewN n) fun e w'' => e = .returned v ∧ ∃ m, w'' = w.drewN m :=
  h.mono fun _ _ ⟨he, hm⟩ => ⟨he, n, hm.symm⟩
def Nums (W : World) (B : Nat) (n : Nat → Int) : Prop := ∀ q, q < 4 → W.cell? ⟨B, q, none⟩ = some (.int .i64 (n q))
def Spans (W : World) (B : Nat) (lo hi : Nat → Int) : Prop := ∀ q, q < 4 → W.cell? ⟨B, q * 2, none⟩ = some (.int .i64 (lo q)) ∧ W.cell? ⟨B, q * 2 + 1, none⟩ = some (.int .i64 (hi q))
theorem Lim.at {w : World} (h : Lim w) (q : Nat) (hq : q < 4) : w.cell? ⟨0, q, none⟩ = some (.int .i64 (lim q)) := by
  match q, hq with
  | 0, _ => exact h.1
  | 1, _ => exact h.2.1
  | 2, _ => exact h.2.2.1
  | 3, _ => exact h.2.2.2
theorem lim_bd (q : Nat) : 0 ≤ lim q ∧ lim q ≤ 400 := by unfold lim; split <;> (try split) <;> omega
def chg (r h : Int) : Int := (r * h + 23) / 24
theorem chg_bd {r h : Int} (h1 : 0 ≤ r) (h2 : r ≤ 1000) (h3 : 0 ≤ h) (h4 : h ≤ 10000) : 0 ≤ chg r h ∧ chg r h ≤ 416668 := by
  have h5 : r * h ≤ 10000000 := by
    have := Int.mul_le_mul h2 h4 h3 (by omega); simpa using this
  have h6 : 0 ≤ r * h := Int.mul_nonneg h1 h3
  unfold chg
  omega
def mx (a b : Int) : Int := max a b
def mn (a b : Int) : Int := min a b
theorem mx_if (a b : Int) : (if a < b then b else a) = mx a b := by unfold mx; split <;> omega
theorem mn_if (a b : Int) : (if b < a then b else a) = mn a b := by unfold mn; split <;> omega
/-- The worlds in which all that lay in w lies. -/
structure Later (w : World) where
  world : World
  below : Below w.heap.size w world
theorem later_call {P : Program} {f : FuncId} {args : Array Value} {v : Value} {w : World} {x : Later w} (h : Calls P f args x.world fun e w' => e = .returned v ∧ Below x.world.heap.size x.world w') :
    Calls P f args x.world fun e w' => e = .returned v ∧ ∃ y : Later w, w' = y.world :=
  h.mono fun _ w' ⟨he, hb⟩ => ⟨he, ⟨w', x.below.trans (hb.mono x.below.size)⟩, rfl⟩
theorem later_call' {P : Program} {f : FuncId} {args : Array Value} {v : Value} {w : World} {x : Later w} (h : Calls P f args x.world fun e w' => e = .returned v ∧ x.world = w') :
    Calls P f args x.world fun e w' => e = .returned v ∧ ∃ y : Later w, w' = y.world :=
  h.mono fun _ _ ⟨he, hb⟩ => ⟨he, x, hb.symm⟩
theorem later_cell {w : World} {B o : Nat} {v : Value} (hB : B < w.heap.size) (h : w.cell? ⟨B, o, none⟩ = some v) (x : Later w) : x.world.cell? ⟨B, o, none⟩ = some v :=
  (x.below.cell (p := ⟨B, o, none⟩) hB).trans h
theorem wp_region_later {P : Program} {id : Nat} {Q : Exit → Act → World → Prop} {a : Act} {w : World} {l : List Oper} (hm : P.follows .mixedOrders = true) (hB : Region.lexB .any l.toArray = true)
    (h : wpQuiet P l.toArray (fun W => ∃ x : Later w, W = x.world) (fun a' => ∀ W, (∃ x : Later w, W = x.world) → Q .normal a' W) l a) : (Code.region id l.toArray true).wp P Q a w :=
  wp_region_quiet (C := fun W => ∃ x : Later w, W = x.world) hm hB ⟨⟨w.drew, (Below.refl _ _).drew⟩, rfl⟩ (by simpa using h)
theorem checkIce1 (B : Nat) (n : Nat → Int) (q : Nat) (hq : q < 4) (w : World) (hl : Lim w) (hn : Nums w B n) : Calls Tryz.prog 128 #[.int .i64 q, .pointer (some ⟨B, 0, none⟩)] w fun e w' => e = .returned (.bool (inB (n q) 0 (lim q))) ∧ Below w.heap.size w w' := by
  have c1 := hn q hq
  have c2 := hl.at q hq
  have hq' : (q : Int) < 4 := by omega
  have hq0 : (0 : Int) ≤ (q : Int) := by omega
  clear hn hl
  go_enter Tryz.func128, Tryz.ntmps128
  go_wp2_with fail
  go_quiet ((go_at_call 129; exact quiet_left (within_any _ _ _ _)))
  go_wp2_with fail
  go_ret
  exact ⟨rfl, below_drewN (Below.refl _ _) _⟩
theorem checkCell1 (B : Nat) (lo hi : Nat → Int) (q : Nat) (hq : q < 4) (w : World) (hl : Lim w) (hn : Spans w B lo hi) : Calls Tryz.prog 136 #[.int .i64 q, .pointer (some ⟨B, 0, none⟩)] w fun e w' => e = .returned (.bool (okSpan (lo q) (hi q) q)) ∧ Below w.heap.size w w' := by
  obtain ⟨c1, c2⟩ := hn q hq
  clear hn
  have HL := Lib.hid hl; clear hl
  go_enter Tryz.func136, Tryz.ntmps136
  go_wp2_with fail
  refine (rightSpan_any _ _ _ hq _ HL.out).mono ?_
  rintro e w' ⟨rfl, hb⟩
  go_wp2_with fail
  go_ret
  exact ⟨rfl, hb⟩
def But (D : Nat) (W W' : World) : Prop := W'.os = W.os ∧ W'.tape = W.tape ∧ W'.output = W.output ∧ W.heap.size ≤ W'.heap.size ∧ ∀ k, k < W.heap.size → k ≠ D → W'.heap[k]? = W.heap[k]?
theorem But.of_below {D : Nat} {W W' : World} (h : Below W.heap.size W W') : But D W W' := ⟨h.os, h.tape, h.output, h.size, fun k hk _ => h.block k hk⟩
theorem But.trans {D : Nat} {A B C : World} (h : But D A B) (k : But D B C) : But D A C :=
  ⟨k.1.trans h.1, k.2.1.trans h.2.1, k.2.2.1.trans h.2.2.1, Nat.le_trans h.2.2.2.1 k.2.2.2.1, fun i hi hn => (k.2.2.2.2 i (Nat.lt_of_lt_of_le hi h.2.2.2.1) hn).trans (h.2.2.2.2 i hi hn)⟩
theorem But.setCell (D : Nat) (W : World) (o : Nat) (v : Value) : But D W (W.setCell ⟨D, o, none⟩ v) := ⟨rfl, rfl, rfl, by simp [World.setCell], fun k _ hn => Below.heap_setCell _ _ _ _ hn⟩
theorem But.drew (D : Nat) (W : World) : But D W W.drew := ⟨rfl, rfl, rfl, Nat.le_refl _, fun _ _ _ => rfl⟩
theorem every_later (g : Nat) (lb : Array Value) (eg : ∀ args w, (callFunc g args).run Tryz.prog w = .ok (.enter g args) w) (b : Nat → Bool) (w : World)
    (hstep : ∀ (q : Nat) (W : World), q < 4 → Below w.heap.size w W → Calls Tryz.prog g (#[.int .i64 (q : Int)] ++ lb) W fun e W' => e = .returned (.bool (b q)) ∧ Below W.heap.size W W') :
    Calls Tryz.prog 127 #[.func (.func g) #[] lb] w fun e w' => e = .returned (.bool (allB b)) ∧ Below w.heap.size w w' :=
  every_any g lb eg (fun W => Below w.heap.size w W) b w (fun q W hq hI => (hstep q W hq hI).mono fun _ _ ⟨he, hb⟩ => ⟨he, hI.trans (hb.mono hI.size)⟩) (Below.refl _ _)
theorem spans_of_block {W : World} {B : Nat} {lo hi : Nat → Int} {t : TypeId} (h : W.heap[B]? = some (.cells #[.int .i64 (lo 0), .int .i64 (hi 0), .int .i64 (lo 1), .int .i64 (hi 1), .int .i64 (lo 2), .int .i64 (hi 2), .int .i64 (lo 3), .int .i64 (hi 3)] t (0, 0))) : Spans W B lo hi := by
  obtain ⟨⟨c0, c1, c2, c3, c4, c5, c6, c7⟩, _⟩ := cells8 h
  intro q hq
  match q, hq with
  | 0, _ => exact ⟨c0, c1⟩
  | 1, _ => exact ⟨c2, c3⟩
  | 2, _ => exact ⟨c4, c5⟩
  | 3, _ => exact ⟨c6, c7⟩
theorem nums_of_block {W : World} {B : Nat} {n : Nat → Int} {t : TypeId} (h : W.heap[B]? = some (.cells #[.int .i64 (n 0), .int .i64 (n 1), .int .i64 (n 2), .int .i64 (n 3)] t (0, 0))) : Nums W B n := by
  obtain ⟨⟨c0, c1, c2, c3⟩, _⟩ := cells4 h
  intro q hq
  match q, hq with
  | 0, _ => exact c0
  | 1, _ => exact c1
  | 2, _ => exact c2
  | 3, _ => exact c3
theorem eg57 : ∀ args w, (callFunc 136 args).run Tryz.prog w = .ok (.enter 136 args) w := Go.Proofs.enters_of Tryz.func136 (by kernel_rfl) rfl
theorem eg62 : ∀ args w, (callFunc 128 args).run Tryz.prog w = .ok (.enter 128 args) w := Go.Proofs.enters_of Tryz.func128 (by kernel_rfl) rfl
end Go.Proofs.YtcoiklolgilhaaaGreatDoor
