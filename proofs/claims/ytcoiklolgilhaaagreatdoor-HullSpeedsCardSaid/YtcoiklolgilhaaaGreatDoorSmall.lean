/- Contracts of the small functions of package ice: within, inSpan, spansOf, numbersOf, change, checkHour, rightSpan. Where a function reads the table of limits: it holds 100, 400, 100, 3. -/
import Derived.Test.YtcoiklolgilhaaaGreatDoorBase
namespace Go.Proofs.YtcoiklolgilhaaaGreatDoor
open Go.RowKit
set_option maxRecDepth 100000
def Lim (w : World) : Prop := w.cell? ⟨0, 0, none⟩ = some (.int .i64 100) ∧ w.cell? ⟨0, 1, none⟩ = some (.int .i64 400) ∧ w.cell? ⟨0, 2, none⟩ = some (.int .i64 100) ∧ w.cell? ⟨0, 3, none⟩ = some (.int .i64 3)
theorem Lim.pos {w : World} (h : Lim w) : 0 < w.heap.size := by
  have h0 := h.1
  unfold World.cell? at h0
  cases hh : w.heap[0]? with
  | none => simp [hh] at h0
  | some o => exact (Array.getElem?_eq_some_iff.1 hh).1
theorem Lim.below {w w' : World} {B : Nat} (h : Lim w) (hB : 0 < B) (hb : Below B w w') : Lim w' :=
  ⟨(hb.cell (p := ⟨0, 0, none⟩) hB).trans h.1, (hb.cell (p := ⟨0, 1, none⟩) hB).trans h.2.1, (hb.cell (p := ⟨0, 2, none⟩) hB).trans h.2.2.1, (hb.cell (p := ⟨0, 3, none⟩) hB).trans h.2.2.2⟩
def lim (q : Nat) : Int := if q = 1 then 400 else if q = 3 then 3 else 100
theorem within_yes (n lo hi : Int) (w : World) (h : lo ≤ n ∧ n ≤ hi) : Calls Tryz.prog 129 #[.int .i64 n, .int .i64 lo, .int .i64 hi] w fun e w' => e = .returned (.bool true) ∧ w = w' := by
  obtain ⟨h1, h2⟩ := h
  go_enter Tryz.func129, Tryz.ntmps129
  go_wp2
  go_ret
  simp
theorem within_no (n lo hi : Int) (w : World) (h : ¬ (lo ≤ n ∧ n ≤ hi)) : Calls Tryz.prog 129 #[.int .i64 n, .int .i64 lo, .int .i64 hi] w fun e w' => e = .returned (.bool false) ∧ w = w' := by
  by_cases h1 : lo ≤ n
  · have h2 : ¬ n ≤ hi := fun h2 => h ⟨h1, h2⟩
    go_enter Tryz.func129, Tryz.ntmps129
    go_wp2
    go_ret
    simp
  · go_enter Tryz.func129, Tryz.ntmps129
    go_wp2
    go_ret
    simp
def inB (n lo hi : Int) : Bool := decide (lo ≤ n ∧ n ≤ hi)
theorem within_any (n lo hi : Int) (w : World) : Calls Tryz.prog 129 #[.int .i64 n, .int .i64 lo, .int .i64 hi] w fun e w' => e = .returned (.bool (inB n lo hi)) ∧ w = w' := by
  by_cases h : lo ≤ n ∧ n ≤ hi
  · have e : inB n lo hi = true := decide_eq_true h
    rw [e]; exact within_yes n lo hi w h
  · have e : inB n lo hi = false := decide_eq_false h
    rw [e]; exact within_no n lo hi w h
theorem spansOf_any (a b c d e f g h : Int) (w : World) : Calls Tryz.prog 135 #[.agg #[.int .i64 a, .int .i64 b, .int .i64 c, .int .i64 d, .int .i64 e, .int .i64 f, .int .i64 g, .int .i64 h]] w fun e' w' => e' = .returned (.agg #[.int .i64 a, .int .i64 b, .int .i64 c, .int .i64 d, .int .i64 e, .int .i64 f, .int .i64 g, .int .i64 h]) ∧ Below w.heap.size w w' := by
  go_enter Tryz.func135, Tryz.ntmps135
  go_wp2
  refine bodyPost_ret (v := .agg #[.int .i64 a, .int .i64 b, .int .i64 c, .int .i64 d, .int .i64 e, .int .i64 f, .int .i64 g, .int .i64 h]) ?_ rfl ⟨rfl, ?_⟩
  · simp [results, Tryz.results135, go_sem]
  · exact ((Below.refl _ _).alloc (Nat.le_refl _) _).alloc (by simp) _
theorem numbersOf_any (a b c d : Int) (w : World) : Calls Tryz.prog 126 #[.agg #[.int .i64 a, .int .i64 b, .int .i64 c, .int .i64 d]] w fun e' w' => e' = .returned (.agg #[.int .i64 a, .int .i64 b, .int .i64 c, .int .i64 d]) ∧ Below w.heap.size w w' := by
  go_enter Tryz.func126, Tryz.ntmps126
  go_wp2
  refine bodyPost_ret (v := .agg #[.int .i64 a, .int .i64 b, .int .i64 c, .int .i64 d]) ?_ rfl ⟨rfl, ?_⟩
  · simp [results, Tryz.results126, go_sem]
  · exact ((Below.refl _ _).alloc (Nat.le_refl _) _).alloc (by simp) _
def okSpan (lo hi : Int) (q : Nat) : Bool := decide (0 ≤ lo ∧ lo ≤ hi ∧ hi ≤ lim q)
theorem below_drewN {B : Nat} {a w : World} (h : Below B a w) (q : Nat) : Below B a (w.drewN q) := ⟨h.os, h.tape, h.output, h.size, h.block⟩
theorem rightSpan_c (lo hi : Int) (q : Nat) (b : Bool) (hq : q < 4) (w : World) (hl : Lim w) (hb : b = okSpan lo hi q) : Calls Tryz.prog 137 #[.agg #[.int .i64 lo, .int .i64 hi], .int .i64 q] w fun e w' => e = .returned (.bool b) ∧ Below w.heap.size w w' := by
  have hpos := hl.pos
  obtain ⟨l0, l1, l2, l3⟩ := hl
  by_cases h1 : 0 ≤ lo
  · by_cases h2 : lo ≤ hi
    · match q, hq with
      | 0, _ =>
        by_cases h3 : hi ≤ 100
        · have e : b = true := by rw [hb]; exact decide_eq_true ⟨h1, h2, h3⟩
          subst e
          clear hb
          go_enter Tryz.func137, Tryz.ntmps137
          go_wp2
          go_quiet (fail)
          go_wp2
          go_ret
          exact ⟨rfl, below_drewN ((Below.refl _ _).alloc (Nat.le_refl _) _) _⟩
        · have e : b = false := by rw [hb]; exact decide_eq_false (fun h => h3 h.2.2)
          subst e
          clear hb
          have hd : decide (hi ≤ 100) = false := decide_eq_false h3
          go_enter Tryz.func137, Tryz.ntmps137
          go_wp2
          go_quiet (fail)
          go_wp2
          go_ret
          exact ⟨rfl, below_drewN ((Below.refl _ _).alloc (Nat.le_refl _) _) _⟩
      | 1, _ =>
        by_cases h3 : hi ≤ 400
        · have e : b = true := by rw [hb]; exact decide_eq_true ⟨h1, h2, h3⟩
          subst e
          clear hb
          go_enter Tryz.func137, Tryz.ntmps137
          go_wp2
          go_quiet (fail)
          go_wp2
          go_ret
          exact ⟨rfl, below_drewN ((Below.refl _ _).alloc (Nat.le_refl _) _) _⟩
        · have e : b = false := by rw [hb]; exact decide_eq_false (fun h => h3 h.2.2)
          subst e
          clear hb
          have hd : decide (hi ≤ 400) = false := decide_eq_false h3
          go_enter Tryz.func137, Tryz.ntmps137
          go_wp2
          go_quiet (fail)
          go_wp2
          go_ret
          exact ⟨rfl, below_drewN ((Below.refl _ _).alloc (Nat.le_refl _) _) _⟩
      | 2, _ =>
        by_cases h3 : hi ≤ 100
        · have e : b = true := by rw [hb]; exact decide_eq_true ⟨h1, h2, h3⟩
          subst e
          clear hb
          go_enter Tryz.func137, Tryz.ntmps137
          go_wp2
          go_quiet (fail)
          go_wp2
          go_ret
          exact ⟨rfl, below_drewN ((Below.refl _ _).alloc (Nat.le_refl _) _) _⟩
        · have e : b = false := by rw [hb]; exact decide_eq_false (fun h => h3 h.2.2)
          subst e
          clear hb
          have hd : decide (hi ≤ 100) = false := decide_eq_false h3
          go_enter Tryz.func137, Tryz.ntmps137
          go_wp2
          go_quiet (fail)
          go_wp2
          go_ret
          exact ⟨rfl, below_drewN ((Below.refl _ _).alloc (Nat.le_refl _) _) _⟩
      | 3, _ =>
        by_cases h3 : hi ≤ 3
        · have e : b = true := by rw [hb]; exact decide_eq_true ⟨h1, h2, h3⟩
          subst e
          clear hb
          go_enter Tryz.func137, Tryz.ntmps137
          go_wp2
          go_quiet (fail)
          go_wp2
          go_ret
          exact ⟨rfl, below_drewN ((Below.refl _ _).alloc (Nat.le_refl _) _) _⟩
        · have e : b = false := by rw [hb]; exact decide_eq_false (fun h => h3 h.2.2)
          subst e
          clear hb
          have hd : decide (hi ≤ 3) = false := decide_eq_false h3
          go_enter Tryz.func137, Tryz.ntmps137
          go_wp2
          go_quiet (fail)
          go_wp2
          go_ret
          exact ⟨rfl, below_drewN ((Below.refl _ _).alloc (Nat.le_refl _) _) _⟩
    · have e : b = false := by rw [hb]; exact decide_eq_false (by omega)
      subst e
      clear hb
      have hd : decide (lo ≤ hi) = false := decide_eq_false h2
      go_enter Tryz.func137, Tryz.ntmps137
      go_wp2
      go_quiet (fail)
      go_wp2
      go_ret
      exact ⟨rfl, below_drewN ((Below.refl _ _).alloc (Nat.le_refl _) _) _⟩
  · have e : b = false := by rw [hb]; exact decide_eq_false (by omega)
    subst e
    clear hb
    have hd : decide (0 ≤ lo) = false := decide_eq_false h1
    go_enter Tryz.func137, Tryz.ntmps137
    go_wp2
    go_quiet (fail)
    go_wp2
    go_ret
    exact ⟨rfl, below_drewN ((Below.refl _ _).alloc (Nat.le_refl _) _) _⟩
theorem rightSpan_any (lo hi : Int) (q : Nat) (hq : q < 4) (w : World) (hl : Lim w) : Calls Tryz.prog 137 #[.agg #[.int .i64 lo, .int .i64 hi], .int .i64 q] w fun e w' => e = .returned (.bool (okSpan lo hi q)) ∧ Below w.heap.size w w' :=
  rightSpan_c lo hi q _ hq w hl rfl
end Go.Proofs.YtcoiklolgilhaaaGreatDoor
