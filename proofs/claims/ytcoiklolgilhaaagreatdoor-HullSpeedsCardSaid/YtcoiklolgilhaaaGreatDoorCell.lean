/- Contracts of the functions of package ice on one cell or two: CheckCell, CheckIce, CheckRates, Whole, has, inside, meet, hull, aged. Where they read the table of limits: it holds 100, 400, 100, 3. -/
import Derived.Test.YtcoiklolgilhaaaGreatDoorMem
namespace Go.Proofs.YtcoiklolgilhaaaGreatDoor
open Go.RowKit
set_option maxRecDepth 100000
def agLo (lo d : Nat → Int) (hours : Int) (q : Nat) : Int := mx (lo q - chg (d q) hours) 0
def agHi (hi u : Nat → Int) (hours : Int) (q : Nat) : Int := mn (hi q + chg (u q) hours) (lim q)
def okCell (lo hi : Nat → Int) : Bool := allB fun q => okSpan (lo q) (hi q) q
def okIce (n : Nat → Int) : Bool := allB fun q => inB (n q) 0 (lim q)
def okRates (u d : Nat → Int) : Bool := allB fun q => inB (u q) 0 1000 && inB (d q) 0 1000
def hasB (lo hi n : Nat → Int) : Bool := allB fun q => inB (n q) (lo q) (hi q)
def insideB (lo hi lo' hi' : Nat → Int) : Bool := allB fun q => inB (lo q) (lo' q) (hi' q) && inB (hi q) (lo' q) (hi' q)
/-- 0 where b holds, else the error. -/
def errB (b : Bool) (e : Int) : Int := if b = true then 0 else e
def com (lo hi lo' hi' : Nat → Int) : Nat → Bool
  | 0 => true
  | q + 1 => com lo hi lo' hi' q && decide (mx (lo q) (lo' q) ≤ mn (hi q) (hi' q))
def meetB (lo hi lo' hi' : Nat → Int) : Bool := com lo hi lo' hi' 4
theorem But.below {D B : Nat} {W W' : World} (h : But D W W') (h1 : B ≤ D) (h2 : B ≤ W.heap.size) : Below B W W' :=
  ⟨h.1, h.2.1, h.2.2.1, h.2.2.2.1, fun k hk => h.2.2.2.2 k (by omega) (by omega)⟩
/-- What a cell and rates must be like to be aged. -/
def ageOK (lo hi u d : Nat → Int) : Prop := ∀ q, q < 4 → (0 ≤ lo q ∧ lo q ≤ 400 ∧ 0 ≤ hi q ∧ hi q ≤ 400) ∧ 0 ≤ u q ∧ u q ≤ 1000 ∧ 0 ≤ d q ∧ d q ≤ 1000
theorem CheckCell_any (lo hi : Nat → Int) (w : World) (hl : Lim w) : Calls Tryz.prog 82 #[.agg #[.int .i64 (lo 0), .int .i64 (hi 0), .int .i64 (lo 1), .int .i64 (hi 1), .int .i64 (lo 2), .int .i64 (hi 2), .int .i64 (lo 3), .int .i64 (hi 3)]] w fun e w' => e = .returned (.int .i64 (errB (okCell lo hi) 20)) ∧ Below w.heap.size w w' := by
  have hpos := hl.pos
  have HL := Lib.hid hl
  clear hl
  go_enter Tryz.func82, Tryz.ntmps82
  go_wp2_with fail
  have hb0 := (Below.refl w.heap.size w).alloc (Nat.le_refl _) (.cells #[.int .i64 (lo 0), .int .i64 (hi 0), .int .i64 (lo 1), .int .i64 (hi 1), .int .i64 (lo 2), .int .i64 (hi 2), .int .i64 (lo 3), .int .i64 (hi 3)] 30)
  generalize w.alloc (.cells #[.int .i64 (lo 0), .int .i64 (hi 0), .int .i64 (lo 1), .int .i64 (hi 1), .int .i64 (lo 2), .int .i64 (hi 2), .int .i64 (lo 3), .int .i64 (hi 3)] 30) = w1 at *
  refine (spansOf_any _ _ _ _ _ _ _ _ _).mono ?_
  rintro e W1 ⟨rfl, h1⟩
  have B1 := Lib.hid (hb0.trans (h1.mono hb0.size))
  clear hb0 h1
  go_wp2_with fail
  have hA := block_new W1 (.cells #[.int .i64 (lo 0), .int .i64 (hi 0), .int .i64 (lo 1), .int .i64 (hi 1), .int .i64 (lo 2), .int .i64 (hi 2), .int .i64 (lo 3), .int .i64 (hi 3)] 198)
  have hs1 : W1.heap.size < (W1.alloc (.cells #[.int .i64 (lo 0), .int .i64 (hi 0), .int .i64 (lo 1), .int .i64 (hi 1), .int .i64 (lo 2), .int .i64 (hi 2), .int .i64 (lo 3), .int .i64 (hi 3)] 198)).heap.size := by simp
  have B2 := Lib.hid (B1.out.alloc B1.out.size (.cells #[.int .i64 (lo 0), .int .i64 (hi 0), .int .i64 (lo 1), .int .i64 (hi 1), .int .i64 (lo 2), .int .i64 (hi 2), .int .i64 (lo 3), .int .i64 (hi 3)] 198))
  generalize W1.alloc (.cells #[.int .i64 (lo 0), .int .i64 (hi 0), .int .i64 (lo 1), .int .i64 (hi 1), .int .i64 (lo 2), .int .i64 (hi 2), .int .i64 (lo 3), .int .i64 (hi 3)] 198) = W2 at *
  have hS := Lib.hid (spans_of_block hA)
  clear hA
  refine (every_later 136 _ eg57 (fun q => okSpan (lo q) (hi q) q) _ ?_).mono ?_
  · intro q W hq hW
    exact checkCell1 _ lo hi q hq W ((HL.out.below hpos B2.out).below (by have := B2.out.size; omega) hW) (spans_below hW hs1 hS.out)
  rintro e W4 ⟨rfl, h4⟩
  have H4 := Lib.hid h4
  clear h4 hs1
  have eo : allB (fun q => okSpan (lo q) (hi q) q) = okCell lo hi := rfl
  rw [eo]
  clear eo
  cases hok : okCell lo hi with
  | true =>
    have he : errB (okCell lo hi) 20 = 0 := by rw [hok]; rfl
    have HE := Lib.hid he
    clear he hok
    go_wp2_with fail
    go_ret
    exact ⟨by rw [HE.out]; rfl, B2.out.trans (H4.out.mono B2.out.size)⟩
  | false =>
    have he : errB (okCell lo hi) 20 = 20 := by rw [hok]; rfl
    have HE := Lib.hid he
    clear he hok
    go_wp2_with fail
    go_ret
    exact ⟨by rw [HE.out]; rfl, B2.out.trans (H4.out.mono B2.out.size)⟩
theorem CheckIce_any (n : Nat → Int) (w : World) (hl : Lim w) : Calls Tryz.prog 68 #[.agg #[.int .i64 (n 0), .int .i64 (n 1), .int .i64 (n 2), .int .i64 (n 3)]] w fun e w' => e = .returned (.int .i64 (errB (okIce n) 20)) ∧ Below w.heap.size w w' := by
  have hpos := hl.pos
  have HL := Lib.hid hl
  clear hl
  go_enter Tryz.func68, Tryz.ntmps68
  go_wp2_with fail
  have hb0 := (Below.refl w.heap.size w).alloc (Nat.le_refl _) (.cells #[.int .i64 (n 0), .int .i64 (n 1), .int .i64 (n 2), .int .i64 (n 3)] 26)
  generalize w.alloc (.cells #[.int .i64 (n 0), .int .i64 (n 1), .int .i64 (n 2), .int .i64 (n 3)] 26) = w1 at *
  refine (numbersOf_any _ _ _ _ _).mono ?_
  rintro e W1 ⟨rfl, h1⟩
  have B1 := Lib.hid (hb0.trans (h1.mono hb0.size))
  clear hb0 h1
  go_wp2_with fail
  have hA := block_new W1 (.cells #[.int .i64 (n 0), .int .i64 (n 1), .int .i64 (n 2), .int .i64 (n 3)] 189)
  have hs1 : W1.heap.size < (W1.alloc (.cells #[.int .i64 (n 0), .int .i64 (n 1), .int .i64 (n 2), .int .i64 (n 3)] 189)).heap.size := by simp
  have B2 := Lib.hid (B1.out.alloc B1.out.size (.cells #[.int .i64 (n 0), .int .i64 (n 1), .int .i64 (n 2), .int .i64 (n 3)] 189))
  generalize W1.alloc (.cells #[.int .i64 (n 0), .int .i64 (n 1), .int .i64 (n 2), .int .i64 (n 3)] 189) = W2 at *
  have hS := Lib.hid (nums_of_block hA)
  clear hA
  refine (every_later 128 _ eg62 (fun q => inB (n q) 0 (lim q)) _ ?_).mono ?_
  · intro q W hq hW
    exact checkIce1 _ n q hq W ((HL.out.below hpos B2.out).below (by have := B2.out.size; omega) hW) (nums_below hW hs1 hS.out)
  rintro e W4 ⟨rfl, h4⟩
  have H4 := Lib.hid h4
  clear h4 hs1
  have eo : allB (fun q => inB (n q) 0 (lim q)) = okIce n := rfl
  rw [eo]
  clear eo
  cases hok : okIce n with
  | true =>
    have he : errB (okIce n) 20 = 0 := by rw [hok]; rfl
    have HE := Lib.hid he
    clear he hok
    go_wp2_with fail
    go_ret
    exact ⟨by rw [HE.out]; rfl, B2.out.trans (H4.out.mono B2.out.size)⟩
  | false =>
    have he : errB (okIce n) 20 = 20 := by rw [hok]; rfl
    have HE := Lib.hid he
    clear he hok
    go_wp2_with fail
    go_ret
    exact ⟨by rw [HE.out]; rfl, B2.out.trans (H4.out.mono B2.out.size)⟩
end Go.Proofs.YtcoiklolgilhaaaGreatDoor
