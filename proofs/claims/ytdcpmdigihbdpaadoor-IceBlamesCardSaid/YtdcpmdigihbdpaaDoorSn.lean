/- The contracts of ice.Hull, Meet, Inside, with their errors. The table of limits holds 100, 400, 100, 3. -/
import Derived.Test.YtdcpmdigihbdpaaDoorRp
import Derived.Test.YtdcpmdigihbdpaaDoorRz
namespace Go.Proofs.YtdcpmdigihbdpaaDoor
open Go.RowKit
set_option maxRecDepth 100000
/-- Two numbers' greater ones, and lesser ones, quantity by quantity. -/
def mxF (a b : Nat → Int) (q : Nat) : Int := mx (a q) (b q)
def mnF (a b : Nat → Int) (q : Nat) : Int := mn (a q) (b q)
def sameF (a b : Nat → Int) : Bool := allB fun q => a q == b q
def sameB (lo hi lo' hi' : Nat → Int) : Bool := allB fun q => lo q == lo' q && hi q == hi' q
theorem mxF_comm (a b : Nat → Int) : mxF a b = mxF b a := funext fun q => by unfold mxF mx; omega
theorem mnF_comm (a b : Nat → Int) : mnF a b = mnF b a := funext fun q => by unfold mnF mn; omega
theorem mxF_own (a : Nat → Int) : mxF a a = a := funext fun q => by unfold mxF mx; omega
theorem mnF_own (a : Nat → Int) : mnF a a = a := funext fun q => by unfold mnF mn; omega
theorem mxF_assoc (a b c : Nat → Int) : mxF (mxF a b) c = mxF a (mxF b c) := funext fun q => by unfold mxF mx; omega
theorem mnF_assoc (a b c : Nat → Int) : mnF (mnF a b) c = mnF a (mnF b c) := funext fun q => by unfold mnF mn; omega
theorem allB_iff (f : Nat → Bool) : allB f = true ↔ ∀ q, q < 4 → f q = true := by
  unfold allB
  simp only [Bool.and_eq_true]
  constructor
  · rintro ⟨⟨⟨h0, h1⟩, h2⟩, h3⟩ q hq
    match q, hq with
    | 0, _ => exact h0
    | 1, _ => exact h1
    | 2, _ => exact h2
    | 3, _ => exact h3
  · intro h
    exact ⟨⟨⟨h 0 (by decide), h 1 (by decide)⟩, h 2 (by decide)⟩, h 3 (by decide)⟩
theorem meetB_iff (lo hi lo' hi' : Nat → Int) : meetB lo hi lo' hi' = true ↔ ∀ q, q < 4 → mx (lo q) (lo' q) ≤ mn (hi q) (hi' q) := by
  unfold meetB com com com com com
  simp only [Bool.and_eq_true, decide_eq_true_eq, true_and]
  constructor
  · rintro ⟨⟨⟨h0, h1⟩, h2⟩, h3⟩ q hq
    match q, hq with
    | 0, _ => exact h0
    | 1, _ => exact h1
    | 2, _ => exact h2
    | 3, _ => exact h3
  · intro h
    exact ⟨⟨⟨h 0 (by decide), h 1 (by decide)⟩, h 2 (by decide)⟩, h 3 (by decide)⟩
theorem okCell_iff (lo hi : Nat → Int) : okCell lo hi = true ↔ ∀ q, q < 4 → 0 ≤ lo q ∧ lo q ≤ hi q ∧ hi q ≤ lim q := by
  unfold okCell okSpan
  rw [allB_iff]
  simp only [decide_eq_true_eq]
theorem insideB_iff (lo hi lo' hi' : Nat → Int) : insideB lo hi lo' hi' = true ↔ ∀ q, q < 4 → (lo' q ≤ lo q ∧ lo q ≤ hi' q) ∧ lo' q ≤ hi q ∧ hi q ≤ hi' q := by
  unfold insideB inB
  rw [allB_iff]
  simp only [decide_eq_true_eq, Bool.and_eq_true]
theorem hasB_iff (lo hi n : Nat → Int) : hasB lo hi n = true ↔ ∀ q, q < 4 → lo q ≤ n q ∧ n q ≤ hi q := by
  unfold hasB inB
  rw [allB_iff]
  simp only [decide_eq_true_eq]
theorem sameB_iff (lo hi lo' hi' : Nat → Int) : sameB lo hi lo' hi' = true ↔ ∀ q, q < 4 → lo q = lo' q ∧ hi q = hi' q := by
  unfold sameB
  rw [allB_iff]
  simp only [Bool.and_eq_true, beq_iff_eq]
theorem sameB_own (lo hi : Nat → Int) : sameB lo hi lo hi = true := (sameB_iff _ _ _ _).2 fun _ _ => ⟨rfl, rfl⟩
theorem meetB_comm (lo hi lo' hi' : Nat → Int) : meetB lo hi lo' hi' = meetB lo' hi' lo hi := by
  rw [Bool.eq_iff_iff, meetB_iff, meetB_iff]
  constructor <;> intro h q hq <;> have := h q hq <;> unfold mx mn at * <;> omega
theorem meetB_own {lo hi : Nat → Int} (h : okCell lo hi = true) : meetB lo hi lo hi = true := by
  rw [meetB_iff]
  rw [okCell_iff] at h
  intro q hq
  have := h q hq
  unfold mx mn
  omega
theorem meet_ok {lo hi lo' hi' : Nat → Int} (h : okCell lo hi = true) (h' : okCell lo' hi' = true) (hm : meetB lo hi lo' hi' = true) : okCell (mxF lo lo') (mnF hi hi') = true := by
  rw [okCell_iff] at *
  rw [meetB_iff] at hm
  intro q hq
  have a := h q hq
  have b := h' q hq
  have c := hm q hq
  unfold mxF mnF mx mn at *
  omega
theorem hull_ok {lo hi lo' hi' : Nat → Int} (h : okCell lo hi = true) (h' : okCell lo' hi' = true) : okCell (mnF lo lo') (mxF hi hi') = true := by
  rw [okCell_iff] at *
  intro q hq
  have a := h q hq
  have b := h' q hq
  unfold mxF mnF mx mn
  omega
/-- A cell is inside another one just if it is what both have. -/
theorem inside_meet {lo hi lo' hi' : Nat → Int} (h : okCell lo hi = true) : insideB lo hi lo' hi' = (meetB lo hi lo' hi' && sameB (mxF lo lo') (mnF hi hi') lo hi) := by
  rw [okCell_iff] at h
  rw [Bool.eq_iff_iff, Bool.and_eq_true, insideB_iff, meetB_iff, sameB_iff]
  constructor
  · intro k
    refine ⟨fun q hq => ?_, fun q hq => ?_⟩ <;> have a := h q hq <;> have b := k q hq <;> (try unfold mxF mnF) <;> unfold mx mn <;> omega
  · rintro ⟨k, l⟩ q hq
    have a := h q hq
    have b := k q hq
    have c := l q hq
    unfold mxF mnF mx mn at *
    omega
theorem inside_hull {lo hi lo' hi' : Nat → Int} (h : okCell lo hi = true) (h' : okCell lo' hi' = true) : insideB lo hi lo' hi' = sameB (mnF lo lo') (mxF hi hi') lo' hi' := by
  rw [okCell_iff] at h h'
  rw [Bool.eq_iff_iff, insideB_iff, sameB_iff]
  constructor
  · intro k q hq
    have a := h q hq
    have b := k q hq
    unfold mxF mnF mx mn at *
    omega
  · intro k q hq
    have a := h q hq
    have b := k q hq
    have c := h' q hq
    unfold mxF mnF mx mn at *
    omega
/-- In one order and in the other one: whether three cells have ice in common. -/
theorem meet_assoc {l1 h1 l2 h2 l3 h3 : Nat → Int} : (meetB l1 h1 l2 h2 && meetB (mxF l1 l2) (mnF h1 h2) l3 h3) = (meetB l2 h2 l3 h3 && meetB l1 h1 (mxF l2 l3) (mnF h2 h3)) := by
  rw [Bool.eq_iff_iff, Bool.and_eq_true, Bool.and_eq_true, meetB_iff, meetB_iff, meetB_iff, meetB_iff]
  constructor
  · rintro ⟨k, l⟩
    refine ⟨fun q hq => ?_, fun q hq => ?_⟩ <;> have a := k q hq <;> have b := l q hq <;> (try unfold mxF mnF at *) <;> unfold mx mn at * <;> omega
  · rintro ⟨k, l⟩
    refine ⟨fun q hq => ?_, fun q hq => ?_⟩ <;> have a := k q hq <;> have b := l q hq <;> (try unfold mxF mnF at *) <;> unfold mx mn at * <;> omega
theorem has_meet {l1 h1 l2 h2 n : Nat → Int} : hasB (mxF l1 l2) (mnF h1 h2) n = (hasB l1 h1 n && hasB l2 h2 n) := by
  rw [Bool.eq_iff_iff, Bool.and_eq_true, hasB_iff, hasB_iff, hasB_iff]
  constructor
  · intro k
    refine ⟨fun q hq => ?_, fun q hq => ?_⟩ <;> have a := k q hq <;> unfold mxF mnF mx mn at * <;> omega
  · rintro ⟨k, l⟩ q hq
    have a := k q hq
    have b := l q hq
    unfold mxF mnF mx mn
    omega
theorem has_none {l1 h1 l2 h2 n : Nat → Int} (h : meetB l1 h1 l2 h2 = false) : (hasB l1 h1 n && hasB l2 h2 n) = false := by
  rw [Bool.eq_false_iff, Ne, Bool.and_eq_true, hasB_iff, hasB_iff]
  rintro ⟨k, l⟩
  rw [Bool.eq_false_iff, Ne, meetB_iff] at h
  refine h fun q hq => ?_
  have a := k q hq
  have b := l q hq
  unfold mx mn
  omega
theorem fw72_any (B n cap : Nat) (CL CH : Nat → Nat → Int) (hn : n ≤ 5000) (w : World) (hl : Lim w) (hb : B < w.heap.size) (hc : CellsAt w B n CL CH) :
    Calls Tryd.prog 72 #[.slice (some ⟨B, 0, none⟩) n cap, .func (.func 11) #[] #[]] w fun e w' => e = .returned (.int .i64 (fwE (fun k => errB (okCell (CL k) (CH k)) 20) n)) ∧ Below w.heap.size w w' := by
  have hpos := hl.pos
  have HL := Lib.hid hl
  have HC := Lib.hid hc
  clear hl hc
  go_enter Tryd.func72, Tryd.ntmps72
  go_wp2_with fail
  go_loopw [10] (fun i wr => ∃ k : Nat, k ≤ n ∧ i = .int .i64 k ∧ Hid (Zer (fun k => errB (okCell (CL k) (CH k)) 20) k) ∧ Hid (Below w.heap.size w wr)) (fun i _ => n - (intOf i).toNat)
  case atStart => exact ⟨0, by omega, rfl, fun j hj => by omega, Lib.hid (Below.refl _ _)⟩
  case round =>
    obtain ⟨k, hk, rfl, hz, hB⟩ := hrel
    by_cases hlt : k < n
    · obtain ⟨c0, c1, c2, c3, c4, c5, c6, c7⟩ := HC.out.below hb hB.out k hlt
      have hkn : (k : Int) < (n : Int) := by omega
      have hk0 : (0 : Int) ≤ (k : Int) := by omega
      have KB := Lib.hid (hB.out.alloc hB.out.size (.cells (cellA (CL k) (CH k)) 32))
      go_wp2_with fail
      clear c0 c1 c2 c3 c4 c5 c6 c7
      refine (CheckCell_any (CL k) (CH k) _ (HL.out.below hpos KB.out)).mono ?_
      rintro e W' ⟨rfl, hb'⟩
      have LB := Lib.hid (KB.out.trans (hb'.mono KB.out.size))
      clear hb' KB
      cases hE : okCell (CL k) (CH k) with
      | true =>
        have HE := Lib.hid (show errB (okCell (CL k) (CH k)) 20 = 0 by rw [hE]; rfl)
        clear hE
        simp only [errB, if_true]
        go_wp2_with fail
        go_roundw
        case rel => exact ⟨k + 1, by omega, by go_num, fun j hj => by by_cases e : j = k; (· rw [e]; exact HE.out); (· exact hz.out j (by omega)), LB⟩
        case measure => simp [intOf]; omega
      | false =>
        have HE := Lib.hid (show errB (okCell (CL k) (CH k)) 20 = 20 by rw [hE]; rfl)
        clear hE
        have HF := Lib.hid ((fwE_at (k := k) hz.out (by show errB (okCell (CL k) (CH k)) 20 ≠ 0; rw [HE.out]; decide) n hlt).trans HE.out)
        simp only [errB, Bool.false_eq_true, if_false]
        go_wp2_with fail
        go_ret
        exact ⟨by rw [HF.out]; rfl, LB.out⟩
    · obtain rfl : k = n := by omega
      have HF := Lib.hid (fwE_zero hz.out)
      go_wp2_with fail
      go_ret
      exact ⟨by rw [HF.out]; rfl, hB.out⟩
def two (f g : Nat → Int) (k : Nat) : Nat → Int := if k = 0 then f else g
def twoE (lo hi lo' hi' : Nat → Int) : Int := errB (okCell lo hi && okCell lo' hi') 20
theorem fw_two (lo hi lo' hi' : Nat → Int) : fwE (fun k => errB (okCell (two lo lo' k) (two hi hi' k)) 20) 2 = twoE lo hi lo' hi' := by
  have h0 : fwE (fun k => errB (okCell (two lo lo' k) (two hi hi' k)) 20) 2 = if errB (okCell lo hi) 20 = 0 then errB (okCell lo' hi') 20 else errB (okCell lo hi) 20 := rfl
  rw [h0]
  unfold twoE errB
  cases okCell lo hi <;> cases okCell lo' hi' <;> rfl
abbrev cells16 (lo hi lo' hi' : Nat → Int) : Array Value := #[.int .i64 (lo 0), .int .i64 (hi 0), .int .i64 (lo 1), .int .i64 (hi 1), .int .i64 (lo 2), .int .i64 (hi 2), .int .i64 (lo 3), .int .i64 (hi 3), .int .i64 (lo' 0), .int .i64 (hi' 0), .int .i64 (lo' 1), .int .i64 (hi' 1), .int .i64 (lo' 2), .int .i64 (hi' 2), .int .i64 (lo' 3), .int .i64 (hi' 3)]
theorem cellsAt_two {W : World} {B : Nat} {lo hi lo' hi' : Nat → Int} {t : TypeId} (h : W.heap[B]? = some (.cells (cells16 lo hi lo' hi') t (0, 0))) : CellsAt W B 2 (two lo lo') (two hi hi') := by
  have hc := cell_of_block h
  intro i hi
  match i, hi with
  | 0, _ => exact ⟨(hc 0).trans rfl, (hc 1).trans rfl, (hc 2).trans rfl, (hc 3).trans rfl, (hc 4).trans rfl, (hc 5).trans rfl, (hc 6).trans rfl, (hc 7).trans rfl⟩
  | 1, _ => exact ⟨(hc 8).trans rfl, (hc 9).trans rfl, (hc 10).trans rfl, (hc 11).trans rfl, (hc 12).trans rfl, (hc 13).trans rfl, (hc 14).trans rfl, (hc 15).trans rfl⟩
theorem fw72_two (lo hi lo' hi' : Nat → Int) (V : World) (B : Nat) (hB : V.heap.size = B) (hl : Lim V) :
    Calls Tryd.prog 72 #[.slice (some ⟨B, 0, none⟩) 2 2, .func (.func 11) #[] #[]] (V.alloc (.cells (cells16 lo hi lo' hi') 32)) fun e w' => e = .returned (.int .i64 (twoE lo hi lo' hi')) ∧ Below V.heap.size V w' := by
  subst hB
  have hb : Below V.heap.size V (V.alloc (.cells (cells16 lo hi lo' hi') 32)) := (Below.refl _ _).alloc (Nat.le_refl _) _
  refine (fw72_any V.heap.size 2 2 (two lo lo') (two hi hi') (by decide) _ (hl.below hl.pos hb) (by simp) (cellsAt_two (block_new V _))).mono ?_
  rintro e w' ⟨rfl, h⟩
  rw [fw_two]
  exact ⟨rfl, hb.trans (h.mono hb.size)⟩
def hullRes (lo hi lo' hi' : Nat → Int) : Value := if twoE lo hi lo' hi' = 0 then .tuple #[.agg (cellA (mnF lo lo') (mxF hi hi')), .int .i64 0] else .tuple #[.agg zero8, .int .i64 (twoE lo hi lo' hi')]
def insideRes (lo hi lo' hi' : Nat → Int) : Value := if twoE lo hi lo' hi' = 0 then .tuple #[.bool (insideB lo hi lo' hi'), .int .i64 0] else .tuple #[.bool false, .int .i64 (twoE lo hi lo' hi')]
def meetRes (lo hi lo' hi' : Nat → Int) : Value := if twoE lo hi lo' hi' = 0 then (if meetB lo hi lo' hi' = true then .tuple #[.agg (cellA (mxF lo lo') (mnF hi hi')), .int .i64 0] else .tuple #[.agg zero8, .int .i64 21]) else .tuple #[.agg zero8, .int .i64 (twoE lo hi lo' hi')]
set_option maxHeartbeats 2000000 in
theorem Hull_any (lo hi lo' hi' : Nat → Int) (w : World) (hl : Lim w) : Calls Tryd.prog 26 #[.agg (cellA lo hi), .agg (cellA lo' hi')] w fun e w' => e = .returned (hullRes lo hi lo' hi') ∧ Below w.heap.size w w' := by
  have hpos := hl.pos
  have HL := Lib.hid hl
  clear hl
  go_enter Tryd.func26, Tryd.ntmps26
  obtain ⟨a1, a2, a3, a4, a5⟩ := three_allocs w (.cells (cellA lo hi) 32) (.cells (cellA lo' hi') 32) (.cells zero8 32)
  have A1 := Lib.hid a1
  have A2 := Lib.hid a2
  have A3 := Lib.hid a3
  have AB := Lib.hid a5
  have c := (cells8 a1).1
  have d := (cells8 a2).1
  obtain ⟨c0, c1, c2, c3, c4, c5, c6, c7⟩ := c
  obtain ⟨d0, d1, d2, d3, d4, d5, d6, d7⟩ := d
  clear a1 a2 a3 a5
  go_wp2_with fail
  clear c0 c1 c2 c3 c4 c5 c6 c7 d0 d1 d2 d3 d4 d5 d6 d7
  generalize ((w.alloc (.cells (cellA lo hi) 32)).alloc (.cells (cellA lo' hi') 32)).alloc (.cells zero8 32) = V at *
  refine (fw72_two lo hi lo' hi' V _ a4 (HL.out.below hpos AB.out)).mono ?_
  rintro e X ⟨rfl, hX⟩
  have hz := hX.size
  have b1 := (hX.block w.heap.size (by omega)).trans A1.out
  have b2 := (hX.block (w.heap.size + 1) (by omega)).trans A2.out
  have B3 := Lib.hid ((hX.block (w.heap.size + 1 + 1) (by omega)).trans A3.out)
  have BB := Lib.hid (AB.out.trans (hX.mono AB.out.size))
  clear hX A1 A2 A3 AB
  by_cases hE : twoE lo hi lo' hi' = 0
  · have HR := Lib.hid (show hullRes lo hi lo' hi' = .tuple #[.agg (cellA (mnF lo lo') (mxF hi hi')), .int .i64 0] by unfold hullRes; rw [if_pos hE])
    have c := (cells8 b1).1
    have d := (cells8 b2).1
    obtain ⟨c0, c1, c2, c3, c4, c5, c6, c7⟩ := c
    obtain ⟨d0, d1, d2, d3, d4, d5, d6, d7⟩ := d
    clear b1 b2
    go_wp2_with fail
    refine (hull_any lo hi lo' hi' X).mono ?_
    rintro e W1 ⟨rfl, hb1⟩
    have C3 := Lib.hid ((hb1.block (w.heap.size + 1 + 1) (by omega)).trans B3.out)
    have CB := Lib.hid (BB.out.trans (hb1.mono BB.out.size))
    clear hb1 c0 c1 c2 c3 c4 c5 c6 c7 d0 d1 d2 d3 d4 d5 d6 d7 B3 BB
    go_wp2_with (refine list_store8 rfl rfl rfl (.inl rfl) rfl rfl C3.out ?_; intro W6 h6 hc6)
    obtain ⟨⟨g0, g1, g2, g3, g4, g5, g6, g7⟩, _⟩ := cells8 h6
    refine bodyPost_ret (v := .tuple #[.agg (cellA (mnF lo lo') (mxF hi hi')), .int .i64 0]) ?_ rfl ⟨by rw [HR.out], CB.out.trans (hc6.below (by omega))⟩
    simp [results, Tryd.results26, go_sem, g0, g1, g2, g3, g4, g5, g6, g7, mnF, mxF]
  · have HR := Lib.hid (show hullRes lo hi lo' hi' = .tuple #[.agg zero8, .int .i64 (twoE lo hi lo' hi')] by unfold hullRes; rw [if_neg hE])
    clear b1 b2
    go_wp2_with (refine list_store8 rfl rfl rfl (.inl rfl) rfl rfl B3.out ?_; intro W6 h6 hc6)
    obtain ⟨⟨g0, g1, g2, g3, g4, g5, g6, g7⟩, _⟩ := cells8 h6
    refine bodyPost_ret (v := .tuple #[.agg zero8, .int .i64 (twoE lo hi lo' hi')]) ?_ rfl ⟨by rw [HR.out], BB.out.trans (hc6.below (by omega))⟩
    simp [results, Tryd.results26, go_sem, g0, g1, g2, g3, g4, g5, g6, g7]
set_option maxHeartbeats 2000000 in
theorem Meet_any (lo hi lo' hi' : Nat → Int) (w : World) (hl : Lim w) : Calls Tryd.prog 24 #[.agg (cellA lo hi), .agg (cellA lo' hi')] w fun e w' => e = .returned (meetRes lo hi lo' hi') ∧ Below w.heap.size w w' := by
  have hpos := hl.pos
  have HL := Lib.hid hl
  clear hl
  go_enter Tryd.func24, Tryd.ntmps24
  obtain ⟨a1, a2, a3, a4, a5⟩ := three_allocs w (.cells (cellA lo hi) 32) (.cells (cellA lo' hi') 32) (.cells zero8 32)
  have A1 := Lib.hid a1
  have A2 := Lib.hid a2
  have A3 := Lib.hid a3
  have AB := Lib.hid a5
  have c := (cells8 a1).1
  have d := (cells8 a2).1
  obtain ⟨c0, c1, c2, c3, c4, c5, c6, c7⟩ := c
  obtain ⟨d0, d1, d2, d3, d4, d5, d6, d7⟩ := d
  clear a1 a2 a3 a5
  go_wp2_with fail
  clear c0 c1 c2 c3 c4 c5 c6 c7 d0 d1 d2 d3 d4 d5 d6 d7
  generalize ((w.alloc (.cells (cellA lo hi) 32)).alloc (.cells (cellA lo' hi') 32)).alloc (.cells zero8 32) = V at *
  refine (fw72_two lo hi lo' hi' V _ a4 (HL.out.below hpos AB.out)).mono ?_
  rintro e X ⟨rfl, hX⟩
  have hz := hX.size
  have b1 := (hX.block w.heap.size (by omega)).trans A1.out
  have b2 := (hX.block (w.heap.size + 1) (by omega)).trans A2.out
  have B3 := Lib.hid ((hX.block (w.heap.size + 1 + 1) (by omega)).trans A3.out)
  have BB := Lib.hid (AB.out.trans (hX.mono AB.out.size))
  clear hX A1 A2 A3 AB
  by_cases hE : twoE lo hi lo' hi' = 0
  · have HE := Lib.hid hE
    have c := (cells8 b1).1
    have d := (cells8 b2).1
    obtain ⟨c0, c1, c2, c3, c4, c5, c6, c7⟩ := c
    obtain ⟨d0, d1, d2, d3, d4, d5, d6, d7⟩ := d
    clear b1 b2
    go_wp2_with fail
    refine (meet_any lo hi lo' hi' X).mono ?_
    rintro e W1 ⟨rfl, hb1⟩
    have C3 := Lib.hid ((hb1.block (w.heap.size + 1 + 1) (by omega)).trans B3.out)
    have CB := Lib.hid (BB.out.trans (hb1.mono BB.out.size))
    have z1 := hb1.size
    clear hb1 c0 c1 c2 c3 c4 c5 c6 c7 d0 d1 d2 d3 d4 d5 d6 d7 B3 BB hE
    have bal := Below.heap_alloc W1 (.cells (cellA (mxF lo lo') (mnF hi hi')) 32)
    have D3 := Lib.hid ((bal (w.heap.size + 1 + 1) (by omega)).trans C3.out)
    have DB := Lib.hid (CB.out.alloc CB.out.size (.cells (cellA (mxF lo lo') (mnF hi hi')) 32))
    clear bal C3 CB
    cases hM : meetB lo hi lo' hi' with
    | true =>
      have HR := Lib.hid (show meetRes lo hi lo' hi' = .tuple #[.agg (cellA (mxF lo lo') (mnF hi hi')), .int .i64 0] by unfold meetRes; rw [if_pos HE.out, hM]; rfl)
      clear hM
      go_wp2_with (refine list_store8 (y0 := mxF lo lo' 0) (y1 := mnF hi hi' 0) (y2 := mxF lo lo' 1) (y3 := mnF hi hi' 1) (y4 := mxF lo lo' 2) (y5 := mnF hi hi' 2) (y6 := mxF lo lo' 3) (y7 := mnF hi hi' 3) rfl rfl rfl (.inl rfl) rfl rfl D3.out ?_; intro W6 h6 hc6)
      obtain ⟨⟨g0, g1, g2, g3, g4, g5, g6, g7⟩, _⟩ := cells8 h6
      refine bodyPost_ret (v := .tuple #[.agg (cellA (mxF lo lo') (mnF hi hi')), .int .i64 0]) ?_ rfl ⟨by rw [HR.out], DB.out.trans (hc6.below (by omega))⟩
      simp [results, Tryd.results24, go_sem, g0, g1, g2, g3, g4, g5, g6, g7]
    | false =>
      have HR := Lib.hid (show meetRes lo hi lo' hi' = .tuple #[.agg zero8, .int .i64 21] by unfold meetRes; rw [if_pos HE.out, hM]; rfl)
      clear hM
      go_wp2_with (refine list_store8 rfl rfl rfl (.inl rfl) rfl rfl D3.out ?_; intro W6 h6 hc6)
      obtain ⟨⟨g0, g1, g2, g3, g4, g5, g6, g7⟩, _⟩ := cells8 h6
      refine bodyPost_ret (v := .tuple #[.agg zero8, .int .i64 21]) ?_ rfl ⟨by rw [HR.out], DB.out.trans (hc6.below (by omega))⟩
      simp [results, Tryd.results24, go_sem, g0, g1, g2, g3, g4, g5, g6, g7]
  · have HR := Lib.hid (show meetRes lo hi lo' hi' = .tuple #[.agg zero8, .int .i64 (twoE lo hi lo' hi')] by unfold meetRes; rw [if_neg hE])
    clear b1 b2
    go_wp2_with (refine list_store8 rfl rfl rfl (.inl rfl) rfl rfl B3.out ?_; intro W6 h6 hc6)
    obtain ⟨⟨g0, g1, g2, g3, g4, g5, g6, g7⟩, _⟩ := cells8 h6
    refine bodyPost_ret (v := .tuple #[.agg zero8, .int .i64 (twoE lo hi lo' hi')]) ?_ rfl ⟨by rw [HR.out], BB.out.trans (hc6.below (by omega))⟩
    simp [results, Tryd.results24, go_sem, g0, g1, g2, g3, g4, g5, g6, g7]
set_option maxHeartbeats 2000000 in
theorem Inside_any (lo hi lo' hi' : Nat → Int) (w : World) (hl : Lim w) : Calls Tryd.prog 22 #[.agg (cellA lo hi), .agg (cellA lo' hi')] w fun e w' => e = .returned (insideRes lo hi lo' hi') ∧ Below w.heap.size w w' := by
  have hpos := hl.pos
  have HL := Lib.hid hl
  clear hl
  go_enter Tryd.func22, Tryd.ntmps22
  obtain ⟨a1, a2, a4, a5⟩ := two_allocs w (.cells (cellA lo hi) 32) (.cells (cellA lo' hi') 32)
  have A1 := Lib.hid a1
  have A2 := Lib.hid a2
  have AB := Lib.hid a5
  have c := (cells8 a1).1
  have d := (cells8 a2).1
  obtain ⟨c0, c1, c2, c3, c4, c5, c6, c7⟩ := c
  obtain ⟨d0, d1, d2, d3, d4, d5, d6, d7⟩ := d
  clear a1 a2 a5
  go_wp2_with fail
  clear c0 c1 c2 c3 c4 c5 c6 c7 d0 d1 d2 d3 d4 d5 d6 d7
  generalize (w.alloc (.cells (cellA lo hi) 32)).alloc (.cells (cellA lo' hi') 32) = V at *
  refine (fw72_two lo hi lo' hi' V _ a4 (HL.out.below hpos AB.out)).mono ?_
  rintro e X ⟨rfl, hX⟩
  have hz := hX.size
  have b1 := (hX.block w.heap.size (by omega)).trans A1.out
  have b2 := (hX.block (w.heap.size + 1) (by omega)).trans A2.out
  have BB := Lib.hid (AB.out.trans (hX.mono AB.out.size))
  clear hX A1 A2 AB
  by_cases hE : twoE lo hi lo' hi' = 0
  · have HR := Lib.hid (show insideRes lo hi lo' hi' = .tuple #[.bool (insideB lo hi lo' hi'), .int .i64 0] by unfold insideRes; rw [if_pos hE])
    have c := (cells8 b1).1
    have d := (cells8 b2).1
    obtain ⟨c0, c1, c2, c3, c4, c5, c6, c7⟩ := c
    obtain ⟨d0, d1, d2, d3, d4, d5, d6, d7⟩ := d
    clear b1 b2
    go_wp2_with fail
    refine (inside_any lo hi lo' hi' X).mono ?_
    rintro e W1 ⟨rfl, hb1⟩
    have CB := Lib.hid (BB.out.trans (hb1.mono BB.out.size))
    clear hb1 c0 c1 c2 c3 c4 c5 c6 c7 d0 d1 d2 d3 d4 d5 d6 d7 BB
    go_wp2_with fail
    refine bodyPost_ret (v := .tuple #[.bool (insideB lo hi lo' hi'), .int .i64 0]) ?_ rfl ⟨by rw [HR.out], CB.out⟩
    simp [results, Tryd.results22, go_sem]
  · have HR := Lib.hid (show insideRes lo hi lo' hi' = .tuple #[.bool false, .int .i64 (twoE lo hi lo' hi')] by unfold insideRes; rw [if_neg hE])
    clear b1 b2
    go_wp2_with fail
    refine bodyPost_ret (v := .tuple #[.bool false, .int .i64 (twoE lo hi lo' hi')]) ?_ rfl ⟨by rw [HR.out], BB.out⟩
    simp [results, Tryd.results22, go_sem]
end Go.Proofs.YtdcpmdigihbdpaaDoor
