/- The contract of hull.checkParts: at most a million parts. The table of limits holds its numbers. -/
import Derived.Test.YtcoiklolgilhaaaGreatDoorPs
namespace Go.Proofs.YtcoiklolgilhaaaGreatDoor
open Go.RowKit
set_option maxRecDepth 100000
/-- a part -/
structure Prt where
  lo : Ic
  hi : Ic
  ch : Bool
  len : Int
abbrev partV (q : Prt) : Array Value := #[.int .i64 q.lo.conc, .int .i64 q.hi.conc, .int .i64 q.lo.thick, .int .i64 q.hi.thick, .int .i64 q.lo.ridge, .int .i64 q.hi.ridge, .int .i64 q.lo.press, .int .i64 q.hi.press, .bool q.ch, .int .i64 q.len]
def PartsIn (W : World) (p : Option Addr) (n : Nat) (P : Nat → Prt) : Prop := ∀ i, i < n → ∃ b o, p = some ⟨b, o, none⟩ ∧ b < W.heap.size ∧ W.cell? ⟨b, o + i * 10, none⟩ = some (.int .i64 (P i).lo.conc) ∧ W.cell? ⟨b, o + i * 10 + 1, none⟩ = some (.int .i64 (P i).hi.conc) ∧ W.cell? ⟨b, o + i * 10 + 2, none⟩ = some (.int .i64 (P i).lo.thick) ∧ W.cell? ⟨b, o + i * 10 + 3, none⟩ = some (.int .i64 (P i).hi.thick) ∧ W.cell? ⟨b, o + i * 10 + 4, none⟩ = some (.int .i64 (P i).lo.ridge) ∧ W.cell? ⟨b, o + i * 10 + 5, none⟩ = some (.int .i64 (P i).hi.ridge) ∧ W.cell? ⟨b, o + i * 10 + 6, none⟩ = some (.int .i64 (P i).lo.press) ∧ W.cell? ⟨b, o + i * 10 + 7, none⟩ = some (.int .i64 (P i).hi.press) ∧ W.cell? ⟨b, o + i * 10 + 8, none⟩ = some (.bool (P i).ch) ∧ W.cell? ⟨b, o + i * 10 + 9, none⟩ = some (.int .i64 (P i).len)
theorem PartsIn.later {w W : World} {p : Option Addr} {n : Nat} {P : Nat → Prt} (h : PartsIn w p n P) (hb : Below w.heap.size w W) : PartsIn W p n P := fun i hi => by
  obtain ⟨b, o, e, hlt, h0, h1, h2, h3, h4, h5, h6, h7, h8, h9⟩ := h i hi
  exact ⟨b, o, e, Nat.lt_of_lt_of_le hlt hb.size, (hb.cell (p := ⟨b, o + i * 10, none⟩) hlt).trans h0, (hb.cell (p := ⟨b, o + i * 10 + 1, none⟩) hlt).trans h1, (hb.cell (p := ⟨b, o + i * 10 + 2, none⟩) hlt).trans h2, (hb.cell (p := ⟨b, o + i * 10 + 3, none⟩) hlt).trans h3, (hb.cell (p := ⟨b, o + i * 10 + 4, none⟩) hlt).trans h4, (hb.cell (p := ⟨b, o + i * 10 + 5, none⟩) hlt).trans h5, (hb.cell (p := ⟨b, o + i * 10 + 6, none⟩) hlt).trans h6, (hb.cell (p := ⟨b, o + i * 10 + 7, none⟩) hlt).trans h7, (hb.cell (p := ⟨b, o + i * 10 + 8, none⟩) hlt).trans h8, (hb.cell (p := ⟨b, o + i * 10 + 9, none⟩) hlt).trans h9⟩
theorem cells10 {W : World} {b : Nat} {x0 x1 x2 x3 x4 x5 x6 x7 x8 x9 : Value} {t : TypeId} (h : W.heap[b]? = some (.cells #[x0, x1, x2, x3, x4, x5, x6, x7, x8, x9] t (0, 0))) :
    W.cell? ⟨b, 0, none⟩ = some x0 ∧ W.cell? ⟨b, 1, none⟩ = some x1 ∧ W.cell? ⟨b, 2, none⟩ = some x2 ∧ W.cell? ⟨b, 3, none⟩ = some x3 ∧ W.cell? ⟨b, 4, none⟩ = some x4 ∧ W.cell? ⟨b, 5, none⟩ = some x5 ∧ W.cell? ⟨b, 6, none⟩ = some x6 ∧ W.cell? ⟨b, 7, none⟩ = some x7 ∧ W.cell? ⟨b, 8, none⟩ = some x8 ∧ W.cell? ⟨b, 9, none⟩ = some x9 := by
  refine ⟨?_, ?_, ?_, ?_, ?_, ?_, ?_, ?_, ?_, ?_⟩ <;> (rw [cell_of_block h]; rfl)
def partE (q : Prt) : Int := if 1 ≤ q.len ∧ q.len ≤ 10000 then cellE q.lo q.hi else 6
def peG (P : Nat → Prt) : Nat → Nat → Int
  | 0, _ => 0
  | f + 1, i => if partE (P i) = 0 then peG P f (i + 1) else partE (P i)
def partsE (P : Nat → Prt) (n : Nat) : Int := if 1 ≤ n ∧ n ≤ 100 then peG P n 0 else 2
set_option maxHeartbeats 2000000 in
theorem checkParts_any (p : Option Addr) (n cap : Nat) (P : Nat → Prt) (hm : n ≤ 1000000) (w : World) (h : PartsIn w p n P) (hl : Lim w) :
    Calls Tryz.prog 93 #[.slice p n cap] w fun e w' => e = .returned (.int .i64 (partsE P n)) ∧ Below w.heap.size w w' := by
  have HP := Lib.hid h
  have HLM := Lib.hid hl
  have hpos := hl.pos
  clear h hl
  by_cases hr : 1 ≤ n ∧ n ≤ 100
  · have HW := Lib.hid (hwithin_is n 1 100 true (decide_eq_true (by omega)))
    have HE := Lib.hid (show partsE P n = peG P n 0 from if_pos hr)
    obtain ⟨b, o, rfl, hlt, _⟩ := HP.out 0 (by omega)
    go_enter Tryz.func93, Tryz.ntmps93
    go_wp2_with fail
    refine (HW.out _).mono ?_
    rintro e w' ⟨rfl, rfl⟩
    go_wp2_with fail
    go_loopw [12] (fun i wr => ∃ k : Nat, k ≤ n ∧ i = .int .i64 k ∧ Hid (peG P n 0 = peG P (n - k) k) ∧ Hid (Below w.heap.size w wr)) (fun i _ => n - (intOf i).toNat)
    case atStart => exact ⟨0, by omega, rfl, rfl, Below.refl _ _⟩
    case round =>
      obtain ⟨k, hk, rfl, hu, hI⟩ := hrel
      by_cases hlt2 : k < n
      · obtain ⟨b', o', e', hltk, h0, h1, h2, h3, h4, h5, h6, h7, h8, h9⟩ := (HP.out.later hI.out) k hlt2
        obtain ⟨rfl, rfl⟩ : _ = b' ∧ _ = o' := by simpa using e'
        clear e'
        have hkn : (k : Int) < (n : Int) := by omega
        have hk0 : (0 : Int) ≤ (k : Int) := by omega
        have HU := Lib.hid (show peG P n 0 = if partE (P k) = 0 then peG P (n - (k + 1)) (k + 1) else partE (P k) by rw [hu.out, show n - k = (n - (k + 1)) + 1 by omega]; rfl)
        have hba := hI.out.alloc hI.out.size (.cells (partV (P k)) 67)
        have HB1 := Lib.hid hba
        have hnew := block_new wr (.cells (partV (P k)) 67)
        have HNEW := Lib.hid hnew
        have HCC := Lib.hid (show Calls Tryz.prog 82 #[.agg (cellV (P k).lo (P k).hi)] (wr.alloc (.cells (partV (P k)) 67)) (fun e w' => e = .returned (.int .i64 (cellE (P k).lo (P k).hi)) ∧ Below (wr.alloc (.cells (partV (P k)) 67)).heap.size (wr.alloc (.cells (partV (P k)) 67)) w') from CheckCell_any (icF (P k).lo) (icF (P k).hi) _ (HLM.out.below hpos hba))
        clear hba hnew hI hu
        by_cases hln : 1 ≤ (P k).len ∧ (P k).len ≤ 10000
        · have HW2 := Lib.hid (hwithin_is (P k).len 1 10000 true (decide_eq_true hln))
          have hpe : partE (P k) = cellE (P k).lo (P k).hi := if_pos hln
          rw [hpe] at HU
          clear hln hpe
          by_cases hce : cellE (P k).lo (P k).hi = 0
          · rw [hce] at HCC
            have HU2 := Lib.hid (show peG P n 0 = peG P (n - (k + 1)) (k + 1) by have := HU.out; rw [if_pos hce] at this; exact this)
            clear HU hce
            go_wp2_with fail
            refine (HW2.out _).mono ?_
            rintro e w' ⟨rfl, rfl⟩
            go_wp2_with fail
            refine HCC.out.mono ?_
            rintro e W1 ⟨rfl, hb1⟩
            have HB2 := Lib.hid (HB1.out.trans (hb1.mono HB1.out.size))
            clear hb1
            go_wp2_with fail
            go_roundw
            case rel => exact ⟨k + 1, by omega, by go_num, HU2.out, HB2.out⟩
            case measure => simp [intOf]; omega
          · have HU2 := Lib.hid (show partsE P n = cellE (P k).lo (P k).hi by rw [HE.out]; have := HU.out; rw [if_neg hce] at this; exact this)
            have hne : (cellE (P k).lo (P k).hi != 0) = true := by simpa using hce
            clear HU hce
            generalize cellE (P k).lo (P k).hi = E at *
            go_wp2_with fail
            refine (HW2.out _).mono ?_
            rintro e w' ⟨rfl, rfl⟩
            go_wp2_with fail
            refine HCC.out.mono ?_
            rintro e W1 ⟨rfl, hb1⟩
            have HB2 := Lib.hid (HB1.out.trans (hb1.mono HB1.out.size))
            clear hb1
            go_wp2_with fail
            go_ret
            exact ⟨by rw [HU2.out]; rfl, HB2.out⟩
        · have HW2 := Lib.hid (hwithin_is (P k).len 1 10000 false (decide_eq_false hln))
          have HU2 := Lib.hid (show partsE P n = 6 by
            have hpe : partE (P k) = 6 := if_neg hln
            rw [HE.out]; have := HU.out; rw [hpe] at this; simpa using this)
          clear HU HCC hln
          go_wp2_with fail
          refine (HW2.out _).mono ?_
          rintro e w' ⟨rfl, rfl⟩
          go_wp2_with fail
          go_ret
          exact ⟨by rw [HU2.out]; rfl, HB1.out⟩
      · obtain rfl : k = n := by omega
        have HF := Lib.hid (show partsE P k = 0 by rw [HE.out, hu.out, Nat.sub_self]; rfl)
        go_wp2_with fail
        go_ret
        exact ⟨by rw [HF.out]; rfl, hI.out⟩
  · have HW := Lib.hid (hwithin_is n 1 100 false (decide_eq_false (by omega)))
    have HE := Lib.hid (show partsE P n = 2 from if_neg hr)
    clear hr
    go_enter Tryz.func93, Tryz.ntmps93
    go_wp2_with fail
    refine (HW.out _).mono ?_
    rintro e w' ⟨rfl, rfl⟩
    go_wp2_with fail
    go_ret
    exact ⟨by rw [HE.out]; rfl, Below.refl _ _⟩
end Go.Proofs.YtcoiklolgilhaaaGreatDoor
