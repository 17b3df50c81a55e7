/- The contract of ice.common: at most 12 cells, and a set. The table of limits holds 100, 400, 100, 3. -/
import Derived.Test.YtdcpmdigihbdpaaDoorRa
import Derived.Test.YtdcpmdigihbdpaaDoorRb
namespace Go.Proofs.YtdcpmdigihbdpaaDoor
open Go.RowKit
set_option maxRecDepth 100000
def CellsAt (W : World) (b n : Nat) (CL CH : Nat → Nat → Int) : Prop := ∀ i, i < n →
  W.cell? ⟨b, i * 8, none⟩ = some (.int .i64 (CL i 0)) ∧ W.cell? ⟨b, i * 8 + 1, none⟩ = some (.int .i64 (CH i 0)) ∧ W.cell? ⟨b, i * 8 + 2, none⟩ = some (.int .i64 (CL i 1)) ∧ W.cell? ⟨b, i * 8 + 3, none⟩ = some (.int .i64 (CH i 1)) ∧
  W.cell? ⟨b, i * 8 + 4, none⟩ = some (.int .i64 (CL i 2)) ∧ W.cell? ⟨b, i * 8 + 5, none⟩ = some (.int .i64 (CH i 2)) ∧ W.cell? ⟨b, i * 8 + 6, none⟩ = some (.int .i64 (CL i 3)) ∧ W.cell? ⟨b, i * 8 + 7, none⟩ = some (.int .i64 (CH i 3))
theorem CellsAt.below {w W : World} {b n B : Nat} {CL CH : Nat → Nat → Int} (h : CellsAt w b n CL CH) (hB : b < B) (hb : Below B w W) : CellsAt W b n CL CH := by
  intro i hi
  obtain ⟨h0, h1, h2, h3, h4, h5, h6, h7⟩ := h i hi
  exact ⟨(hb.cell (p := ⟨b, i * 8, none⟩) hB).trans h0, (hb.cell (p := ⟨b, i * 8 + 1, none⟩) hB).trans h1, (hb.cell (p := ⟨b, i * 8 + 2, none⟩) hB).trans h2, (hb.cell (p := ⟨b, i * 8 + 3, none⟩) hB).trans h3,
    (hb.cell (p := ⟨b, i * 8 + 4, none⟩) hB).trans h4, (hb.cell (p := ⟨b, i * 8 + 5, none⟩) hB).trans h5, (hb.cell (p := ⟨b, i * 8 + 6, none⟩) hB).trans h6, (hb.cell (p := ⟨b, i * 8 + 7, none⟩) hB).trans h7⟩
def cmLo (s : Nat → Bool) (CL : Nat → Nat → Int) : Nat → Nat → Int
  | 0, _ => 0
  | k + 1, q => if s k = true then mx (cmLo s CL k q) (CL k q) else cmLo s CL k q
def cmHi (s : Nat → Bool) (CH : Nat → Nat → Int) : Nat → Nat → Int
  | 0, q => lim q
  | k + 1, q => if s k = true then mn (cmHi s CH k q) (CH k q) else cmHi s CH k q
def cmOK (s : Nat → Bool) (CL CH : Nat → Nat → Int) : Nat → Bool
  | 0 => true
  | k + 1 => cmOK s CL CH k && (if s k = true then meetB (cmLo s CL k) (cmHi s CH k) (CL k) (CH k) else true)
theorem cmOK_mono {s : Nat → Bool} {CL CH : Nat → Nat → Int} {k : Nat} (h : cmOK s CL CH k = false) : ∀ n, k ≤ n → cmOK s CL CH n = false := by
  intro n hn
  induction n with
  | zero => obtain rfl : k = 0 := by omega
            exact h
  | succ n ih =>
    by_cases e : k = n + 1
    · rw [← e]; exact h
    · unfold cmOK; rw [ih (by omega)]; rfl
theorem set_get (s : Nat → Bool) (k : Nat) (hk : k < 12) : (#[Value.bool (s 0), .bool (s 1), .bool (s 2), .bool (s 3), .bool (s 4), .bool (s 5), .bool (s 6), .bool (s 7), .bool (s 8), .bool (s 9), .bool (s 10), .bool (s 11)])[k]? = some (.bool (s k)) := by
  match k, hk with
  | 0, _ => rfl
  | 1, _ => rfl
  | 2, _ => rfl
  | 3, _ => rfl
  | 4, _ => rfl
  | 5, _ => rfl
  | 6, _ => rfl
  | 7, _ => rfl
  | 8, _ => rfl
  | 9, _ => rfl
  | 10, _ => rfl
  | 11, _ => rfl
abbrev cellA (lo hi : Nat → Int) : Array Value := #[.int .i64 (lo 0), .int .i64 (hi 0), .int .i64 (lo 1), .int .i64 (hi 1), .int .i64 (lo 2), .int .i64 (hi 2), .int .i64 (lo 3), .int .i64 (hi 3)]
def cmRes (s : Nat → Bool) (CL CH : Nat → Nat → Int) (n : Nat) : Value :=
  if cmOK s CL CH n = true then .tuple #[.agg (cellA (cmLo s CL n) (cmHi s CH n)), .bool true] else .tuple #[.agg #[.int .i64 0, .int .i64 0, .int .i64 0, .int .i64 0, .int .i64 0, .int .i64 0, .int .i64 0, .int .i64 0], .bool false]
theorem common_any (s : Nat → Bool) (CL CH : Nat → Nat → Int) (b n : Nat) (hn : n ≤ 12) (w : World) (hl : Lim w) (hb : b < w.heap.size) (hc : CellsAt w b n CL CH) :
    Calls Tryd.prog 122 #[.slice (some ⟨b, 0, none⟩) n n, .agg #[.bool (s 0), .bool (s 1), .bool (s 2), .bool (s 3), .bool (s 4), .bool (s 5), .bool (s 6), .bool (s 7), .bool (s 8), .bool (s 9), .bool (s 10), .bool (s 11)]] w fun e w' =>
      e = .returned (cmRes s CL CH n) ∧ Below w.heap.size w w' := by
  have hpos := hl.pos
  have HL := Lib.hid hl
  have HC := Lib.hid hc
  clear hl hc
  go_enter Tryd.func122, Tryd.ntmps122
  go_wp2_with fail
  have h2 := two_allocs w (.cells #[.bool (s 0), .bool (s 1), .bool (s 2), .bool (s 3), .bool (s 4), .bool (s 5), .bool (s 6), .bool (s 7), .bool (s 8), .bool (s 9), .bool (s 10), .bool (s 11)] 152) (.cells #[.int .i64 0, .int .i64 0, .int .i64 0, .int .i64 0, .int .i64 0, .int .i64 0, .int .i64 0, .int .i64 0] 32)
  generalize (w.alloc (.cells #[.bool (s 0), .bool (s 1), .bool (s 2), .bool (s 3), .bool (s 4), .bool (s 5), .bool (s 6), .bool (s 7), .bool (s 8), .bool (s 9), .bool (s 10), .bool (s 11)] 152)).alloc (.cells #[.int .i64 0, .int .i64 0, .int .i64 0, .int .i64 0, .int .i64 0, .int .i64 0, .int .i64 0, .int .i64 0] 32) = w1 at *
  obtain ⟨hS, hR, hz1, hb1⟩ := h2
  have HS := Lib.hid hS
  have HR := Lib.hid hR
  clear hS hR
  refine (Whole_any _ (HL.out.below hpos hb1)).mono ?_
  rintro e w2 ⟨rfl, hb2⟩
  have HS2 := Lib.hid ((hb2.block _ (by omega)).trans HS.out)
  have HR2 := Lib.hid ((hb2.block _ (by omega)).trans HR.out)
  have B2 := Lib.hid (hb1.trans (hb2.mono hb1.size))
  have z2 : w.heap.size + 1 + 1 ≤ w2.heap.size := by have := hb2.size; omega
  clear HS HR hb1 hb2 hz1
  go_wp2_with fail
  have H0 := Lib.hid (block_new w2 (.cells #[.int .i64 0, .int .i64 (lim 0), .int .i64 0, .int .i64 (lim 1), .int .i64 0, .int .i64 (lim 2), .int .i64 0, .int .i64 (lim 3)] 32))
  have HS3 := Lib.hid ((Below.heap_alloc w2 (.cells #[.int .i64 0, .int .i64 (lim 0), .int .i64 0, .int .i64 (lim 1), .int .i64 0, .int .i64 (lim 2), .int .i64 0, .int .i64 (lim 3)] 32) w.heap.size (by omega)).trans HS2.out)
  have HR3 := Lib.hid ((Below.heap_alloc w2 (.cells #[.int .i64 0, .int .i64 (lim 0), .int .i64 0, .int .i64 (lim 1), .int .i64 0, .int .i64 (lim 2), .int .i64 0, .int .i64 (lim 3)] 32) (w.heap.size + 1) (by omega)).trans HR2.out)
  have B3 := Lib.hid (B2.out.alloc (by omega) (.cells #[.int .i64 0, .int .i64 (lim 0), .int .i64 0, .int .i64 (lim 1), .int .i64 0, .int .i64 (lim 2), .int .i64 0, .int .i64 (lim 3)] 32))
  have z3 : w2.heap.size < (w2.alloc (.cells #[.int .i64 0, .int .i64 (lim 0), .int .i64 0, .int .i64 (lim 1), .int .i64 0, .int .i64 (lim 2), .int .i64 0, .int .i64 (lim 3)] 32)).heap.size := by simp
  generalize w2.alloc (.cells #[.int .i64 0, .int .i64 (lim 0), .int .i64 0, .int .i64 (lim 1), .int .i64 0, .int .i64 (lim 2), .int .i64 0, .int .i64 (lim 3)] 32) = w3 at *
  generalize w2.heap.size = Bc at *
  clear HS2 HR2 B2
  go_loopw [7, 13] (fun ok i wr => ∃ k : Nat, k ≤ n ∧ i = .int .i64 k ∧ ok = .bool true ∧ Hid (cmOK s CL CH k = true) ∧ Hid (wr.heap[Bc]? = some (.cells (cellA (cmLo s CL k) (cmHi s CH k)) 32 (0, 0))) ∧
      Hid (wr.heap[w.heap.size]? = some (.cells #[.bool (s 0), .bool (s 1), .bool (s 2), .bool (s 3), .bool (s 4), .bool (s 5), .bool (s 6), .bool (s 7), .bool (s 8), .bool (s 9), .bool (s 10), .bool (s 11)] 152 (0, 0))) ∧ Hid (wr.heap[w.heap.size + 1]? = some (.cells #[.int .i64 0, .int .i64 0, .int .i64 0, .int .i64 0, .int .i64 0, .int .i64 0, .int .i64 0, .int .i64 0] 32 (0, 0))) ∧ Hid (Below w.heap.size w wr) ∧ Bc < wr.heap.size) (fun _ i _ => n - (intOf i).toNat)
  case atStart => exact ⟨0, by omega, rfl, rfl, rfl, H0, HS3, HR3, B3, z3⟩
  case round =>
    obtain ⟨k, hk, rfl, rfl, hok, hC, hS, hR, hB, hz⟩ := hrel
    by_cases hlt : k < n
    · obtain ⟨c0, c1, c2, c3, c4, c5, c6, c7⟩ := (HC.out.below hb hB.out) k hlt
      have hs := (cell_of_block hS.out k).trans (set_get s k (by omega))
      have hws : w.heap.size < wr.heap.size := by omega
      have hk12 : (k : Int) < 12 := by omega
      have hk0 : (0 : Int) ≤ (k : Int) := by omega
      have HX := Lib.hid (block_new wr (.cells (cellA (CL k) (CH k)) 32))
      have HC2 := Lib.hid ((Below.heap_alloc wr (.cells (cellA (CL k) (CH k)) 32) Bc hz).trans hC.out)
      have HS2 := Lib.hid ((Below.heap_alloc wr (.cells (cellA (CL k) (CH k)) 32) w.heap.size (by omega)).trans hS.out)
      have HR2 := Lib.hid ((Below.heap_alloc wr (.cells (cellA (CL k) (CH k)) 32) (w.heap.size + 1) (by omega)).trans hR.out)
      have HB2 := Lib.hid (hB.out.alloc (by omega) (.cells (cellA (CL k) (CH k)) 32))
      have hz2 : Bc < (wr.alloc (.cells (cellA (CL k) (CH k)) 32)).heap.size := by simp; omega
      cases hsk : s k with
      | true =>
        rw [hsk] at hs
        obtain ⟨⟨d0, d1, d2, d3, d4, d5, d6, d7⟩, _⟩ := cells8 hC.out
        have eL := fun q => show cmLo s CL (k + 1) q = mx (cmLo s CL k q) (CL k q) by simp [cmLo, hsk]
        have eH := fun q => show cmHi s CH (k + 1) q = mn (cmHi s CH k q) (CH k q) by simp [cmHi, hsk]
        have eK : cmOK s CL CH (k + 1) = meetB (cmLo s CL k) (cmHi s CH k) (CL k) (CH k) := by simp [cmOK, hsk, hok.out]
        have EL := Lib.hid eL
        have EH := Lib.hid eH
        have EK := Lib.hid eK
        clear eL eH eK hsk
        go_wp2_with fail
        refine (meet_any (cmLo s CL k) (cmHi s CH k) (CL k) (CH k) _).mono ?_
        clear c0 c1 c2 c3 c4 c5 c6 c7 d0 d1 d2 d3 d4 d5 d6 d7 hs
        rintro e W5 ⟨rfl, hb5⟩
        have HC5 := Lib.hid ((hb5.block Bc hz2).trans HC2.out)
        have HS5 := Lib.hid ((hb5.block w.heap.size (by simp; omega)).trans HS2.out)
        have HR5 := Lib.hid ((hb5.block (w.heap.size + 1) (by simp; omega)).trans HR2.out)
        have HB5 := Lib.hid (HB2.out.trans (hb5.mono HB2.out.size))
        have hz5 : Bc < W5.heap.size := Nat.lt_of_lt_of_le hz2 hb5.size
        clear hb5 HC2 HS2 HR2 HB2 HX hz2
        cases hm : meetB (cmLo s CL k) (cmHi s CH k) (CL k) (CH k) with
        | true =>
          have EK2 := Lib.hid (EK.out.trans hm)
          clear hm
          go_wp2_with (refine list_store8 rfl rfl rfl (.inl rfl) rfl rfl HC5.out ?_; intro W6 h6 hc6)
          have z6 := hc6.1
          go_roundw
          case rel => exact ⟨k + 1, by omega, by go_num, rfl, EK2, by (show W6.heap[Bc]? = _); rw [h6]; simp [EL.out, EH.out], (hc6.2.1 _ (by omega)).trans HS5.out, (hc6.2.1 _ (by omega)).trans HR5.out, HB5.out.trans (hc6.below (by omega)), by omega⟩
          case measure => simp [intOf]; omega
        | false =>
          have hF : cmRes s CL CH n = .tuple #[.agg #[.int .i64 0, .int .i64 0, .int .i64 0, .int .i64 0, .int .i64 0, .int .i64 0, .int .i64 0, .int .i64 0], .bool false] := by
            unfold cmRes
            rw [cmOK_mono (EK.out.trans hm) n (by omega)]
            rfl
          have HF := Lib.hid hF
          clear hm hF
          go_wp2_with (first | (refine list_store8 rfl rfl rfl (.inl rfl) rfl rfl HC5.out ?_; intro W6 h6 hc6; have HR6 := Lib.hid ((hc6.2.1 _ (by omega)).trans HR5.out)) | (refine list_store8 rfl rfl rfl (.inl rfl) rfl rfl HR6.out ?_; intro W7 h7 hc7))
          obtain ⟨⟨g0, g1, g2, g3, g4, g5, g6, g7⟩, _⟩ := cells8 h7
          refine bodyPost_ret (v := .tuple #[.agg #[.int .i64 0, .int .i64 0, .int .i64 0, .int .i64 0, .int .i64 0, .int .i64 0, .int .i64 0, .int .i64 0], .bool false]) ?_ rfl ⟨by rw [HF.out], ?_⟩
          · simp [results, Tryd.results122, go_sem, g0, g1, g2, g3, g4, g5, g6, g7]
          · exact (HB5.out.trans (hc6.below (by omega))).trans (hc7.below (by omega))
      | false =>
        rw [hsk] at hs
        have eL := fun q => show cmLo s CL (k + 1) q = cmLo s CL k q by simp [cmLo, hsk]
        have eH := fun q => show cmHi s CH (k + 1) q = cmHi s CH k q by simp [cmHi, hsk]
        have eK : cmOK s CL CH (k + 1) = true := by simp [cmOK, hsk, hok.out]
        have EL := Lib.hid eL
        have EH := Lib.hid eH
        have EK := Lib.hid eK
        clear eL eH eK hsk
        go_wp2_with fail
        go_roundw
        case rel => exact ⟨k + 1, by omega, by go_num, rfl, EK, by (show (wr.alloc _).heap[Bc]? = _); rw [HC2.out]; simp [EL.out, EH.out], HS2, HR2, HB2, hz2⟩
        case measure => simp [intOf]; omega
    · obtain rfl : k = n := by omega
      have hF : cmRes s CL CH k = .tuple #[.agg (cellA (cmLo s CL k) (cmHi s CH k)), .bool true] := by
        unfold cmRes
        rw [hok.out]
        rfl
      have HF := Lib.hid hF
      clear hF
      obtain ⟨⟨d0, d1, d2, d3, d4, d5, d6, d7⟩, _⟩ := cells8 hC.out
      go_wp2_with (refine list_store8 rfl rfl rfl (.inl rfl) rfl rfl hR.out ?_; intro W7 h7 hc7)
      obtain ⟨⟨g0, g1, g2, g3, g4, g5, g6, g7⟩, _⟩ := cells8 h7
      refine bodyPost_ret (v := .tuple #[.agg (cellA (cmLo s CL k) (cmHi s CH k)), .bool true]) ?_ rfl ⟨by rw [HF.out], ?_⟩
      · simp [results, Tryd.results122, go_sem, g0, g1, g2, g3, g4, g5, g6, g7]
      · exact hB.out.trans (hc7.below (by omega))
end Go.Proofs.YtdcpmdigihbdpaaDoor
