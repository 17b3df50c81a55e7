/- The contract of ice.Guilt: reports without an error. The table of limits holds 100, 400, 100, 3. -/
import Derived.Test.YtdcpmdigihbdpaaDoorSe
namespace Go.Proofs.YtdcpmdigihbdpaaDoor
open Go.RowKit
set_option maxRecDepth 100000
/-- How often a place is among the first m of a list; among the first k lists. -/
def occ1 (l : List Nat) : Nat → Nat → Int
  | 0, _ => 0
  | m + 1, i => occ1 l m i + (if l[m]?.getD 0 = i then 1 else 0)
def occ (ls : List (List Nat)) : Nat → Nat → Int
  | 0, _ => 0
  | k + 1, i => occ ls k i + occ1 (ls[k]?.getD []) (ls[k]?.getD []).length i
theorem occ1_bd (l : List Nat) (i : Nat) : ∀ m, 0 ≤ occ1 l m i ∧ occ1 l m i ≤ m
  | 0 => ⟨Int.le_refl _, Int.le_refl _⟩
  | m + 1 => by
    have := occ1_bd l i m
    unfold occ1
    split <;> omega
theorem occ_bd (ls : List (List Nat)) (i : Nat) (h : ∀ l ∈ ls, l.length ≤ 12) : ∀ k, 0 ≤ occ ls k i ∧ occ ls k i ≤ 12 * k
  | 0 => ⟨Int.le_refl _, Int.le_refl _⟩
  | k + 1 => by
    have h1 := occ_bd ls i h k
    have h2 := occ1_bd (ls[k]?.getD []) i (ls[k]?.getD []).length
    have h3 : (ls[k]?.getD []).length ≤ 12 := by
      cases e : ls[k]? with
      | none => simp
      | some l => simpa using h l (List.mem_of_getElem? e)
    unfold occ
    omega
def IntsB (W : World) (g n : Nat) (f : Nat → Int) : Prop := ∃ arr, W.heap[g]? = some (.cells arr 3 (0, 0)) ∧ arr.size = n ∧ ∀ i, i < n → arr[i]? = some (.int .i64 (f i))
theorem IntsB.cell {W : World} {g n : Nat} {f : Nat → Int} (h : IntsB W g n f) {i : Nat} (hi : i < n) : W.cell? ⟨g, i, none⟩ = some (.int .i64 (f i)) ∧ W.frozen? ⟨g, i, none⟩ = false := by
  obtain ⟨arr, hb, _, ha⟩ := h
  exact ⟨(cell_of_block hb i).trans (ha i hi), frozen_of_block hb i⟩
theorem IntsB.of_heap {w W : World} {g n : Nat} {f : Nat → Int} (h : IntsB w g n f) (e : W.heap[g]? = w.heap[g]?) : IntsB W g n f := by
  obtain ⟨arr, hb, hs, ha⟩ := h
  exact ⟨arr, e.trans hb, hs, ha⟩
theorem IntsB.congr {W : World} {g n : Nat} {f f' : Nat → Int} (h : IntsB W g n f) (e : ∀ i, i < n → f' i = f i) : IntsB W g n f' := by
  obtain ⟨arr, hb, hs, ha⟩ := h
  exact ⟨arr, hb, hs, fun i hi => by rw [e i hi]; exact ha i hi⟩
theorem IntsB.set {W : World} {g n : Nat} {f : Nat → Int} (h : IntsB W g n f) (k : Nat) (x : Int) : IntsB (W.setCell ⟨g, k, none⟩ (.int .i64 x)) g n (fun i => if i = k then x else f i) := by
  obtain ⟨arr, hb, hs, ha⟩ := h
  refine ⟨_, setCell_block hb k (.int .i64 x), by simp [hs], fun i hi => ?_⟩
  rw [Array.getElem?_setIfInBounds]
  by_cases e : k = i
  · subst e
    rw [if_pos rfl, if_pos (by omega)]
    simp
  · rw [if_neg e, ha i hi]
    simp only [if_neg (Ne.symm e)]
theorem IntsB.made {W : World} {g n : Nat} (h : W.heap[g]? = some (.cells (madeCells (Value.int .i64 0).cells (n * 1)) 3 (0, 0))) : IntsB W g n (fun _ => 0) :=
  ⟨_, h, by rw [size_madeCells]; omega, fun i hi => by
    have : (madeCells (Value.int .i64 0).cells (n * 1)) = Array.replicate n (Value.int .i64 0) := by
      apply Array.ext
      · rw [size_madeCells]; simp
      · intro j h1 h2
        simp [madeCells, Value.cells, Nat.mod_one]
    rw [this]
    simp [hi]⟩
theorem outs_lt (s : Nat → Bool) : ∀ k, ∀ x ∈ outs s k, x < k
  | 0, x, h => by cases h
  | k + 1, x, h => by
    unfold outs at h
    split at h
    · have := outs_lt s k x h; omega
    · simp only [List.mem_append, List.mem_singleton] at h
      rcases h with h | rfl
      · have := outs_lt s k x h; omega
      · omega
theorem blame_lt (CL CH : Nat → Nat → Int) (n : Nat) : ∀ l ∈ blameL CL CH n, l.length ≤ n ∧ ∀ x ∈ l, x < n := fun l h => by
  unfold blameL at h
  obtain ⟨k, _, rfl⟩ := List.mem_map.1 h
  exact ⟨outs_len _ n, outs_lt _ n⟩
def guiltF (ls : List (List Nat)) (i : Nat) : Int := if occ ls ls.length i = ls.length then 2 else if 0 < occ ls ls.length i then 1 else 0
theorem lists_slice {W : World} {base : Nat} {v : Value} {ls : List (List Nat)} (h : Lists W base v ls) : ∃ p c, v = .slice p ls.length c ∧ ∀ k (hk : k < ls.length), ∃ b u, p = some ⟨b, 0, none⟩ ∧ b < W.heap.size ∧ W.cell? ⟨b, k, none⟩ = some u ∧ Outs W base u (ls[k]'hk) := by
  obtain ⟨vs, h1, h2, h3⟩ := h
  have hr := h1
  rcases h1.2 with ⟨rfl, e⟩ | ⟨g, cap, cur, rfl, _, hg, _⟩
  · refine ⟨none, 0, by rw [e], fun k hk => by omega⟩
  · refine ⟨_, cap, rfl, fun k hk => ?_⟩
    obtain ⟨u, e1, e2⟩ := h3 k hk
    have := hr.cells (g := g) rfl k u e1
    have hadd : (⟨g, 0, none⟩ : Addr).add k = ⟨g, k, none⟩ := by unfold Addr.add; split <;> simp_all
    rw [hadd] at this
    exact ⟨g, u, rfl, lt_of_block hg, this, e2⟩
theorem outs_cells {W : World} {base : Nat} {u : Value} {l : List Nat} (h : Outs W base u l) : ∃ p c, u = .slice p l.length c ∧ ∀ k (hk : k < l.length), ∃ b, p = some ⟨b, 0, none⟩ ∧ b < W.heap.size ∧ W.cell? ⟨b, k, none⟩ = some (.int .i64 (l[k]'hk : Nat)) := by
  have hr := h.row
  rcases h.row.2 with ⟨rfl, e⟩ | ⟨g, cap, cur, rfl, _, hg, _⟩
  · refine ⟨none, 0, by rw [e], fun k hk => by omega⟩
  · refine ⟨_, cap, rfl, fun k hk => ?_⟩
    have := hr.cells (g := g) rfl k (.int .i64 (l[k]'hk : Nat)) (by simp [nats, hk])
    have hadd : (⟨g, 0, none⟩ : Addr).add k = ⟨g, k, none⟩ := by unfold Addr.add; split <;> simp_all
    rw [hadd] at this
    exact ⟨g, rfl, lt_of_block hg, this⟩
set_option maxHeartbeats 2000000 in
theorem Guilt_fine (u d : Nat → Int) (now : Int) (p : Option Addr) (n cap : Nat) (R : Nat → Rep) (hf : Fine u d now R n) (w : World) (hl : Lim w) (hR : Reps w p n R) :
    Calls Tryd.prog 46 #[.slice p n cap, .agg (ratesA u d), .int .i64 now] w fun e w' => ∃ g, e = .returned (.tuple #[.slice (some ⟨g, 0, none⟩) n n, .int .i64 0]) ∧ w.heap.size ≤ g ∧ g < w'.heap.size ∧ IntsB w' g n (guiltF (blameL (tdLo R d now) (tdHi R u now) n)) ∧ Below w.heap.size w w' := by
  have hpos := hl.pos
  have hn := hf.2.1
  have HL := Lib.hid hl
  have HR := Lib.hid hR
  have HF := Lib.hid hf
  clear hl hR hf
  obtain ⟨i0, hi, hz0, hz1, hz2⟩ := info_parts info3
  have hby : i0.bytes ≤ 1000 := by omega
  go_enter Tryd.func46, Tryd.ntmps46
  have A2 := block_new w (.cells (ratesA u d) 41)
  have AB := Lib.hid ((Below.refl w.heap.size w).alloc (Nat.le_refl _) (.cells (ratesA u d) 41))
  obtain ⟨⟨c0, c1, c2, c3, c4, c5, c6, c7⟩, _⟩ := cells8 A2
  clear A2
  go_wp2_with fail
  generalize w.alloc (.cells (ratesA u d) 41) = V at *
  refine (Blame_fine u d now p n cap R HF.out V (HL.out.below hpos AB.out) (HR.out.later AB.out)).mono ?_
  rintro e W1 ⟨v, rfl, hLs, hb1⟩
  have BB := Lib.hid (AB.out.trans (hb1.mono AB.out.size))
  have hzw := BB.out.size
  have HLs := Lib.hid hLs
  have HBl := Lib.hid (blame_lt (tdLo R d now) (tdHi R u now) n)
  have hll : (blameL (tdLo R d now) (tdHi R u now) n).length ≤ 4096 := by unfold blameL; rw [List.length_map, List.length_range]; exact found_len _ _ n hn
  obtain ⟨pv, cv, rfl, hcells⟩ := lists_slice hLs
  have HCs := Lib.hid hcells
  clear hb1 AB c0 c1 c2 c3 c4 c5 c6 c7 hLs hcells
  go_wp2_with (refine list_make rfl rfl rfl und89 hi hz0 hz1 hby (by omega) ?_; intro W2 h2 z2 b2)
  have HT := Lib.hid (IntsB.made h2)
  have HB2 := Lib.hid b2
  have hz2' : W1.heap.size < W2.heap.size := by omega
  clear h2 b2
  go_loopw [33] (fun i wr => ∃ k : Nat, k ≤ (blameL (tdLo R d now) (tdHi R u now) n).length ∧ i = .int .i64 k ∧ Hid (IntsB wr W1.heap.size n (occ (blameL (tdLo R d now) (tdHi R u now) n) k)) ∧ Hid (Below W1.heap.size W1 wr) ∧ W1.heap.size < wr.heap.size) (fun i _ => (blameL (tdLo R d now) (tdHi R u now) n).length - (intOf i).toNat)
  case atStart => exact ⟨0, by omega, rfl, HT, HB2, hz2'⟩
  case round =>
    obtain ⟨k, hk, rfl, hT, hB, hz⟩ := hrel
    by_cases hlt : k < (blameL (tdLo R d now) (tdHi R u now) n).length
    · obtain ⟨bo, uo, rfl, hbo, huc, hO⟩ := HCs.out k hlt
      have hlm : (blameL (tdLo R d now) (tdHi R u now) n)[k] ∈ (blameL (tdLo R d now) (tdHi R u now) n) := List.getElem_mem hlt
      have hLE := Lib.hid (show (blameL (tdLo R d now) (tdHi R u now) n)[k]? = some (blameL (tdLo R d now) (tdHi R u now) n)[k] from List.getElem?_eq_getElem hlt)
      have hlb := HBl.out _ hlm
      generalize (blameL (tdLo R d now) (tdHi R u now) n)[k] = l at *
      obtain ⟨pi, ci, rfl, hic⟩ := outs_cells hO
      have HIC := Lib.hid hic
      have HLB := Lib.hid hlb.2
      have hll12 : l.length ≤ 12 := by omega
      have hco := (hB.out.cell (p := ⟨bo, k, none⟩) hbo).trans huc
      have hk0 : (0 : Int) ≤ (k : Int) := by omega
      have hk1 : (k : Int) < ((blameL (tdLo R d now) (tdHi R u now) n).length : Int) := by omega
      obtain ⟨wo, hwo⟩ : ∃ wo, wo = wr := ⟨_, rfl⟩
      subst hwo
      clear hic hO huc hlb hlm
      go_wp2_with fail
      go_loopw [39] (fun i wr => ∃ m : Nat, m ≤ l.length ∧ i = .int .i64 m ∧ Hid (IntsB wr W1.heap.size n (fun i => occ (blameL (tdLo R d now) (tdHi R u now) n) k i + occ1 l m i)) ∧ Hid (Below W1.heap.size W1 wr) ∧ W1.heap.size < wr.heap.size) (fun i _ => l.length - (intOf i).toNat)
      case atStart => exact ⟨0, by omega, rfl, hT.out.congr (fun i _ => by simp [occ1]), hB, hz⟩
      case round =>
        obtain ⟨m, hm, rfl, hT2, hB2, hz3⟩ := hrel
        by_cases hml : m < l.length
        · obtain ⟨bi, rfl, hbi, hci⟩ := HIC.out m hml
          have hel : l[m] < n := HLB.out _ (List.getElem_mem hml)
          have hme := Lib.hid (show l[m]?.getD 0 = l[m] by simp [hml])
          have hcj := (hB2.out.cell (p := ⟨bi, m, none⟩) hbi).trans hci
          generalize l[m] = e at *
          obtain ⟨ht, htf⟩ := hT2.out.cell hel
          have hob := occ_bd (blameL (tdLo R d now) (tdHi R u now) n) e (fun l' hl' => Nat.le_trans (HBl.out l' hl').1 hn) k
          have hob1 := occ1_bd l e m
          have hx : ∃ x : Int, x = occ (blameL (tdLo R d now) (tdHi R u now) n) k e + occ1 l m e ∧ 0 ≤ x ∧ x ≤ 100000 := ⟨_, rfl, by omega, by omega⟩
          obtain ⟨x, hxe, hx0, hx1⟩ := hx
          have HX := Lib.hid hxe
          have ht' : wr.cell? ⟨W1.heap.size, e, none⟩ = some (.int .i64 x) := by rw [hxe]; exact ht
          have hm0 : (0 : Int) ≤ (m : Int) := by omega
          have hm1 : (m : Int) < (l.length : Int) := by omega
          have he0 : (0 : Int) ≤ (e : Int) := by omega
          have he1 : (e : Int) < (n : Int) := by omega
          clear ht hxe hci hob hob1
          go_wp2_with fail
          go_roundw
          case rel =>
            refine ⟨m + 1, by omega, by go_num, ?_, hB2.out.setCell (p := ⟨W1.heap.size, e, none⟩) (Nat.le_refl _) _, by simp [World.setCell]; exact hz3⟩
            refine ((hT2.out.set e (x + 1)).congr (fun i hi => ?_) : IntsB _ _ _ _)
            by_cases h : i = e
            · subst h
              simp only [if_true]
              rw [HX.out]
              simp [occ1, hme.out]; omega
            · simp only [if_neg h]
              simp [occ1, hme.out, Ne.symm h]
          case measure => simp [intOf]; omega
        · obtain rfl : m = l.length := by omega
          have HE := Lib.hid (show ∀ i, occ (blameL (tdLo R d now) (tdHi R u now) n) (k + 1) i = occ (blameL (tdLo R d now) (tdHi R u now) n) k i + occ1 l l.length i from fun i => by
            show occ (blameL (tdLo R d now) (tdHi R u now) n) k i + occ1 ((blameL (tdLo R d now) (tdHi R u now) n)[k]?.getD []) ((blameL (tdLo R d now) (tdHi R u now) n)[k]?.getD []).length i = _
            rw [hLE.out]; rfl)
          go_wp2_with fail
          go_roundw
          case rel => exact ⟨k + 1, by omega, by go_num, hT2.out.congr (fun i _ => HE.out i), hB2, hz3⟩
          case measure => simp [intOf]; omega
    · obtain rfl : k = (blameL (tdLo R d now) (tdHi R u now) n).length := by omega
      obtain ⟨wo, hwo⟩ : ∃ wo, wo = wr := ⟨_, rfl⟩
      subst hwo
      have hno : ∀ i : Nat, i < n → ∃ x : Int, x = occ (blameL (tdLo R d now) (tdHi R u now) n) (blameL (tdLo R d now) (tdHi R u now) n).length i ∧ 0 ≤ x ∧ x ≤ 100000 := fun i _ => by
        have hob := occ_bd (blameL (tdLo R d now) (tdHi R u now) n) i (fun l' hl' => Nat.le_trans (HBl.out l' hl').1 hn) (blameL (tdLo R d now) (tdHi R u now) n).length
        exact ⟨_, rfl, by omega, by omega⟩
      have HNo := Lib.hid hno
      clear hno
      go_wp2_with (refine list_make rfl rfl rfl und89 hi hz0 hz1 hby (by omega) ?_; intro W4 h4 z4 b4)
      have HG := Lib.hid ((IntsB.made h4).congr (f' := fun i => if i < 0 then guiltF (blameL (tdLo R d now) (tdHi R u now) n) i else 0) (fun i _ => by simp))
      have HB4 := Lib.hid b4
      have hz5 : wo.heap.size < W4.heap.size := by omega
      clear h4 b4
      go_loopw [56] (fun i wr => ∃ k : Nat, k ≤ n ∧ i = .int .i64 k ∧ Hid (IntsB wr wo.heap.size n (fun i => if i < k then guiltF (blameL (tdLo R d now) (tdHi R u now) n) i else 0)) ∧ Hid (Below wo.heap.size wo wr) ∧ wo.heap.size < wr.heap.size) (fun i _ => n - (intOf i).toNat)
      case atStart => exact ⟨0, by omega, rfl, HG, HB4, hz5⟩
      case round =>
        obtain ⟨k, hk, rfl, hG, hB4, hz6⟩ := hrel
        by_cases hlt : k < n
        · obtain ⟨x, hxe, hx0, hx1⟩ := HNo.out k hlt
          have ht := (hB4.out.cell (p := ⟨W1.heap.size, k, none⟩) hz).trans (hT.out.cell hlt).1
          rw [← hxe] at ht
          obtain ⟨hgc, hgf⟩ := hG.out.cell hlt
          have hgc' : wr.cell? ⟨wo.heap.size, k, none⟩ = some (.int .i64 0) := by rw [hgc]; simp
          have hk0 : (0 : Int) ≤ (k : Int) := by omega
          have hk1 : (k : Int) < (n : Int) := by omega
          have HXE := Lib.hid hxe
          clear hgc hxe
          by_cases h1 : x = ((blameL (tdLo R d now) (tdHi R u now) n).length : Int)
          · have HGv := Lib.hid (show 2 = guiltF (blameL (tdLo R d now) (tdHi R u now) n) k by unfold guiltF; rw [← HXE.out, if_pos h1])
            go_wp2_with fail
            go_roundw
            case rel =>
              refine ⟨k + 1, by omega, by go_num, ?_, hB4.out.setCell (p := ⟨wo.heap.size, k, none⟩) (Nat.le_refl _) _, by simp [World.setCell]; exact hz6⟩
              refine ((hG.out.set k 2).congr (fun i hi => ?_) : IntsB _ _ _ _)
              by_cases h : i = k
              · subst h
                simp only [if_true]
                rw [if_pos (by omega)]
                exact HGv.out.symm
              · simp only [if_neg h]
                by_cases h' : i < k
                · rw [if_pos h', if_pos (by omega)]
                · rw [if_neg h', if_neg (by omega)]
            case measure => simp [intOf]; omega
          · by_cases h2 : 0 < x
            · have HGv := Lib.hid (show 1 = guiltF (blameL (tdLo R d now) (tdHi R u now) n) k by unfold guiltF; rw [← HXE.out, if_neg h1, if_pos h2])
              go_wp2_with fail
              go_roundw
              case rel =>
                refine ⟨k + 1, by omega, by go_num, ?_, hB4.out.setCell (p := ⟨wo.heap.size, k, none⟩) (Nat.le_refl _) _, by simp [World.setCell]; exact hz6⟩
                refine ((hG.out.set k 1).congr (fun i hi => ?_) : IntsB _ _ _ _)
                by_cases h : i = k
                · subst h
                  simp only [if_true]
                  rw [if_pos (by omega)]
                  exact HGv.out.symm
                · simp only [if_neg h]
                  by_cases h' : i < k
                  · rw [if_pos h', if_pos (by omega)]
                  · rw [if_neg h', if_neg (by omega)]
              case measure => simp [intOf]; omega
            · have HGv := Lib.hid (show 0 = guiltF (blameL (tdLo R d now) (tdHi R u now) n) k by unfold guiltF; rw [← HXE.out, if_neg h1, if_neg h2])
              go_wp2_with fail
              go_roundw
              case rel =>
                refine ⟨k + 1, by omega, by go_num, hG.out.congr (fun i hi => ?_), hB4, hz6⟩
                by_cases h : i = k
                · subst h
                  rw [if_pos (by omega), if_neg (by omega)]
                  exact HGv.out.symm
                · by_cases h' : i < k
                  · rw [if_pos h', if_pos (by omega)]
                  · rw [if_neg h', if_neg (by omega)]
              case measure => simp [intOf]; omega
        · obtain rfl : k = n := by omega
          have JG := Lib.hid (hG.out.congr (f' := guiltF (blameL (tdLo R d now) (tdHi R u now) k)) (fun i hi => by rw [if_pos hi]))
          have JB := Lib.hid (BB.out.trans ((hB.out.mono (by omega)).trans (hB4.out.mono (by have := hB.out.size; omega))))
          have hzb := hB.out.size
          go_wp2_with fail
          refine bodyPost_ret (v := .tuple #[.slice (some ⟨wo.heap.size, 0, none⟩) k k, .int .i64 0]) (by simp [results, Tryd.results46, go_sem]) rfl ⟨_, rfl, by omega, hz6, JG.out, JB.out⟩
end Go.Proofs.YtdcpmdigihbdpaaDoor
