/- The contract of the law's three: the chapter's three reports. -/
import Derived.Test.YtdcpmdigihbdpaaDoorSd
import Derived.Deep.AppendLies
namespace Go.Proofs.YtdcpmdigihbdpaaDoor
open Go.RowKit
set_option maxRecDepth 100000
def t3lo (i : Nat) : Int := if i = 0 then 30 else if i = 1 then 45 else 60
def t3hi (i : Nat) : Int := if i = 0 then 50 else if i = 1 then 70 else 80
def threeR (i : Nat) : Rep := { id := i, src := 3, hour := 0, x := 0, y := 0, has := 2, lo := fun q => if q = 1 then t3lo i else 0, hi := fun q => if q = 1 then t3hi i else 0 }
def repRow (R : Nat → Rep) : Nat → List Value
  | 0 => []
  | k + 1 => repRow R k ++ (repA (R k)).toList
theorem repRow_len (R : Nat → Rep) : ∀ k, (repRow R k).length = k * 14
  | 0 => rfl
  | k + 1 => by simp [repRow, repRow_len R k]; omega
theorem repRow_get (R : Nat → Rep) : ∀ k i, i < k → ∀ c v, (repA (R i))[c]? = some v → (repRow R k)[i * 14 + c]? = some v
  | 0, i, h, _, _, _ => by omega
  | k + 1, i, h, c, v, hv => by
    have hc : c < 14 := by
      have := (Array.getElem?_eq_some_iff.1 hv).1
      simpa using this
    unfold repRow
    by_cases e : i = k
    · subst e
      rw [List.getElem?_append_right (by rw [repRow_len]; omega), repRow_len]
      have : i * 14 + c - i * 14 = c := by omega
      rw [this]
      simpa using hv
    · rw [List.getElem?_append_left (by rw [repRow_len]; omega)]
      exact repRow_get R k i (by omega) c v hv
theorem reps_of_row {W : World} {base n : Nat} {p : Option Addr} {m c : Nat} {R : Nat → Rep} (h : W.ownsRow base 67 14 (.slice p m c) n (repRow R n)) : Reps W p n R := fun i hi => by
  have hr := h
  rcases h.2 with ⟨e1, e2⟩ | ⟨g, cap, cur, e1, _, hg, _⟩
  · omega
  · cases e1
    refine ⟨g, rfl, lt_of_block hg, fun c v hv => ?_⟩
    have := hr.cells (g := g) rfl (i * 14 + c) v (repRow_get R n i hi c v hv)
    have hadd : (⟨g, 0, none⟩ : Addr).add (i * 14 + c) = ⟨g, i * 14 + c, none⟩ := by unfold Addr.add; split <;> simp_all
    rwa [hadd] at this
set_option maxHeartbeats 2000000 in
theorem three_any (w : World) : Calls Tryd.prog 54 #[] w fun e w' => ∃ p c, e = .returned (.slice p 3 c) ∧ Reps w' p 3 threeR ∧ Below w.heap.size w w' := by
  obtain ⟨i0, hi, hz0, hz1, hz2⟩ := info_parts info67
  go_enter Tryd.func54, Tryd.ntmps54
  go_wp2_with fail
  have H0 := Lib.hid (block_new w (.cells #[.int .i64 30, .int .i64 50, .int .i64 45, .int .i64 70, .int .i64 60, .int .i64 80] 23))
  have HB := Lib.hid ((Below.refl w.heap.size w).alloc (Nat.le_refl _) (.cells #[.int .i64 30, .int .i64 50, .int .i64 45, .int .i64 70, .int .i64 60, .int .i64 80] 23))
  have hsz : w.heap.size < (w.alloc (.cells #[.int .i64 30, .int .i64 50, .int .i64 45, .int .i64 70, .int .i64 60, .int .i64 80] 23)).heap.size := by simp
  go_loopw [1, 9] (fun v i wr => ∃ (k : Nat) (p : Option Addr) (c : Nat), k ≤ 3 ∧ i = .int .i64 k ∧ v = .slice p k c ∧ Hid (wr.ownsRow w.heap.size 67 14 (.slice p k c) k (repRow threeR k)) ∧ Hid (wr.heap[w.heap.size]? = some (.cells #[.int .i64 30, .int .i64 50, .int .i64 45, .int .i64 70, .int .i64 60, .int .i64 80] 23 (0, 0))) ∧ Hid (Below w.heap.size w wr)) (fun _ i _ => 3 - (intOf i).toNat)
  case atStart => exact ⟨0, none, 0, by omega, rfl, rfl, World.ownsRow_nil _ _ _ _, H0, HB⟩
  case round =>
    obtain ⟨k, p, c, hk, rfl, rfl, hO, hS, hB⟩ := hrel
    by_cases hlt : k < 3
    · have hk3 : (k : Int) < 3 := by omega
      have hk0 : (0 : Int) ≤ (k : Int) := by omega
      have hcs : wr.cell? ⟨w.heap.size, k * 2, none⟩ = some (.int .i64 (t3lo k)) ∧ wr.cell? ⟨w.heap.size, k * 2 + 1, none⟩ = some (.int .i64 (t3hi k)) := by
        have hc := cell_of_block hS.out
        have : k = 0 ∨ k = 1 ∨ k = 2 := by omega
        rcases this with rfl | rfl | rfl
        · exact ⟨(hc 0).trans rfl, (hc 1).trans rfl⟩
        · exact ⟨(hc 2).trans rfl, (hc 3).trans rfl⟩
        · exact ⟨(hc 4).trans rfl, (hc 5).trans rfl⟩
      obtain ⟨c0, c1⟩ := hcs
      have hz := hB.out.size
      have hlS := lt_of_block hS.out
      have hmx : k + 1 ≤ maxLen := by simp only [maxLen]; omega
      have hnb : ((wr.alloc (.cells #[.int .i64 (t3lo k), .int .i64 (t3hi k)] 23)).alloc (.cells #[.int .i64 (k : Int), .int .i64 3, .int .i64 0, .int .i64 0, .int .i64 0, .int .i64 2, .int .i64 0, .int .i64 0, .int .i64 (t3lo k), .int .i64 (t3hi k), .int .i64 0, .int .i64 0, .int .i64 0, .int .i64 0] 67)).heap[wr.heap.size + 1]? = some (.cells #[.int .i64 (k : Int), .int .i64 3, .int .i64 0, .int .i64 0, .int .i64 0, .int .i64 2, .int .i64 0, .int .i64 0, .int .i64 (t3lo k), .int .i64 (t3hi k), .int .i64 0, .int .i64 0, .int .i64 0, .int .i64 0] 67 (0, 0)) := by
        have := block_new (wr.alloc (.cells #[.int .i64 (t3lo k), .int .i64 (t3hi k)] 23)) (.cells #[.int .i64 (k : Int), .int .i64 3, .int .i64 0, .int .i64 0, .int .i64 0, .int .i64 2, .int .i64 0, .int .i64 0, .int .i64 (t3lo k), .int .i64 (t3hi k), .int .i64 0, .int .i64 0, .int .i64 0, .int .i64 0] 67)
        rwa [World.size_alloc] at this
      have hbs : w.heap.size ≤ ((wr.alloc (.cells #[.int .i64 (t3lo k), .int .i64 (t3hi k)] 23)).alloc (.cells #[.int .i64 (k : Int), .int .i64 3, .int .i64 0, .int .i64 0, .int .i64 0, .int .i64 2, .int .i64 0, .int .i64 0, .int .i64 (t3lo k), .int .i64 (t3hi k), .int .i64 0, .int .i64 0, .int .i64 0, .int .i64 0] 67)).heap.size := by simp; omega
      go_wp2_with (at_builtin; refine Hid.out ?_)
      refine Lib.hid ?_
      refine wpList_append_own _ rfl (.tmp 13) (.tmp 19) 63 rfl w.heap.size 67 i0 (.agg #[.int .i64 0, .int .i64 0, .int .i64 0, .int .i64 0, .int .i64 0, .int .i64 0, .int .i64 0, .int .i64 0, .int .i64 0, .int .i64 0, .int .i64 0, .int .i64 0, .int .i64 0, .int .i64 0]) 14 112 und63 hi hz0 hz1 hz2 rfl (by decide) (.slice p k c) k (repRow threeR k) rfl ((hO.out.alloc _).alloc _) ⟨wr.heap.size + 1, 0, none⟩ 1 1 [.int .i64 (k : Int), .int .i64 3, .int .i64 0, .int .i64 0, .int .i64 0, .int .i64 2, .int .i64 0, .int .i64 0, .int .i64 (t3lo k), .int .i64 (t3hi k), .int .i64 0, .int .i64 0, .int .i64 0, .int .i64 0] rfl rfl (World.news_of_block hnb) (by simp [Value.oneCell']) hmx (by omega) hbs ?_
      intro v' w1 hown' hgrow _
      obtain ⟨g', cap', rfl⟩ := ownsRow_succ hown'
      have hne : some w.heap.size ≠ (Value.slice p k c).ownBlock := by
        rcases row_ne hO.out hS.out (by decide) with h | h
        · rw [h]; simp
        · exact fun e => h e.symm
      have HO1 := Lib.hid (show w1.ownsRow w.heap.size 67 14 (.slice (some ⟨g', 0, none⟩) (k + 1) cap') (k + 1) (repRow threeR (k + 1)) from hown')
      have HS1 := Lib.hid ((hgrow.block w.heap.size (by simp; omega) hne).trans ((Below.heap_alloc _ _ _ (by simp; omega)).trans ((Below.heap_alloc wr _ _ hlS).trans hS.out)))
      have HB1 := Lib.hid (show Below w.heap.size w w1 from ((hB.out.alloc hz _).alloc (by simp; omega) _).grown hgrow hbs (fun j e => by
        rcases hO.out.2 with ⟨h, _⟩ | ⟨gg, cp, cur, h, hb, hg, _⟩
        · rw [h] at e; simp [Value.ownBlock] at e
        · rw [h] at e
          obtain rfl : gg = j := by simpa [Value.ownBlock] using e
          exact hb))
      clear hown' hgrow hne
      go_wp2_with fail
      go_roundw
      case rel => exact ⟨k + 1, some ⟨g', 0, none⟩, cap', by omega, by go_num, rfl, HO1, HS1, HB1⟩
      case measure => simp [intOf]; omega
    · obtain rfl : k = 3 := by omega
      have HR := Lib.hid (reps_of_row hO.out)
      go_wp2_with fail
      go_ret
      exact ⟨p, c, rfl, HR.out, hB.out⟩
end Go.Proofs.YtdcpmdigihbdpaaDoor
