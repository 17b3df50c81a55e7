/- The contracts of ice.without and of slices.Clone at truths: at most 12 reports. -/
import Derived.Test.YtdcpmdigihbdpaaDoorRs
import Derived.Test.YtdcpmdigihbdpaaDoorRe
import Derived.Deep.AppendLies
namespace Go.Proofs.YtdcpmdigihbdpaaDoor
open Go.RowKit
set_option maxRecDepth 100000
def outs (s : Nat → Bool) : Nat → List Nat
  | 0 => []
  | k + 1 => if s k = true then outs s k else outs s k ++ [k]
theorem outs_len (s : Nat → Bool) : ∀ k, (outs s k).length ≤ k
  | 0 => Nat.le_refl _
  | k + 1 => by
    have := outs_len s k
    unfold outs
    split
    · omega
    · simp; omega
def nats (l : List Nat) : List Value := l.map fun (i : Nat) => Value.int .i64 (i : Int)
structure Outs (W : World) (base : Nat) (v : Value) (l : List Nat) : Prop where
  row : W.ownsRow base 3 1 v l.length (nats l)
  nil : v = .slice none 0 0 ↔ l = []
theorem without_any (s : Nat → Bool) (n : Nat) (hn : n ≤ 12) (w : World) :
    Calls Tryd.prog 102 #[.agg (setA s), .int .i64 n] w fun e w' => ∃ v, e = .returned v ∧ Outs w' w.heap.size v (outs s n) ∧ Below w.heap.size w w' := by
  obtain ⟨i0, hi, hz0, hz1, hz2⟩ := info_parts info3
  have hn0 : (0 : Int) ≤ (n : Int) := by omega
  have hn12 : (n : Int) ≤ 12 := by omega
  have H0 := Lib.hid (block_new w (.cells (setA s) 152))
  have HB := Lib.hid ((Below.refl w.heap.size w).alloc (Nat.le_refl _) (.cells (setA s) 152))
  go_enter Tryd.func102, Tryd.ntmps102
  go_wp2_with fail
  go_loopw [5, 11] (fun v i wr => ∃ k : Nat, k ≤ n ∧ i = .int .i64 k ∧ Hid (Outs wr w.heap.size v (outs s k)) ∧ Hid (wr.heap[w.heap.size]? = some (.cells (setA s) 152 (0, 0))) ∧ Hid (Below w.heap.size w wr)) (fun _ i _ => n - (intOf i).toNat)
  case atStart => exact ⟨0, by omega, rfl, ⟨World.ownsRow_nil _ _ _ _, by simp [outs]⟩, H0, HB⟩
  case round =>
    obtain ⟨k, hk, rfl, hO, hS, hB⟩ := hrel
    by_cases hlt : k < n
    · have hk12 : (k : Int) < 12 := by omega
      have hk0 : (0 : Int) ≤ (k : Int) := by omega
      have hs := (cell_of_block hS.out k).trans (set_get s k (by omega))
      have hz := hB.out.size
      cases hsk : s k with
      | true =>
        rw [hsk] at hs
        have HE := Lib.hid (show outs s (k + 1) = outs s k by simp [outs, hsk])
        clear hsk
        go_wp2_with fail
        go_roundw
        case rel => exact ⟨k + 1, by omega, by go_num, by rw [HE.out]; exact hO, hS, hB⟩
        case measure => simp [intOf]; omega
      | false =>
        rw [hsk] at hs
        have HE := Lib.hid (show outs s (k + 1) = outs s k ++ [k] by simp [outs, hsk])
        have hl := outs_len s k
        have hmx : (outs s k).length + 1 ≤ maxLen := by simp only [maxLen]; omega
        have hbs : w.heap.size ≤ (wr.alloc (.cells #[.int .i64 (k : Int)] 3)).heap.size := by simp; omega
        clear hsk
        go_wp2_with (at_builtin; refine Hid.out ?_)
        refine Lib.hid ?_
        refine wpList_append_own _ rfl (.tmp 18) (.tmp 20) 89 rfl w.heap.size 3 i0 (.int .i64 0) 1 8 und89 hi hz0 hz1 hz2 rfl (by decide) u5 (outs s k).length (nats (outs s k)) rfl (hO.out.row.alloc _) ⟨wr.heap.size, 0, none⟩ 1 1 [.int .i64 (k : Int)] rfl rfl (World.news_of_block (block_new wr (.cells #[.int .i64 (k : Int)] 3))) (by simp [Value.oneCell']) hmx (by omega) hbs ?_
        have hlS := lt_of_block hS.out
        intro v' w1 hown' hgrow _
        have hne : some w.heap.size ≠ u5.ownBlock := by
          rcases hO.out.row.2 with ⟨rfl, _⟩ | ⟨g, cap, cur, rfl, hb, hg, _⟩
          · simp [Value.ownBlock]
          · intro e
            obtain rfl : w.heap.size = g := by simpa [Value.ownBlock] using e
            have := hS.out.symm.trans hg
            simp at this
        have HO1 := Lib.hid (show Outs w1 w.heap.size v' (outs s (k + 1)) from ⟨by rw [HE.out]; simpa [nats] using hown', by
          rw [HE.out]
          constructor
          · rintro rfl
            obtain ⟨g', cap', e⟩ := ownsRow_succ hown'
            cases e
          · intro e; simp at e⟩)
        have HS1 := Lib.hid ((hgrow.block w.heap.size (by rw [World.size_alloc]; omega) hne).trans ((Below.heap_alloc wr _ _ hlS).trans hS.out))
        have HB1 := Lib.hid (show Below w.heap.size w w1 from (hB.out.alloc hz (.cells #[.int .i64 (k : Int)] 3)).grown hgrow hbs (fun j e => by
          rcases hO.out.row.2 with ⟨rfl, _⟩ | ⟨g, cap, cur, rfl, hb, hg, _⟩
          · simp [Value.ownBlock] at e
          · obtain rfl : g = j := by simpa [Value.ownBlock] using e
            exact hb))
        clear hown' hgrow hne
        go_wp2_with fail
        go_roundw
        case rel => exact ⟨k + 1, by omega, by go_num, HO1, HS1, HB1⟩
        case measure => simp [intOf]; omega
    · obtain rfl : k = n := by omega
      go_wp2_with fail
      go_ret
      exact ⟨_, rfl, hO.out, hB.out⟩
/-- Truths in memory. -/
def boolL (s : Nat → Bool) (n : Nat) : List Value := (List.range n).map fun i => .bool (s i)
theorem cell_blockE {W : World} {B : Nat} {v : Value} {o : Nat} (h : W.cell? ⟨B, o, none⟩ = some v) : ∃ vs t x, W.heap[B]? = some (.cells vs t x) := by
  unfold World.cell? at h
  cases e : W.heap[B]? with
  | none => simp [e] at h
  | some o =>
    cases o with
    | cells vs t x => exact ⟨vs, t, x, rfl⟩
    | _ => simp [e] at h
theorem eq78 (a : Addr) (n cap : Nat) (w : World) : (binOp BinOp.eql 78 (.slice (some a) n cap) (.slice none 0 0)).run Tryd.prog w = .ok (.bool false) w := by
  have h : ∀ d : Nat, (Op.equalIn (d + 1) 78 (.slice (some a) n cap) (.slice none 0 0)).run Tryd.prog w = .ok false w := fun d => by
    simp [Op.equalIn, run_underlying und78]
  simp only [binOp]
  simp [Op.equal, Op.maxDepth, h 9999]
theorem Clone_any (s : Nat → Bool) (b n cap : Nat) (hn : n ≤ 12) (w : World) (hc : ∀ i, i < n → w.cell? ⟨b, i, none⟩ = some (.bool (s i))) :
    Calls Tryd.prog 98 #[.slice (some ⟨b, 0, none⟩) n cap] w fun e w' => ∃ v, e = .returned v ∧ w'.ownsRow w.heap.size 4 1 v n (boolL s n) ∧ Below w.heap.size w w' := by
  obtain ⟨i0, hi, hz0, hz1, hz2⟩ := info_parts info4
  have hcl : ∀ j u, (boolL s n)[j]? = some u → (w.alloc (.cells #[] 4)).cell? ((⟨b, 0, none⟩ : Addr).add j) = some u := by
    intro j u hu
    have hadd : (⟨b, 0, none⟩ : Addr).add j = ⟨b, j, none⟩ := by unfold Addr.add; split <;> simp_all
    rw [hadd]
    have hj : j < n := by
      have := List.getElem?_eq_some_iff.1 hu
      obtain ⟨h, _⟩ := this
      simpa [boolL] using h
    have h1 := hc j hj
    have h2 : u = .bool (s j) := by
      simp [boolL, hj] at hu
      exact hu.symm
    rw [h2]
    exact (Below.cell (p := ⟨b, j, none⟩) ((Below.refl _ w).alloc (Nat.le_refl _) _) (by obtain ⟨vs, t, x, hb⟩ := cell_blockE h1; exact lt_of_block hb)).trans h1
  have he := eq78 ⟨b, 0, none⟩ n cap w
  go_enter Tryd.func98, Tryd.ntmps98
  go_wp2_with (at_builtin; refine Hid.out ?_)
  refine Lib.hid ?_
  refine wpList_append_own _ rfl (.tmp 5) (.tmp 6) 78 rfl w.heap.size 4 i0 (.bool false) 1 1 und78 hi hz0 hz1 hz2 rfl (by decide) (.slice (some ⟨w.heap.size, 0, none⟩) 0 0) 0 [] rfl (World.ownsRow_made w #[] 0 (Nat.le_refl _) (by decide) rfl) ⟨b, 0, none⟩ n cap (boolL s n) rfl (by simp [boolL]) hcl (by simp [boolL, Value.oneCell']) (by simp only [maxLen]; omega) (by omega) (by simp) ?_
  intro v' w1 hown' hgrow _
  have HO := Lib.hid hown'
  have HB := Lib.hid (((Below.refl w.heap.size w).alloc (Nat.le_refl _) (.cells #[] 4)).grown hgrow (by simp) (fun j e => by
    have : w.heap.size = j := by simpa [Value.ownBlock] using e
    omega))
  clear hown' hgrow
  go_wp2_with fail
  go_ret
  exact ⟨_, rfl, by simpa using HO.out, HB.out⟩
end Go.Proofs.YtdcpmdigihbdpaaDoor
