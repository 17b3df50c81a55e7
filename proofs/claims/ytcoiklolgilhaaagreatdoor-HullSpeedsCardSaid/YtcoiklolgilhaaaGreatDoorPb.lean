/- Contracts of the small functions of package hull: within, roundedUp, checkSpeed, lastX, lowest. Points lie in memory; numbers are small enough where it says so. -/
import Derived.Test.YtcoiklolgilhaaaGreatDoorPa
import Derived.Test.YtcoiklolgilhaaaGreatDoorRa
namespace Go.Proofs.YtcoiklolgilhaaaGreatDoor
open Go.RowKit
set_option maxRecDepth 100000
/-- A curve's points in memory. -/
def Pts (W : World) (p : Option Addr) (c : Cv) : Prop := ∀ i, i < c.n → ∃ b o, p = some ⟨b, o, none⟩ ∧ b < W.heap.size ∧ W.cell? ⟨b, o + i * 2, none⟩ = some (.int .i64 (c.x i)) ∧ W.cell? ⟨b, o + i * 2 + 1, none⟩ = some (.int .i64 (c.y i))
theorem Pts.later {w W : World} {p : Option Addr} {c : Cv} (h : Pts w p c) (hb : Below w.heap.size w W) : Pts W p c := fun i hi => by
  obtain ⟨b, o, e, hlt, h1, h2⟩ := h i hi
  exact ⟨b, o, e, Nat.lt_of_lt_of_le hlt hb.size, (hb.cell (p := ⟨b, o + i * 2, none⟩) hlt).trans h1, (hb.cell (p := ⟨b, o + i * 2 + 1, none⟩) hlt).trans h2⟩
theorem hwithin_any (n lo hi : Int) (w : World) : Calls Tryz.prog 112 #[.int .i64 n, .int .i64 lo, .int .i64 hi] w fun e w' => e = .returned (.bool (inB n lo hi)) ∧ w = w' := by
  by_cases h1 : lo ≤ n
  · by_cases h2 : n ≤ hi
    · have e : inB n lo hi = true := decide_eq_true ⟨h1, h2⟩
      rw [e]
      go_enter Tryz.func112, Tryz.ntmps112
      go_wp2
      go_ret
      simp
    · have e : inB n lo hi = false := decide_eq_false (fun h => h2 h.2)
      rw [e]
      go_enter Tryz.func112, Tryz.ntmps112
      go_wp2
      go_ret
      simp
  · have e : inB n lo hi = false := decide_eq_false (fun h => h1 h.1)
    rw [e]
    go_enter Tryz.func112, Tryz.ntmps112
    go_wp2
    go_ret
    simp
theorem roundedUp_any (n d : Int) (hn : 0 ≤ n) (hn' : n ≤ 4000000000000000000) (hd : 0 < d) (hd' : d ≤ 4000000000000000000) (w : World) : Calls Tryz.prog 81 #[.int .i64 n, .int .i64 d] w fun e w' => e = .returned (.int .i64 (cdiv n d)) ∧ w = w' := by
  go_enter Tryz.func81, Tryz.ntmps81
  go_wp2
  go_ret
  simp [cdiv]
def errS (v : Int) : Int := if 0 ≤ v ∧ v ≤ 250 then 0 else 6
theorem checkSpeed_any (v : Int) (w : World) : Calls Tryz.prog 69 #[.int .i64 v] w fun e w' => e = .returned (.int .i64 (errS v)) ∧ w = w' := by
  have hc := hwithin_any v 0 250 w
  by_cases h : 0 ≤ v ∧ v ≤ 250
  · have e : inB v 0 250 = true := decide_eq_true h
    rw [e] at hc
    have HC := Lib.hid hc
    have HE := Lib.hid (show errS v = 0 from if_pos h)
    clear hc h e
    go_enter Tryz.func69, Tryz.ntmps69
    go_wp2_with fail
    refine HC.out.mono ?_
    rintro e w' ⟨rfl, rfl⟩
    go_wp2_with fail
    go_ret
    simp [HE.out]
  · have e : inB v 0 250 = false := decide_eq_false h
    rw [e] at hc
    have HC := Lib.hid hc
    have HE := Lib.hid (show errS v = 6 from if_neg h)
    clear hc h e
    go_enter Tryz.func69, Tryz.ntmps69
    go_wp2_with fail
    refine HC.out.mono ?_
    rintro e w' ⟨rfl, rfl⟩
    go_wp2_with fail
    go_ret
    simp [HE.out]
theorem lastX_any (p : Option Addr) (n cap : Nat) (c : Cv) (hc : c.n = n) (hn : 1 ≤ n) (hm : n ≤ 100) (w : World) (h : Pts w p c) : Calls Tryz.prog 132 #[.slice p n cap] w fun e w' => e = .returned (.int .i64 (lastXP c)) ∧ w = w' := by
  obtain ⟨k, rfl⟩ : ∃ k, n = k + 1 := ⟨n - 1, by omega⟩
  obtain ⟨b, o, rfl, hlt, h1, h2⟩ := h k (by omega)
  have HE := Lib.hid (show lastXP c = c.x k by unfold lastXP; rw [hc]; rfl)
  clear h hc
  go_enter Tryz.func132, Tryz.ntmps132
  go_wp2
  go_ret
  simp [HE.out]
theorem w64 (n : Int) (h : -9223372036854775808 ≤ n ∧ n ≤ 9223372036854775807) : wrap64 n = n := by unfold wrap64; omega
theorem i64w (n : Int) (h : -9223372036854775808 ≤ n ∧ n ≤ 9223372036854775807) : IntKind.i64.wrap n = n := by
  have e : IntKind.i64.wrap n = wrap64 n := by
    simp only [IntKind.wrap, IntKind.bits, IntKind.signed, wrap64]; simp; split <;> omega
  rw [e]; exact w64 n h
theorem cells2 {W : World} {b : Nat} {x0 x1 : Value} {t : TypeId} (h : W.heap[b]? = some (.cells #[x0, x1] t (0, 0))) :
    (W.cell? ⟨b, 0, none⟩ = some x0 ∧ W.cell? ⟨b, 1, none⟩ = some x1) ∧ (W.frozen? ⟨b, 0, none⟩ = false ∧ W.frozen? ⟨b, 1, none⟩ = false) := by
  refine ⟨⟨?_, ?_⟩, ⟨?_, ?_⟩⟩ <;> first | exact frozen_of_block h _ | (rw [cell_of_block h]; rfl)
def World.store2 (W : World) (b : Nat) (y0 y1 : Value) : World := (W.setCell ⟨b, 0, none⟩ y0).setCell ⟨b, 1, none⟩ y1
theorem chg_store2 (W : World) (b : Nat) (y0 y1 : Value) : Chg b W (World.store2 W b y0 y1) := (chg_setCell W b 0 y0).trans (chg_setCell _ b 1 y1)
theorem store2_block {W : World} {b : Nat} {x0 x1 : Value} {t : TypeId} (h : W.heap[b]? = some (.cells #[x0, x1] t (0, 0))) (y0 y1 : Value) :
    (World.store2 W b y0 y1).heap[b]? = some (.cells #[y0, y1] t (0, 0)) := by
  unfold World.store2
  have h0 := setCell_block h 0 y0
  simp only [List.setIfInBounds_toArray, List.set_cons_zero] at h0
  have h1 := setCell_block h0 1 y1
  simp only [List.setIfInBounds_toArray, List.set_cons_zero, List.set_cons_succ] at h1
  exact h1
theorem list_store2 {Q : Exit → Act → World → Prop} {ops : Array Oper} {o : Oper} {rest : List Oper} {a : Act} {W : World} {ty : TypeId} {s r b : Nat} {t : TypeId} {x0 x1 y0 y1 : Int} (hg : o.guard = none) (hd : o.dst = none) (hop : o.op = Op.store ty (.tmp s) (.tmp r)) (hty : ty = 89 ∨ ty = 95 ∨ ty = 28)
    (he : a.eval (.tmp s) = ptr b) (hv : a.eval (.tmp r) = .agg #[.int .i64 y0, .int .i64 y1])
    (hb : W.heap[b]? = some (.cells #[.int .i64 x0, .int .i64 x1] t (0, 0)))
    (hK : ∀ W', W'.heap[b]? = some (.cells #[.int .i64 y0, .int .i64 y1] t (0, 0)) → Chg b W W' → wpList Tryz.prog ops Q rest a W') : wpList Tryz.prog ops Q (o :: rest) a W := by
  obtain ⟨⟨c0, c1⟩, f0, f1⟩ := cells2 hb
  unfold ptr at he
  have he' : a.tmps[s]?.getD undef = .pointer (some ⟨b, 0, none⟩) := by simpa [Act.eval] using he
  have hv' : a.tmps[r]?.getD undef = .agg #[.int .i64 y0, .int .i64 y1] := by simpa [Act.eval] using hv
  refine list_store hg hd ?_ (hK (World.store2 W b (.int .i64 y0) (.int .i64 y1)) (store2_block hb _ _) (chg_store2 _ _ _ _))
  unfold execOp World.store2
  rw [hop]
  rcases hty with rfl | rfl | rfl <;> simp [go_sem, he', hv', c0, c1, f0, f1]
theorem lowest_any (n d : Int) (hn : 0 ≤ n) (hn' : n ≤ 4000000000000000000) (hd : 0 < d) (hd' : d ≤ 4000000000000000000) (w : World) : Calls Tryz.prog 150 #[.int .i64 n, .int .i64 d] w fun e w' => e = .returned (.agg #[.int .i64 (n / (Int.gcd n d : Int)), .int .i64 (d / (Int.gcd n d : Int))]) ∧ Below w.heap.size w w' := by
  have hr0 := Int.emod_nonneg n (Int.ne_of_gt hd)
  have hr1 := Int.emod_lt_of_pos n hd
  have HG := Lib.hid (gcd_step n d hn hd)
  have hne : d ≠ 0 := by omega
  have hB := Lib.hid (block_new w (.cells #[.int .i64 0, .int .i64 0] 95))
  have hL := Lib.hid ((Below.refl w.heap.size w).alloc (Nat.le_refl _) (.cells #[.int .i64 0, .int .i64 0] 95))
  go_enter Tryz.func150, Tryz.ntmps150
  go_wp2
  go_quiet (fail)
  go_wp2
  go_loopw [5, 6] (fun x y wr => ∃ a b : Int, x = .int .i64 a ∧ y = .int .i64 b ∧ Hid (0 < a) ∧ Hid (a ≤ d) ∧ Hid (0 ≤ b) ∧ Hid (b < a) ∧ Hid (Int.gcd a b = Int.gcd n d) ∧ Hid (wr.heap[w.heap.size]? = some (.cells #[.int .i64 0, .int .i64 0] 95 (0, 0))) ∧ Hid (Below w.heap.size w wr)) (fun _ y _ => (intOf y).toNat)
  case atStart => exact ⟨d, n % d, rfl, rfl, hd, Int.le_refl _, hr0, hr1, HG.out, hB.out, below_drewN hL.out _⟩
  case round =>
    obtain ⟨a, b, rfl, rfl, ha, had, hb0, hba, hg, hblk, hbl⟩ := hrel
    have ha' := ha.out
    have had' := had.out
    have hb0' := hb0.out
    have hba' := hba.out
    by_cases hb : 0 < b
    · have q0 := Int.emod_nonneg a (Int.ne_of_gt hb)
      have q1 := Int.emod_lt_of_pos a hb
      have hbne : b ≠ 0 := by omega
      have HG2 := Lib.hid ((gcd_step a b (by omega) hb).trans hg.out)
      go_wp2
      go_quiet (fail)
      go_wp2
      go_roundw
      case rel => exact ⟨b, a % b, rfl, by go_num, hb, show b ≤ d by omega, q0, q1, HG2.out, hblk.out, below_drewN hbl.out _⟩
      case measure => simp [intOf]; omega
    · obtain rfl : b = 0 := by omega
      have e : a = (Int.gcd n d : Int) := by rw [← hg.out]; simp [Int.gcd]; omega
      have hane : a ≠ 0 := by omega
      have hlt := lt_of_block hblk.out
      have HB := Lib.hid hblk.out
      have HL := Lib.hid hbl.out
      have hw1 : IntKind.i64.wrap (n.tdiv a) = n / a := by
        rw [Int.tdiv_eq_ediv_of_nonneg hn]
        have := Int.ediv_nonneg hn (show (0 : Int) ≤ a by omega)
        have := Int.ediv_le_self a hn
        exact i64w _ (by omega)
      have hw2 : IntKind.i64.wrap (d.tdiv a) = d / a := by
        rw [Int.tdiv_eq_ediv_of_nonneg (show 0 ≤ d by omega)]
        have := Int.ediv_nonneg (show 0 ≤ d by omega) (show (0 : Int) ≤ a by omega)
        have := Int.ediv_le_self a (show 0 ≤ d by omega)
        exact i64w _ (by omega)
      have E1 := Lib.hid (show n / (Int.gcd n d : Int) = n / a by rw [← e])
      have E2 := Lib.hid (show d / (Int.gcd n d : Int) = d / a by rw [← e])
      generalize n / a = n1 at *
      generalize d / a = d1 at *
      clear hblk hbl e hg hB hL
      go_wp2
      refine wp_region_still_tail 7 (by kernel_rfl) (by kernel_rfl) ?_
      simp only [List.take_succ_cons, List.take_zero, List.drop_succ_cons, List.drop_zero]
      change wpStill _ _ (World.drew _) _ _ _
      repeat still_step
      refine wpStill_nil ?_
      change wpList _ _ _ _ _ (World.drew _)
      go_wp2_with (refine list_store2 rfl rfl rfl (.inr (.inl rfl)) rfl rfl HB.out ?_; intro W2 h2 hc2)
      obtain ⟨⟨c0, c1⟩, _⟩ := cells2 h2
      refine bodyPost_ret (v := .agg #[.int .i64 n1, .int .i64 d1]) (by simp [results, Tryz.results150, go_sem, c0, c1]) rfl ⟨by rw [E1.out, E2.out], ?_⟩
      exact HL.out.drew.trans (hc2.below (Nat.le_refl _))
end Go.Proofs.YtcoiklolgilhaaaGreatDoor
