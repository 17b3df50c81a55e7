/- The contracts of hull.checkPressures, of slices.IndexFunc over spans and of what Free asks. -/
import Derived.Test.YtcoiklolgilhaaaGreatDoorPr
import Derived.Test.YtcoiklolgilhaaaGreatDoorPs
namespace Go.Proofs.YtcoiklolgilhaaaGreatDoor
open Go.RowKit
set_option maxRecDepth 100000
def prOk (c : Cv) (i : Nat) : Bool := decide (0 ≤ c.x i ∧ c.x i ≤ c.y i ∧ c.y i ≤ 3)
def prE (c : Cv) : Int := if c.n ≤ 240 then (if allN c.n (prOk c) = true then 0 else 6) else 2
set_option maxHeartbeats 2000000 in
theorem checkPressures_any (p : Option Addr) (n cap : Nat) (c : Cv) (hc : c.n = n) (hm : n ≤ 1000000) (w : World) (h : Pts w p c) :
    Calls Tryz.prog 98 #[.slice p n cap] w fun e w' => e = .returned (.int .i64 (prE c)) ∧ Below w.heap.size w w' := by
  have HP := Lib.hid h
  have HC := Lib.hid hc
  clear h
  by_cases hr : n ≤ 240
  · have hr' : (n : Int) ≤ 240 := by omega
    go_enter Tryz.func98, Tryz.ntmps98
    go_wp2_with fail
    go_loopw [10] (fun i wr => ∃ k : Nat, k ≤ n ∧ i = .int .i64 k ∧ Hid (∀ j, j < k → prOk c j = true) ∧ Hid (Below w.heap.size w wr)) (fun i _ => n - (intOf i).toNat)
    case atStart => exact ⟨0, by omega, rfl, fun j hj => by omega, Below.refl _ _⟩
    case round =>
      obtain ⟨k, hk, rfl, hu, hI⟩ := hrel
      by_cases hlt2 : k < n
      · obtain ⟨b, o, rfl, hltk, cx, cy⟩ := (HP.out.later hI.out) k (by rw [HC.out]; exact hlt2)
        have hkn : (k : Int) < (n : Int) := by omega
        have hk0 : (0 : Int) ≤ (k : Int) := by omega
        have HB := Lib.hid (hI.out.alloc hI.out.size (.cells #[.int .i64 (c.x k), .int .i64 (c.y k)] 28))
        have HF := Lib.hid (fun (hf : prOk c k = false) => (show prE c = 6 by
          unfold prE
          rw [HC.out, if_pos hr, if_neg]
          intro ha
          rw [allN_iff.1 ha k hlt2] at hf; cases hf))
        have HU := Lib.hid (fun (hf : prOk c k = true) => (show ∀ j, j < k + 1 → prOk c j = true from fun j hj => by
          by_cases e : j = k
          · rw [e]; exact hf
          · exact hu.out j (by omega)))
        clear hu hI
        by_cases h1 : 0 ≤ c.x k
        · by_cases h2 : c.x k ≤ c.y k
          · by_cases h3 : c.y k ≤ 3
            · have HU2 := Lib.hid (HU.out (by simp [prOk, h1, h2, h3]))
              clear HF HU
              go_wp2_with fail
              go_roundw
              case rel => exact ⟨k + 1, by omega, by go_num, HU2.out, HB.out⟩
              case measure => simp [intOf]; omega
            · have HF2 := Lib.hid (HF.out (by simp [prOk, h3]))
              have h3' : 3 < c.y k := by omega
              clear HF HU
              go_wp2_with fail
              go_ret
              exact ⟨by rw [HF2.out]; rfl, HB.out⟩
          · have HF2 := Lib.hid (HF.out (by simp [prOk, h2]))
            have h2' : c.y k < c.x k := by omega
            clear HF HU
            go_wp2_with fail
            go_ret
            exact ⟨by rw [HF2.out]; rfl, HB.out⟩
        · have HF2 := Lib.hid (HF.out (by simp [prOk, h1]))
          have h1' : c.x k < 0 := by omega
          clear HF HU
          go_wp2_with fail
          go_ret
          exact ⟨by rw [HF2.out]; rfl, HB.out⟩
      · obtain rfl : k = n := by omega
        have HF := Lib.hid (show prE c = 0 by
          unfold prE
          rw [HC.out, if_pos hr, if_pos (allN_iff.2 hu.out)])
        go_wp2_with fail
        go_ret
        exact ⟨by rw [HF.out]; rfl, hI.out⟩
  · have HE := Lib.hid (show prE c = 2 by unfold prE; rw [hc, if_neg hr])
    have hr' : 240 < (n : Int) := by omega
    go_enter Tryz.func98, Tryz.ntmps98
    go_wp2_with fail
    go_ret
    exact ⟨by rw [HE.out]; rfl, Below.refl _ _⟩
/-- the first place, or -1 -/
def fstN (f : Nat → Bool) : Nat → Nat → Int
  | 0, _ => -1
  | k + 1, i => if f i = true then (i : Int) else fstN f k (i + 1)
set_option maxHeartbeats 1000000 in
theorem IndexFunc_any (g : Nat) (lb : Array Value) (eg : ∀ args w, (callFunc g args).run Tryz.prog w = .ok (.enter g args) w) (f : Nat → Bool) (p : Option Addr) (n cap : Nat) (c : Cv) (hc : c.n = n) (hm : n ≤ 1000000) (w : World) (Iv : World → Prop)
    (hpts : ∀ W, Iv W → Pts W p c)
    (hstep : ∀ (i : Nat) (W : World), i < n → Iv W → Calls Tryz.prog g (#[.agg #[.int .i64 (c.x i), .int .i64 (c.y i)]] ++ lb) W fun e W' => e = .returned (.bool (f i)) ∧ Iv W') (h0 : Iv w) :
    Calls Tryz.prog 100 #[.slice p n cap, .func (.func g) #[] lb] w fun e w' => e = .returned (.int .i64 (fstN f n 0)) ∧ Iv w' := by
  have HP := Lib.hid hpts
  have HC := Lib.hid hc
  have HS := Lib.hid hstep
  have H0 := Lib.hid h0
  clear hpts hstep h0
  go_enter Tryz.func100, Tryz.ntmps100
  go_wp2_with fail
  go_loopw [8] (fun i wr => ∃ k : Nat, k ≤ n ∧ i = .int .i64 k ∧ Hid (fstN f n 0 = fstN f (n - k) k) ∧ Hid (Iv wr)) (fun i _ => n - (intOf i).toNat)
  case atStart => exact ⟨0, by omega, rfl, rfl, H0.out⟩
  case round =>
    obtain ⟨k, hk, rfl, hu, hI⟩ := hrel
    by_cases hlt2 : k < n
    · obtain ⟨b, o, rfl, hltk, cx, cy⟩ := (HP.out wr hI.out) k (by rw [HC.out]; exact hlt2)
      have hkn : (k : Int) < (n : Int) := by omega
      have hk0 : (0 : Int) ≤ (k : Int) := by omega
      have HU := Lib.hid (show fstN f n 0 = if f k = true then (k : Int) else fstN f (n - (k + 1)) (k + 1) by rw [hu.out, show n - k = (n - (k + 1)) + 1 by omega]; rfl)
      have hcc := HS.out k wr hlt2 hI.out
      clear hu hI
      cases hf : f k with
      | true =>
        rw [hf] at hcc
        have HCC := Lib.hid hcc
        have HE := Lib.hid (show fstN f n 0 = (k : Int) by have := HU.out; rw [hf] at this; simpa using this)
        clear hcc HU hf
        go_wp2_with fail
        refine HCC.out.mono ?_
        rintro e W1 ⟨rfl, hI1⟩
        have HI1 := Lib.hid hI1
        clear hI1
        go_wp2_with fail
        go_ret
        exact ⟨by rw [HE.out]; rfl, HI1.out⟩
      | false =>
        rw [hf] at hcc
        have HCC := Lib.hid hcc
        have HE := Lib.hid (show fstN f n 0 = fstN f (n - (k + 1)) (k + 1) by have := HU.out; rw [hf] at this; simpa using this)
        clear hcc HU hf
        go_wp2_with fail
        refine HCC.out.mono ?_
        rintro e W1 ⟨rfl, hI1⟩
        have HI1 := Lib.hid hI1
        clear hI1
        go_wp2_with fail
        go_roundw
        case rel => exact ⟨k + 1, by omega, by go_num, HE.out, HI1.out⟩
        case measure => simp [intOf]; omega
    · obtain rfl : k = n := by omega
      have HE := Lib.hid (show fstN f k 0 = -1 by rw [hu.out, Nat.sub_self]; rfl)
      have HI1 := Lib.hid hI.out
      clear hu hI
      go_wp2_with fail
      go_ret
      exact ⟨by rw [HE.out]; rfl, HI1.out⟩
theorem list_store57 {Q : Exit → Act → World → Prop} {ops : Array Oper} {o : Oper} {rest : List Oper} {a : Act} {W : World} {s r b : Nat} {t : TypeId} {x0 x1 x2 x3 x4 x5 x6 x7 : Value} {y0 y1 : Int} (hg : o.guard = none) (hd : o.dst = none) (hop : o.op = Op.store 28 (.tmp s) (.tmp r))
    (he : a.eval (.tmp s) = .pointer (some ⟨b, 6, none⟩)) (hv : a.eval (.tmp r) = .agg #[.int .i64 y0, .int .i64 y1]) (hb : W.heap[b]? = some (.cells #[x0, x1, x2, x3, x4, x5, x6, x7] t (0, 0)))
    (hK : ∀ W', W'.heap[b]? = some (.cells #[x0, x1, x2, x3, x4, x5, .int .i64 y0, .int .i64 y1] t (0, 0)) → Chg b W W' → wpList Tryz.prog ops Q rest a W') : wpList Tryz.prog ops Q (o :: rest) a W := by
  obtain ⟨⟨c0, c1, c2, c3, c4, c5, c6, c7⟩, f0, f1, f2, f3, f4, f5, f6, f7⟩ := cells8 hb
  have he' : a.tmps[s]?.getD undef = .pointer (some ⟨b, 6, none⟩) := by simpa [Act.eval] using he
  have hv' : a.tmps[r]?.getD undef = .agg #[.int .i64 y0, .int .i64 y1] := by simpa [Act.eval] using hv
  have hb' : ((W.setCell ⟨b, 6, none⟩ (.int .i64 y0)).setCell ⟨b, 7, none⟩ (.int .i64 y1)).heap[b]? = some (.cells #[x0, x1, x2, x3, x4, x5, .int .i64 y0, .int .i64 y1] t (0, 0)) := by
    have h0 := setCell_block hb 6 (.int .i64 y0)
    simp only [List.setIfInBounds_toArray, List.set_cons_zero, List.set_cons_succ] at h0
    have h1 := setCell_block h0 7 (.int .i64 y1)
    simp only [List.setIfInBounds_toArray, List.set_cons_zero, List.set_cons_succ] at h1
    exact h1
  refine list_store hg hd ?_ (hK _ hb' ((chg_setCell W b 6 _).trans (chg_setCell _ b 7 _)))
  unfold execOp
  rw [hop]
  simp [go_sem, he', hv', c6, c7, f6, f7]
def setP (i : Ic) (p : Int) : Ic := ⟨i.conc, i.thick, i.ridge, p⟩
theorem setP_good {lo hi : Ic} (g : GoodC lo hi) {a b : Int} (h0 : 0 ≤ a) (h1 : a ≤ b) (h2 : b ≤ 3) : GoodC (setP lo a) (setP hi b) :=
  ⟨⟨g.gl.conc, g.gl.thick, g.gl.ridge, h0, by show a ≤ 3; omega⟩, ⟨g.gh.conc, g.gh.thick, g.gh.ridge, by show 0 ≤ b; omega, h2⟩, ⟨g.le.conc, g.le.thick, g.le.ridge, h1⟩⟩
/-- what lies in Free's memory while it asks -/
structure FreeIv (w : World) (s : Sh) (m : Mem3) (lo hi : Ic) (B9 : Nat) (W : World) : Prop where
  low : Below w.heap.size w W
  ship : W.heap[w.heap.size]? = some (.cells (shipA s m) 24 (0, 0))
  cell : ∃ a b, W.heap[w.heap.size + 1]? = some (.cells (cellV (setP lo a) (setP hi b)) 30 (0, 0))
  res : W.heap[w.heap.size + 1 + 1]? = some (.cells #[.int .i64 0, .int .i64 0] 28 (0, 0))
  fn : W.heap[B9]? = some (.cells #[.func (.func 99) #[] #[.pointer (some ⟨w.heap.size + 1, 0, none⟩), .pointer (some ⟨w.heap.size, 0, none⟩)]] 155 (0, 0))
  b9 : w.heap.size + 1 + 1 < B9
theorem FreeIv.later {w : World} {s : Sh} {m : Mem3} {lo hi : Ic} {B9 : Nat} {W W' : World} (h : FreeIv w s m lo hi B9 W) (hb : Below W.heap.size W W') : FreeIv w s m lo hi B9 W' := by
  obtain ⟨a, b, hc⟩ := h.cell
  exact ⟨h.low.trans (hb.mono h.low.size), (hb.block _ (lt_of_block h.ship)).trans h.ship, ⟨a, b, (hb.block _ (lt_of_block hc)).trans hc⟩, (hb.block _ (lt_of_block h.res)).trans h.res, (hb.block _ (lt_of_block h.fn)).trans h.fn, h.b9⟩
set_option maxHeartbeats 2000000 in
theorem Free1_any (s : Sh) (m : Mem3) (lo hi : Ic) (g : Good s) (gc : GoodC lo hi) (a b : Int) (h0 : 0 ≤ a) (h1 : a ≤ b) (h2 : b ≤ 3) (B9 : Nat) (w W : World) (hs : ShipIn w s m) (hI : FreeIv w s m lo hi B9 W) :
    Calls Tryz.prog 99 #[.agg #[.int .i64 a, .int .i64 b], .pointer (some ⟨w.heap.size + 1, 0, none⟩), .pointer (some ⟨w.heap.size, 0, none⟩)] W fun e W' =>
      e = .returned (.tuple #[.bool (besP s (setP hi b) false || besP s (setP lo a) false), .bool (besP s (setP hi b) false && besP s (setP lo a) false)]) ∧ FreeIv w s m lo hi B9 W' := by
  obtain ⟨a0, b0, hc⟩ := hI.cell
  have HI := Lib.hid hI
  have HC := Lib.hid hc
  have hz0 := lt_of_block hI.ship
  have hz1 := lt_of_block hc
  have ha := (Below.refl W.heap.size W).alloc (Nat.le_refl _) (.cells #[.int .i64 a, .int .i64 b] 28)
  have HA := Lib.hid ha
  have hc1 := (ha.block _ hz1).trans hc
  obtain ⟨⟨e0, e1, e2, e3, e4, e5, e6, e7⟩, f0, f1, f2, f3, f4, f5, f6, f7⟩ := cells8 hc1
  obtain ⟨c0, c1, c2, c3, c4, c5, c6, c7, c8, c9, c10⟩ := cells11 ((ha.block _ hz0).trans hI.ship)
  have HK := Lib.hid hc1
  have HB := Lib.hid (fun (V : World) (hV : ShipIn V s m) => beset_any s m (setP lo a) (setP hi b) false g (setP_good gc h0 h1 h2) V hV)
  have HSH := Lib.hid hs
  clear hs ha hc hc1 hI
  generalize besP s (setP hi b) false = bh at *
  generalize besP s (setP lo a) false = bl at *
  go_enter Tryz.func99, Tryz.ntmps99
  clear e0 e1 e2 e3 e4 e5 e6 e7 f0 f1 f2 f3 f4 f5 f6 f7 c0 c1 c2 c3 c4 c5 c6 c7 c8 c9 c10
  have HALL := Lib.hid (fun (V : World) (hV : V.heap[w.heap.size + 1]? = some (.cells (cellV (setP lo a) (setP hi b)) 30 (0, 0))) (hc : Chg (w.heap.size + 1) (W.alloc (.cells #[.int .i64 a, .int .i64 b] 28)) V) =>
    (show FreeIv w s m lo hi B9 V from ⟨(HI.out.low.trans (HA.out.mono HI.out.low.size)).trans (hc.below (by omega)), (hc.2.1 _ (by omega)).trans ((HA.out.block _ hz0).trans HI.out.ship), ⟨a, b, hV⟩, (hc.2.1 _ (by omega)).trans ((HA.out.block _ (lt_of_block HI.out.res)).trans HI.out.res), (hc.2.1 _ (by have := HI.out.b9; omega)).trans ((HA.out.block _ (lt_of_block HI.out.fn)).trans HI.out.fn), HI.out.b9⟩))
  go_wp2_with (refine list_store57 rfl rfl rfl rfl rfl HK.out ?_; intro V hv hc; have HV := Lib.hid (HALL.out V hv hc); obtain ⟨c0, c1, c2, c3, c4, c5, c6, c7, c8, c9, c10⟩ := cells11 HV.out.ship; obtain ⟨⟨e0, e1, e2, e3, e4, e5, e6, e7⟩, _⟩ := cells8 hv; clear hv hc)
  refine (HB.out _ (HSH.out.later HV.out.low)).mono ?_
  rintro e V1 ⟨rfl, hb1⟩
  have HV1 := Lib.hid (HV.out.later hb1)
  clear hb1
  go_wp2_with fail
  refine bodyPost_ret (v := .tuple #[.bool (bh || bl), .bool (bh && bl)]) (by simp [results, Tryz.results99, go_sem]) rfl ⟨rfl, HV1.out⟩
end Go.Proofs.YtcoiklolgilhaaaGreatDoor
