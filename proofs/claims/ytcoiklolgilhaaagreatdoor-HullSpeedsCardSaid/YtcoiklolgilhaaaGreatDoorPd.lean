/- The contracts of hull.value and hull.At: a curve that is right, a number from 0 to 1000. -/
import Derived.Test.YtcoiklolgilhaaaGreatDoorPc
namespace Go.Proofs.YtcoiklolgilhaaaGreatDoor
open Go.RowKit
set_option maxRecDepth 100000
/-- in lowest terms -/
def lowP (p : Int × Int) : Int × Int := (p.1 / (Int.gcd p.1 p.2 : Int), p.2 / (Int.gcd p.1 p.2 : Int))
def ValAt (c : Cv) (a : Int) (n k : Nat) : Prop := valP c a = valG c a (n - 1 - k) k ∧ c.x k ≤ a
theorem low_one (y : Int) : lowP (y, 1) = (y, 1) := by simp [lowP]
set_option maxHeartbeats 1000000 in
theorem value_any (p : Option Addr) (n cap : Nat) (c : Cv) (hc : c.n = n) (g : IsCv c) (a : Int) (h0 : 0 ≤ a) (hcap : n ≤ cap) (w : World) (h : Pts w p c) :
    Calls Tryz.prog 113 #[.slice p n cap, .int .i64 a] w fun e w' => e = .returned (.agg #[.int .i64 (lowP (valP c a)).1, .int .i64 (lowP (valP c a)).2]) ∧ Below w.heap.size w w' := by
  have HP := Lib.hid h
  have h2 := g.two
  have h8 := g.eight
  rw [hc] at h2 h8
  obtain ⟨b, o, rfl, hlt, _, _⟩ := h 0 (by omega)
  have HC := Lib.hid hc
  have HG := Lib.hid g
  have hn1 : (((n - 1 : Nat)) : Int) = (n : Int) - 1 := by omega
  have hB := Lib.hid (block_new w (.cells #[.int .i64 0, .int .i64 0] 95))
  have hL := Lib.hid ((Below.refl w.heap.size w).alloc (Nat.le_refl _) (.cells #[.int .i64 0, .int .i64 0] 95))
  clear h hc g
  go_enter Tryz.func113, Tryz.ntmps113
  go_wp2_with fail
  go_loopw [11] (fun i wr => ∃ k : Nat, k ≤ n - 1 ∧ i = .int .i64 k ∧ Hid (ValAt c a n k) ∧ Hid (wr.heap[w.heap.size]? = some (.cells #[.int .i64 0, .int .i64 0] 95 (0, 0))) ∧ Hid (Below w.heap.size w wr)) (fun i _ => n - (intOf i).toNat)
  case atStart => exact ⟨0, by omega, rfl, ⟨by unfold valP; rw [HC.out]; rfl, by rw [HG.out.zero]; exact h0⟩, hB.out, hL.out⟩
  case round =>
    obtain ⟨k, hk, rfl, hv, hblk, hI⟩ := hrel
    by_cases hlt2 : k < n - 1
    · obtain ⟨b', o', e', hltk, px, py⟩ := (HP.out.later hI.out) k (by rw [HC.out]; omega)
      obtain ⟨rfl, rfl⟩ : _ = b' ∧ _ = o' := by simpa using e'
      obtain ⟨b', o', e2, hltq, qx, qy⟩ := (HP.out.later hI.out) (k + 1) (by rw [HC.out]; omega)
      obtain ⟨rfl, rfl⟩ : _ = b' ∧ _ = o' := by simpa using e2
      rw [show (k + 1) * 2 = 2 + k * 2 by omega, ← Nat.add_assoc] at qx qy
      clear e' e2
      have hkn : (k : Int) < (n : Int) - 1 := by omega
      have hk0 : (0 : Int) ≤ (k : Int) := by omega
      have g := HG.out
      have hcn := HC.out
      have s1 := g.step k (by omega)
      have y1 := g.low k (by omega)
      have y2 := g.high k (by omega)
      have y3 := g.low (k + 1) (by omega)
      have y4 := g.high (k + 1) (by omega)
      have x1 := g.nonneg k (by omega)
      have x2 := g.most (k + 1) (by omega)
      have xa := hv.out.2
      have hz := lt_of_block hblk.out
      by_cases hq : a ≤ c.x (k + 1)
      · have A := At.mid (c := c) (a := a) k (by omega) xa hq
        have bd := A.bd g
        have HV := Lib.hid (show valP c a = (c.y k * (c.x (k + 1) - c.x k) + (c.y (k + 1) - c.y k) * (a - c.x k), c.x (k + 1) - c.x k) by
          rw [hv.out.1, show n - 1 - k = (n - 1 - k - 1) + 1 by omega]; simp only [valG]; rw [if_pos hq])
        have m1 := Int.mul_le_mul y2 (show c.x (k + 1) - c.x k ≤ 400 by omega) (by omega) (by omega)
        have m0 := Int.mul_nonneg y1 (show 0 ≤ c.x (k + 1) - c.x k by omega)
        have m2 := Int.mul_le_mul (show c.y (k + 1) - c.y k ≤ 20000 by omega) (show a - c.x k ≤ 400 by omega) (by omega) (by omega)
        have m3 := Int.mul_le_mul (show -(c.y (k + 1) - c.y k) ≤ 20000 by omega) (show a - c.x k ≤ 400 by omega) (by omega) (by omega)
        rw [Int.neg_mul] at m3
        simp only at bd
        obtain ⟨bd1, bd2, bd3, bd4⟩ := bd
        clear g hcn A hv
        have HBk := Lib.hid hblk.out
        have HI := Lib.hid hI.out
        clear hblk hI
        go_wp2_with fail
        have hb1 : Below wr.heap.size wr ((wr.alloc (.cells #[.int .i64 (c.x (k + 1)), .int .i64 (c.y (k + 1))] 89)).alloc (.cells #[.int .i64 (c.x k), .int .i64 (c.y k)] 89)) := ((Below.refl _ _).alloc (Nat.le_refl _) _).alloc (by simp) _
        have HB1 := Lib.hid hb1
        clear hb1
        refine (lowest_any _ _ (by omega) (by omega) (by omega) (by omega) _).mono ?_
        rintro e W1 ⟨rfl, hb2⟩
        have HB2 := Lib.hid (HB1.out.trans (hb2.mono HB1.out.size))
        have HK2 := Lib.hid ((HB2.out.block w.heap.size hz).trans HBk.out)
        clear hb2 HB1
        go_wp2_with (refine list_store2 rfl rfl rfl (.inr (.inl rfl)) rfl rfl HK2.out ?_; intro W2 h2 hc2)
        obtain ⟨⟨c0, c1⟩, _⟩ := cells2 h2
        refine bodyPost_ret (v := .agg #[.int .i64 (lowP (valP c a)).1, .int .i64 (lowP (valP c a)).2]) ?_ rfl ⟨rfl, (HI.out.trans (HB2.out.mono HI.out.size)).trans (hc2.below (Nat.le_refl _))⟩
        rw [HV.out]
        simp [results, Tryz.results113, go_sem, c0, c1, lowP]
      · have HV := Lib.hid (show ValAt c a n (k + 1) from ⟨by
          rw [hv.out.1, show n - 1 - k = (n - 1 - (k + 1)) + 1 by omega]; simp only [valG]; rw [if_neg hq], by omega⟩)
        have HBk := Lib.hid hblk.out
        have HI := Lib.hid hI.out
        clear hblk hI g hcn hv
        go_wp2_with fail
        go_roundw
        case rel => exact ⟨k + 1, by omega, by go_num, HV.out, ((((Below.refl wr.heap.size wr).alloc (Nat.le_refl _) _).alloc (by simp) _).block w.heap.size hz).trans HBk.out, (HI.out.alloc HI.out.size _).alloc (Nat.le_trans HI.out.size (by simp)) _⟩
        case measure => simp [intOf]; omega
    · obtain rfl : k = n - 1 := by omega
      obtain ⟨b', o', e', hltk, px, py⟩ := (HP.out.later hI.out) (n - 1) (by rw [HC.out]; omega)
      obtain ⟨rfl, rfl⟩ : _ = b' ∧ _ = o' := by simpa using e'
      have y1 := HG.out.low (n - 1) (by rw [HC.out]; omega)
      have HV := Lib.hid (show valP c a = (c.y (n - 1), 1) by rw [hv.out.1, Nat.sub_self]; rfl)
      have hz := lt_of_block hblk.out
      have HBk := Lib.hid hblk.out
      have HI := Lib.hid hI.out
      clear e' px hblk hI
      go_wp2_with (refine list_store2 rfl rfl rfl (.inr (.inl rfl)) rfl rfl HBk.out ?_; intro W2 h2 hc2)
      obtain ⟨⟨c0, c1⟩, _⟩ := cells2 h2
      refine bodyPost_ret (v := .agg #[.int .i64 (lowP (valP c a)).1, .int .i64 (lowP (valP c a)).2]) ?_ rfl ⟨rfl, HI.out.trans (hc2.below (Nat.le_refl _))⟩
      rw [HV.out, low_one _]
      simp [results, Tryz.results113, go_sem, c0, c1]
/-- what At answers -/
def atRes (c : Cv) (a : Int) : Value := if okCv c = true then (if 0 ≤ a ∧ a ≤ 1000 then .tuple #[.agg #[.int .i64 (lowP (valP c a)).1, .int .i64 (lowP (valP c a)).2], .int .i64 0] else .tuple #[.agg #[.int .i64 0, .int .i64 0], .int .i64 6]) else .tuple #[.agg #[.int .i64 0, .int .i64 0], .int .i64 40]
theorem At_any (p : Option Addr) (n cap : Nat) (c : Cv) (hc : c.n = n) (hm : n ≤ 1000000) (a : Int) (hcap : n ≤ cap) (w : World) (h : Pts w p c) :
    Calls Tryz.prog 50 #[.slice p n cap, .int .i64 a] w fun e w' => e = .returned (atRes c a) ∧ Below w.heap.size w w' := by
  have HP := Lib.hid h
  have hb0 := (Below.refl w.heap.size w).alloc (Nat.le_refl _) (.cells #[.int .i64 0, .int .i64 0] 95)
  have hk0 := block_new w (.cells #[.int .i64 0, .int .i64 0] 95)
  have hi := isCurve_any p n cap c hc hm _ (h.later hb0)
  have HW := Lib.hid (hwithin_any a 0 1000)
  cases hok : okCv c with
  | false =>
    rw [hok] at hi
    have HI := Lib.hid hi
    have HE := Lib.hid (show atRes c a = .tuple #[.agg #[.int .i64 0, .int .i64 0], .int .i64 40] by unfold atRes; rw [hok]; rfl)
    have HB0 := Lib.hid hb0
    have HK0 := Lib.hid hk0
    clear hi h hb0 hk0 hc
    go_enter Tryz.func50, Tryz.ntmps50
    go_wp2_with fail
    refine HI.out.mono ?_
    rintro e W1 ⟨rfl, hb1⟩
    have HB1 := Lib.hid (HB0.out.trans (hb1.mono HB0.out.size))
    have HK1 := Lib.hid ((hb1.block w.heap.size (by simp)).trans HK0.out)
    clear hb1
    go_wp2_with (refine list_store2 rfl rfl rfl (.inr (.inl rfl)) rfl rfl HK1.out ?_; intro W2 h2 hc2)
    obtain ⟨⟨c0, c1⟩, _⟩ := cells2 h2
    refine bodyPost_ret (v := .tuple #[.agg #[.int .i64 0, .int .i64 0], .int .i64 40]) ?_ rfl ⟨by rw [HE.out], HB1.out.trans (hc2.below (Nat.le_refl _))⟩
    simp [results, Tryz.results50, go_sem, c0, c1]
  | true =>
    have g := okCv_iff.1 hok
    rw [hok] at hi
    have HI := Lib.hid hi
    have HB0 := Lib.hid hb0
    have HK0 := Lib.hid hk0
    clear hi hb0 hk0
    by_cases hr : 0 ≤ a ∧ a ≤ 1000
    · have HW1 := Lib.hid (hwithin_is a 0 1000 true (decide_eq_true hr))
      have HE := Lib.hid (show atRes c a = .tuple #[.agg #[.int .i64 (lowP (valP c a)).1, .int .i64 (lowP (valP c a)).2], .int .i64 0] by unfold atRes; rw [if_pos hok, if_pos hr])
      have HV := Lib.hid (fun W hW => value_any p n cap c hc g a hr.1 hcap W hW)
      clear h hc g hr
      go_enter Tryz.func50, Tryz.ntmps50
      go_wp2_with fail
      refine HI.out.mono ?_
      rintro e W1 ⟨rfl, hb1⟩
      have HB1 := Lib.hid (HB0.out.trans (hb1.mono HB0.out.size))
      have HK1 := Lib.hid ((hb1.block w.heap.size (by simp)).trans HK0.out)
      have hz1 := lt_of_block HK1.out
      clear hb1
      go_wp2_with fail
      refine (HW1.out _).mono ?_
      rintro e W2 ⟨rfl, rfl⟩
      go_wp2_with fail
      refine (HV.out _ (HP.out.later HB1.out)).mono ?_
      rintro e W2 ⟨rfl, hb2⟩
      have HB2 := Lib.hid (HB1.out.trans (hb2.mono HB1.out.size))
      have HK2 := Lib.hid ((hb2.block w.heap.size hz1).trans HK1.out)
      clear hb2
      go_wp2_with (refine list_store2 rfl rfl rfl (.inr (.inl rfl)) rfl rfl HK2.out ?_; intro W3 h2 hc2)
      obtain ⟨⟨c0, c1⟩, _⟩ := cells2 h2
      refine bodyPost_ret (v := .tuple #[.agg #[.int .i64 (lowP (valP c a)).1, .int .i64 (lowP (valP c a)).2], .int .i64 0]) ?_ rfl ⟨by rw [HE.out], HB2.out.trans (hc2.below (Nat.le_refl _))⟩
      simp [results, Tryz.results50, go_sem, c0, c1]
    · have HW1 := Lib.hid (hwithin_is a 0 1000 false (decide_eq_false hr))
      have HE := Lib.hid (show atRes c a = .tuple #[.agg #[.int .i64 0, .int .i64 0], .int .i64 6] by unfold atRes; rw [if_pos hok, if_neg hr])
      clear h hc g hr
      go_enter Tryz.func50, Tryz.ntmps50
      go_wp2_with fail
      refine HI.out.mono ?_
      rintro e W1 ⟨rfl, hb1⟩
      have HB1 := Lib.hid (HB0.out.trans (hb1.mono HB0.out.size))
      have HK1 := Lib.hid ((hb1.block w.heap.size (by simp)).trans HK0.out)
      have hz1 := lt_of_block HK1.out
      clear hb1
      go_wp2_with fail
      refine (HW1.out _).mono ?_
      rintro e W2 ⟨rfl, rfl⟩
      go_wp2_with (refine list_store2 rfl rfl rfl (.inr (.inl rfl)) rfl rfl HK1.out ?_; intro W3 h2 hc2)
      obtain ⟨⟨c0, c1⟩, _⟩ := cells2 h2
      refine bodyPost_ret (v := .tuple #[.agg #[.int .i64 0, .int .i64 0], .int .i64 6]) ?_ rfl ⟨by rw [HE.out], HB1.out.trans (hc2.below (Nat.le_refl _))⟩
      simp [results, Tryz.results50, go_sem, c0, c1]
end Go.Proofs.YtcoiklolgilhaaaGreatDoor
