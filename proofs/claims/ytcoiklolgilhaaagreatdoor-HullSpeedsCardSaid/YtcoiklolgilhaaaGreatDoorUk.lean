/- The contracts of the reference's in and Curve: at most a million points. The contracts of the reference's gcd, fraction and At. The contract of the law's points: at most a thousand points. The contracts of the law's heavy, of slices.Equal over points, of the reference's thrust. -/
import Derived.Test.YtcoiklolgilhaaaGreatDoorPc
import Derived.Test.YtcoiklolgilhaaaGreatDoorRb
import Derived.Test.YtcoiklolgilhaaaGreatDoorPd
import Derived.Test.YtcoiklolgilhaaaGreatDoorTk
import Derived.Test.YtcoiklolgilhaaaGreatDoorPh
namespace Go.Proofs.YtcoiklolgilhaaaGreatDoor
open Go.RowKit
set_option maxRecDepth 100000
theorem rin_any (n lo hi : Int) (w : World) : Calls Tryz.prog 79 #[.int .i64 n, .int .i64 lo, .int .i64 hi] w fun e w' => e = .returned (.bool (decide (lo ≤ n) && decide (n ≤ hi))) ∧ w = w' := by
  by_cases h1 : lo ≤ n
  · by_cases h2 : n ≤ hi
    · have HE := Lib.hid (show (decide (lo ≤ n) && decide (n ≤ hi)) = true by simp [h1, h2])
      go_enter Tryz.func79, Tryz.ntmps79
      go_wp2_with fail
      go_ret
      first
        | exact ⟨by rw [HE.out]; rfl, rfl⟩
        | (refine ⟨?_, rfl⟩; simp_all)
    · have h2' : hi < n := by omega
      have d2 := Lib.hid (show decide (n ≤ hi) = false from decide_eq_false h2)
      clear h2
      go_enter Tryz.func79, Tryz.ntmps79
      go_wp2_with fail
      go_ret
      exact ⟨by rw [d2.out, Bool.and_false]; rfl, rfl⟩
  · have h1' : n < lo := by omega
    have d1 := Lib.hid (show decide (lo ≤ n) = false from decide_eq_false h1)
    clear h1
    go_enter Tryz.func79, Tryz.ntmps79
    go_wp2_with fail
    go_ret
    exact ⟨by rw [d1.out]; rfl, rfl⟩
theorem rin_is (n lo hi : Int) (b : Bool) (h : decide (lo ≤ n ∧ n ≤ hi) = b) (w : World) : Calls Tryz.prog 79 #[.int .i64 n, .int .i64 lo, .int .i64 hi] w fun e w' => e = .returned (.bool b) ∧ w = w' := by
  have : (decide (lo ≤ n) && decide (n ≤ hi)) = b := by rw [← h]; simp
  exact this ▸ rin_any n lo hi w
theorem cvTo_low {c : Cv} {k : Nat} (h : CvTo c k) (hz : c.x 0 = 0) : ∀ j, j < k → 0 ≤ c.x j := by
  intro j
  induction j with
  | zero => intro _; omega
  | succ j ih =>
    intro hj
    have h1 := ih (by omega)
    have h2 := h (j + 1) hj
    simp [ptB] at h2
    omega
set_option maxHeartbeats 1000000 in
theorem rCurve_any (p : Option Addr) (n cap : Nat) (c : Cv) (hc : c.n = n) (hm : n ≤ 1000000) (w : World) (h : Pts w p c) : Calls Tryz.prog 146 #[.slice p n cap] w fun e w' => e = .returned (.bool (okCv c)) ∧ Below w.heap.size w w' := by
  have HP := Lib.hid h
  by_cases h28 : 2 ≤ n ∧ n ≤ 8
  · obtain ⟨b, o, rfl, hlt, x0, _⟩ := h 0 (by omega)
    have g1 : ¬ ((n : Int) < 2) := by omega
    have g2 : ¬ ((8 : Int) < (n : Int)) := by omega
    have g3 : (0 : Int) < (n : Int) := by omega
    by_cases hx : c.x 0 = 0
    · have HX := Lib.hid hx
      rw [hx] at x0
      simp only [Nat.zero_mul, Nat.add_zero] at x0
      have HC := Lib.hid hc
      clear h hx hc
      go_enter Tryz.func146, Tryz.ntmps146
      go_wp2_with fail
      go_loopw [3] (fun i wr => ∃ k : Nat, k ≤ n ∧ i = .int .i64 k ∧ Hid (CvTo c k) ∧ Hid (Below w.heap.size w wr)) (fun i _ => n - (intOf i).toNat)
      case atStart => exact ⟨0, by omega, rfl, fun j hj => by omega, Below.refl _ _⟩
      case round =>
        obtain ⟨k, hk, rfl, hu, hI⟩ := hrel
        by_cases hlt2 : k < n
        · obtain ⟨b', o', e', hltk, cx, cy⟩ := (HP.out.later hI.out) k (by rw [HC.out]; exact hlt2)
          obtain ⟨rfl, rfl⟩ : b' = b ∧ o' = o := by simpa using e'.symm
          clear e'
          have hkn : (k : Int) < (n : Int) := by omega
          have hk0 : (0 : Int) ≤ (k : Int) := by omega
          have NO : ptB c k = false → okCv c = false := fun hf => by
            cases hok : okCv c with
            | false => rfl
            | true =>
              simp only [okCv, Bool.and_eq_true] at hok
              rw [allN_iff.1 hok.2 k (by rw [HC.out]; exact hlt2)] at hf; cases hf
          have HNO := Lib.hid NO
          clear NO
          by_cases h1 : 0 ≤ c.x k ∧ c.x k ≤ 400
          · have HW1 := Lib.hid (rin_is (c.x k) 0 400 true (decide_eq_true h1))
            by_cases h2 : 0 ≤ c.y k ∧ c.y k ≤ 20000
            · have HW2 := Lib.hid (rin_is (c.y k) 0 20000 true (decide_eq_true h2))
              by_cases hz : k = 0
              · have HU := Lib.hid (show CvTo c (k + 1) from fun j hj => by
                  obtain rfl : j = k := by omega
                  subst hz; simp [ptB, h1.2, h2])
                have d2 : decide (0 < (k : Int)) = false := decide_eq_false (by omega)
                have d2n : decide (0 < k) = false := decide_eq_false (by omega)
                clear hz h2 h1
                go_wp2_with fail
                refine (HW1.out _).mono ?_
                rintro e w' ⟨rfl, rfl⟩
                go_wp2_with fail
                refine (HW2.out _).mono ?_
                rintro e w' ⟨rfl, rfl⟩
                go_wp2_with fail
                go_quiet (fail)
                go_wp2_with fail
                go_roundw
                case rel => exact ⟨k + 1, by omega, by go_num, HU.out, below_drewN hI.out _⟩
                case measure => simp [intOf]; omega
              · obtain ⟨j, hj⟩ : ∃ j, k = j + 1 := ⟨k - 1, by omega⟩
                obtain ⟨b', o', e', hltj, cxj, cyj⟩ := (HP.out.later hI.out) j (by rw [HC.out]; omega)
                obtain ⟨rfl, rfl⟩ : _ = b' ∧ _ = o' := by simpa using e'
                clear e' cyj
                have d2 : decide (0 < k) = true := decide_eq_true (by omega)
                have hkj : (k : Int) - 1 = (j : Int) := by omega
                have hjn : (j : Int) < (n : Int) := by omega
                by_cases h3 : c.x j < c.x k
                · have d3 : decide (c.x k ≤ c.x j) = false := decide_eq_false (by omega)
                  have HU := Lib.hid (show CvTo c (k + 1) from fun i hi => by
                    by_cases e : i = k
                    · rw [e]
                      have : k - 1 = j := by omega
                      simp [ptB, h1.2, h2, this, h3]
                    · exact hu.out i (by omega))
                  clear hz h2 h1 hj
                  go_wp2_with fail
                  refine (HW1.out _).mono ?_
                  rintro e w' ⟨rfl, rfl⟩
                  go_wp2_with fail
                  refine (HW2.out _).mono ?_
                  rintro e w' ⟨rfl, rfl⟩
                  go_wp2_with fail
                  go_quiet (fail)
                  go_wp2_with fail
                  go_roundw
                  case rel => exact ⟨k + 1, by omega, by go_num, HU.out, below_drewN hI.out _⟩
                  case measure => simp [intOf]; omega
                · have h3' : c.x k ≤ c.x j := by omega
                  have HF := Lib.hid (HNO.out (by
                    have : k - 1 = j := by omega
                    simp [ptB, this, h3, hz]))
                  clear hz h2 h1 hj
                  go_wp2_with fail
                  refine (HW1.out _).mono ?_
                  rintro e w' ⟨rfl, rfl⟩
                  go_wp2_with fail
                  refine (HW2.out _).mono ?_
                  rintro e w' ⟨rfl, rfl⟩
                  go_wp2_with fail
                  go_quiet (fail)
                  go_wp2_with fail
                  go_ret
                  exact ⟨by rw [HF.out]; rfl, below_drewN hI.out _⟩
            · have HW2 := Lib.hid (rin_is (c.y k) 0 20000 false (decide_eq_false h2))
              have HF := Lib.hid (HNO.out (by simp only [ptB, decide_eq_false h2]; simp))
              clear h2 h1
              go_wp2_with fail
              refine (HW1.out _).mono ?_
              rintro e w' ⟨rfl, rfl⟩
              go_wp2_with fail
              refine (HW2.out _).mono ?_
              rintro e w' ⟨rfl, rfl⟩
              go_wp2_with fail
              go_ret
              exact ⟨by rw [HF.out]; rfl, hI.out⟩
          · have HW1 := Lib.hid (rin_is (c.x k) 0 400 false (decide_eq_false h1))
            have HF := Lib.hid (HNO.out (by
              cases hp : ptB c k with
              | false => rfl
              | true =>
                exact absurd ⟨cvTo_low (k := k + 1) (fun j hj => by
                  by_cases e : j = k
                  · rw [e]; exact hp
                  · exact hu.out j (by omega)) HX.out k (by omega), by simp [ptB] at hp; omega⟩ h1))
            clear h1
            go_wp2_with fail
            refine (HW1.out _).mono ?_
            rintro e w' ⟨rfl, rfl⟩
            go_wp2_with fail
            go_ret
            exact ⟨by rw [HF.out]; rfl, hI.out⟩
        · obtain rfl : k = n := by omega
          have HB := Lib.hid (show okCv c = true by
            unfold okCv
            rw [HC.out, decide_eq_true (show 2 ≤ k ∧ k ≤ 8 from h28), decide_eq_true HX.out, allN_iff.2 hu.out]; rfl)
          go_wp2_with fail
          go_ret
          exact ⟨by rw [HB.out]; rfl, hI.out⟩
    · have HE := Lib.hid (show okCv c = false by unfold okCv; rw [decide_eq_false hx]; simp)
      have hx' : (c.x 0 != 0) = true := by simpa using hx
      simp only [Nat.zero_mul, Nat.add_zero] at x0
      clear h hx hc
      go_enter Tryz.func146, Tryz.ntmps146
      go_wp2_with fail
      go_ret
      exact ⟨by rw [HE.out]; rfl, Below.refl _ _⟩
  · have HE := Lib.hid (show okCv c = false by unfold okCv; rw [hc, decide_eq_false h28]; simp)
    by_cases hl : n < 2
    · have g1 : ((n : Int) < 2) := by omega
      clear h hc h28 hl
      go_enter Tryz.func146, Tryz.ntmps146
      go_wp2_with fail
      go_ret
      exact ⟨by rw [HE.out]; rfl, Below.refl _ _⟩
    · have g1 : ¬ ((n : Int) < 2) := by omega
      have g2 : ((8 : Int) < (n : Int)) := by omega
      clear h hc h28 hl
      go_enter Tryz.func146, Tryz.ntmps146
      go_wp2_with fail
      go_ret
      exact ⟨by rw [HE.out]; rfl, Below.refl _ _⟩
end Go.Proofs.YtcoiklolgilhaaaGreatDoor
namespace Go.Proofs.YtcoiklolgilhaaaGreatDoor
open Go.RowKit
set_option maxRecDepth 100000
theorem rgcd_any : ∀ (f : Nat) (a b : Int), 0 ≤ a → 0 ≤ b → b ≤ f → a ≤ 4611686018427387904 → b ≤ 4611686018427387904 → ∀ w : World,
    Calls Tryz.prog 147 #[.int .i64 a, .int .i64 b] w fun e w' => e = .returned (.int .i64 (Int.gcd a b : Int)) ∧ w = w' := by
  intro f
  induction f with
  | zero =>
    intro a b ha hb hf h1 h2 w
    obtain rfl : b = 0 := by omega
    have HE := Lib.hid (show ((Int.gcd a 0 : Nat) : Int) = a by simp [Int.gcd]; omega)
    go_enter Tryz.func147, Tryz.ntmps147
    go_wp2_with fail
    go_ret
    exact ⟨by rw [HE.out]; rfl, rfl⟩
  | succ f ih =>
    intro a b ha hb hf h1 h2 w
    by_cases hz : b = 0
    · subst hz
      have HE := Lib.hid (show ((Int.gcd a 0 : Nat) : Int) = a by simp [Int.gcd]; omega)
      clear ih
      go_enter Tryz.func147, Tryz.ntmps147
      go_wp2_with fail
      go_ret
      exact ⟨by rw [HE.out]; rfl, rfl⟩
    · have hm := Int.emod_lt_of_pos a (show 0 < b by omega)
      have hm0 := Int.emod_nonneg a hz
      have HI := Lib.hid (ih b (a % b) hb hm0 (by omega) h2 (by omega))
      have HG := Lib.hid (gcd_step a b ha (by omega))
      have ht : a.tmod b = a % b := Int.tmod_eq_emod_of_nonneg ha
      clear ih
      go_enter Tryz.func147, Tryz.ntmps147
      go_wp2_with fail
      refine (HI.out _).mono ?_
      rintro e w' ⟨rfl, rfl⟩
      rw [HG.out]
      go_wp2_with fail
      go_ret
      exact ⟨rfl, rfl⟩
def RfAt (c : Cv) (a : Int) (n k : Nat) : Prop := rfP c a = rfG c a (n - 2 - k) k ∧ c.x k ≤ a
set_option maxHeartbeats 1000000 in
theorem fraction_any (p : Option Addr) (n cap : Nat) (c : Cv) (hc : c.n = n) (g : IsCv c) (a : Int) (h0 : 0 ≤ a) (h1 : a ≤ 1000) (_hcap : n ≤ cap) (w : World) (h : Pts w p c) :
    Calls Tryz.prog 131 #[.slice p n cap, .int .i64 a] w fun e w' => e = .returned (.tuple #[.int .i64 (rfP c a).1, .int .i64 (rfP c a).2]) ∧ Below w.heap.size w w' := by
  have HP := Lib.hid h
  have h2 := g.two
  have h8 := g.eight
  rw [hc] at h2 h8
  obtain ⟨b, o, rfl, hlt, px, py⟩ := h (n - 1) (by omega)
  have HC := Lib.hid hc
  have HG := Lib.hid g
  have hn1 : (n : Int) - 1 = (((n - 1 : Nat)) : Int) := by omega
  have hn2 : ((n - 1 : Nat) : Int) < n := by omega
  have hn3 : (0 : Int) ≤ ((n - 1 : Nat) : Int) := by omega
  have hn0 : ¬ ((n : Int) = 0) := by omega
  by_cases hl : lastXP c ≤ a
  · have HV := Lib.hid (show rfP c a = (c.y (n - 1), 1) by unfold rfP; rw [if_pos hl, hc])
    unfold lastXP at hl
    rw [hc] at hl
    clear h hc g
    go_enter Tryz.func131, Tryz.ntmps131
    go_wp2_with fail
    refine bodyPost_ret (v := .tuple #[.int .i64 (rfP c a).1, .int .i64 (rfP c a).2]) ?_ rfl ⟨rfl, ?_⟩
    · rw [HV.out]
      simp [results, Tryz.results131, go_sem]
    · exact (Below.refl _ _).alloc (Nat.le_refl _) _
  · have HV := Lib.hid (show RfAt c a n 0 from ⟨by unfold rfP; rw [if_neg hl, hc]; rfl, by rw [g.zero]; exact h0⟩)
    unfold lastXP at hl
    rw [hc] at hl
    have hl' : a < c.x (n - 1) := by omega
    clear h hc g hl
    go_enter Tryz.func131, Tryz.ntmps131
    go_wp2_with fail
    go_loopw [7] (fun i wr => ∃ k : Nat, k + 1 < n ∧ i = .int .i64 k ∧ Hid (RfAt c a n k) ∧ Hid (Below w.heap.size w wr)) (fun i _ => n - (intOf i).toNat)
    case atStart => exact ⟨0, by omega, rfl, HV.out, (Below.refl _ _).alloc (Nat.le_refl _) _⟩
    case round =>
      obtain ⟨k, hk, rfl, hv, hI⟩ := hrel
      obtain ⟨b', o', e', hltk, px, py⟩ := (HP.out.later hI.out) k (by rw [HC.out]; omega)
      obtain ⟨rfl, rfl⟩ : _ = b' ∧ _ = o' := by simpa using e'
      obtain ⟨b', o', e2, hltq, qx, qy⟩ := (HP.out.later hI.out) (k + 1) (by rw [HC.out]; omega)
      obtain ⟨rfl, rfl⟩ : _ = b' ∧ _ = o' := by simpa using e2
      clear e' e2
      have hkn : (k : Int) < (n : Int) := by omega
      have hk1 : (k : Int) + 1 < (n : Int) := by omega
      have hk0 : (0 : Int) ≤ (k : Int) := by omega
      by_cases hq : c.x (k + 1) ≤ a
      · have hkk : k + 1 + 1 < n := by
          have e := (HG.out.step k (by rw [HC.out]; omega))
          by_cases ee : k + 1 = n - 1
          · rw [ee] at hq; omega
          · omega
        have HV2 := Lib.hid (show RfAt c a n (k + 1) from ⟨by
          rw [hv.out.1, show n - 2 - k = (n - 2 - (k + 1)) + 1 by omega]; simp only [rfG]; rw [if_pos hq], hq⟩)
        clear hv
        go_wp2_with fail
        go_roundw
        case rel => exact ⟨k + 1, by omega, by go_num, HV2.out, hI.out⟩
        case measure => simp [intOf]; omega
      · have hq' : a < c.x (k + 1) := by omega
        have g := HG.out
        have hcn := HC.out
        have y1 := g.low k (by omega)
        have y2 := g.high k (by omega)
        have y3 := g.low (k + 1) (by omega)
        have y4 := g.high (k + 1) (by omega)
        have x1 := g.nonneg k (by omega)
        have x2 := g.most (k + 1) (by omega)
        have xa := hv.out.2
        have m1 := Int.mul_le_mul y2 (show c.x (k + 1) - a ≤ 400 by omega) (by omega) (by omega)
        have m0 := Int.mul_nonneg y1 (show 0 ≤ c.x (k + 1) - a by omega)
        have m3 := Int.mul_le_mul y4 (show a - c.x k ≤ 400 by omega) (by omega) (by omega)
        have m2 := Int.mul_nonneg y3 (show 0 ≤ a - c.x k by omega)
        have HV2 := Lib.hid (show rfP c a = (c.y k * (c.x (k + 1) - a) + c.y (k + 1) * (a - c.x k), c.x (k + 1) - c.x k) by
          rw [hv.out.1]
          cases e : n - 2 - k with
          | zero => rfl
          | succ f => simp only [rfG]; rw [if_neg hq])
        have HI := Lib.hid hI.out
        clear hq g hcn hv hI
        go_wp2_with fail
        go_region
        all_goals
          go_wp2_with fail
          go_quiet (fail)
          go_wp2_with fail
          refine bodyPost_ret (v := .tuple #[.int .i64 (rfP c a).1, .int .i64 (rfP c a).2]) ?_ rfl ⟨rfl, ?_⟩
          · rw [HV2.out]
            simp [results, Tryz.results131, go_sem]
          · refine below_drewN (HI.out.trans ?_) _
            exact below_drewN (((Below.refl _ _).alloc HI.out.size _).alloc (Nat.le_trans HI.out.size (by simp)) _) 1
theorem low_rf {c : Cv} (g : IsCv c) {a : Int} (ha : 0 ≤ a) : lowP (rfP c a) = lowP (valP c a) := by
  obtain ⟨e, hd, hn, _, _⟩ := rf_eq g ha
  obtain ⟨v1, _, v3, _⟩ := (valP_at g ha).bd g
  have := lowest_eq hn v1 hd v3 e
  unfold lowP
  rw [this.1, this.2]
theorem rAt_any (p : Option Addr) (n cap : Nat) (c : Cv) (hc : c.n = n) (hm : n ≤ 1000000) (a : Int) (hcap : n ≤ cap) (w : World) (h : Pts w p c) :
    Calls Tryz.prog 107 #[.slice p n cap, .int .i64 a] w fun e w' => e = .returned (atRes c a) ∧ Below w.heap.size w w' := by
  have HP := Lib.hid h
  have hb0 := (Below.refl w.heap.size w).alloc (Nat.le_refl _) (.cells #[.int .i64 0, .int .i64 0] 95)
  have hk0 := block_new w (.cells #[.int .i64 0, .int .i64 0] 95)
  have hi := rCurve_any p n cap c hc hm _ (h.later hb0)
  have HW := Lib.hid (rin_any a 0 1000)
  cases hok : okCv c with
  | false =>
    rw [hok] at hi
    have HI := Lib.hid hi
    have HE := Lib.hid (show atRes c a = .tuple #[.agg #[.int .i64 0, .int .i64 0], .int .i64 40] by unfold atRes; rw [hok]; rfl)
    have HB0 := Lib.hid hb0
    have HK0 := Lib.hid hk0
    clear hi h hb0 hk0 hc
    go_enter Tryz.func107, Tryz.ntmps107
    go_wp2_with fail
    refine HI.out.mono ?_
    rintro e W1 ⟨rfl, hb1⟩
    have HB1 := Lib.hid (HB0.out.trans (hb1.mono HB0.out.size))
    have HK1 := Lib.hid ((hb1.block w.heap.size (by simp)).trans HK0.out)
    clear hb1
    go_wp2_with (refine list_store2 rfl rfl rfl (.inr (.inl rfl)) rfl rfl HK1.out ?_; intro W2 h2 hc2)
    obtain ⟨⟨c0, c1⟩, _⟩ := cells2 h2
    refine bodyPost_ret (v := .tuple #[.agg #[.int .i64 0, .int .i64 0], .int .i64 40]) ?_ rfl ⟨by rw [HE.out], HB1.out.trans (hc2.below (Nat.le_refl _))⟩
    simp [results, Tryz.results107, go_sem, c0, c1]
  | true =>
    have g := okCv_iff.1 hok
    rw [hok] at hi
    have HI := Lib.hid hi
    have HB0 := Lib.hid hb0
    have HK0 := Lib.hid hk0
    clear hi hb0 hk0
    by_cases hr : 0 ≤ a ∧ a ≤ 1000
    · have HW1 := Lib.hid (rin_is a 0 1000 true (decide_eq_true hr))
      have HE := Lib.hid (show atRes c a = .tuple #[.agg #[.int .i64 (lowP (rfP c a)).1, .int .i64 (lowP (rfP c a)).2], .int .i64 0] by unfold atRes; rw [if_pos hok, if_pos hr, low_rf g hr.1])
      have HV := Lib.hid (fun W hW => fraction_any p n cap c hc g a hr.1 hr.2 hcap W hW)
      obtain ⟨_, hd, hn, hnd, hd4⟩ := rf_eq g hr.1
      unfold lowP at HE
      obtain ⟨N, hN⟩ : ∃ N, N = (rfP c a).1 := ⟨_, rfl⟩
      obtain ⟨D, hD⟩ : ∃ D, D = (rfP c a).2 := ⟨_, rfl⟩
      rw [← hN, ← hD] at HE HV
      rw [← hD] at hd hnd hd4
      rw [← hN] at hn hnd
      have hG := Lib.hid (rgcd_any 400 N D hn (by omega) (by omega) (by omega) (by omega))
      have gp : 0 < Int.gcd N D := Int.gcd_pos_of_ne_zero_right _ (by omega)
      generalize hGG : Int.gcd N D = G at HE hG gp
      have q1 : N.tdiv (G : Int) = N / (G : Int) := Int.tdiv_eq_ediv_of_nonneg hn
      have q2 : D.tdiv (G : Int) = D / (G : Int) := Int.tdiv_eq_ediv_of_nonneg (by omega)
      have q3 : 0 ≤ N / (G : Int) := Int.ediv_nonneg hn (by omega)
      have q4 : N / (G : Int) ≤ N := Int.ediv_le_self _ hn
      have q5 : 0 ≤ D / (G : Int) := Int.ediv_nonneg (by omega) (by omega)
      have q6 : D / (G : Int) ≤ D := Int.ediv_le_self _ (by omega)
      have g0 : (G : Int) ≠ 0 := by omega
      have hw1 : IntKind.i64.wrap (N.tdiv (G : Int)) = N / (G : Int) := by rw [q1]; exact i64w _ (by omega)
      have hw2 : IntKind.i64.wrap (D.tdiv (G : Int)) = D / (G : Int) := by rw [q2]; exact i64w _ (by omega)
      clear q1 q2 gp hGG
      generalize ((G : Nat) : Int) = Gi at *
      clear G
      generalize N / Gi = n1 at *
      generalize D / Gi = d1 at *
      clear h hc g hr hN hD
      go_enter Tryz.func107, Tryz.ntmps107
      go_wp2_with fail
      refine HI.out.mono ?_
      rintro e W1 ⟨rfl, hb1⟩
      have HB1 := Lib.hid (HB0.out.trans (hb1.mono HB0.out.size))
      have HK1 := Lib.hid ((hb1.block w.heap.size (by simp)).trans HK0.out)
      have hz1 := lt_of_block HK1.out
      clear hb1
      go_wp2_with fail
      refine (HW1.out _).mono ?_
      rintro e W2 ⟨rfl, rfl⟩
      go_wp2_with fail
      refine (HV.out _ (HP.out.later HB1.out)).mono ?_
      rintro e W2 ⟨rfl, hb2⟩
      have HB2 := Lib.hid (HB1.out.trans (hb2.mono HB1.out.size))
      have HK2 := Lib.hid ((hb2.block w.heap.size hz1).trans HK1.out)
      clear hb2
      go_wp2_with fail
      refine (hG.out _).mono ?_
      rintro e W3 ⟨rfl, rfl⟩
      go_wp2_with fail
      refine wp_region_still_tail 7 (by kernel_rfl) (by kernel_rfl) ?_
      simp only [List.take_succ_cons, List.take_zero, List.drop_succ_cons, List.drop_zero]
      change wpStill _ _ (World.drew _) _ _ _
      repeat still_step
      refine wpStill_nil ?_
      change wpList _ _ _ _ _ (World.drew _)
      go_wp2_with (refine list_store2 rfl rfl rfl (.inr (.inl rfl)) rfl rfl HK2.out ?_; intro W4 h2 hc2)
      obtain ⟨⟨c0, c1⟩, _⟩ := cells2 h2
      refine bodyPost_ret (v := .tuple #[.agg #[.int .i64 n1, .int .i64 d1], .int .i64 0]) ?_ rfl ⟨by rw [HE.out], HB2.out.drew.trans (hc2.below (Nat.le_refl _))⟩
      simp [results, Tryz.results107, go_sem, c0, c1]
    · have HW1 := Lib.hid (rin_is a 0 1000 false (decide_eq_false hr))
      have HE := Lib.hid (show atRes c a = .tuple #[.agg #[.int .i64 0, .int .i64 0], .int .i64 6] by unfold atRes; rw [if_pos hok, if_neg hr])
      clear h hc g hr
      go_enter Tryz.func107, Tryz.ntmps107
      go_wp2_with fail
      refine HI.out.mono ?_
      rintro e W1 ⟨rfl, hb1⟩
      have HB1 := Lib.hid (HB0.out.trans (hb1.mono HB0.out.size))
      have HK1 := Lib.hid ((hb1.block w.heap.size (by simp)).trans HK0.out)
      have hz1 := lt_of_block HK1.out
      clear hb1
      go_wp2_with fail
      refine (HW1.out _).mono ?_
      rintro e W2 ⟨rfl, rfl⟩
      go_wp2_with (refine list_store2 rfl rfl rfl (.inr (.inl rfl)) rfl rfl HK1.out ?_; intro W3 h2 hc2)
      obtain ⟨⟨c0, c1⟩, _⟩ := cells2 h2
      refine bodyPost_ret (v := .tuple #[.agg #[.int .i64 0, .int .i64 0], .int .i64 6]) ?_ rfl ⟨by rw [HE.out], HB1.out.trans (hc2.below (Nat.le_refl _))⟩
      simp [results, Tryz.results107, go_sem, c0, c1]
end Go.Proofs.YtcoiklolgilhaaaGreatDoor
namespace Go.Proofs.YtcoiklolgilhaaaGreatDoor
open Go.RowKit
set_option maxRecDepth 100000
theorem und37 : Tryz.prog.underlying 34 = some (.slice 183) := by kernel_rfl
theorem info104 : (Tryz.prog.info? 183).map (fun i => (i.zero, i.size, i.bytes)) = some (some (.agg #[.int .i64 0, .int .i64 0]), 2, 16) := by kernel_rfl
/-- a row of the reference's points -/
abbrev RRow (W : World) (base : Nat) (v : Value) (l : List (Int × Int)) : Prop := W.ownsRow base 183 2 v l.length (flatP l)
theorem RRow.pts {W : World} {base : Nat} {p : Option Addr} {n c : Nat} {l : List (Int × Int)} (h : RRow W base (.slice p n c) l) : Pts W p (cvOf l) := fun i hi => by
  have hi' : i < l.length := hi
  rcases h.2 with ⟨_, e2⟩ | ⟨g, cap, cur, e1, _, hg, hn, _, hsz, htk⟩
  · rw [e2] at hi'; omega
  · simp only [Value.slice.injEq] at e1
    obtain ⟨rfl, _, _⟩ := e1
    obtain ⟨h1, h2⟩ := flatP_get l i hi'
    have hc := fun o => cell_of_block hg o
    have hlen : (flatP l).length = l.length * 2 := flatP_len l
    have get : ∀ j, j < l.length * 2 → cur[j]? = (flatP l)[j]? := fun j hj => by
      rw [← htk, List.getElem?_take_of_lt hj, Array.getElem?_toList]
    refine ⟨g, 0, rfl, lt_of_block hg, ?_, ?_⟩
    · rw [Nat.zero_add]; exact (hc _).trans ((get _ (by omega)).trans h1)
    · rw [Nat.zero_add]; exact (hc _).trans ((get _ (by omega)).trans h2)
theorem rrow_base {W : World} {base : Nat} {v : Value} {l : List (Int × Int)} (h : RRow W base v l) : ∀ j, v.ownBlock = some j → base ≤ j := fun j e => by
  rcases h.2 with ⟨rfl, _⟩ | ⟨g, cap, cur, rfl, hbg, hg, _⟩
  · simp [Value.ownBlock] at e
  · obtain rfl : g = j := by simpa [Value.ownBlock] using e
    exact hbg
set_option maxHeartbeats 2000000 in
theorem points_any (p : Option Addr) (n cap : Nat) (c : Cv) (hc : c.n = n) (h8 : n ≤ 1000) (w : World) (hP : Pts w p c) :
    Calls Tryz.prog 65 #[.slice p n cap] w fun e w' => ∃ v', e = .returned v' ∧ RRow w' w.heap.size v' (ptsL c) ∧ Below w.heap.size w w' := by
  obtain ⟨i0, hi, hz0, hz1, hz2⟩ := info_parts info104
  have HP := Lib.hid hP
  have HC := Lib.hid hc
  clear hP hc
  go_enter Tryz.func65, Tryz.ntmps65
  go_wp2_with fail
  go_loopw [3, 8] (fun x y wr => ∃ (j : Nat) (l : List (Int × Int)), y = .int .i64 j ∧ j ≤ n ∧ Hid (l = (ptsL c).take j) ∧ Hid (l.length = j) ∧ Hid (RRow wr w.heap.size x l) ∧ Hid (Below w.heap.size w wr)) (fun _ y _ => n - (intOf y).toNat)
  case atStart => exact ⟨0, [], rfl, Nat.zero_le _, Lib.hid (by simp), rfl, ⟨rfl, .inl ⟨rfl, rfl⟩⟩, Below.refl _ _⟩
  case round =>
    obtain ⟨j, l, rfl, hj, hl, hlen, hrow, hb⟩ := hrel
    by_cases hlt : j < n
    · obtain ⟨b, o, e, hltk, px, py⟩ := (HP.out.later hb.out) j (by rw [HC.out]; exact hlt)
      subst e
      have hjn : (j : Int) < (n : Int) := by omega
      have hj0 : (0 : Int) ≤ (j : Int) := by omega
      have hbT := (((Below.refl wr.heap.size wr).alloc (Nat.le_refl _) (.cells #[.int .i64 (c.x j), .int .i64 (c.y j)] 89)).alloc (by simp) (.cells #[.int .i64 (c.x j), .int .i64 (c.y j)] 183))
      have hnb := block_new (wr.alloc (.cells #[.int .i64 (c.x j), .int .i64 (c.y j)] 89)) (.cells #[.int .i64 (c.x j), .int .i64 (c.y j)] 183)
      have hs1 : (wr.alloc (.cells #[.int .i64 (c.x j), .int .i64 (c.y j)] 89)).heap.size = wr.heap.size + 1 := by simp
      rw [hs1] at hnb
      have HB2 := Lib.hid (hb.out.trans (hbT.mono hb.out.size))
      have HR := Lib.hid (row_later hrow.out hbT)
      have hmx : l.length + 1 ≤ maxLen := by rw [hlen.out]; simp only [maxLen]; omega
      have hby : (l.length + 1) * 16 ≤ 140737488355328 := by rw [hlen.out]; omega
      have HNB := Lib.hid hnb
      clear hbT hs1 hrow hb hnb
      go_wp2_with (at_builtin; refine Hid.out ?_)
      refine Lib.hid ?_
      generalize (wr.alloc (.cells #[.int .i64 (c.x j), .int .i64 (c.y j)] 89)).alloc (.cells #[.int .i64 (c.x j), .int .i64 (c.y j)] 183) = Y1 at *
      refine wpList_append_own _ rfl (.tmp 12) (.tmp 14) 34 rfl w.heap.size 183 i0 (.agg #[.int .i64 0, .int .i64 0]) 2 16 und37 hi hz0 hz1 hz2 rfl (by decide) _ l.length (flatP l) rfl HR.out ⟨wr.heap.size + 1, 0, none⟩ 1 1 [.int .i64 (c.x j), .int .i64 (c.y j)] rfl rfl (World.news_of_block HNB.out) (by simp [Value.oneCell']) hmx hby HB2.out.size ?_
      intro v2 Zg hown hgrow _
      have zb := (Below.refl w.heap.size Y1).grown hgrow HB2.out.size (rrow_base HR.out)
      have HRN := Lib.hid (show RRow Zg w.heap.size v2 (l ++ [(c.x j, c.y j)]) from by simpa [RRow, flatP_snoc] using hown)
      have HB3 := Lib.hid (HB2.out.trans zb)
      have HT := Lib.hid (show l ++ [(c.x j, c.y j)] = (ptsL c).take (j + 1) by
        have hj' : j < (ptsL c).length := by rw [ptsL_len, HC.out]; exact hlt
        rw [hl.out, List.take_succ_eq_append_getElem hj']
        simp [ptsL])
      clear hown hgrow zb HR HB2
      go_wp2_with fail
      go_roundw
      case rel => exact ⟨j + 1, l ++ [(c.x j, c.y j)], by go_num, by omega, HT.out, Lib.hid (by rw [List.length_append, hlen.out]; rfl), HRN.out, HB3.out⟩
      case measure => simp [intOf]; omega
    · obtain rfl : j = n := by omega
      have e : l = ptsL c := by rw [hl.out]; exact List.take_of_length_le (by rw [ptsL_len, HC.out]; exact Nat.le_refl _)
      go_wp2_with fail
      go_ret
      exact ⟨_, rfl, e ▸ hrow.out, hb.out⟩
end Go.Proofs.YtcoiklolgilhaaaGreatDoor
namespace Go.Proofs.YtcoiklolgilhaaaGreatDoor
open Go.RowKit
set_option maxRecDepth 100000
def heavyB (s : Sh) : Bool := decide (20 < s.th.n ∨ 20 < s.wa.n ∨ 20 < s.ic.n)
theorem heavy_any (s : Sh) (m : Mem3) (w : World) :
    Calls Tryz.prog 9 #[.agg (shipA s m)] w fun e w' => e = .returned (.bool (heavyB s)) ∧ Below w.heap.size w w' := by
  have hb0 := Lib.hid ((Below.refl w.heap.size w).alloc (Nat.le_refl _) (.cells (shipA s m) 24))
  by_cases h1 : 20 < s.th.n
  · have g1 : (20 : Int) < (s.th.n : Int) := by omega
    have HE := Lib.hid (show heavyB s = true from decide_eq_true (.inl h1))
    clear h1
    go_enter Tryz.func9, Tryz.ntmps9
    go_wp2_with fail
    go_ret
    exact ⟨by rw [HE.out]; rfl, hb0.out⟩
  · have g1 : ¬ ((20 : Int) < (s.th.n : Int)) := by omega
    by_cases h2 : 20 < s.wa.n
    · have g2 : (20 : Int) < (s.wa.n : Int) := by omega
      have HE := Lib.hid (show heavyB s = true from decide_eq_true (.inr (.inl h2)))
      clear h1 h2
      go_enter Tryz.func9, Tryz.ntmps9
      go_wp2_with fail
      go_ret
      exact ⟨by rw [HE.out]; rfl, hb0.out⟩
    · have g2 : ¬ ((20 : Int) < (s.wa.n : Int)) := by omega
      by_cases h3 : 20 < s.ic.n
      · have g3 : (20 : Int) < (s.ic.n : Int) := by omega
        have HE := Lib.hid (show heavyB s = true from decide_eq_true (.inr (.inr h3)))
        clear h1 h2 h3
        go_enter Tryz.func9, Tryz.ntmps9
        go_wp2_with fail
        go_ret
        exact ⟨by rw [HE.out]; rfl, hb0.out⟩
      · have g3 : ¬ ((20 : Int) < (s.ic.n : Int)) := by omega
        have HE := Lib.hid (show heavyB s = false from decide_eq_false (by omega))
        clear h1 h2 h3
        go_enter Tryz.func9, Tryz.ntmps9
        go_wp2_with fail
        go_ret
        exact ⟨by rw [HE.out]; rfl, hb0.out⟩
/-- two rows of points with the same numbers are equal -/
theorem Equal_same (p q : Option Addr) (n cap cap' : Nat) (c : Cv) (hc : c.n = n) (hm : n ≤ 1000000) (w : World) (h : Pts w p c) (h' : Pts w q c) :
    Calls Tryz.prog 92 #[.slice p n cap, .slice q n cap'] w fun e w' => e = .returned (.bool true) ∧ Below w.heap.size w w' := by
  have HP := Lib.hid h
  have HQ := Lib.hid h'
  have HC := Lib.hid hc
  clear h h' hc
  go_enter Tryz.func92, Tryz.ntmps92
  go_wp2_with fail
  go_loopw [13] (fun i wr => ∃ k : Nat, k ≤ n ∧ i = .int .i64 k ∧ Hid (Below w.heap.size w wr)) (fun i _ => n - (intOf i).toNat)
  case atStart => exact ⟨0, by omega, rfl, Below.refl _ _⟩
  case round =>
    obtain ⟨k, hk, rfl, hI⟩ := hrel
    by_cases hlt : k < n
    · obtain ⟨b, o, rfl, hb, px, py⟩ := (HP.out.later hI.out) k (by rw [HC.out]; exact hlt)
      obtain ⟨b', o', rfl, hb', qx, qy⟩ := (HQ.out.later hI.out) k (by rw [HC.out]; exact hlt)
      have hkn : (k : Int) < (n : Int) := by omega
      have hk0 : (0 : Int) ≤ (k : Int) := by omega
      go_wp2_with fail
      go_quiet (fail)
      go_wp2_with fail
      go_roundw
      case rel => exact ⟨k + 1, by omega, by go_num, below_drewN hI.out _⟩
      case measure => simp [intOf]; omega
    · obtain rfl : k = n := by omega
      go_wp2_with fail
      go_ret
      exact ⟨rfl, hI.out⟩
end Go.Proofs.YtcoiklolgilhaaaGreatDoor
