/- Pure facts on curves, fractions that are rounded, searches that halve, resistances, speeds and loads: what never decreases, and what the reference's fractions are. No condition. -/
import Derived.Test.YtcoiklolgilhaaaGreatDoorProg
namespace Go.Proofs.YtcoiklolgilhaaaGreatDoor
set_option maxRecDepth 100000
/-- rounded up -/
def cdiv (n d : Int) : Int := (n + d - 1) / d
theorem cdiv_le {n d k : Int} (hd : 0 < d) : cdiv n d ≤ k ↔ n ≤ k * d := by
  unfold cdiv
  rw [← Int.lt_add_one_iff, Int.ediv_lt_iff_lt_mul hd, Int.add_mul]
  omega
theorem cdiv_mono {n d n' d' : Int} (hd : 0 < d) (hd' : 0 < d') (h : n * d' ≤ n' * d) : cdiv n d ≤ cdiv n' d' := by
  rw [cdiv_le hd]
  have h1 : n' ≤ cdiv n' d' * d' := (cdiv_le hd').1 (Int.le_refl _)
  refine Int.le_of_mul_le_mul_right (a := d') ?_ hd'
  have h2 := Int.mul_le_mul_of_nonneg_right h1 (Int.le_of_lt hd)
  grind
theorem cdiv_eq {n d n' d' : Int} (hd : 0 < d) (hd' : 0 < d') (h : n * d' = n' * d) : cdiv n d = cdiv n' d' :=
  Int.le_antisymm (cdiv_mono hd hd' (Int.le_of_eq h)) (cdiv_mono hd' hd (Int.le_of_eq h.symm))
theorem ediv_le_fr {n d n' d' : Int} (hd : 0 < d) (hd' : 0 < d') (h : n * d' ≤ n' * d) : n / d ≤ n' / d' := by
  rw [Int.le_ediv_iff_mul_le hd']
  have h1 : n / d * d ≤ n := Int.ediv_mul_le _ (Int.ne_of_gt hd)
  refine Int.le_of_mul_le_mul_right (a := d) ?_ hd
  have h2 := Int.mul_le_mul_of_nonneg_right h1 (Int.le_of_lt hd')
  grind
def bsP (is : Nat → Bool) : Nat → Nat → Nat → Nat
  | 0, lo, _ => lo
  | f + 1, lo, hi => if lo < hi then (if is (hi - (hi - lo) / 2) then bsP is f (hi - (hi - lo) / 2) hi else bsP is f lo (hi - (hi - lo) / 2 - 1)) else lo
theorem bsP_fuel (is : Nat → Bool) : ∀ (f g lo hi : Nat), hi - lo ≤ f → hi - lo ≤ g → bsP is f lo hi = bsP is g lo hi := by
  intro f
  induction f with
  | zero =>
    intro g lo hi h1 h2
    cases g with
    | zero => rfl
    | succ g => unfold bsP; rw [if_neg (by omega)]
  | succ f ih =>
    intro g lo hi h1 h2
    by_cases h : lo < hi
    · cases g with
      | zero => omega
      | succ g =>
        unfold bsP
        rw [if_pos h, if_pos h, ih g _ _ (by omega) (by omega), ih g _ _ (by omega) (by omega)]
    · unfold bsP
      rw [if_neg h]
      cases g with
      | zero => rfl
      | succ g => simp only [if_neg h]
theorem bsP_step (is : Nat → Bool) (lo hi : Nat) (h : lo < hi) : bsP is (hi - lo) lo hi = if is (hi - (hi - lo) / 2) then bsP is (hi - (hi - (hi - lo) / 2)) (hi - (hi - lo) / 2) hi else bsP is (hi - (hi - lo) / 2 - 1 - lo) lo (hi - (hi - lo) / 2 - 1) := by
  obtain ⟨f, hf⟩ : ∃ f, hi - lo = f + 1 := ⟨hi - lo - 1, by omega⟩
  conv => lhs; rw [hf]; unfold bsP
  rw [if_pos h, bsP_fuel is f (hi - (hi - (hi - lo) / 2)) _ _ (by omega) (by omega), bsP_fuel is f (hi - (hi - lo) / 2 - 1 - lo) lo _ (by omega) (by omega)]
theorem bsP_end (is : Nat → Bool) (lo hi f : Nat) (h : ¬ lo < hi) : bsP is f lo hi = lo := by
  cases f with
  | zero => rfl
  | succ f => unfold bsP; rw [if_neg h]
/-- of an antitone truth it is the greatest one -/
theorem bsP_greatest (is : Nat → Bool) (most : Nat) (anti : ∀ a b, a ≤ b → b ≤ most → is b = true → is a = true) : ∀ (f lo hi : Nat), hi - lo ≤ f → lo ≤ hi → hi ≤ most → is lo = true → (∀ k, hi < k → k ≤ most → is k = false) → is (bsP is f lo hi) = true ∧ bsP is f lo hi ≤ most ∧ ∀ k, bsP is f lo hi < k → k ≤ most → is k = false := by
  intro f
  induction f with
  | zero =>
    intro lo hi h1 h2 h3 h4 h5
    obtain rfl : lo = hi := by omega
    exact ⟨h4, h3, h5⟩
  | succ f ih =>
    intro lo hi h1 h2 h3 h4 h5
    unfold bsP
    by_cases h : lo < hi
    · rw [if_pos h]
      cases hm : is (hi - (hi - lo) / 2) with
      | true => rw [if_pos rfl]; exact ih _ _ (by omega) (by omega) h3 hm h5
      | false =>
        rw [if_neg (by simp)]
        refine ih _ _ (by omega) (by omega) (by omega) h4 ?_
        intro k hk hkm
        cases hkk : is k with
        | false => rfl
        | true => rw [anti (hi - (hi - lo) / 2) k (by omega) hkm hkk] at hm; cases hm
    · rw [if_neg h]
      obtain rfl : lo = hi := by omega
      exact ⟨h4, h3, h5⟩

/-- n / d ≤ n' / d', as fractions -/
def FLe (n d n' d' : Int) : Prop := n * d' ≤ n' * d
def FEq (n d n' d' : Int) : Prop := n * d' = n' * d
theorem FLe.trans {a b c d e f : Int} (hb : 0 < b) (hd : 0 < d) (hf : 0 < f) (h : FLe a b c d) (k : FLe c d e f) : FLe a b e f := by
  unfold FLe at *
  refine Int.le_of_mul_le_mul_right (a := d) ?_ hd
  have h1 := Int.mul_le_mul_of_nonneg_right h (Int.le_of_lt hf)
  have h2 := Int.mul_le_mul_of_nonneg_right k (Int.le_of_lt hb)
  grind
theorem FLe.plus {a b a' b' c d c' d' : Int} (hb : 0 < b) (hb' : 0 < b') (hd : 0 < d) (hd' : 0 < d') (h : FLe a b a' b') (k : FLe c d c' d') : FLe (a * d + c * b) (b * d) (a' * d' + c' * b') (b' * d') := by
  unfold FLe at *
  have h1 := Int.mul_le_mul_of_nonneg_right h (Int.mul_nonneg (Int.le_of_lt hd) (Int.le_of_lt hd'))
  have h2 := Int.mul_le_mul_of_nonneg_right k (Int.mul_nonneg (Int.le_of_lt hb) (Int.le_of_lt hb'))
  grind
theorem FLe.mul {a b a' b' c d c' d' : Int} (ha : 0 ≤ a) (hb' : 0 < b') (hc' : 0 ≤ c') (hd : 0 < d) (h : FLe a b a' b') (k : FLe c d c' d') : FLe (a * c) (b * d) (a' * c') (b' * d') := by
  unfold FLe at *
  have h1 := Int.mul_le_mul_of_nonneg_left k (Int.mul_nonneg ha (Int.le_of_lt hb'))
  have h2 := Int.mul_le_mul_of_nonneg_right h (Int.mul_nonneg hc' (Int.le_of_lt hd))
  grind
theorem FEq.le {a b a' b' : Int} (h : FEq a b a' b') : FLe a b a' b' := Int.le_of_eq h
theorem FEq.ge {a b a' b' : Int} (h : FEq a b a' b') : FLe a' b' a b := Int.le_of_eq h.symm

def allN : Nat → (Nat → Bool) → Bool
  | 0, _ => true
  | n + 1, f => allN n f && f n
theorem allN_iff {n : Nat} {f : Nat → Bool} : allN n f = true ↔ ∀ i, i < n → f i = true := by
  induction n with
  | zero => simp [allN]
  | succ n ih =>
    simp only [allN, Bool.and_eq_true, ih]
    constructor
    · intro ⟨h1, h2⟩ i hi
      by_cases e : i = n
      · rw [e]; exact h2
      · exact h1 i (by omega)
    · intro h
      exact ⟨fun i hi => h i (by omega), h n (by omega)⟩
/-- a curve's points -/
structure Cv where
  n : Nat
  x : Nat → Int
  y : Nat → Int
def ptB (c : Cv) (i : Nat) : Bool := decide (c.x i ≤ 400) && decide (0 ≤ c.y i ∧ c.y i ≤ 20000) && (decide (i = 0) || decide (c.x (i - 1) < c.x i))
def okCv (c : Cv) : Bool := decide (2 ≤ c.n ∧ c.n ≤ 8) && decide (c.x 0 = 0) && allN c.n (ptB c)
def decB (c : Cv) : Bool := allN (c.n - 1) fun i => decide (c.y (i + 1) ≤ c.y i)
def incB (c : Cv) : Bool := allN (c.n - 1) fun i => decide (c.y i ≤ c.y (i + 1))
def lastXP (c : Cv) : Int := c.x (c.n - 1)
structure IsCv (c : Cv) : Prop where
  two : 2 ≤ c.n
  eight : c.n ≤ 8
  zero : c.x 0 = 0
  most : ∀ i, i < c.n → c.x i ≤ 400
  low : ∀ i, i < c.n → 0 ≤ c.y i
  high : ∀ i, i < c.n → c.y i ≤ 20000
  step : ∀ i, i + 1 < c.n → c.x i < c.x (i + 1)
theorem okCv_iff {c : Cv} : okCv c = true ↔ IsCv c := by
  simp only [okCv, Bool.and_eq_true, decide_eq_true_eq, allN_iff, ptB, Bool.or_eq_true]
  constructor
  · rintro ⟨⟨⟨h1, h2⟩, h3⟩, h4⟩
    refine ⟨h1, h2, h3, fun i hi => (h4 i hi).1.1, fun i hi => (h4 i hi).1.2.1, fun i hi => (h4 i hi).1.2.2, fun i hi => ?_⟩
    rcases (h4 (i + 1) hi).2 with h | h
    · omega
    · simpa using h
  · intro h
    refine ⟨⟨⟨h.two, h.eight⟩, h.zero⟩, fun i hi => ⟨⟨h.most i hi, h.low i hi, h.high i hi⟩, ?_⟩⟩
    by_cases e : i = 0
    · exact .inl e
    · right
      have := h.step (i - 1) (by omega)
      rwa [show i - 1 + 1 = i by omega] at this
theorem IsCv.nonneg {c : Cv} (h : IsCv c) : ∀ i, i < c.n → 0 ≤ c.x i := by
  intro i
  induction i with
  | zero => intro _; rw [h.zero]; exact Int.le_refl _
  | succ i ih => intro hi; have := ih (by omega); have := h.step i hi; omega
theorem IsCv.lt {c : Cv} (h : IsCv c) : ∀ i j, i < j → j < c.n → c.x i < c.x j := by
  intro i j
  induction j with
  | zero => intro h; omega
  | succ j ih =>
    intro h1 h2
    have := h.step j h2
    by_cases e : i = j
    · rw [e]; exact this
    · have := ih (by omega) (by omega); omega
/-- the value, from the point i on -/
def valG (c : Cv) (a : Int) : Nat → Nat → Int × Int
  | 0, i => (c.y i, 1)
  | f + 1, i => if a ≤ c.x (i + 1) then (c.y i * (c.x (i + 1) - c.x i) + (c.y (i + 1) - c.y i) * (a - c.x i), c.x (i + 1) - c.x i) else valG c a f (i + 1)
def valP (c : Cv) (a : Int) : Int × Int := valG c a (c.n - 1) 0
/-- which stretch -/
inductive At (c : Cv) (a : Int) : Int × Int → Prop
  | mid (i : Nat) (hi : i + 1 < c.n) (h1 : c.x i ≤ a) (h2 : a ≤ c.x (i + 1)) : At c a (c.y i * (c.x (i + 1) - c.x i) + (c.y (i + 1) - c.y i) * (a - c.x i), c.x (i + 1) - c.x i)
  | far (h : c.x (c.n - 1) < a) : At c a (c.y (c.n - 1), 1)
theorem valG_at {c : Cv} (h : IsCv c) (a : Int) : ∀ f i, f + i + 1 = c.n → c.x i ≤ a → (i = 0 ∨ c.x i < a) → At c a (valG c a f i) := by
  intro f
  induction f with
  | zero =>
    intro i hi hx hx'
    have e : c.n - 1 = i := by omega
    have := h.two
    unfold valG
    rw [← e]
    refine At.far ?_
    rw [e]
    rcases hx' with h' | h'
    · omega
    · exact h'
  | succ f ih =>
    intro i hi hx hx'
    unfold valG
    by_cases hq : a ≤ c.x (i + 1)
    · rw [if_pos hq]; exact At.mid i (by omega) hx hq
    · rw [if_neg hq]; exact ih (i + 1) (by omega) (by omega) (.inr (by omega))
theorem valP_at {c : Cv} (h : IsCv c) {a : Int} (ha : 0 ≤ a) : At c a (valP c a) :=
  valG_at h a _ 0 (by have := h.two; omega) (by rw [h.zero]; exact ha) (.inl rfl)
theorem mulle {a b c d : Int} (h1 : a ≤ c) (h2 : b ≤ d) (h3 : 0 ≤ b) (h4 : 0 ≤ c) : a * b ≤ c * d := Int.mul_le_mul h1 h2 h3 h4
theorem At.bd {c : Cv} (h : IsCv c) {a : Int} {p : Int × Int} (k : At c a p) : 0 ≤ p.1 ∧ p.1 ≤ 20000 * p.2 ∧ 0 < p.2 ∧ p.2 ≤ 400 := by
  cases k with
  | mid i hi h1 h2 =>
    have a1 := h.low i (by omega)
    have a2 := h.low (i + 1) hi
    have a3 := h.high i (by omega)
    have a4 := h.high (i + 1) hi
    have a5 := h.nonneg i (by omega)
    have a6 := h.most (i + 1) hi
    have a7 := h.step i hi
    have e : c.y i * (c.x (i + 1) - c.x i) + (c.y (i + 1) - c.y i) * (a - c.x i) = c.y i * (c.x (i + 1) - a) + c.y (i + 1) * (a - c.x i) := by grind
    simp only
    rw [e]
    have b1 := Int.mul_nonneg a1 (show 0 ≤ c.x (i + 1) - a by omega)
    have b2 := Int.mul_nonneg a2 (show 0 ≤ a - c.x i by omega)
    have b3 := Int.mul_le_mul_of_nonneg_right a3 (show 0 ≤ c.x (i + 1) - a by omega)
    have b4 := Int.mul_le_mul_of_nonneg_right a4 (show 0 ≤ a - c.x i by omega)
    refine ⟨by omega, by omega, by omega, by omega⟩
  | far hf =>
    have := h.two
    have a1 := h.low (c.n - 1) (by omega)
    have a3 := h.high (c.n - 1) (by omega)
    simp only
    omega
theorem inc_all {c : Cv} (hi : ∀ i, i + 1 < c.n → c.y i ≤ c.y (i + 1)) : ∀ i j, i ≤ j → j < c.n → c.y i ≤ c.y j := by
  intro i j
  induction j with
  | zero => intro h _; obtain rfl : i = 0 := by omega
            exact Int.le_refl _
  | succ j ih =>
    intro h1 h2
    by_cases e : i = j + 1
    · rw [e]; exact Int.le_refl _
    · have := ih (by omega) (by omega); have := hi j h2; omega
/-- on a stretch the value lies between its ends -/
theorem seg_le {y0 y1 x0 x1 a : Int} (hy : y0 ≤ y1) (h1 : x0 ≤ a) : y0 * (x1 - x0) ≤ y0 * (x1 - x0) + (y1 - y0) * (a - x0) := by
  have := Int.mul_nonneg (show 0 ≤ y1 - y0 by omega) (show 0 ≤ a - x0 by omega)
  omega
theorem seg_ge {y0 y1 x0 x1 a : Int} (hy : y0 ≤ y1) (h2 : a ≤ x1) : y0 * (x1 - x0) + (y1 - y0) * (a - x0) ≤ y1 * (x1 - x0) := by
  have := Int.mul_nonneg (show 0 ≤ y1 - y0 by omega) (show 0 ≤ x1 - a by omega)
  grind
/-- a curve that never decreases has no lesser value further on -/
theorem At.inc {c : Cv} (h : IsCv c) (hi : ∀ i, i + 1 < c.n → c.y i ≤ c.y (i + 1)) {a b : Int} (hab : a ≤ b) {p q : Int × Int} (k : At c a p) (l : At c b q) : FLe p.1 p.2 q.1 q.2 := by
  have hm := inc_all hi
  cases k with
  | mid i hi1 h1 h2 =>
    have s1 := h.step i hi1
    cases l with
    | mid j hj1 g1 g2 =>
      have s2 := h.step j hj1
      by_cases e : i = j
      · subst e
        simp only [FLe]
        refine Int.mul_le_mul_of_nonneg_right ?_ (by omega)
        have := Int.mul_le_mul_of_nonneg_left (show a - c.x i ≤ b - c.x i by omega) (show 0 ≤ c.y (i + 1) - c.y i by have := hi i hi1; omega)
        omega
      · by_cases e' : i < j
        · have t1 := seg_ge (x0 := c.x i) (hi i hi1) h2
          have t2 := seg_le (x1 := c.x (j + 1)) (hi j hj1) g1
          have t3 := hm (i + 1) j (by omega) (by omega)
          refine FLe.trans (c := c.y j) (d := 1) (by simp; omega) (by omega) (by simp; omega) ?_ ?_
          · simp only [FLe, Int.mul_one]
            exact Int.le_trans t1 (Int.mul_le_mul_of_nonneg_right t3 (by omega))
          · simp only [FLe, Int.mul_one]
            exact t2
        · have := h.lt (j + 1) (i + 1) (by omega) hi1
          have e2 : j + 1 = i ∨ c.x (j + 1) < c.x i := by
            by_cases e3 : j + 1 = i
            · exact .inl e3
            · exact .inr (h.lt (j + 1) i (by omega) (by omega))
          rcases e2 with e2 | e2
          · -- both at the common point
            subst e2
            have ea : a = c.x (j + 1) := by omega
            have eb : b = c.x (j + 1) := by omega
            subst ea
            subst eb
            simp only [FLe]
            grind
          · omega
    | far hf =>
      have t1 := seg_ge (x0 := c.x i) (hi i hi1) h2
      have t3 := hm (i + 1) (c.n - 1) (by omega) (by omega)
      simp only [FLe, Int.mul_one]
      exact Int.le_trans t1 (Int.mul_le_mul_of_nonneg_right t3 (by omega))
  | far hf =>
    cases l with
    | mid j hj1 g1 g2 =>
      have := h.two
      by_cases e : j + 1 = c.n - 1
      · rw [e] at g2; omega
      · have := h.lt (j + 1) (c.n - 1) (by omega) (by omega); omega
    | far hg => exact Int.le_refl _

def negC (c : Cv) : Cv := ⟨c.n, c.x, fun i => 20000 - c.y i⟩
theorem neg_cv {c : Cv} (h : IsCv c) : IsCv (negC c) :=
  ⟨h.two, h.eight, h.zero, h.most, fun i hi => by have := h.high i hi; simp only [negC]; omega, fun i hi => by have := h.low i hi; simp only [negC]; omega, h.step⟩
theorem At.neg {c : Cv} {a : Int} {p : Int × Int} (k : At c a p) : At (negC c) a (20000 * p.2 - p.1, p.2) := by
  cases k with
  | mid i hi h1 h2 =>
    have := At.mid (c := negC c) (a := a) i hi h1 h2
    simp only [negC] at this ⊢
    have e : (20000 - c.y i) * (c.x (i + 1) - c.x i) + ((20000 - c.y (i + 1)) - (20000 - c.y i)) * (a - c.x i) = 20000 * (c.x (i + 1) - c.x i) - (c.y i * (c.x (i + 1) - c.x i) + (c.y (i + 1) - c.y i) * (a - c.x i)) := by grind
    rw [e] at this
    exact this
  | far hf =>
    have := At.far (c := negC c) (a := a) hf
    simpa [negC] using this
theorem At.dec {c : Cv} (h : IsCv c) (hi : ∀ i, i + 1 < c.n → c.y (i + 1) ≤ c.y i) {a b : Int} (hab : a ≤ b) {p q : Int × Int} (k : At c a p) (l : At c b q) : FLe q.1 q.2 p.1 p.2 := by
  have := At.inc (neg_cv h) (fun i hn => by have := hi i hn; simp only [negC]; omega) hab k.neg l.neg
  unfold FLe at *
  simp only at this
  have e1 : (20000 * p.2 - p.1) * q.2 = 20000 * p.2 * q.2 - p.1 * q.2 := by grind
  have e2 : (20000 * q.2 - q.1) * p.2 = 20000 * p.2 * q.2 - q.1 * p.2 := by grind
  omega
/-- sums of fractions, as they are computed -/
def fplus (a b : Int × Int) : Int × Int := (a.1 * b.2 + b.1 * a.2, a.2 * b.2)
def covF (l : Int × Int) (m rr conc : Int) : Int × Int := ((fplus (l.1 * m, l.2 * 100000) (rr, 1)).1 * conc, (fplus (l.1 * m, l.2 * 100000) (rr, 1)).2 * 100)
def allF (w l : Int × Int) (m rr conc pp : Int) : Int × Int := fplus (fplus w (covF l m rr conc)) (pp, 1)
theorem fplus_le {a b a' b' : Int × Int} (h1 : 0 < a.2) (h2 : 0 < b.2) (h3 : 0 < a'.2) (h4 : 0 < b'.2) (h : FLe a.1 a.2 a'.1 a'.2) (k : FLe b.1 b.2 b'.1 b'.2) : FLe (fplus a b).1 (fplus a b).2 (fplus a' b').1 (fplus a' b').2 :=
  FLe.plus h1 h3 h2 h4 h k
theorem covF_le {l l' : Int × Int} {m m' rr rr' conc conc' : Int} (h0 : 0 ≤ l.1) (h1 : 0 < l.2) (h1' : 0 < l'.2) (hm : 0 ≤ m) (hr : 0 ≤ rr) (hc : 0 ≤ conc) (hl : FLe l.1 l.2 l'.1 l'.2) (hmm : m ≤ m') (hrr : rr ≤ rr') (hcc : conc ≤ conc') :
    FLe (covF l m rr conc).1 (covF l m rr conc).2 (covF l' m' rr' conc').1 (covF l' m' rr' conc').2 := by
  unfold covF
  have e1 : FLe (l.1 * m) (l.2 * 100000) (l'.1 * m') (l'.2 * 100000) := FLe.mul h0 h1' (by omega) (by omega) hl (by unfold FLe; omega)
  have e2 : FLe rr 1 rr' 1 := by unfold FLe; omega
  have p1 : 0 < l.2 * 100000 := by omega
  have p2 : 0 < l'.2 * 100000 := by omega
  have e3 := fplus_le (a := (l.1 * m, l.2 * 100000)) (b := (rr, 1)) (a' := (l'.1 * m', l'.2 * 100000)) (b' := (rr', 1)) p1 (by simp) p2 (by simp) e1 e2
  refine FLe.mul ?_ ?_ (by omega) (by omega) e3 (by unfold FLe; omega)
  · simp only [fplus]
    have := Int.mul_nonneg h0 hm
    have := Int.mul_nonneg hr (show 0 ≤ l.2 * 100000 by omega)
    omega
  · simp only [fplus]; omega
theorem covF_pos {l : Int × Int} {m rr conc : Int} (h1 : 0 < l.2) : 0 < (covF l m rr conc).2 := by simp only [covF, fplus]; omega
theorem allF_pos {w l : Int × Int} {m rr conc pp : Int} (hw : 0 < w.2) (h1 : 0 < l.2) : 0 < (allF w l m rr conc pp).2 := by
  have := Int.mul_pos hw (covF_pos (m := m) (rr := rr) (conc := conc) h1)
  simp only [allF, fplus]; omega
theorem allF_le {w w' l l' : Int × Int} {m m' rr rr' conc conc' pp pp' : Int} (hw : 0 < w.2) (hw' : 0 < w'.2) (h0 : 0 ≤ l.1) (h1 : 0 < l.2) (h1' : 0 < l'.2) (hm : 0 ≤ m) (hr : 0 ≤ rr) (hc : 0 ≤ conc)
    (hww : FLe w.1 w.2 w'.1 w'.2) (hl : FLe l.1 l.2 l'.1 l'.2) (hmm : m ≤ m') (hrr : rr ≤ rr') (hcc : conc ≤ conc') (hpp : pp ≤ pp') :
    FLe (allF w l m rr conc pp).1 (allF w l m rr conc pp).2 (allF w' l' m' rr' conc' pp').1 (allF w' l' m' rr' conc' pp').2 := by
  unfold allF
  have c1 := covF_pos (l := l) (m := m) (rr := rr) (conc := conc) h1
  have c2 := covF_pos (l := l') (m := m') (rr := rr') (conc := conc') h1'
  refine fplus_le ?_ (by simp) ?_ (by simp) (fplus_le hw c1 hw' c2 hww (covF_le h0 h1 h1' hm hr hc hl hmm hrr hcc)) (by unfold FLe; simp; omega)
  · simp only [fplus]; exact Int.mul_pos hw c1
  · simp only [fplus]; exact Int.mul_pos hw' c2
/-- a ship -/
structure Sh where
  cls : Int
  pow : Int
  dra : Int
  ton : Int
  th : Cv
  wa : Cv
  ic : Cv
  slow : Int
  brash : Int
  ridge : Int
  press : Int
structure Ic where
  conc : Int
  thick : Int
  ridge : Int
  press : Int
def brP (s : Sh) (ch : Bool) : Int := if ch = true then s.brash else 100
def riP (i : Ic) (ch : Bool) : Int := if ch = true then 0 else i.ridge
def frP (s : Sh) (i : Ic) (v : Int) (ch : Bool) : Int × Int := allF (valP s.wa v) (valP s.ic i.thick) (brP s ch * (1000 + s.slow * v)) (s.ridge * riP i ch) i.conc (s.press * i.press)
def resP (s : Sh) (i : Ic) (v : Int) (ch : Bool) : Int := cdiv (frP s i v ch).1 (frP s i v ch).2
def thrP (s : Sh) (v : Int) : Int := (valP s.th v).1 / (valP s.th v).2
def makesP (s : Sh) (i : Ic) (ch : Bool) (v : Int) : Bool := decide (v ≤ lastXP s.th) && decide (resP s i v ch ≤ thrP s v)
def greatP (is : Nat → Bool) (most : Nat) : Nat := if is 0 = true then bsP is most 0 most else 0
def speedP (s : Sh) (i : Ic) (ch : Bool) : Nat := greatP (fun v => makesP s i ch v) (lastXP s.th).toNat
def okHull (s : Sh) : Bool :=
  decide (100 ≤ s.pow ∧ s.pow ≤ 100000) && decide (10 ≤ s.dra ∧ s.dra ≤ 2000) && decide (10 ≤ s.ton ∧ s.ton ≤ 500000) &&
  (okCv s.th && decB s.th) && decide (10 ≤ lastXP s.th ∧ lastXP s.th ≤ 250) && (okCv s.wa && incB s.wa) && decide (lastXP s.wa ≤ 250) &&
  (okCv s.ic && incB s.ic) && (decide (s.ic.y 0 = 0) && decide (lastXP s.ic = 400)) && decide (0 ≤ s.slow ∧ s.slow ≤ 20) && decide (0 ≤ s.brash ∧ s.brash ≤ 100) &&
  decide (0 ≤ s.ridge ∧ s.ridge ≤ 500) && decide (0 ≤ s.press ∧ s.press ≤ 5000)
def chkP (s : Sh) : Int := if 1 ≤ s.cls ∧ s.cls ≤ 6 then (if okHull s = true then 0 else 40) else 41
/-- a ship that is right -/
structure Good (s : Sh) : Prop where
  cls : 1 ≤ s.cls ∧ s.cls ≤ 6
  pow : 100 ≤ s.pow ∧ s.pow ≤ 100000
  th : IsCv s.th
  wa : IsCv s.wa
  ic : IsCv s.ic
  dec : ∀ i, i + 1 < s.th.n → s.th.y (i + 1) ≤ s.th.y i
  incw : ∀ i, i + 1 < s.wa.n → s.wa.y i ≤ s.wa.y (i + 1)
  inci : ∀ i, i + 1 < s.ic.n → s.ic.y i ≤ s.ic.y (i + 1)
  top : 10 ≤ lastXP s.th ∧ lastXP s.th ≤ 250
  wtop : lastXP s.wa ≤ 250
  y0 : s.ic.y 0 = 0
  itop : lastXP s.ic = 400
  slow : 0 ≤ s.slow ∧ s.slow ≤ 20
  brash : 0 ≤ s.brash ∧ s.brash ≤ 100
  ridge : 0 ≤ s.ridge ∧ s.ridge ≤ 500
  press : 0 ≤ s.press ∧ s.press ≤ 5000
theorem adj {n : Nat} {f : Nat → Bool} (h : allN (n - 1) f = true) : ∀ i, i + 1 < n → f i = true := fun i hi => allN_iff.1 h i (by omega)
theorem good_of {s : Sh} (h : chkP s = 0) : Good s := by
  unfold chkP at h
  by_cases h1 : 1 ≤ s.cls ∧ s.cls ≤ 6
  · rw [if_pos h1] at h
    cases ho : okHull s with
    | false => rw [ho] at h; simp at h
    | true =>
      simp only [okHull, Bool.and_eq_true, decide_eq_true_eq] at ho
      obtain ⟨⟨⟨⟨⟨⟨⟨⟨⟨⟨⟨⟨p1, p2⟩, p3⟩, p4, p5⟩, p6⟩, p7, p8⟩, p9⟩, q1, q2⟩, q3, q4⟩, q5⟩, q6⟩, q7⟩, q8⟩ := ho
      exact ⟨h1, p1, okCv_iff.1 p4, okCv_iff.1 p7, okCv_iff.1 q1, fun i hi => of_decide_eq_true (adj p5 i hi), fun i hi => of_decide_eq_true (adj p8 i hi), fun i hi => of_decide_eq_true (adj q2 i hi), p6, p9, q3, q4, q5, q6, q7, q8⟩
  · rw [if_neg h1] at h; cases h
structure GoodI (i : Ic) : Prop where
  conc : 0 ≤ i.conc ∧ i.conc ≤ 100
  thick : 0 ≤ i.thick ∧ i.thick ≤ 400
  ridge : 0 ≤ i.ridge ∧ i.ridge ≤ 100
  press : 0 ≤ i.press ∧ i.press ≤ 3
structure LeI (i j : Ic) : Prop where
  conc : i.conc ≤ j.conc
  thick : i.thick ≤ j.thick
  ridge : i.ridge ≤ j.ridge
  press : i.press ≤ j.press
theorem LeI.refl (i : Ic) : LeI i i := ⟨Int.le_refl _, Int.le_refl _, Int.le_refl _, Int.le_refl _⟩
/-- more ice, a greater speed, no channel: no less resistance -/
theorem fr_le {s : Sh} (g : Good s) {i j : Ic} (gi : GoodI i) (gj : GoodI j) (h : LeI i j) {v w : Int} (hv : 0 ≤ v) (hvw : v ≤ w) {a b : Bool} (hab : b = true → a = true) :
    0 < (frP s i v a).2 ∧ 0 < (frP s j w b).2 ∧ FLe (frP s i v a).1 (frP s i v a).2 (frP s j w b).1 (frP s j w b).2 := by
  have a1 := valP_at g.wa hv
  have a2 := valP_at g.wa (Int.le_trans hv hvw)
  have a3 := valP_at g.ic gi.thick.1
  have a4 := valP_at g.ic gj.thick.1
  have b1 := a1.bd g.wa
  have b2 := a2.bd g.wa
  have b3 := a3.bd g.ic
  have b4 := a4.bd g.ic
  have e1 : brP s a ≤ brP s b := by
    have := g.brash
    cases a <;> cases b <;> simp [brP] at hab ⊢ <;> omega
  have e0 : 0 ≤ brP s a := by have := g.brash; cases a <;> simp [brP]; omega
  have e2 : riP i a ≤ riP j b := by
    have := h.ridge
    have := gi.ridge
    have := gj.ridge
    cases a <;> cases b <;> simp [riP] at hab ⊢ <;> omega
  have e3 : 0 ≤ riP i a := by have := gi.ridge; cases a <;> simp [riP]; omega
  have s1 := Int.mul_nonneg g.slow.1 hv
  have s2 := Int.mul_le_mul_of_nonneg_left hvw g.slow.1
  refine ⟨allF_pos b1.2.2.1 b3.2.2.1, allF_pos b2.2.2.1 b4.2.2.1, allF_le b1.2.2.1 b2.2.2.1 b3.1 b3.2.2.1 b4.2.2.1 (Int.mul_nonneg e0 (by omega)) (Int.mul_nonneg g.ridge.1 e3) gi.conc.1 (a1.inc g.wa g.incw hvw a2) (a3.inc g.ic g.inci h.thick a4) ?_ (Int.mul_le_mul_of_nonneg_left e2 g.ridge.1) h.conc (Int.mul_le_mul_of_nonneg_left h.press g.press.1)⟩
  exact Int.mul_le_mul e1 (by omega) (by omega) (Int.le_trans e0 e1)
theorem res_le {s : Sh} (g : Good s) {i j : Ic} (gi : GoodI i) (gj : GoodI j) (h : LeI i j) {v w : Int} (hv : 0 ≤ v) (hvw : v ≤ w) {a b : Bool} (hab : b = true → a = true) : resP s i v a ≤ resP s j w b := by
  obtain ⟨h1, h2, h3⟩ := fr_le g gi gj h hv hvw hab
  exact cdiv_mono h1 h2 h3
theorem thr_le {s : Sh} (g : Good s) {v w : Int} (hv : 0 ≤ v) (hvw : v ≤ w) : thrP s w ≤ thrP s v := by
  have a1 := valP_at g.th hv
  have a2 := valP_at g.th (Int.le_trans hv hvw)
  exact ediv_le_fr (a2.bd g.th).2.2.1 (a1.bd g.th).2.2.1 (At.dec g.th g.dec hvw a1 a2)
/-- who can make it in more ice, not in a channel, faster, can make it -/
theorem makes_le {s : Sh} (g : Good s) {i j : Ic} (gi : GoodI i) (gj : GoodI j) (h : LeI i j) {v w : Int} (hv : 0 ≤ v) (hvw : v ≤ w) {a b : Bool} (hab : b = true → a = true) (hm : makesP s j b w = true) : makesP s i a v = true := by
  simp only [makesP, Bool.and_eq_true, decide_eq_true_eq] at hm ⊢
  have := res_le g gi gj h hv hvw hab
  have := thr_le g hv hvw
  omega
theorem great_spec {is : Nat → Bool} {most : Nat} (anti : ∀ a b, a ≤ b → b ≤ most → is b = true → is a = true) : greatP is most ≤ most ∧ (is 0 = true → is (greatP is most) = true) ∧ (∀ k, greatP is most < k → k ≤ most → is k = false) := by
  unfold greatP
  cases h0 : is 0 with
  | true =>
    rw [if_pos rfl]
    have := bsP_greatest is most anti most 0 most (by omega) (by omega) (by omega) h0 (by omega)
    exact ⟨this.2.1, fun _ => this.1, this.2.2⟩
  | false =>
    rw [if_neg (by simp)]
    refine ⟨by omega, by simp, fun k _ hk => ?_⟩
    cases hk' : is k with
    | false => rfl
    | true => rw [anti 0 k (by omega) hk hk'] at h0; cases h0
theorem great_mono {is is' : Nat → Bool} {most most' : Nat} (anti : ∀ a b, a ≤ b → b ≤ most → is b = true → is a = true) (anti' : ∀ a b, a ≤ b → b ≤ most' → is' b = true → is' a = true) (hm : most' ≤ most) (h : ∀ k, k ≤ most' → is' k = true → is k = true) : greatP is' most' ≤ greatP is most := by
  have g := great_spec anti
  have g' := great_spec anti'
  cases h0 : is' 0 with
  | false => unfold greatP; rw [h0]; simp
  | true =>
    have := h _ g'.1 (g'.2.1 h0)
    rcases Nat.lt_or_ge (greatP is most) (greatP is' most') with hlt | hge
    · have := g.2.2 _ hlt (by omega)
      simp_all
    · exact hge
theorem makes_anti {s : Sh} (g : Good s) {i : Ic} (gi : GoodI i) (ch : Bool) (most : Nat) : ∀ a b : Nat, a ≤ b → b ≤ most → makesP s i ch b = true → makesP s i ch a = true :=
  fun _ _ h _ hm => makes_le g gi gi (LeI.refl i) (by omega) (by omega) (fun h => h) hm
theorem speed_le {s : Sh} (g : Good s) {i j : Ic} (gi : GoodI i) (gj : GoodI j) (h : LeI i j) {a b : Bool} (hab : b = true → a = true) : speedP s j b ≤ speedP s i a :=
  great_mono (makes_anti g gi a _) (makes_anti g gj b _) (Nat.le_refl _) fun k _ hk => makes_le g gi gj h (by omega) (Int.le_refl _) hab hk
/-- the load -/
def loadP (i : Ic) (v : Int) (ch : Bool) : Int :=
  if i.conc = 0 then 0 else (if ch = true then (i.thick * (100 + v) + 1) / 2 else i.thick * (100 + v)) + 300 * riP i ch + 2000 * i.press
theorem load_le {i j : Ic} (gi : GoodI i) (gj : GoodI j) (h : LeI i j) {v w : Int} (hv : 0 ≤ v) (hvw : v ≤ w) {a b : Bool} (hab : b = true → a = true) : loadP i v a ≤ loadP j w b := by
  have h1 := Int.mul_le_mul h.thick (show 100 + v ≤ 100 + w by omega) (by omega) gj.thick.1
  have h2 := Int.mul_nonneg gj.thick.1 (show 0 ≤ 100 + w by omega)
  have := h.conc
  have := h.ridge
  have := h.press
  have := gi.conc
  have := gj.ridge
  have := gi.ridge
  have := gi.press
  have := gj.press
  unfold loadP riP
  by_cases e : j.conc = 0
  · rw [if_pos (show i.conc = 0 by omega), if_pos e]; omega
  · rw [if_neg e]
    by_cases e' : i.conc = 0
    · rw [if_pos e']
      cases b <;> simp <;> omega
    · rw [if_neg e']
      cases a <;> cases b <;> simp at hab ⊢ <;> omega

theorem gcd_step (a b : Int) (ha : 0 ≤ a) (hb : 0 < b) : Int.gcd b (a % b) = Int.gcd a b := by
  rw [Int.gcd_eq_natAbs_gcd_natAbs, Int.gcd_eq_natAbs_gcd_natAbs]
  obtain ⟨m, rfl⟩ := Int.eq_ofNat_of_zero_le ha
  obtain ⟨n, rfl⟩ := Int.eq_ofNat_of_zero_le (Int.le_of_lt hb)
  have : ((m : Int) % (n : Int)) = ((m % n : Nat) : Int) := rfl
  rw [this]
  simp only [Int.natAbs_natCast]
  rw [Nat.gcd_comm m n, Nat.gcd_rec n m, Nat.gcd_comm]
theorem lowest_eq {n d n' d' : Int} (h0 : 0 ≤ n) (h0' : 0 ≤ n') (hd : 0 < d) (hd' : 0 < d') (h : n * d' = n' * d) : n / (Int.gcd n d : Int) = n' / (Int.gcd n' d' : Int) ∧ d / (Int.gcd n d : Int) = d' / (Int.gcd n' d' : Int) := by
  obtain ⟨a, rfl⟩ := Int.eq_ofNat_of_zero_le h0
  obtain ⟨a', rfl⟩ := Int.eq_ofNat_of_zero_le h0'
  obtain ⟨b, rfl⟩ := Int.eq_ofNat_of_zero_le (Int.le_of_lt hd)
  obtain ⟨b', rfl⟩ := Int.eq_ofNat_of_zero_le (Int.le_of_lt hd')
  have hb : b ≠ 0 := by omega
  have hb' : b' ≠ 0 := by omega
  have e := (Rat.mkRat_eq_iff hb hb').2 h
  have e1 := congrArg Rat.num e
  have e2 := congrArg Rat.den e
  rw [Rat.num_mkRat, Rat.num_mkRat, if_neg hb, if_neg hb'] at e1
  rw [Rat.den_mkRat, Rat.den_mkRat, if_neg hb, if_neg hb'] at e2
  simp only [Int.natAbs_natCast] at e1 e2
  simp only [Int.gcd_natCast_natCast]
  rw [Nat.gcd_comm b a, Nat.gcd_comm b' a'] at e1 
  refine ⟨e1, ?_⟩
  rw [Nat.gcd_comm b a, Nat.gcd_comm b' a'] at e2
  exact_mod_cast e2

theorem anti_and {p q : Nat → Bool} {most : Nat} (hp : ∀ a b, a ≤ b → b ≤ most → p b = true → p a = true) (hq : ∀ a b, a ≤ b → b ≤ most → q b = true → q a = true) : ∀ a b, a ≤ b → b ≤ most → (p b && q b) = true → (p a && q a) = true := by
  intro a b h1 h2 h
  rw [Bool.and_eq_true] at h ⊢
  exact ⟨hp a b h1 h2 h.1, hq a b h1 h2 h.2⟩
def strP (cls : Int) : Int := if cls = 1 then 4000 else if cls = 2 then 8000 else if cls = 3 then 14000 else if cls = 4 then 24000 else if cls = 5 then 40000 else 90000
def beyP (s : Sh) (i : Ic) (ch : Bool) (v : Int) : Bool := decide (strP s.cls < loadP i v ch)
def besP (s : Sh) (i : Ic) (ch : Bool) : Bool := decide ((speedP s i ch : Int) < 10)
def safeB (s : Sh) (i : Ic) (ch : Bool) (v : Nat) : Bool := makesP s i ch v && !beyP s i ch v
def safeP (s : Sh) (i : Ic) (ch : Bool) : Nat := greatP (safeB s i ch) (lastXP s.th).toNat
theorem bey_le {s : Sh} {i j : Ic} (gi : GoodI i) (gj : GoodI j) (h : LeI i j) {v w : Int} (hv : 0 ≤ v) (hvw : v ≤ w) {a b : Bool} (hab : b = true → a = true) (hb : beyP s i a v = true) : beyP s j b w = true := by
  simp only [beyP, decide_eq_true_eq] at hb ⊢
  have := load_le gi gj h hv hvw hab
  omega
theorem safeB_le {s : Sh} (g : Good s) {i j : Ic} (gi : GoodI i) (gj : GoodI j) (h : LeI i j) {v w : Nat} (hvw : v ≤ w) {a b : Bool} (hab : b = true → a = true) (hb : safeB s j b w = true) : safeB s i a v = true := by
  simp only [safeB, Bool.and_eq_true, Bool.not_eq_true'] at hb ⊢
  refine ⟨makes_le g gi gj h (by omega) (by omega) hab hb.1, ?_⟩
  cases hx : beyP s i a v with
  | false => rfl
  | true => rw [bey_le gi gj h (by omega) (by omega) hab hx] at hb; exact absurd hb.2 (by simp)
theorem safeB_anti {s : Sh} (g : Good s) {i : Ic} (gi : GoodI i) (ch : Bool) (most : Nat) : ∀ a b : Nat, a ≤ b → b ≤ most → safeB s i ch b = true → safeB s i ch a = true :=
  fun _ _ h _ hm => safeB_le g gi gi (LeI.refl i) h (fun h => h) hm
theorem safe_le {s : Sh} (g : Good s) {i j : Ic} (gi : GoodI i) (gj : GoodI j) (h : LeI i j) {a b : Bool} (hab : b = true → a = true) : safeP s j b ≤ safeP s i a :=
  great_mono (safeB_anti g gi a _) (safeB_anti g gj b _) (Nat.le_refl _) fun _ _ hk => safeB_le g gi gj h (Nat.le_refl _) hab hk

theorem At.uniq {c : Cv} (h : IsCv c) {a : Int} {p q : Int × Int} (k : At c a p) (l : At c a q) : FEq p.1 p.2 q.1 q.2 := by
  cases k with
  | mid i hi1 h1 h2 =>
    cases l with
    | mid j hj1 g1 g2 =>
      by_cases e : i = j
      · subst e; rfl
      · rcases Nat.lt_or_gt_of_ne e with e' | e'
        · by_cases e2 : i + 1 = j
          · subst e2
            have ea : a = c.x (i + 1) := by omega
            subst ea
            simp only [FEq]
            grind
          · have := h.lt (i + 1) j (by omega) (by omega); omega
        · by_cases e2 : j + 1 = i
          · subst e2
            have ea : a = c.x (j + 1) := by omega
            subst ea
            simp only [FEq]
            grind
          · have := h.lt (j + 1) i (by omega) (by omega); omega
    | far hf =>
      by_cases e : i + 1 = c.n - 1
      · rw [e] at h2; omega
      · have := h.lt (i + 1) (c.n - 1) (by omega) (by omega); omega
  | far hf =>
    cases l with
    | mid j hj1 g1 g2 =>
      by_cases e : j + 1 = c.n - 1
      · rw [e] at g2; omega
      · have := h.lt (j + 1) (c.n - 1) (by omega) (by omega); omega
    | far hg => rfl
/-- the reference's fraction, from the stretch k on -/
def rfG (c : Cv) (a : Int) : Nat → Nat → Int × Int
  | 0, k => (c.y k * (c.x (k + 1) - a) + c.y (k + 1) * (a - c.x k), c.x (k + 1) - c.x k)
  | f + 1, k => if c.x (k + 1) ≤ a then rfG c a f (k + 1) else (c.y k * (c.x (k + 1) - a) + c.y (k + 1) * (a - c.x k), c.x (k + 1) - c.x k)
def rfP (c : Cv) (a : Int) : Int × Int := if lastXP c ≤ a then (c.y (c.n - 1), 1) else rfG c a (c.n - 2) 0
theorem rfG_at {c : Cv} {a : Int} (hl : a < lastXP c) : ∀ f k, f + k + 2 = c.n → c.x k ≤ a → At c a (rfG c a f k) := by
  have form : ∀ k, (c.y k * (c.x (k + 1) - a) + c.y (k + 1) * (a - c.x k), c.x (k + 1) - c.x k) = (c.y k * (c.x (k + 1) - c.x k) + (c.y (k + 1) - c.y k) * (a - c.x k), c.x (k + 1) - c.x k) := by
    intro k
    refine congrArg (fun z => (z, _)) ?_
    grind
  intro f
  induction f with
  | zero =>
    intro k hk hx
    unfold rfG
    rw [form]
    exact At.mid k (by omega) hx (by unfold lastXP at hl; rw [show c.n - 1 = k + 1 by omega] at hl; omega)
  | succ f ih =>
    intro k hk hx
    unfold rfG
    by_cases hq : c.x (k + 1) ≤ a
    · rw [if_pos hq]; exact ih (k + 1) (by omega) hq
    · rw [if_neg hq, form]; exact At.mid k (by omega) hx (by omega)
theorem rf_eq {c : Cv} (h : IsCv c) {a : Int} (ha : 0 ≤ a) : FEq (rfP c a).1 (rfP c a).2 (valP c a).1 (valP c a).2 ∧ 0 < (rfP c a).2 ∧ 0 ≤ (rfP c a).1 ∧ (rfP c a).1 ≤ 20000 * (rfP c a).2 ∧ (rfP c a).2 ≤ 400 := by
  have v := valP_at h ha
  have := h.two
  by_cases hl : lastXP c ≤ a
  · have e : rfP c a = (c.y (c.n - 1), 1) := by unfold rfP; rw [if_pos hl]
    have a1 := h.low (c.n - 1) (by omega)
    have a3 := h.high (c.n - 1) (by omega)
    rw [e]
    refine ⟨?_, by simp, by simpa using a1, by simp; omega, by simp⟩
    by_cases hl' : lastXP c < a
    · exact At.uniq h (At.far hl') v
    · have e2 := At.uniq h (At.mid (c := c) (a := a) (c.n - 2) (by omega) (by have := h.lt (c.n - 2) (c.n - 1) (by omega) (by omega); unfold lastXP at hl; omega) (by rw [show c.n - 2 + 1 = c.n - 1 by omega]; unfold lastXP at hl'; omega)) v
      have hs := h.step (c.n - 2) (by omega)
      rw [show c.n - 2 + 1 = c.n - 1 by omega] at e2 hs
      have ea : a = c.x (c.n - 1) := by unfold lastXP at hl hl'; omega
      subst ea
      have hd : 0 < c.x (c.n - 1) - c.x (c.n - 2) := by omega
      have e3 : c.y (c.n - 2) * (c.x (c.n - 1) - c.x (c.n - 2)) + (c.y (c.n - 1) - c.y (c.n - 2)) * (c.x (c.n - 1) - c.x (c.n - 2)) = c.y (c.n - 1) * (c.x (c.n - 1) - c.x (c.n - 2)) := by grind
      unfold FEq at e2 ⊢
      simp only at e2 ⊢
      rw [e3] at e2
      generalize c.x (c.n - 1) - c.x (c.n - 2) = d at *
      refine Int.eq_of_mul_eq_mul_right (a := d) (by omega) ?_
      grind
  · have e : rfP c a = rfG c a (c.n - 2) 0 := by unfold rfP; rw [if_neg hl]
    have k := rfG_at (a := a) (Int.not_le.1 hl) (c.n - 2) 0 (by omega) (by rw [h.zero]; exact ha)
    rw [e]
    have b := k.bd h
    exact ⟨At.uniq h k v, b.2.2.1, b.1, b.2.1, b.2.2.2⟩
/-- the reference's resistance -/
def rresP (s : Sh) (i : Ic) (v : Int) (ch : Bool) : Int :=
  let w := rfP s.wa v
  let l := rfP s.ic i.thick
  cdiv (w.1 * (l.2 * 10000000) + i.conc * l.1 * (1000 + s.slow * v) * brP s ch * w.2 + i.conc * s.ridge * riP i ch * (w.2 * l.2 * 100000) + s.press * i.press * (w.2 * l.2 * 10000000)) (w.2 * l.2 * 10000000)
theorem FEq.plus {a b a' b' c d c' d' : Int} (h : FEq a b a' b') (k : FEq c d c' d') : FEq (a * d + c * b) (b * d) (a' * d' + c' * b') (b' * d') := by
  unfold FEq at *
  grind
theorem FEq.mulc {a b a' b' m k : Int} (h : FEq a b a' b') : FEq (a * m) (b * k) (a' * m) (b' * k) := by
  unfold FEq at *
  grind
theorem rres_eq {s : Sh} (g : Good s) {i : Ic} (gi : GoodI i) {v : Int} (hv : 0 ≤ v) (ch : Bool) : rresP s i v ch = resP s i v ch := by
  obtain ⟨ew, pw, _⟩ := rf_eq g.wa hv
  obtain ⟨el, pl, _⟩ := rf_eq g.ic gi.thick.1
  have bw := (valP_at g.wa hv).bd g.wa
  have bl := (valP_at g.ic gi.thick.1).bd g.ic
  unfold rresP resP
  simp only
  have p1 := Int.mul_pos pw pl
  refine cdiv_eq (by omega) (by simp only [frP]; exact allF_pos bw.2.2.1 bl.2.2.1) ?_
  have h1 : FEq (covF (rfP s.ic i.thick) (brP s ch * (1000 + s.slow * v)) (s.ridge * riP i ch) i.conc).1 (covF (rfP s.ic i.thick) (brP s ch * (1000 + s.slow * v)) (s.ridge * riP i ch) i.conc).2 (covF (valP s.ic i.thick) (brP s ch * (1000 + s.slow * v)) (s.ridge * riP i ch) i.conc).1 (covF (valP s.ic i.thick) (brP s ch * (1000 + s.slow * v)) (s.ridge * riP i ch) i.conc).2 := by
    simp only [covF, fplus]
    exact FEq.mulc (FEq.plus (FEq.mulc el) rfl)
  have h2 : FEq (allF (rfP s.wa v) (rfP s.ic i.thick) (brP s ch * (1000 + s.slow * v)) (s.ridge * riP i ch) i.conc (s.press * i.press)).1 (allF (rfP s.wa v) (rfP s.ic i.thick) (brP s ch * (1000 + s.slow * v)) (s.ridge * riP i ch) i.conc (s.press * i.press)).2 (frP s i v ch).1 (frP s i v ch).2 := by
    simp only [frP, allF, fplus]
    exact FEq.plus (FEq.plus ew h1) rfl
  have e1 : (allF (rfP s.wa v) (rfP s.ic i.thick) (brP s ch * (1000 + s.slow * v)) (s.ridge * riP i ch) i.conc (s.press * i.press)).2 = (rfP s.wa v).2 * (rfP s.ic i.thick).2 * 10000000 := by
    simp only [allF, covF, fplus]; grind
  have e2 : (allF (rfP s.wa v) (rfP s.ic i.thick) (brP s ch * (1000 + s.slow * v)) (s.ridge * riP i ch) i.conc (s.press * i.press)).1 = (rfP s.wa v).1 * ((rfP s.ic i.thick).2 * 10000000) + i.conc * (rfP s.ic i.thick).1 * (1000 + s.slow * v) * brP s ch * (rfP s.wa v).2 + i.conc * s.ridge * riP i ch * ((rfP s.wa v).2 * (rfP s.ic i.thick).2 * 100000) + s.press * i.press * ((rfP s.wa v).2 * (rfP s.ic i.thick).2 * 10000000) := by
    simp only [allF, covF, fplus]; grind
  rw [e1, e2] at h2
  exact h2

def scanN (f : Nat → Bool) : Nat → Nat
  | 0 => 0
  | n + 1 => if f n = true then n else scanN f n
theorem scan_spec (f : Nat → Bool) : ∀ n, (∀ k, scanN f n < k → k < n → f k = false) ∧ (scanN f n ≠ 0 → f (scanN f n) = true) ∧ (scanN f n = 0 ∨ scanN f n < n)
  | 0 => ⟨fun k _ h => by omega, fun h => absurd rfl h, .inl rfl⟩
  | n + 1 => by
    obtain ⟨h1, h2, h3⟩ := scan_spec f n
    unfold scanN
    cases hf : f n with
    | true => rw [if_pos rfl]; exact ⟨fun k _ _ => by omega, fun _ => hf, .inr (by omega)⟩
    | false =>
      rw [if_neg (by simp)]
      refine ⟨fun k hk hkn => ?_, h2, by omega⟩
      by_cases e : k = n
      · rw [e]; exact hf
      · exact h1 k hk (by omega)
theorem scan_eq {f : Nat → Bool} {most n : Nat} (anti : ∀ a b, a ≤ b → b ≤ most → f b = true → f a = true) (hm : most < n) (hf : ∀ k, most < k → f k = false) : scanN f n = greatP f most := by
  obtain ⟨g1, g2, g3⟩ := great_spec anti
  obtain ⟨h1, h2, h3⟩ := scan_spec f n
  rcases Nat.lt_trichotomy (scanN f n) (greatP f most) with h | h | h
  · have := h1 _ h (by omega)
    cases h0 : f 0 with
    | true => rw [g2 h0] at this; cases this
    | false => unfold greatP at h; rw [h0] at h; simp at h
  · exact h
  · have h4 := h2 (by omega)
    by_cases hk : scanN f n ≤ most
    · rw [g3 _ h hk] at h4; cases h4
    · rw [hf _ (by omega)] at h4; cases h4

end Go.Proofs.YtcoiklolgilhaaaGreatDoor
