/- Pure facts for the law HullWaits: the first hours that Free names, and what less pressure does. A right ship, a right cell, right pressures. -/
import Derived.Test.YtcoiklolgilhaaaDoorRc
import Derived.Test.YtcoiklolgilhaaaDoorPy
import Derived.Test.YtcoiklolgilhaaaDoorQf
namespace Go.Proofs.YtcoiklolgilhaaaDoor
open Go.RowKit
set_option maxRecDepth 100000
theorem fstN_spec (f : Nat → Bool) : ∀ k i, (fstN f k i = -1 ∧ ∀ j, i ≤ j → j < i + k → f j = false) ∨ (∃ r : Nat, fstN f k i = (r : Int) ∧ i ≤ r ∧ r < i + k ∧ f r = true ∧ ∀ j, i ≤ j → j < r → f j = false)
  | 0, i => .inl ⟨rfl, fun j h1 h2 => by omega⟩
  | k + 1, i => by
    unfold fstN
    cases hf : f i with
    | true => exact .inr ⟨i, by simp, Nat.le_refl _, by omega, hf, fun j h1 h2 => by omega⟩
    | false =>
      rw [if_neg (by simp)]
      rcases fstN_spec f k (i + 1) with ⟨h1, h2⟩ | ⟨r, h1, h2, h3, h4, h5⟩
      · refine .inl ⟨h1, fun j hj hj' => ?_⟩
        by_cases e : j = i
        · rw [e]; exact hf
        · exact h2 j (by omega) (by omega)
      · refine .inr ⟨r, h1, by omega, by omega, h4, fun j hj hj' => ?_⟩
        by_cases e : j = i
        · rw [e]; exact hf
        · exact h5 j (by omega) (by omega)
def oneB (s : Sh) (hi : Ic) (b : Int) : Bool := decide ((speedP s (setP hi b) false : Int) < 10)
/-- what Free says of the first hours -/
def Fr (s : Sh) (lo hi : Ic) (q : Cv) (A B E : Int) : Prop :=
  (E = 4 ∧ ∀ i, i < q.n → oneB s hi (q.y i) = true) ∨
  (E = 0 ∧ ∃ a b : Nat, A = a ∧ B = b ∧ a ≤ b ∧ b < q.n ∧ oneB s hi (q.y b) = false ∧ (∀ j, j < b → oneB s hi (q.y j) = true) ∧ oneB s lo (q.x a) = false ∧ ∀ j, j < a → oneB s lo (q.x j) = true)
def OkQ (q : Cv) : Prop := ∀ i, i < q.n → 0 ≤ q.x i ∧ q.x i ≤ q.y i ∧ q.y i ≤ 3
theorem prE_of {q : Cv} (h : OkQ q) (hn : q.n ≤ 240) : prE q = 0 := by
  unfold prE
  rw [if_pos hn, if_pos]
  refine allN_iff.2 fun i hi => ?_
  unfold prOk
  exact decide_eq_true (h i hi)
theorem oneF_eq {s : Sh} (g : Good s) {lo hi : Ic} (gc : GoodC lo hi) {q : Cv} (h : OkQ q) {i : Nat} (hi' : i < q.n) : oneF s lo hi q i = !oneB s hi (q.y i) ∧ allF' s lo hi q i = !oneB s lo (q.x i) := by
  obtain ⟨h0, h1, h2⟩ := h i hi'
  have gq := setP_good gc h0 h1 h2
  unfold oneF allF' oneB
  rw [(bes_one (ch := false) g gq).1, (bes_one (ch := false) g gq).2]
  exact ⟨rfl, rfl⟩
theorem oneB_le {s : Sh} (g : Good s) {i j : Ic} (gi : GoodI i) (gj : GoodI j) (h : LeI i j) {a b : Int} (h0 : 0 ≤ a) (h1 : a ≤ b) (h2 : b ≤ 3) (ha : oneB s i a = true) : oneB s j b = true := by
  unfold oneB at *
  have := speed_le (a := false) (b := false) g (i := setP i a) (j := setP j b) ⟨gi.conc, gi.thick, gi.ridge, ⟨h0, by show a ≤ 3; omega⟩⟩ ⟨gj.conc, gj.thick, gj.ridge, ⟨by show 0 ≤ b; omega, h2⟩⟩ ⟨h.conc, h.thick, h.ridge, h1⟩ (fun h => h)
  simp only [decide_eq_true_eq] at *
  omega
theorem fr_of {s : Sh} (hc : chkP s = 0) {lo hi : Ic} (gc : GoodC lo hi) {q : Cv} (h : OkQ q) (hn : q.n ≤ 240) : ∃ A B E : Int, FreeRes s lo hi q = .tuple #[.agg #[.int .i64 A, .int .i64 B], .int .i64 E] ∧ Fr s lo hi q A B E := by
  have g := good_of hc
  have hz : orL [chkP s, cellE lo hi, prE q] = 0 := by rw [hc, cellE_of gc, prE_of h hn]; rfl
  unfold FreeRes
  rw [if_pos hz]
  rcases fstN_spec (oneF s lo hi q) q.n 0 with ⟨e, h1⟩ | ⟨b, e, _, h2, h3, h4⟩
  · rw [if_pos (by rw [e]; decide)]
    refine ⟨_, _, _, rfl, .inl ⟨rfl, fun i hi' => ?_⟩⟩
    have := h1 i (Nat.zero_le _) (by omega)
    rw [(oneF_eq g gc h hi').1] at this
    simpa using this
  · rw [if_neg (by rw [e]; omega)]
    have hb : b < q.n := by omega
    have ob := (oneF_eq g gc h hb).1
    have b1 : oneB s hi (q.y b) = false := by rw [h3] at ob; simpa using ob.symm
    have b2 : ∀ j, j < b → oneB s hi (q.y j) = true := fun j hj => by
      have := h4 j (Nat.zero_le _) hj
      rw [(oneF_eq g gc h (show j < q.n by omega)).1] at this
      simpa using this
    obtain ⟨q0, q1, q2⟩ := h b hb
    have b3 : oneB s lo (q.x b) = false := by
      cases hx : oneB s lo (q.x b) with
      | false => rfl
      | true => rw [oneB_le g gc.gl gc.gh gc.le q0 q1 q2 hx] at b1; cases b1
    rcases fstN_spec (allF' s lo hi q) q.n 0 with ⟨e', h1'⟩ | ⟨a, e', _, h2', h3', h4'⟩
    · have := h1' b (Nat.zero_le _) (by omega)
      rw [(oneF_eq g gc h hb).2, b3] at this
      cases this
    · have ha : a < q.n := by omega
      have oa := (oneF_eq g gc h ha).2
      have a1 : oneB s lo (q.x a) = false := by rw [h3'] at oa; simpa using oa.symm
      have a2 : ∀ j, j < a → oneB s lo (q.x j) = true := fun j hj => by
        have := h4' j (Nat.zero_le _) hj
        rw [(oneF_eq g gc h (show j < q.n by omega)).2] at this
        simpa using this
      refine ⟨_, _, _, rfl, .inr ⟨rfl, a, b, e', e, ?_, hb, b1, b2, a1, a2⟩⟩
      rcases Nat.lt_or_ge b a with hl | hl
      · rw [a2 b hl] at b3; cases b3
      · exact hl
/-- pressure that is nowhere greater -/
theorem free_le {s : Sh} (g : Good s) {lo hi : Ic} (gc : GoodC lo hi) {q r : Cv} (hq : OkQ q) (hr : OkQ r) (hn : r.n = q.n) (hx : ∀ i, i < q.n → r.x i ≤ q.x i) (hy : ∀ i, i < q.n → r.y i ≤ q.y i) {A B E C D F : Int} (h : Fr s lo hi q A B E) (k : Fr s lo hi r C D F) :
    (E = 4 ∧ (F = 4 ∨ F = 0)) ∨ (E = 0 ∧ F = 0 ∧ C ≤ A ∧ D ≤ B ∧ 0 ≤ A ∧ A ≤ B ∧ B < q.n) := by
  rcases h with ⟨e, _⟩ | ⟨e, a, b, rfl, rfl, hab, hb, b1, b2, a1, a2⟩
  · rcases k with ⟨f, _⟩ | ⟨f, _⟩
    · exact .inl ⟨e, .inl f⟩
    · exact .inl ⟨e, .inr f⟩
  · obtain ⟨r0, r1, r2⟩ := hr b (by omega)
    obtain ⟨q0, q1, q2⟩ := hq b hb
    have c1 : oneB s hi (r.y b) = false := by
      cases hz : oneB s hi (r.y b) with
      | false => rfl
      | true => rw [oneB_le g gc.gh gc.gh (LeI.refl _) (by omega) (hy b hb) q2 hz] at b1; cases b1
    obtain ⟨p0, p1, p2⟩ := hq a (by omega)
    obtain ⟨s0, s1, s2⟩ := hr a (by omega)
    have c2 : oneB s lo (r.x a) = false := by
      cases hz : oneB s lo (r.x a) with
      | false => rfl
      | true => rw [oneB_le g gc.gl gc.gl (LeI.refl _) s0 (hx a (by omega)) (by omega) hz] at a1; cases a1
    rcases k with ⟨f, kf⟩ | ⟨f, c, d, rfl, rfl, hcd, hd, d1, d2, d3, d4⟩
    · rw [kf b (by omega)] at c1; cases c1
    · refine .inr ⟨e, f, ?_, ?_, by omega, by omega, by omega⟩
      · rcases Nat.lt_or_ge a c with hl | hl
        · rw [d4 a hl] at c2; cases c2
        · omega
      · rcases Nat.lt_or_ge b d with hl | hl
        · rw [d2 b hl] at c1; cases c1
        · omega
theorem Free_ex (s : Sh) (ms : Mem3) (lo hi : Ic) (p : Option Addr) (n cap : Nat) (q : Cv) (w : World) (hs : ShipIn w s ms) (hl : Lim w) (hc : chkP s = 0) (gc : GoodC lo hi) (hq : OkQ q) (hn : q.n = n) (hm : n ≤ 240) (hP : Pts w p q) :
    Calls Tryd.prog 41 #[.agg (shipA s ms), .agg (cellV lo hi), .slice p n cap] w fun e w' => ∃ A B E : Int, e = .returned (.tuple #[.agg #[.int .i64 A, .int .i64 B], .int .i64 E]) ∧ Fr s lo hi q A B E ∧ Below w.heap.size w w' := by
  refine (Free_any s ms lo hi p n cap q w hs hl hn (by omega) hP).mono ?_
  rintro e w' ⟨rfl, hb⟩
  obtain ⟨A, B, E, h1, h2⟩ := fr_of hc gc hq (by omega)
  exact ⟨A, B, E, by rw [h1], h2, hb⟩
end Go.Proofs.YtcoiklolgilhaaaDoor
