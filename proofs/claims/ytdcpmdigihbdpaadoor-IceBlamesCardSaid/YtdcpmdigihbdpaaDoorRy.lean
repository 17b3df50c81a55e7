/- Lemmas of the model: a region that draws its order, by what is known of the memory and of each value; operations one by one. Conditions: the closed check allSB. -/
import Derived.Test.YtdcpmdigihbdpaaDoorRx
namespace Go.Proofs.YtdcpmdigihbdpaaDoor
open Go.RowKit
set_option maxRecDepth 100000
section
variable {P : Program} {Q : Exit → Act → World → Prop}
theorem wp_region_vals {id : Nat} {a : Act} {w : World} {l : List Oper} (slots : List Nat) (Wd : (Nat → Bool) → World → Prop) (Pv : Nat → Value → World → Prop)
    (hm : P.follows .mixedOrders = true) (hB : allSB l.toArray slots = true) (hsz : ∀ s ∈ slots, s < 1000 → s < a.tmps.size) (hts : a.tmps.size ≤ 1000)
    (h0 : Wd (fun _ => false) { w with drawn := w.drawn + 1 })
    (hval : ∀ i o L, l[i]? = some o → L i = false → (∀ j, Region.waitsFor .any l.toArray i j = true → L j = true) → ∀ a' W, Wd L W → (∀ t, t ∉ slots → a'.eval (.tmp t) = a.eval (.tmp t)) →
      (∀ j s, s < 1000 → slots[j]? = some s → Region.waitsFor .any l.toArray i j = true → Pv j (a'.eval (.tmp s)) W) →
      o.wp P a' W (fun a'' W' => ∃ x, a'' = a'.put o.dst x ∧ Wd (fun j => if j = i then true else L j) W' ∧ Pv i x W' ∧ ∀ j v, Pv j v W → Pv j v W') Q)
    (hend : ∀ (W : World) (L : Nat → Bool) (V : Nat → Value), (∀ i, i < l.length → L i = true) → Wd L W → (∀ i, i < l.length → Pv i (V i) W) → Q .normal (fill slots 0 (fun i => some (V i)) a) W) :
    (Code.region id l.toArray true).wp P Q a w := by
  refine wp_region_all slots (fun L V W => Wd L W ∧ ∀ j, L j = true → Pv j (V j) W) hm hB hsz hts ⟨h0, fun j h => by cases h⟩ ?_ ?_
  · intro i o L V ho hL hdep a' W hR hfr hdp
    refine Oper.wp_mono ?_ (hval i o L ho hL hdep a' W hR.1 hfr (fun j s hs hss hw => by rw [hdp j s hs hss hw]; exact hR.2 j (hdep j hw)))
    rintro a'' W' ⟨x, rfl, h1, h2, h3⟩
    refine ⟨x, rfl, h1, fun j hj => ?_⟩
    by_cases e : j = i
    · subst e; simpa using h2
    · simp only [if_neg e] at hj ⊢
      exact h3 j _ (hR.2 j hj)
  · intro W L V hL hR
    exact hend W L V hL hR.1 (fun i hi => hR.2 i (hL i hi))
/-- An operation that yields a value. -/
theorem op_val {o : Oper} {a : Act} {W W' : World} {x : Value} {R : Value → World → Prop} (h : (execOp a.eval o).run P W = .ok (.value x) W') (hR : R x W') : o.wp P a W (fun a'' W'' => ∃ x, a'' = a.put o.dst x ∧ R x W'') Q := by
  unfold Oper.wp
  rw [h]
  exact ⟨x, rfl, hR⟩
theorem op_skip {o : Oper} {a : Act} {W W' : World} {R : Value → World → Prop} (h : (execOp a.eval o).run P W = .ok .skip W') (hR : R undef W') : o.wp P a W (fun a'' W'' => ∃ x, a'' = a.put o.dst x ∧ R x W'') Q := by
  unfold Oper.wp
  rw [h]
  exact ⟨undef, rfl, hR⟩
variable {F : Fence} {n : Nat}
theorem wpIn_region_vals {id : Nat} {a : Act} {w : World} {l : List Oper} (slots : List Nat) (Wd : (Nat → Bool) → World → Prop) (Pv : Nat → Value → World → Prop)
    (hm : P.follows .mixedOrders = true) (hB : allSB l.toArray slots = true) (hsz : ∀ s ∈ slots, s < 1000 → s < a.tmps.size) (hts : a.tmps.size ≤ 1000)
    (h0 : Wd (fun _ => false) { w with drawn := w.drawn + 1 })
    (hval : ∀ i o L, l[i]? = some o → L i = false → (∀ j, Region.waitsFor .any l.toArray i j = true → L j = true) → ∀ a' W, Wd L W → (∀ t, t ∉ slots → a'.eval (.tmp t) = a.eval (.tmp t)) →
      (∀ j s, s < 1000 → slots[j]? = some s → Region.waitsFor .any l.toArray i j = true → Pv j (a'.eval (.tmp s)) W) →
      o.wpIn F n P a' W (fun a'' W' => ∃ x, a'' = a'.put o.dst x ∧ Wd (fun j => if j = i then true else L j) W' ∧ Pv i x W' ∧ ∀ j v, Pv j v W → Pv j v W') Q)
    (hend : ∀ (W : World) (L : Nat → Bool) (V : Nat → Value), (∀ i, i < l.length → L i = true) → Wd L W → (∀ i, i < l.length → Pv i (V i) W) → Q .normal (fill slots 0 (fun i => some (V i)) a) W) :
    (Code.region id l.toArray true).wpIn F n P Q a w := by
  refine wpIn_region_all slots (fun L V W => Wd L W ∧ ∀ j, L j = true → Pv j (V j) W) hm hB hsz hts ⟨h0, fun j h => by cases h⟩ ?_ ?_
  · intro i o L V ho hL hdep a' W hR hfr hdp
    refine Oper.wpIn_mono ?_ (hval i o L ho hL hdep a' W hR.1 hfr (fun j s hs hss hw => by rw [hdp j s hs hss hw]; exact hR.2 j (hdep j hw)))
    rintro a'' W' ⟨x, rfl, h1, h2, h3⟩
    refine ⟨x, rfl, h1, fun j hj => ?_⟩
    by_cases e : j = i
    · subst e; simpa using h2
    · simp only [if_neg e] at hj ⊢
      exact h3 j _ (hR.2 j hj)
  · intro W L V hL hR
    exact hend W L V hL hR.1 (fun i hi => hR.2 i (hL i hi))
end
end Go.Proofs.YtdcpmdigihbdpaaDoor
