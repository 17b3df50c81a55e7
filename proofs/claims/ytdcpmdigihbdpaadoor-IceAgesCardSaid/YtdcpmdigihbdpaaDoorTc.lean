/- The law IceAges over memory: two cells out of at least two reports, allowed rates. The table of limits holds 100, 400, 100, 3. -/
import Derived.Test.YtdcpmdigihbdpaaDoorSq
namespace Go.Proofs.YtdcpmdigihbdpaaDoor
open Go.RowKit
set_option maxRecDepth 100000
theorem chg_nonneg {r h : Int} (hr : 0 ≤ r) (hh : 0 ≤ h) : 0 ≤ chg r h := by
  have : 0 ≤ r * h := Int.mul_nonneg hr hh
  unfold chg
  omega
theorem chg_le {r h k : Int} (hr : 0 ≤ r) (hk : 0 ≤ k) : chg r h ≤ chg r (h + k) := by
  have : 0 ≤ r * k := Int.mul_nonneg hr hk
  unfold chg
  rw [Int.mul_add]
  omega
theorem chg_add (r h k : Int) : chg r (h + k) ≤ chg r h + chg r k ∧ chg r h + chg r k ≤ chg r (h + k) + 1 := by
  unfold chg
  rw [Int.mul_add]
  omega
theorem aged_ok {lo hi u d : Nat → Int} {h : Int} (hc : okCell lo hi = true) (hu : ∀ q, q < 4 → 0 ≤ u q ∧ 0 ≤ d q) (h0 : 0 ≤ h) : okCell (agLo lo d h) (agHi hi u h) = true := by
  rw [okCell_iff] at *
  intro q hq
  have a := hc q hq
  have b := chg_nonneg (hu q hq).1 h0
  have c := chg_nonneg (hu q hq).2 h0
  unfold agLo agHi mx mn
  omega
theorem inside_aged {lo hi u d : Nat → Int} {h : Int} (hc : okCell lo hi = true) (hu : ∀ q, q < 4 → 0 ≤ u q ∧ 0 ≤ d q) (h0 : 0 ≤ h) : insideB lo hi (agLo lo d h) (agHi hi u h) = true := by
  rw [okCell_iff] at hc
  rw [insideB_iff]
  intro q hq
  have a := hc q hq
  have b := chg_nonneg (hu q hq).1 h0
  have c := chg_nonneg (hu q hq).2 h0
  unfold agLo agHi mx mn
  omega
theorem aged_alike {lo hi lo' hi' u d : Nat → Int} {h : Int} (hc : okCell lo hi = true) (hc' : okCell lo' hi' = true) (hu : ∀ q, q < 4 → 0 ≤ u q ∧ 0 ≤ d q) (h0 : 0 ≤ h) (hi0 : insideB lo hi lo' hi' = true) : insideB (agLo lo d h) (agHi hi u h) (agLo lo' d h) (agHi hi' u h) = true := by
  rw [okCell_iff] at hc hc'
  rw [insideB_iff] at *
  intro q hq
  have a := hc q hq
  have a' := hc' q hq
  have b := chg_nonneg (hu q hq).1 h0
  have c := chg_nonneg (hu q hq).2 h0
  have e := hi0 q hq
  unfold agLo agHi mx mn
  omega
theorem inside_hull_own {lo hi lo' hi' : Nat → Int} (hc : okCell lo hi = true) : insideB lo hi (mnF lo lo') (mxF hi hi') = true := by
  rw [okCell_iff] at hc
  rw [insideB_iff]
  intro q hq
  have a := hc q hq
  unfold mxF mnF mx mn
  omega
theorem aged_more {lo hi u d : Nat → Int} {h k : Int} (hc : okCell lo hi = true) (hu : ∀ q, q < 4 → 0 ≤ u q ∧ 0 ≤ d q) (h0 : 0 ≤ h) (k0 : 0 ≤ k) : insideB (agLo lo d h) (agHi hi u h) (agLo lo d (h + k)) (agHi hi u (h + k)) = true := by
  rw [okCell_iff] at hc
  rw [insideB_iff]
  intro q hq
  have a := hc q hq
  have b := chg_nonneg (hu q hq).1 h0
  have c := chg_nonneg (hu q hq).2 h0
  have e := chg_le (h := h) (hu q hq).1 k0
  have f := chg_le (h := h) (hu q hq).2 k0
  unfold agLo agHi mx mn
  omega
theorem aged_twice {lo hi u d : Nat → Int} {h k : Int} (hc : okCell lo hi = true) (hu : ∀ q, q < 4 → 0 ≤ u q ∧ 0 ≤ d q) (h0 : 0 ≤ h) (k0 : 0 ≤ k) : insideB (agLo lo d (h + k)) (agHi hi u (h + k)) (agLo (agLo lo d h) d k) (agHi (agHi hi u h) u k) = true := by
  rw [okCell_iff] at hc
  rw [insideB_iff]
  intro q hq
  have a := hc q hq
  have b := chg_nonneg (hu q hq).1 h0
  have c := chg_nonneg (hu q hq).2 h0
  have e := (chg_add (u q) h k).1
  have f := (chg_add (d q) h k).1
  have b' := chg_nonneg (hu q hq).1 k0
  have c' := chg_nonneg (hu q hq).2 k0
  have e' := chg_le (h := h) (hu q hq).1 k0
  have f' := chg_le (h := h) (hu q hq).2 k0
  unfold agLo agHi mx mn
  omega
theorem aged_one {lo hi u d : Nat → Int} {h k : Int} (hc : okCell lo hi = true) (hu : ∀ q, q < 4 → 0 ≤ u q ∧ 0 ≤ d q) (h0 : 0 ≤ h) (k0 : 0 ≤ k) (q : Nat) (hq : q < 4) :
    agLo lo d (h + k) q - agLo (agLo lo d h) d k q ≤ 1 ∧ agHi (agHi hi u h) u k q - agHi hi u (h + k) q ≤ 1 := by
  rw [okCell_iff] at hc
  have a := hc q hq
  have b := chg_nonneg (hu q hq).1 h0
  have c := chg_nonneg (hu q hq).2 h0
  have e := (chg_add (u q) h k).2
  have f := (chg_add (d q) h k).2
  have b' := chg_nonneg (hu q hq).1 k0
  have c' := chg_nonneg (hu q hq).2 k0
  unfold agLo agHi mx mn
  omega
theorem Age_yes {lo hi u d : Nat → Int} {hours : Int} (h : okCell lo hi = true) (h' : okRates u d = true) (h0 : 0 ≤ hours) (h1 : hours ≤ 10000) (V : World) (hl : Lim V) :
    Calls Tryd.prog 28 #[.agg (cellA lo hi), .agg (ratesA u d), .int .i64 hours] V fun e w' => e = .returned (.tuple #[.agg (cellA (agLo lo d hours) (agHi hi u hours)), .int .i64 0]) ∧ Below V.heap.size V w' := by
  have e0 : ageE lo hi u d hours = 0 := by
    unfold ageE orL errB hourE
    rw [h, h', if_pos (show 0 ≤ hours ∧ hours ≤ 10000 from ⟨h0, h1⟩)]
    rfl
  have e : ageRes lo hi u d hours = .tuple #[.agg (cellA (agLo lo d hours) (agHi hi u hours)), .int .i64 0] := by unfold ageRes; rw [if_pos e0]
  have := Age_any lo hi u d hours V hl
  rwa [e] at this
def agP (l1 h1 l2 h2 : Nat → Int) (g c0 j : Nat) (v : Value) : Prop :=
  match j with
  | 0 => v = .agg (cellA l1 h1)
  | 1 => v = .slice (some ⟨g, 0, none⟩) 2 c0
  | 2 => v = .pointer (some ⟨g, 1 * 14, none⟩)
  | 3 => v = .pointer (some ⟨g, 1 * 14 + 6, none⟩)
  | 4 => v = .agg (cellA l2 h2)
  | 5 | 6 => v = .tuple #[.agg (cellA (mnF l1 l2) (mxF h1 h2)), .int .i64 0]
  | 7 => v = .agg (cellA (mnF l1 l2) (mxF h1 h2))
  | 8 | 11 => v = .int .i64 0
  | _ => True
/-- What is known while the hull is made. -/
structure AgW (V0 : World) (l1 h1 l2 h2 : Nat → Int) (g c0 : Nat) (L : Nat → Bool) (V : Nat → Value) (X : World) : Prop where
  below : Below V0.heap.size V0 X
  vals : ∀ j, L j = true → agP l1 h1 l2 h2 g c0 j (V j)
  v9 : L 9 = true → ∃ B, V 9 = .pointer (some ⟨B, 0, none⟩) ∧ V0.heap.size ≤ B ∧ X.heap[B]? = some (.cells (if L 10 = true then cellA (mnF l1 l2) (mxF h1 h2) else zero8) 32 (0, 0))
  o10 : L 10 = true → L 9 = true
theorem AgW.set {V0 : World} {l1 h1 l2 h2 : Nat → Int} {g c0 : Nat} {L : Nat → Bool} {V : Nat → Value} {X X' : World} (h : AgW V0 l1 h1 l2 h2 g c0 L V X) {i : Nat} {x : Value} (n9 : 9 ≠ i) (n10 : 10 ≠ i) (hx : agP l1 h1 l2 h2 g c0 i x) (hb : Below X.heap.size X X') :
    AgW V0 l1 h1 l2 h2 g c0 (fun j => if j = i then true else L j) (fun j => if j = i then x else V j) X' := by
  refine ⟨h.below.trans (hb.mono h.below.size), fun j hj => ?_, fun h9 => ?_, fun h10 => ?_⟩
  · by_cases e : j = i
    · subst e; simpa using hx
    · simp only [if_neg e] at hj ⊢; exact h.vals j hj
  · simp only [if_neg n9, if_neg n10] at h9 ⊢
    obtain ⟨B, e1, e2, e3⟩ := h.v9 h9
    exact ⟨B, e1, e2, (hb.block B (lt_of_block e3)).trans e3⟩
  · simp only [if_neg n9, if_neg n10] at h10 ⊢; exact h.o10 h10
theorem AgW.made {V0 : World} {l1 h1 l2 h2 : Nat → Int} {g c0 : Nat} {L : Nat → Bool} {V : Nat → Value} {X : World} (h : AgW V0 l1 h1 l2 h2 g c0 L V X) (hL : L 9 = false) :
    AgW V0 l1 h1 l2 h2 g c0 (fun j => if j = 9 then true else L j) (fun j => if j = 9 then .pointer (some ⟨X.heap.size, 0, none⟩) else V j) (X.alloc (.cells zero8 32)) := by
  have h10 : L 10 = false := by
    cases e : L 10 with
    | false => rfl
    | true => have := h.o10 e; rw [hL] at this; cases this
  refine ⟨h.below.alloc h.below.size _, fun j hj => ?_, fun _ => ?_, fun _ => by simp⟩
  · by_cases e : j = 9
    · subst e; trivial
    · simp only [if_neg e] at hj ⊢; exact h.vals j hj
  · simp only [if_true, if_neg (show ¬ (10 : Nat) = 9 by decide), h10]
    exact ⟨_, rfl, h.below.size, block_new X _⟩
theorem AgW.stored {V0 : World} {l1 h1 l2 h2 : Nat → Int} {g c0 : Nat} {L : Nat → Bool} {V : Nat → Value} {X X' : World} (h : AgW V0 l1 h1 l2 h2 g c0 L V X) {B : Nat} {x : Value} (hL : L 9 = true) (hB : V 9 = .pointer (some ⟨B, 0, none⟩)) (hz : V0.heap.size ≤ B)
    (hX : X'.heap[B]? = some (.cells (cellA (mnF l1 l2) (mxF h1 h2)) 32 (0, 0))) (hc : Chg B X X') :
    AgW V0 l1 h1 l2 h2 g c0 (fun j => if j = 10 then true else L j) (fun j => if j = 10 then x else V j) X' := by
  refine ⟨h.below.trans (hc.below hz), fun j hj => ?_, fun _ => ?_, fun _ => by simpa using hL⟩
  · by_cases e : j = 10
    · subst e; trivial
    · simp only [if_neg e] at hj ⊢; exact h.vals j hj
  · simp only [if_true, if_neg (show ¬ (9 : Nat) = 10 by decide)]
    exact ⟨B, hB, hz, hX⟩
theorem eg26 : ∀ args w, (callFunc 26 args).run Tryd.prog w = .ok (.enter 26 args) w := Go.Proofs.enters_of Tryd.func26 (by kernel_rfl) rfl
theorem Rates_any' (u d : Nat → Int) (V : World) (_ : Lim V) : Calls Tryd.prog 16 #[.agg (ratesA u d)] V fun e w' => e = .returned (.agg (ratesA u d)) ∧ Below V.heap.size V w' := Rates_any u d V
theorem CheckRates_any' (u d : Nat → Int) (V : World) (_ : Lim V) : Calls Tryd.prog 15 #[.agg (ratesA u d)] V fun e w' => e = .returned (.int .i64 (errB (okRates u d) 6)) ∧ Below V.heap.size V w' := CheckRates_any u d V
theorem RepsO.later_below {w W : World} {p : Option Addr} {n : Nat} {R : Nat → Rep} (h : RepsO w p n R) (hb : Below w.heap.size w W) : RepsO W p n R := fun i hi => by
  obtain ⟨b, o, e, h1, h2⟩ := h i hi
  exact ⟨b, o, e, Nat.lt_of_lt_of_le h1 hb.size, fun c v hv => (hb.cell (p := ⟨b, o + i * 14 + c, none⟩) h1).trans (h2 c v hv)⟩
def f4 (a b c e : Nat → Int) (k : Nat) : Nat → Int := if k = 0 then a else if k = 1 then b else if k = 2 then c else e
def Pairs (W : World) (B : Nat) (L H L' H' : Nat → Nat → Int) : Prop := B < W.heap.size ∧ ∀ k, k < 4 → ∀ c v, (cells16 (L k) (H k) (L' k) (H' k))[c]? = some v → W.cell? ⟨B, k * 16 + c, none⟩ = some v
theorem Pairs.later {W X : World} {B : Nat} {L H L' H' : Nat → Nat → Int} (h : Pairs W B L H L' H') (hb : Below W.heap.size W X) : Pairs X B L H L' H' :=
  ⟨Nat.lt_of_lt_of_le h.1 hb.size, fun k hk c v hv => (hb.cell (p := ⟨B, k * 16 + c, none⟩) h.1).trans (h.2 k hk c v hv)⟩
abbrev cells64 (L0 H0 L0' H0' L1 H1 L1' H1' L2 H2 L2' H2' L3 H3 L3' H3' : Nat → Int) : Array Value := #[.int .i64 (L0 0), .int .i64 (H0 0), .int .i64 (L0 1), .int .i64 (H0 1), .int .i64 (L0 2), .int .i64 (H0 2), .int .i64 (L0 3), .int .i64 (H0 3), .int .i64 (L0' 0), .int .i64 (H0' 0), .int .i64 (L0' 1), .int .i64 (H0' 1), .int .i64 (L0' 2), .int .i64 (H0' 2), .int .i64 (L0' 3), .int .i64 (H0' 3), .int .i64 (L1 0), .int .i64 (H1 0), .int .i64 (L1 1), .int .i64 (H1 1), .int .i64 (L1 2), .int .i64 (H1 2), .int .i64 (L1 3), .int .i64 (H1 3), .int .i64 (L1' 0), .int .i64 (H1' 0), .int .i64 (L1' 1), .int .i64 (H1' 1), .int .i64 (L1' 2), .int .i64 (H1' 2), .int .i64 (L1' 3), .int .i64 (H1' 3), .int .i64 (L2 0), .int .i64 (H2 0), .int .i64 (L2 1), .int .i64 (H2 1), .int .i64 (L2 2), .int .i64 (H2 2), .int .i64 (L2 3), .int .i64 (H2 3), .int .i64 (L2' 0), .int .i64 (H2' 0), .int .i64 (L2' 1), .int .i64 (H2' 1), .int .i64 (L2' 2), .int .i64 (H2' 2), .int .i64 (L2' 3), .int .i64 (H2' 3), .int .i64 (L3 0), .int .i64 (H3 0), .int .i64 (L3 1), .int .i64 (H3 1), .int .i64 (L3 2), .int .i64 (H3 2), .int .i64 (L3 3), .int .i64 (H3 3), .int .i64 (L3' 0), .int .i64 (H3' 0), .int .i64 (L3' 1), .int .i64 (H3' 1), .int .i64 (L3' 2), .int .i64 (H3' 2), .int .i64 (L3' 3), .int .i64 (H3' 3)]
theorem pairs_of_block {W : World} {B : Nat} {t : TypeId} (L0 H0 L0' H0' L1 H1 L1' H1' L2 H2 L2' H2' L3 H3 L3' H3' : Nat → Int) (h : W.heap[B]? = some (.cells (cells64 L0 H0 L0' H0' L1 H1 L1' H1' L2 H2 L2' H2' L3 H3 L3' H3') t (0, 0))) : Pairs W B (f4 L0 L1 L2 L3) (f4 H0 H1 H2 H3) (f4 L0' L1' L2' L3') (f4 H0' H1' H2' H3') := by
  have hc := cell_of_block h
  refine ⟨lt_of_block h, fun k hk c v hv => ?_⟩
  have hlt : c < 16 := by have := (Array.getElem?_eq_some_iff.1 hv).1; simpa using this
  rw [← hv]
  match k, hk with
  | 0, _ =>
    match c, hlt with
    | 0, _ => exact (hc 0).trans rfl
    | 1, _ => exact (hc 1).trans rfl
    | 2, _ => exact (hc 2).trans rfl
    | 3, _ => exact (hc 3).trans rfl
    | 4, _ => exact (hc 4).trans rfl
    | 5, _ => exact (hc 5).trans rfl
    | 6, _ => exact (hc 6).trans rfl
    | 7, _ => exact (hc 7).trans rfl
    | 8, _ => exact (hc 8).trans rfl
    | 9, _ => exact (hc 9).trans rfl
    | 10, _ => exact (hc 10).trans rfl
    | 11, _ => exact (hc 11).trans rfl
    | 12, _ => exact (hc 12).trans rfl
    | 13, _ => exact (hc 13).trans rfl
    | 14, _ => exact (hc 14).trans rfl
    | 15, _ => exact (hc 15).trans rfl
  | 1, _ =>
    match c, hlt with
    | 0, _ => exact (hc 16).trans rfl
    | 1, _ => exact (hc 17).trans rfl
    | 2, _ => exact (hc 18).trans rfl
    | 3, _ => exact (hc 19).trans rfl
    | 4, _ => exact (hc 20).trans rfl
    | 5, _ => exact (hc 21).trans rfl
    | 6, _ => exact (hc 22).trans rfl
    | 7, _ => exact (hc 23).trans rfl
    | 8, _ => exact (hc 24).trans rfl
    | 9, _ => exact (hc 25).trans rfl
    | 10, _ => exact (hc 26).trans rfl
    | 11, _ => exact (hc 27).trans rfl
    | 12, _ => exact (hc 28).trans rfl
    | 13, _ => exact (hc 29).trans rfl
    | 14, _ => exact (hc 30).trans rfl
    | 15, _ => exact (hc 31).trans rfl
  | 2, _ =>
    match c, hlt with
    | 0, _ => exact (hc 32).trans rfl
    | 1, _ => exact (hc 33).trans rfl
    | 2, _ => exact (hc 34).trans rfl
    | 3, _ => exact (hc 35).trans rfl
    | 4, _ => exact (hc 36).trans rfl
    | 5, _ => exact (hc 37).trans rfl
    | 6, _ => exact (hc 38).trans rfl
    | 7, _ => exact (hc 39).trans rfl
    | 8, _ => exact (hc 40).trans rfl
    | 9, _ => exact (hc 41).trans rfl
    | 10, _ => exact (hc 42).trans rfl
    | 11, _ => exact (hc 43).trans rfl
    | 12, _ => exact (hc 44).trans rfl
    | 13, _ => exact (hc 45).trans rfl
    | 14, _ => exact (hc 46).trans rfl
    | 15, _ => exact (hc 47).trans rfl
  | 3, _ =>
    match c, hlt with
    | 0, _ => exact (hc 48).trans rfl
    | 1, _ => exact (hc 49).trans rfl
    | 2, _ => exact (hc 50).trans rfl
    | 3, _ => exact (hc 51).trans rfl
    | 4, _ => exact (hc 52).trans rfl
    | 5, _ => exact (hc 53).trans rfl
    | 6, _ => exact (hc 54).trans rfl
    | 7, _ => exact (hc 55).trans rfl
    | 8, _ => exact (hc 56).trans rfl
    | 9, _ => exact (hc 57).trans rfl
    | 10, _ => exact (hc 58).trans rfl
    | 11, _ => exact (hc 59).trans rfl
    | 12, _ => exact (hc 60).trans rfl
    | 13, _ => exact (hc 61).trans rfl
    | 14, _ => exact (hc 62).trans rfl
    | 15, _ => exact (hc 63).trans rfl
def Quads (W : World) (B : Nat) (l h l' h' : Nat → Int) : Prop := B < W.heap.size ∧ ∀ k, k < 4 → W.cell? ⟨B, k * 4, none⟩ = some (.int .i64 (l k)) ∧ W.cell? ⟨B, k * 4 + 1, none⟩ = some (.int .i64 (h k)) ∧ W.cell? ⟨B, k * 4 + 2, none⟩ = some (.int .i64 (l' k)) ∧ W.cell? ⟨B, k * 4 + 3, none⟩ = some (.int .i64 (h' k))
theorem Quads.later {W X : World} {B : Nat} {l h l' h' : Nat → Int} (q : Quads W B l h l' h') (hb : Below W.heap.size W X) : Quads X B l h l' h' :=
  ⟨Nat.lt_of_lt_of_le q.1 hb.size, fun k hk => by
    obtain ⟨h0, h1, h2, h3⟩ := q.2 k hk
    exact ⟨(hb.cell (p := ⟨B, k * 4, none⟩) q.1).trans h0, (hb.cell (p := ⟨B, k * 4 + 1, none⟩) q.1).trans h1, (hb.cell (p := ⟨B, k * 4 + 2, none⟩) q.1).trans h2, (hb.cell (p := ⟨B, k * 4 + 3, none⟩) q.1).trans h3⟩⟩
abbrev quad16 (l h l' h' : Nat → Int) : Array Value := #[.int .i64 (l 0), .int .i64 (h 0), .int .i64 (l' 0), .int .i64 (h' 0), .int .i64 (l 1), .int .i64 (h 1), .int .i64 (l' 1), .int .i64 (h' 1), .int .i64 (l 2), .int .i64 (h 2), .int .i64 (l' 2), .int .i64 (h' 2), .int .i64 (l 3), .int .i64 (h 3), .int .i64 (l' 3), .int .i64 (h' 3)]
theorem quads_of_block {W : World} {B : Nat} {t : TypeId} (l h l' h' : Nat → Int) (hb : W.heap[B]? = some (.cells (quad16 l h l' h') t (0, 0))) : Quads W B l h l' h' := by
  have hc := cell_of_block hb
  refine ⟨lt_of_block hb, fun k hk => ?_⟩
  match k, hk with
  | 0, _ => exact ⟨(hc 0).trans rfl, (hc 1).trans rfl, (hc 2).trans rfl, (hc 3).trans rfl⟩
  | 1, _ => exact ⟨(hc 4).trans rfl, (hc 5).trans rfl, (hc 6).trans rfl, (hc 7).trans rfl⟩
  | 2, _ => exact ⟨(hc 8).trans rfl, (hc 9).trans rfl, (hc 10).trans rfl, (hc 11).trans rfl⟩
  | 3, _ => exact ⟨(hc 12).trans rfl, (hc 13).trans rfl, (hc 14).trans rfl, (hc 15).trans rfl⟩
theorem f4_two {P : (Nat → Int) → (Nat → Int) → Prop} {a b c e a' b' c' e' : Nat → Int} (h0 : P a a') (h1 : P b b') (h2 : P c c') (h3 : P e e') : ∀ k, k < 4 → P (f4 a b c e k) (f4 a' b' c' e' k) := fun k hk =>
  match k, hk with
  | 0, _ => h0
  | 1, _ => h1
  | 2, _ => h2
  | 3, _ => h3
theorem f4_four {P : (Nat → Int) → (Nat → Int) → (Nat → Int) → (Nat → Int) → Prop} {a b c e a' b' c' e' a1 b1 c1 e1 a2 b2 c2 e2 : Nat → Int} (h0 : P a a' a1 a2) (h1 : P b b' b1 b2) (h2 : P c c' c1 c2) (h3 : P e e' e1 e2) : ∀ k, k < 4 → P (f4 a b c e k) (f4 a' b' c' e' k) (f4 a1 b1 c1 e1 k) (f4 a2 b2 c2 e2 k) := fun k hk =>
  match k, hk with
  | 0, _ => h0
  | 1, _ => h1
  | 2, _ => h2
  | 3, _ => h3
set_option maxHeartbeats 40000000 in
theorem Ages_any (p : Option Addr) (n cap : Nat) (R : Nat → Rep) (u d : Nat → Int) (hours more : Int) (w : World) (hl : Lim w) (h2' : 2 ≤ n) (hc : n ≤ cap) (hR : RepsO w p n R) (hok : okRates u d = true) :
    Calls Tryd.prog 9 #[.slice p n cap, .agg (ratesA u d), .int .i64 hours, .int .i64 more] w fun e w' => e = .returned (.bool true) ∧ Below w.heap.size w w' := by
  have hpos := hl.pos
  have HL := Lib.hid hl
  have HR := Lib.hid (show RepsO w p 2 R from fun i hi => hR i (by omega))
  have HOK := Lib.hid hok
  have HUD := Lib.hid (fun q hq => (⟨(rates_bd hok q hq).1.1, (rates_bd hok q hq).2.1⟩ : 0 ≤ u q ∧ 0 ≤ d q))
  clear hl hR hok
  have hn2 : ¬ (n : Int) < 2 := by omega
  have hc2 : (2 : Int) ≤ (cap : Int) := by omega
  obtain ⟨b0, o0, rfl, _, _⟩ := HR.out 0 (by decide)
  go_enter Tryd.func9, Tryd.ntmps9
  have KB0 := Lib.hid ((Below.refl w.heap.size w).alloc (Nat.le_refl _) (.cells (ratesA u d) 29))
  go_wp2_with fail
  generalize w.alloc (.cells (ratesA u d) 29) = V1 at *
  have hcon := Rates_any' u d V1 (HL.out.below hpos KB0.out)
  refine hcon.mono ?_
  clear hcon
  rintro e W2 ⟨rfl, hb⟩
  have KB2 := Lib.hid (keep_bl (o' := .cells (ratesA u d) 41) KB0.out hb)
  clear hb KB0
  have KR2 := Lib.hid (block_new W2 (.cells (ratesA u d) 41))
  have cR := (cells8 KR2.out).1
  obtain ⟨cR0, cR1, cR2, cR3, cR4, cR5, cR6, cR7⟩ := cR
  go_wp2_with fail
  clear cR0 cR1 cR2 cR3 cR4 cR5 cR6 cR7 
  generalize W2.alloc (.cells (ratesA u d) 41) = V3 at *
  have hcon := CheckRates_any' u d V3 (HL.out.below hpos KB2.out)
  rw [HOK.out] at hcon
  refine hcon.mono ?_
  clear hcon
  rintro e W4 ⟨rfl, hb⟩
  have KB4 := Lib.hid (keep_bl1 KB2.out hb)
  have KR4 := Lib.hid (keep_blk1 KR2.out hb)
  clear hb KB2 KR2
  simp only [errB, if_true]
  go_wp2_with fail
  refine (Right_any (some ⟨b0, o0, none⟩) 2 cap R (by decide) W4 (fun i hi => HR.out.later_below KB4.out i hi)).mono ?_
  rintro e V ⟨p', c', rfl, hRp, hb⟩
  obtain ⟨g, rfl, hg, _⟩ := hRp 0 (by decide)
  have HG := Lib.hid (fun X (hX : Below V.heap.size V X) q (hq : q < 2) c v (hv : (repA (rgRep R q))[c]? = some v) => by
    obtain ⟨g', eg, _, hcl⟩ := hRp q hq
    obtain rfl : g = g' := by simpa using eg
    exact (hX.cell (p := ⟨g, q * 14 + c, none⟩) hg).trans (hcl c v hv))
  have KBv := Lib.hid (keep_bl1 KB4.out hb)
  have KRv := Lib.hid (keep_blk1 KR4.out hb)
  clear hRp hb KB4 KR4 HR hc2 hn2
  have O1 := Lib.hid (rg_ok R 0)
  have O2 := Lib.hid (rg_ok R 1)
  go_wp2_with fail
  refine (Pick_any hours 1001 (by decide) (by decide) V).mono ?_
  rintro e V1' ⟨rfl, rfl⟩
  go_wp2_with fail
  refine (Pick_any more 1001 (by decide) (by decide) V).mono ?_
  rintro e V1' ⟨rfl, rfl⟩
  have s6 := HG.out V (Below.refl _ _) 0 (by decide) 6 _ rfl
  have s7 := HG.out V (Below.refl _ _) 0 (by decide) 7 _ rfl
  have s8 := HG.out V (Below.refl _ _) 0 (by decide) 8 _ rfl
  have s9 := HG.out V (Below.refl _ _) 0 (by decide) 9 _ rfl
  have s10 := HG.out V (Below.refl _ _) 0 (by decide) 10 _ rfl
  have s11 := HG.out V (Below.refl _ _) 0 (by decide) 11 _ rfl
  have s12 := HG.out V (Below.refl _ _) 0 (by decide) 12 _ rfl
  have s13 := HG.out V (Below.refl _ _) 0 (by decide) 13 _ rfl
  simp only [Nat.zero_mul, Nat.zero_add] at s6 s7 s8 s9 s10 s11 s12 s13
  have KBp := Lib.hid (KBv.out.alloc KBv.out.size (.cells (cellA (rgRep R 0).lo (rgRep R 0).hi) 32))
  have KRp := Lib.hid ((Below.heap_alloc V (.cells (cellA (rgRep R 0).lo (rgRep R 0).hi) 32) _ (lt_of_block KRv.out)).trans KRv.out)
  have KPp := Lib.hid (block_new V (.cells (cellA (rgRep R 0).lo (rgRep R 0).hi) 32))
  have HG2 := Lib.hid (fun X (hX : Below (V.alloc (.cells (cellA (rgRep R 0).lo (rgRep R 0).hi) 32)).heap.size (V.alloc (.cells (cellA (rgRep R 0).lo (rgRep R 0).hi) 32)) X) => HG.out X (((Below.refl _ _).alloc (Nat.le_refl _) _).trans (hX.mono (by simp))))
  clear HG KBv KRv
  go_wp2_with fail
  clear s6 s7 s8 s9 s10 s11 s12 s13
  have hVlt : V.heap.size < (V.alloc (.cells (cellA (rgRep R 0).lo (rgRep R 0).hi) 32)).heap.size := by simp
  have hgV : g < V.heap.size := hg
  obtain ⟨U, eU⟩ : ∃ U, U = V.alloc (.cells (cellA (rgRep R 0).lo (rgRep R 0).hi) 32) := ⟨_, rfl⟩
  rw [← eU] at KBp KRp KPp HG2 hVlt
  rw [← eU]
  clear eU
  generalize (rgRep R 0).lo = l1 at *
  generalize (rgRep R 0).hi = h1 at *
  have HG3 := Lib.hid (fun X hX c v (hv : (repA (rgRep R 1))[c]? = some v) => HG2.out X hX 1 (by decide) c v hv)
  clear HG2
  have hh0 : 0 ≤ hours % 1001 ∧ hours % 1001 ≤ 1000 := by omega
  have kk0 : 0 ≤ more % 1001 ∧ more % 1001 ≤ 1000 := by omega
  generalize hours % 1001 = hh at hh0 ⊢
  generalize more % 1001 = kk at kk0 ⊢
  refine wp_region_all [53, 54, 55, 56, 57, 58, 52, 59, 60, 14, 1000, 15] (AgW U l1 h1 (rgRep R 1).lo (rgRep R 1).hi g c')
    (by kernel_rfl) (by kernel_rfl) (fun s hs h => by simp at hs ⊢; omega) (by simp) ⟨⟨rfl, rfl, rfl, Nat.le_refl _, fun _ _ => rfl⟩, (fun _ h => by cases h), (fun h => by cases h), (fun h => by cases h)⟩ ?val ?fin
  case val =>
    intro j
    match j with
    | 0 =>
      intro o L Vv ho hLi hd a' X hX hfr hdp; obtain rfl := Option.some.inj ho
      have kP := (hX.below.block _ hVlt).trans KPp.out
      have c := (cells8 kP).1
      obtain ⟨c0, c1, c2, c3, c4, c5, c6, c7⟩ := c
      exact opx_load32 rfl (hfr 13 (by decide)) c0 c1 c2 c3 c4 c5 c6 c7 (hX.set (by decide) (by decide) rfl (Below.refl _ _))
    | 1 => intro o L Vv ho hLi hd a' X hX hfr hdp; obtain rfl := Option.some.inj ho; exact opx_move rfl (hfr 10 (by decide)) (hX.set (by decide) (by decide) rfl (Below.refl _ _))
    | 2 => intro o L Vv ho hLi hd a' X hX hfr hdp; obtain rfl := Option.some.inj ho; exact opx_index63 (i := 1) (by decide) (by decide) rfl ((hdp 1 54 (by decide) rfl (by kernel_rfl)).trans (hX.vals 1 (hd 1 (by kernel_rfl)))) (hX.set (by decide) (by decide) rfl (Below.refl _ _))
    | 3 => intro o L Vv ho hLi hd a' X hX hfr hdp; obtain rfl := Option.some.inj ho; exact opx_field rfl ((hdp 2 55 (by decide) rfl (by kernel_rfl)).trans (hX.vals 2 (hd 2 (by kernel_rfl)))) (.inl ⟨rfl, rfl, rfl⟩) (hX.set (by decide) (by decide) rfl (Below.refl _ _))
    | 4 => intro o L Vv ho hLi hd a' X hX hfr hdp; obtain rfl := Option.some.inj ho; exact opx_load32 rfl ((hdp 3 56 (by decide) rfl (by kernel_rfl)).trans (hX.vals 3 (hd 3 (by kernel_rfl)))) (HG3.out X hX.below 6 _ rfl) (HG3.out X hX.below 7 _ rfl) (HG3.out X hX.below 8 _ rfl) (HG3.out X hX.below 9 _ rfl) (HG3.out X hX.below 10 _ rfl) (HG3.out X hX.below 11 _ rfl) (HG3.out X hX.below 12 _ rfl) (HG3.out X hX.below 13 _ rfl) (hX.set (by decide) (by decide) rfl (Below.refl _ _))
    | 5 =>
      intro o L Vv ho hLi hd a' X hX hfr hdp; obtain rfl := Option.some.inj ho
      refine opx_call2 rfl ((hdp 0 53 (by decide) rfl (by kernel_rfl)).trans (hX.vals 0 (hd 0 (by kernel_rfl)))) ((hdp 4 57 (by decide) rfl (by kernel_rfl)).trans (hX.vals 4 (hd 4 (by kernel_rfl)))) eg26 ((Hull_yes O1.out O2.out X (HL.out.below hpos (keep_bl1 KBp.out hX.below))).mono ?_)
      rintro e W' ⟨rfl, hb⟩
      exact ⟨_, rfl, hX.set (by decide) (by decide) rfl hb⟩
    | 6 => intro o L Vv ho hLi hd a' X hX hfr hdp; obtain rfl := Option.some.inj ho; exact opx_move rfl ((hdp 5 58 (by decide) rfl (by kernel_rfl)).trans (hX.vals 5 (hd 5 (by kernel_rfl)))) (hX.set (by decide) (by decide) rfl (Below.refl _ _))
    | 7 => intro o L Vv ho hLi hd a' X hX hfr hdp; obtain rfl := Option.some.inj ho; exact opx_extract0 rfl ((hdp 6 52 (by decide) rfl (by kernel_rfl)).trans (hX.vals 6 (hd 6 (by kernel_rfl)))) (hX.set (by decide) (by decide) rfl (Below.refl _ _))
    | 8 => intro o L Vv ho hLi hd a' X hX hfr hdp; obtain rfl := Option.some.inj ho; exact opx_extract1 rfl ((hdp 6 52 (by decide) rfl (by kernel_rfl)).trans (hX.vals 6 (hd 6 (by kernel_rfl)))) (hX.set (by decide) (by decide) rfl (Below.refl _ _))
    | 9 => intro o L Vv ho hLi hd a' X hX hfr hdp; obtain rfl := Option.some.inj ho; exact opx_alloc32 rfl (hX.made hLi)
    | 10 =>
      intro o L Vv ho hLi hd a' X hX hfr hdp; obtain rfl := Option.some.inj ho
      obtain ⟨B, e1, e2, e3⟩ := hX.v9 (hd 9 (by kernel_rfl))
      simp only [hLi, Bool.false_eq_true, if_false] at e3
      exact op_store8 rfl ((hdp 9 14 (by decide) rfl (by kernel_rfl)).trans e1) ((hdp 7 59 (by decide) rfl (by kernel_rfl)).trans (hX.vals 7 (hd 7 (by kernel_rfl)))) e3 (fun W' h1 h2 => hX.stored (hd 9 (by kernel_rfl)) e1 e2 h1 h2)
    | 11 => intro o L Vv ho hLi hd a' X hX hfr hdp; obtain rfl := Option.some.inj ho; exact opx_assign rfl rfl (hX.set (by decide) (by decide) ((hdp 8 60 (by decide) rfl (by kernel_rfl)).trans (hX.vals 8 (hd 8 (by kernel_rfl)))) (Below.refl _ _))
    | j + 12 => intro o L Vv ho; simp at ho
  case fin =>
    intro X L Vv hLL hX
    obtain ⟨BQ, e9, lQ, k9⟩ := hX.v9 (hLL 9 (by decide))
    have a10 := hLL 10 (by decide)
    have e11 : Vv 11 = .int .i64 0 := hX.vals 11 (hLL 11 (by decide))
    simp only [a10, if_true] at k9
    have KB := Lib.hid (keep_bl1 KBp.out hX.below)
    have KR := Lib.hid (keep_blk1 KRp.out hX.below)
    have KP := Lib.hid (keep_blk1 KPp.out hX.below)
    have KQ := Lib.hid k9
    simp only [fill, Act.put, List.setIfInBounds_toArray, List.set_cons_zero, List.set_cons_succ, Nat.reduceAdd, e9, e11]
    clear hX hLL e9 e11 a10 k9 lQ KBp KRp KPp HG3
    generalize (rgRep R 1).lo = l2 at *
    generalize (rgRep R 1).hi = h2 at *
    have hwr : IntKind.i64.wrap (hh + kk) = hh + kk := by rw [IntKind.wrap_i64]; omega
    have cP := (cells8 KP.out).1
    obtain ⟨cP0, cP1, cP2, cP3, cP4, cP5, cP6, cP7⟩ := cP
    have cR := (cells8 KR.out).1
    obtain ⟨cR0, cR1, cR2, cR3, cR4, cR5, cR6, cR7⟩ := cR
    go_wp2_with fail
    clear cP0 cP1 cP2 cP3 cP4 cP5 cP6 cP7 cR0 cR1 cR2 cR3 cR4 cR5 cR6 cR7 
    have hcon := Age_yes O1.out HOK.out (show 0 ≤ hh by omega) (show hh ≤ 10000 by omega) X (HL.out.below hpos KB.out)
    refine hcon.mono ?_
    clear hcon
    rintro e W5 ⟨rfl, hb⟩
    have KB5 := Lib.hid (keep_bl (o' := .cells (cellA (agLo l1 d hh) (agHi h1 u hh)) 32) KB.out hb)
    have KR5 := Lib.hid (keep_blk (o' := .cells (cellA (agLo l1 d hh) (agHi h1 u hh)) 32) KR.out hb)
    have KP5 := Lib.hid (keep_blk (o' := .cells (cellA (agLo l1 d hh) (agHi h1 u hh)) 32) KP.out hb)
    have KQ5 := Lib.hid (keep_blk (o' := .cells (cellA (agLo l1 d hh) (agHi h1 u hh)) 32) KQ.out hb)
    clear hb KB KR KP KQ
    have KA5 := Lib.hid (block_new W5 (.cells (cellA (agLo l1 d hh) (agHi h1 u hh)) 32))
    have cQ := (cells8 KQ5.out).1
    obtain ⟨cQ0, cQ1, cQ2, cQ3, cQ4, cQ5, cQ6, cQ7⟩ := cQ
    have cR := (cells8 KR5.out).1
    obtain ⟨cR0, cR1, cR2, cR3, cR4, cR5, cR6, cR7⟩ := cR
    go_wp2_with fail
    clear cQ0 cQ1 cQ2 cQ3 cQ4 cQ5 cQ6 cQ7 cR0 cR1 cR2 cR3 cR4 cR5 cR6 cR7 
    generalize W5.alloc (.cells (cellA (agLo l1 d hh) (agHi h1 u hh)) 32) = V6 at *
    have hcon := Age_yes (hull_ok O1.out O2.out) HOK.out (show 0 ≤ hh by omega) (show hh ≤ 10000 by omega) V6 (HL.out.below hpos KB5.out)
    refine hcon.mono ?_
    clear hcon
    rintro e W7 ⟨rfl, hb⟩
    have KB7 := Lib.hid (keep_bl (o' := .cells (cellA (agLo (mnF l1 l2) d hh) (agHi (mxF h1 h2) u hh)) 32) KB5.out hb)
    have KR7 := Lib.hid (keep_blk (o' := .cells (cellA (agLo (mnF l1 l2) d hh) (agHi (mxF h1 h2) u hh)) 32) KR5.out hb)
    have KP7 := Lib.hid (keep_blk (o' := .cells (cellA (agLo (mnF l1 l2) d hh) (agHi (mxF h1 h2) u hh)) 32) KP5.out hb)
    have KQ7 := Lib.hid (keep_blk (o' := .cells (cellA (agLo (mnF l1 l2) d hh) (agHi (mxF h1 h2) u hh)) 32) KQ5.out hb)
    have KA7 := Lib.hid (keep_blk (o' := .cells (cellA (agLo (mnF l1 l2) d hh) (agHi (mxF h1 h2) u hh)) 32) KA5.out hb)
    clear hb KB5 KR5 KP5 KQ5 KA5
    have KE7 := Lib.hid (block_new W7 (.cells (cellA (agLo (mnF l1 l2) d hh) (agHi (mxF h1 h2) u hh)) 32))
    have cP := (cells8 KP7.out).1
    obtain ⟨cP0, cP1, cP2, cP3, cP4, cP5, cP6, cP7⟩ := cP
    have cR := (cells8 KR7.out).1
    obtain ⟨cR0, cR1, cR2, cR3, cR4, cR5, cR6, cR7⟩ := cR
    go_wp2_with fail
    clear cP0 cP1 cP2 cP3 cP4 cP5 cP6 cP7 cR0 cR1 cR2 cR3 cR4 cR5 cR6 cR7 
    generalize W7.alloc (.cells (cellA (agLo (mnF l1 l2) d hh) (agHi (mxF h1 h2) u hh)) 32) = V8 at *
    have hcon := Age_yes O1.out HOK.out (show 0 ≤ hh + kk by omega) (show hh + kk ≤ 10000 by omega) V8 (HL.out.below hpos KB7.out)
    refine hcon.mono ?_
    clear hcon
    rintro e W9 ⟨rfl, hb⟩
    have KB9 := Lib.hid (keep_bl (o' := .cells (cellA (agLo l1 d (hh + kk)) (agHi h1 u (hh + kk))) 32) KB7.out hb)
    have KR9 := Lib.hid (keep_blk (o' := .cells (cellA (agLo l1 d (hh + kk)) (agHi h1 u (hh + kk))) 32) KR7.out hb)
    have KP9 := Lib.hid (keep_blk (o' := .cells (cellA (agLo l1 d (hh + kk)) (agHi h1 u (hh + kk))) 32) KP7.out hb)
    have KQ9 := Lib.hid (keep_blk (o' := .cells (cellA (agLo l1 d (hh + kk)) (agHi h1 u (hh + kk))) 32) KQ7.out hb)
    have KA9 := Lib.hid (keep_blk (o' := .cells (cellA (agLo l1 d (hh + kk)) (agHi h1 u (hh + kk))) 32) KA7.out hb)
    have KE9 := Lib.hid (keep_blk (o' := .cells (cellA (agLo l1 d (hh + kk)) (agHi h1 u (hh + kk))) 32) KE7.out hb)
    clear hb KB7 KR7 KP7 KQ7 KA7 KE7
    have KC9 := Lib.hid (block_new W9 (.cells (cellA (agLo l1 d (hh + kk)) (agHi h1 u (hh + kk))) 32))
    have cA := (cells8 KA9.out).1
    obtain ⟨cA0, cA1, cA2, cA3, cA4, cA5, cA6, cA7⟩ := cA
    have cR := (cells8 KR9.out).1
    obtain ⟨cR0, cR1, cR2, cR3, cR4, cR5, cR6, cR7⟩ := cR
    go_wp2_with fail
    clear cA0 cA1 cA2 cA3 cA4 cA5 cA6 cA7 cR0 cR1 cR2 cR3 cR4 cR5 cR6 cR7 
    generalize W9.alloc (.cells (cellA (agLo l1 d (hh + kk)) (agHi h1 u (hh + kk))) 32) = V10 at *
    have hcon := Age_yes (aged_ok O1.out HUD.out (show 0 ≤ hh by omega)) HOK.out (show 0 ≤ kk by omega) (show kk ≤ 10000 by omega) V10 (HL.out.below hpos KB9.out)
    refine hcon.mono ?_
    clear hcon
    rintro e W11 ⟨rfl, hb⟩
    clear KR9
    clear KQ9
    have KB11 := Lib.hid (keep_bl (o' := .cells (cellA (agLo (agLo l1 d hh) d kk) (agHi (agHi h1 u hh) u kk)) 32) KB9.out hb)
    have KP11 := Lib.hid (keep_blk (o' := .cells (cellA (agLo (agLo l1 d hh) d kk) (agHi (agHi h1 u hh) u kk)) 32) KP9.out hb)
    have KA11 := Lib.hid (keep_blk (o' := .cells (cellA (agLo (agLo l1 d hh) d kk) (agHi (agHi h1 u hh) u kk)) 32) KA9.out hb)
    have KE11 := Lib.hid (keep_blk (o' := .cells (cellA (agLo (agLo l1 d hh) d kk) (agHi (agHi h1 u hh) u kk)) 32) KE9.out hb)
    have KC11 := Lib.hid (keep_blk (o' := .cells (cellA (agLo (agLo l1 d hh) d kk) (agHi (agHi h1 u hh) u kk)) 32) KC9.out hb)
    clear hb KB9 KP9 KA9 KE9 KC9
    have KD11 := Lib.hid (block_new W11 (.cells (cellA (agLo (agLo l1 d hh) d kk) (agHi (agHi h1 u hh) u kk)) 32))
    have HZ := Lib.hid (pairs_of_block l1 h1 (agLo l1 d hh) (agHi h1 u hh) (agLo l1 d hh) (agHi h1 u hh) (agLo (mnF l1 l2) d hh) (agHi (mxF h1 h2) u hh) (agLo l1 d hh) (agHi h1 u hh) (agLo l1 d (hh + kk)) (agHi h1 u (hh + kk)) (agLo l1 d (hh + kk)) (agHi h1 u (hh + kk)) (agLo (agLo l1 d hh) d kk) (agHi (agHi h1 u hh) u kk) (block_new (W11.alloc (.cells (cellA (agLo (agLo l1 d hh) d kk) (agHi (agHi h1 u hh) u kk)) 32)) (.cells (cells64 l1 h1 (agLo l1 d hh) (agHi h1 u hh) (agLo l1 d hh) (agHi h1 u hh) (agLo (mnF l1 l2) d hh) (agHi (mxF h1 h2) u hh) (agLo l1 d hh) (agHi h1 u hh) (agLo l1 d (hh + kk)) (agHi h1 u (hh + kk)) (agLo l1 d (hh + kk)) (agHi h1 u (hh + kk)) (agLo (agLo l1 d hh) d kk) (agHi (agHi h1 u hh) u kk)) 102)))
    have KBz := Lib.hid (KB11.out.alloc KB11.out.size (.cells (cells64 l1 h1 (agLo l1 d hh) (agHi h1 u hh) (agLo l1 d hh) (agHi h1 u hh) (agLo (mnF l1 l2) d hh) (agHi (mxF h1 h2) u hh) (agLo l1 d hh) (agHi h1 u hh) (agLo l1 d (hh + kk)) (agHi h1 u (hh + kk)) (agLo l1 d (hh + kk)) (agHi h1 u (hh + kk)) (agLo (agLo l1 d hh) d kk) (agHi (agHi h1 u hh) u kk)) 102))
    have KCz := Lib.hid ((Below.heap_alloc (W11.alloc (.cells (cellA (agLo (agLo l1 d hh) d kk) (agHi (agHi h1 u hh) u kk)) 32)) (.cells (cells64 l1 h1 (agLo l1 d hh) (agHi h1 u hh) (agLo l1 d hh) (agHi h1 u hh) (agLo (mnF l1 l2) d hh) (agHi (mxF h1 h2) u hh) (agLo l1 d hh) (agHi h1 u hh) (agLo l1 d (hh + kk)) (agHi h1 u (hh + kk)) (agLo l1 d (hh + kk)) (agHi h1 u (hh + kk)) (agLo (agLo l1 d hh) d kk) (agHi (agHi h1 u hh) u kk)) 102) _ (lt_of_block KC11.out)).trans KC11.out)
    have KDz := Lib.hid ((Below.heap_alloc (W11.alloc (.cells (cellA (agLo (agLo l1 d hh) d kk) (agHi (agHi h1 u hh) u kk)) 32)) (.cells (cells64 l1 h1 (agLo l1 d hh) (agHi h1 u hh) (agLo l1 d hh) (agHi h1 u hh) (agLo (mnF l1 l2) d hh) (agHi (mxF h1 h2) u hh) (agLo l1 d hh) (agHi h1 u hh) (agLo l1 d (hh + kk)) (agHi h1 u (hh + kk)) (agLo l1 d (hh + kk)) (agHi h1 u (hh + kk)) (agLo (agLo l1 d hh) d kk) (agHi (agHi h1 u hh) u kk)) 102) _ (lt_of_block KD11.out)).trans KD11.out)
    simp only [World.size_alloc] at HZ
    have cP := (cells8 KP11.out).1
    obtain ⟨cP0, cP1, cP2, cP3, cP4, cP5, cP6, cP7⟩ := cP
    have cA := (cells8 KA11.out).1
    obtain ⟨cA0, cA1, cA2, cA3, cA4, cA5, cA6, cA7⟩ := cA
    have cE := (cells8 KE11.out).1
    obtain ⟨cE0, cE1, cE2, cE3, cE4, cE5, cE6, cE7⟩ := cE
    have cC := (cells8 KC11.out).1
    obtain ⟨cC0, cC1, cC2, cC3, cC4, cC5, cC6, cC7⟩ := cC
    have cD := (cells8 KD11.out).1
    obtain ⟨cD0, cD1, cD2, cD3, cD4, cD5, cD6, cD7⟩ := cD
    go_wp2_with fail
    clear cP0 cP1 cP2 cP3 cP4 cP5 cP6 cP7 cA0 cA1 cA2 cA3 cA4 cA5 cA6 cA7 cE0 cE1 cE2 cE3 cE4 cE5 cE6 cE7 cC0 cC1 cC2 cC3 cC4 cC5 cC6 cC7 cD0 cD1 cD2 cD3 cD4 cD5 cD6 cD7 
    generalize (W11.alloc (.cells (cellA (agLo (agLo l1 d hh) d kk) (agHi (agHi h1 u hh) u kk)) 32)).alloc (.cells (cells64 l1 h1 (agLo l1 d hh) (agHi h1 u hh) (agLo l1 d hh) (agHi h1 u hh) (agLo (mnF l1 l2) d hh) (agHi (mxF h1 h2) u hh) (agLo l1 d hh) (agHi h1 u hh) (agLo l1 d (hh + kk)) (agHi h1 u (hh + kk)) (agLo l1 d (hh + kk)) (agHi h1 u (hh + kk)) (agLo (agLo l1 d hh) d kk) (agHi (agHi h1 u hh) u kk)) 102) = V12 at *
    clear KP11
    clear KA11
    clear KE11
    clear KC11
    clear KD11
    clear KB11
    have OKA := Lib.hid (f4_two (P := fun x y => okCell x y = true) (a' := h1) O1.out (aged_ok O1.out HUD.out (show 0 ≤ hh by omega)) (aged_ok O1.out HUD.out (show 0 ≤ hh by omega)) (aged_ok O1.out HUD.out (show 0 ≤ hh + kk by omega)))
    have OKB := Lib.hid (f4_two (P := fun x y => okCell x y = true) (aged_ok O1.out HUD.out (show 0 ≤ hh by omega)) (aged_ok (hull_ok O1.out O2.out) HUD.out (show 0 ≤ hh by omega)) (aged_ok O1.out HUD.out (show 0 ≤ hh + kk by omega)) (aged_ok (aged_ok O1.out HUD.out (show 0 ≤ hh by omega)) HUD.out (show 0 ≤ kk by omega)))
    have HIN := Lib.hid (f4_four (P := fun x y z t => insideB x y z t = true) (inside_aged O1.out HUD.out (show 0 ≤ hh by omega)) (aged_alike O1.out (hull_ok O1.out O2.out) HUD.out (show 0 ≤ hh by omega) (inside_hull_own O1.out)) (aged_more O1.out HUD.out (show 0 ≤ hh by omega) (show 0 ≤ kk by omega)) (aged_twice O1.out HUD.out (show 0 ≤ hh by omega) (show 0 ≤ kk by omega)))
    have HON := Lib.hid (fun q hq => aged_one (h := hh) (k := kk) O1.out HUD.out (show 0 ≤ hh by omega) (show 0 ≤ kk by omega) q hq)
    have OKC := Lib.hid ((okCell_iff _ _).1 (aged_ok O1.out HUD.out (show 0 ≤ hh + kk by omega)))
    have OKD := Lib.hid ((okCell_iff _ _).1 (aged_ok (aged_ok O1.out HUD.out (show 0 ≤ hh by omega)) HUD.out (show 0 ≤ kk by omega)))
    generalize hZZ : W11.heap.size + 1 = BZ at *
    clear hZZ
    generalize (f4 l1 (agLo l1 d hh) (agLo l1 d hh) (agLo l1 d (hh + kk))) = LA at *
    generalize (f4 h1 (agHi h1 u hh) (agHi h1 u hh) (agHi h1 u (hh + kk))) = HA at *
    generalize (f4 (agLo l1 d hh) (agLo (mnF l1 l2) d hh) (agLo l1 d (hh + kk)) (agLo (agLo l1 d hh) d kk)) = LB at *
    generalize (f4 (agHi h1 u hh) (agHi (mxF h1 h2) u hh) (agHi h1 u (hh + kk)) (agHi (agHi h1 u hh) u kk)) = HB at *
    generalize (agLo (agLo l1 d hh) d kk) = dl at *
    generalize (agHi (agHi h1 u hh) u kk) = dh at *
    generalize (agLo l1 d (hh + kk)) = cl at *
    generalize (agHi h1 u (hh + kk)) = ch at *
    generalize W9.heap.size = BC at *
    generalize W11.heap.size = BD at *
    go_loopw [123] (fun i wr => ∃ k : Nat, k ≤ 4 ∧ i = .int .i64 k ∧ Hid (Pairs wr BZ LA HA LB HB) ∧ Hid (Below w.heap.size w wr) ∧ Hid (wr.heap[BC]? = some (.cells (cellA cl ch) 32 (0, 0))) ∧ Hid (wr.heap[BD]? = some (.cells (cellA dl dh) 32 (0, 0)))) (fun i _ => 4 - (intOf i).toNat)
    case atStart => exact ⟨0, by omega, rfl, HZ, KBz, KCz, KDz⟩
    case round =>
      obtain ⟨k, hk, rfl, hZ, hB, hC, hD⟩ := hrel
      clear HZ KBz KCz KDz
      by_cases hlt : k < 4
      · have hk4 : (k : Int) < 4 := by omega
        have hk0 : (0 : Int) ≤ (k : Int) := by omega
        have z0 := hZ.out.2 k hlt 0 _ rfl
        have z1 := hZ.out.2 k hlt 1 _ rfl
        have z2 := hZ.out.2 k hlt 2 _ rfl
        have z3 := hZ.out.2 k hlt 3 _ rfl
        have z4 := hZ.out.2 k hlt 4 _ rfl
        have z5 := hZ.out.2 k hlt 5 _ rfl
        have z6 := hZ.out.2 k hlt 6 _ rfl
        have z7 := hZ.out.2 k hlt 7 _ rfl
        have z8 := hZ.out.2 k hlt 8 _ rfl
        have z9 := hZ.out.2 k hlt 9 _ rfl
        have z10 := hZ.out.2 k hlt 10 _ rfl
        have z11 := hZ.out.2 k hlt 11 _ rfl
        have z12 := hZ.out.2 k hlt 12 _ rfl
        have z13 := hZ.out.2 k hlt 13 _ rfl
        have z14 := hZ.out.2 k hlt 14 _ rfl
        have z15 := hZ.out.2 k hlt 15 _ rfl
        simp only [Nat.add_zero] at z0
        have hal : Below wr.heap.size wr (wr.alloc (.cells (cells16 (LA k) (HA k) (LB k) (HB k)) 102)) := (Below.refl _ _).alloc (Nat.le_refl _) _
        have KBr := Lib.hid (keep_bl1 hB.out hal)
        have HZr := Lib.hid (hZ.out.later hal)
        have KCr := Lib.hid (keep_blk1 hC.out hal)
        have KDr := Lib.hid (keep_blk1 hD.out hal)
        clear hal hZ hB hC hD
        go_wp2_with fail
        clear z0 z1 z2 z3 z4 z5 z6 z7 z8 z9 z10 z11 z12 z13 z14 z15
        generalize wr.alloc (.cells (cells16 (LA k) (HA k) (LB k) (HB k)) 102) = Vr at *
        have hcon := Inside_yes (OKA.out k hlt) (OKB.out k hlt) Vr (HL.out.below hpos KBr.out)
        rw [HIN.out k hlt] at hcon
        refine hcon.mono ?_
        clear hcon
        rintro e Wi ⟨rfl, hb⟩
        have KBs := Lib.hid (keep_bl1 KBr.out hb)
        have HZs := Lib.hid (HZr.out.later hb)
        have KCs := Lib.hid (keep_blk1 KCr.out hb)
        have KDs := Lib.hid (keep_blk1 KDr.out hb)
        clear hb KBr HZr KCr KDr
        go_wp2_with fail
        go_roundw
        case rel => exact ⟨k + 1, by omega, by go_num, HZs, KBs, KCs, KDs⟩
        case measure => simp [intOf]; omega
      · have hk4 : (k : Int) = 4 := by omega
        rw [hk4]
        clear hlt hk hZ hk4
        have HZ := Lib.hid (quads_of_block cl ch dl dh (block_new wr (.cells (quad16 cl ch dl dh) 104)))
        have KBz := Lib.hid (hB.out.alloc hB.out.size (.cells (quad16 cl ch dl dh) 104))
        have cC := (cells8 hC.out).1
        obtain ⟨cC0, cC1, cC2, cC3, cC4, cC5, cC6, cC7⟩ := cC
        have cD := (cells8 hD.out).1
        obtain ⟨cD0, cD1, cD2, cD3, cD4, cD5, cD6, cD7⟩ := cD
        go_wp2_with fail
        clear cC0 cC1 cC2 cC3 cC4 cC5 cC6 cC7 cD0 cD1 cD2 cD3 cD4 cD5 cD6 cD7 
        generalize wr.alloc (.cells (quad16 cl ch dl dh) 104) = V201 at *
        clear hC hD hB
        generalize wr.heap.size = BY at *
        go_loopw [164] (fun i wr => ∃ k : Nat, k ≤ 4 ∧ i = .int .i64 k ∧ Hid (Quads wr BY cl ch dl dh) ∧ Hid (Below w.heap.size w wr)) (fun i _ => 4 - (intOf i).toNat)
        case atStart => exact ⟨0, by omega, rfl, HZ, KBz⟩
        case round =>
          obtain ⟨k, hk, rfl, hZ, hB⟩ := hrel
          clear HZ KBz
          by_cases hlt : k < 4
          · have hk4 : (k : Int) < 4 := by omega
            have hk0 : (0 : Int) ≤ (k : Int) := by omega
            obtain ⟨z0, z1, z2, z3⟩ := hZ.out.2 k hlt
            obtain ⟨on1, on2⟩ := HON.out k hlt
            have bc := OKC.out k hlt
            have bd := OKD.out k hlt
            have bl := lim_bd k
            have hw1 : IntKind.i64.wrap (cl k - dl k) = cl k - dl k := by rw [IntKind.wrap_i64]; omega
            have hw2 : IntKind.i64.wrap (dh k - ch k) = dh k - ch k := by rw [IntKind.wrap_i64]; omega
            have hal : Below wr.heap.size wr (wr.alloc (.cells #[.int .i64 (cl k), .int .i64 (ch k), .int .i64 (dl k), .int .i64 (dh k)] 104)) := (Below.refl _ _).alloc (Nat.le_refl _) _
            have KBr := Lib.hid (keep_bl1 hB.out hal)
            have HZr := Lib.hid (hZ.out.later hal)
            clear hal hZ hB bc bd bl
            go_wp2_with fail
            go_roundw
            case rel => exact ⟨k + 1, by omega, by go_num, HZr, KBr⟩
            case measure => simp [intOf]; omega
          · have hk4 : (k : Int) = 4 := by omega
            rw [hk4]
            clear hlt hk hZ hk4
            go_wp2_with fail
            refine (awake_any wr (HL.out.below hpos hB.out)).mono ?_
            rintro e We ⟨rfl, hb⟩
            have KBe := Lib.hid (keep_bl1 hB.out hb)
            clear hb
            go_wp2_with fail
            go_ret
            exact ⟨rfl, KBe.out⟩
end Go.Proofs.YtdcpmdigihbdpaaDoor
