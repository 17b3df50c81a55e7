/- Pure facts for the law HullLimited. A right ship, speeds of at most 250, a thickness of at most 400. -/
import Derived.Test.YtcoiklolgilhaaaDoorQi
namespace Go.Proofs.YtcoiklolgilhaaaDoor
open Go.RowKit
set_option maxRecDepth 100000
theorem lvl_le {a b : Int} (h : a ≤ b) : LeI (lvl a) (lvl b) := ⟨Int.le_refl _, h, Int.le_refl _, Int.le_refl _⟩
theorem limG_le {s : Sh} (g : Good s) {v w : Int} (hv : 0 ≤ v) (hvw : v ≤ w) {c d : Bool} (hcd : d = true → c = true) {a b : Nat} (hab : a ≤ b) (hb : b ≤ 400) (h : limG s w d b = true) : limG s v c a = true :=
  makes_le g (good_lvl (by omega) (by omega)) (good_lvl (by omega) (by omega)) (lvl_le (by omega)) hv hvw hcd h
theorem limG_anti {s : Sh} (g : Good s) {v : Int} (hv : 0 ≤ v) (c : Bool) : ∀ a b, a ≤ b → b ≤ 400 → limG s v c b = true → limG s v c a = true :=
  fun _ _ h hb hm => limG_le g hv (Int.le_refl _) (fun h => h) h hb hm
theorem lim_cases (s : Sh) (v : Int) (ch : Bool) (h : orL [chkP s, errS v] = 0) : (limG s v ch 0 = true ∧ LimitRes s v ch = .tuple #[.int .i64 (greatP (limG s v ch) 400), .int .i64 0]) ∨ (limG s v ch 0 = false ∧ LimitRes s v ch = .tuple #[.int .i64 0, .int .i64 4]) := by
  unfold LimitRes
  rw [if_pos h]
  cases limG s v ch 0
  · exact .inr ⟨rfl, rfl⟩
  · exact .inl ⟨rfl, rfl⟩
theorem limited_facts {s : Sh} (hs : chkP s = 0) {lo hi t : Int} (h0 : 0 ≤ lo) (h1 : lo ≤ hi) (h2 : hi ≤ 250) (ht : 0 ≤ t) (ht' : t ≤ 400) (ch : Bool) :
    ∃ L1 E1 L2 E2 L3 E3 : Int, ∃ M : Bool, LimitRes s lo ch = .tuple #[.int .i64 L1, .int .i64 E1] ∧ LimitRes s hi ch = .tuple #[.int .i64 L2, .int .i64 E2] ∧ LimitRes s lo false = .tuple #[.int .i64 L3, .int .i64 E3] ∧ MakesRes s (lvl t) lo ch = .tuple #[.bool M, .int .i64 0] ∧
      ((E1 = 4 ∧ E2 = 4 ∧ E3 = 4 ∧ M = false) ∨ (E1 = 0 ∧ (E2 = 4 ∨ (E2 = 0 ∧ L2 ≤ L1)) ∧ (E3 = 4 ∨ (E3 = 0 ∧ L3 ≤ L1)) ∧ ((M = true ∧ t ≤ L1) ∨ (M = false ∧ L1 < t)))) := by
  have g := good_of hs
  have e1 : errS lo = 0 := by unfold errS; rw [if_pos (by omega)]
  have e2 : errS hi = 0 := by unfold errS; rw [if_pos (by omega)]
  have o1 : orL [chkP s, errS lo] = 0 := by rw [hs, e1]; rfl
  have o2 : orL [chkP s, errS hi] = 0 := by rw [hs, e2]; rfl
  have om : orL [chkP s, iceE (lvl t), errS lo] = 0 := by rw [hs, e1, iceE_of (good_lvl ht ht')]; rfl
  have hm : MakesRes s (lvl t) lo ch = .tuple #[.bool (limG s lo ch t.toNat), .int .i64 0] := by
    unfold MakesRes limG
    rw [if_pos om, Int.toNat_of_nonneg ht]
  have sp := great_spec (limG_anti g h0 ch)
  have sp2 := great_spec (limG_anti g (Int.le_trans h0 h1) ch)
  have sp3 := great_spec (limG_anti g h0 false)
  have mono2 := great_mono (limG_anti g h0 ch) (limG_anti g (Int.le_trans h0 h1) ch) (Nat.le_refl _) fun k hk h => limG_le g h0 h1 (fun h => h) (Nat.le_refl k) hk h
  have mono3 := great_mono (limG_anti g h0 ch) (limG_anti g h0 false) (Nat.le_refl _) fun k hk h => limG_le g h0 (Int.le_refl _) (fun h => by cases h) (Nat.le_refl k) hk h
  rcases lim_cases s lo ch o1 with ⟨a, ra⟩ | ⟨a, ra⟩
  · have hb : ∃ L2 E2 : Int, LimitRes s hi ch = .tuple #[.int .i64 L2, .int .i64 E2] ∧ (E2 = 4 ∨ (E2 = 0 ∧ L2 ≤ greatP (limG s lo ch) 400)) := by
      rcases lim_cases s hi ch o2 with ⟨_, r⟩ | ⟨_, r⟩
      · exact ⟨_, _, r, .inr ⟨rfl, by omega⟩⟩
      · exact ⟨_, _, r, .inl rfl⟩
    have hc : ∃ L3 E3 : Int, LimitRes s lo false = .tuple #[.int .i64 L3, .int .i64 E3] ∧ (E3 = 4 ∨ (E3 = 0 ∧ L3 ≤ greatP (limG s lo ch) 400)) := by
      rcases lim_cases s lo false o1 with ⟨_, r⟩ | ⟨_, r⟩
      · exact ⟨_, _, r, .inr ⟨rfl, by omega⟩⟩
      · exact ⟨_, _, r, .inl rfl⟩
    obtain ⟨L2, E2, r2, f2⟩ := hb
    obtain ⟨L3, E3, r3, f3⟩ := hc
    refine ⟨_, _, L2, E2, L3, E3, _, ra, r2, r3, hm, .inr ⟨rfl, f2, f3, ?_⟩⟩
    by_cases hk : t.toNat ≤ greatP (limG s lo ch) 400
    · exact .inl ⟨limG_anti g h0 ch _ _ hk sp.1 (sp.2.1 a), by omega⟩
    · exact .inr ⟨sp.2.2 _ (by omega) (by omega), by omega⟩
  · have hb : LimitRes s hi ch = .tuple #[.int .i64 0, .int .i64 4] := by
      rcases lim_cases s hi ch o2 with ⟨q, r⟩ | ⟨_, r⟩
      · have := limG_le g h0 h1 (c := ch) (fun h => h) (Nat.le_refl 0) (by omega) q; rw [a] at this; cases this
      · exact r
    have hc : LimitRes s lo false = .tuple #[.int .i64 0, .int .i64 4] := by
      rcases lim_cases s lo false o1 with ⟨q, r⟩ | ⟨_, r⟩
      · have := limG_le g h0 (Int.le_refl _) (c := ch) (fun h => by cases h) (Nat.le_refl 0) (by omega) q; rw [a] at this; cases this
      · exact r
    refine ⟨_, _, _, _, _, _, _, ra, hb, hc, hm, .inl ⟨rfl, rfl, rfl, ?_⟩⟩
    cases h : limG s lo ch t.toNat with
    | false => rfl
    | true => have := limG_anti g h0 ch 0 _ (Nat.zero_le _) (by omega) h; rw [a] at this; cases this
end Go.Proofs.YtcoiklolgilhaaaDoor
