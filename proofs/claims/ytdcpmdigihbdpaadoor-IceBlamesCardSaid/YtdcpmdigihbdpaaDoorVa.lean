/- Reports that have some ice agree: what Fuse, Conflicts and Trust yield of them. -/
import Derived.Test.YtdcpmdigihbdpaaDoorSb
import Derived.Test.YtdcpmdigihbdpaaDoorSa
import Derived.Test.YtdcpmdigihbdpaaDoorSp
namespace Go.Proofs.YtdcpmdigihbdpaaDoor
open Go.RowKit
set_option maxRecDepth 100000
/-- Each of n cells has y, which is within the limits. -/
def HaveAll (CL CH : Nat → Nat → Int) (n : Nat) (y : Nat → Int) : Prop := (∀ q, q < 4 → 0 ≤ y q ∧ y q ≤ lim q) ∧ ∀ i, i < n → ∀ q, q < 4 → CL i q ≤ y q ∧ y q ≤ CH i q
theorem have_cm {CL CH : Nat → Nat → Int} {n : Nat} {y : Nat → Int} (h : HaveAll CL CH n y) (s : Nat → Bool) : ∀ k, k ≤ n → cmOK s CL CH k = true ∧ ∀ q, q < 4 → cmLo s CL k q ≤ y q ∧ y q ≤ cmHi s CH k q
  | 0, _ => ⟨rfl, fun q hq => h.1 q hq⟩
  | k + 1, hk => by
    obtain ⟨h1, h2⟩ := have_cm h s k (by omega)
    have h3 := h.2 k (by omega)
    refine ⟨?_, fun q hq => ?_⟩
    · unfold cmOK
      rw [h1, Bool.true_and]
      by_cases e : s k = true
      · rw [if_pos e, meetB_iff]
        intro q hq
        have a := h2 q hq
        have b := h3 q hq
        unfold mx mn
        omega
      · rw [if_neg e]
    · have a := h2 q hq
      have b := h3 q hq
      unfold cmLo cmHi
      by_cases e : s k = true
      · rw [if_pos e, if_pos e]
        unfold mx mn
        omega
      · rw [if_neg e, if_neg e]
        exact a
theorem have_meet {CL CH : Nat → Nat → Int} {n : Nat} {y : Nat → Int} (h : HaveAll CL CH n y) {i j : Nat} (hi : i < n) (hj : j < n) : meetB (CL i) (CH i) (CL j) (CH j) = true := by
  rw [meetB_iff]
  intro q hq
  have a := h.2 i hi q hq
  have b := h.2 j hj q hq
  unfold mx mn
  omega
theorem have_in {CL CH : Nat → Nat → Int} {n : Nat} {y : Nat → Int} (h : HaveAll CL CH n y) {i : Nat} (hi : i < n) : ∀ m, m ≤ n → cfIn CL CH i m = []
  | 0, _ => rfl
  | m + 1, hm => by
    rw [cfIn_succ, if_neg, have_in h hi m (by omega)]
    rintro ⟨_, h2⟩
    rw [have_meet h hi (by omega)] at h2
    cases h2
theorem have_out {CL CH : Nat → Nat → Int} {n : Nat} {y : Nat → Int} (h : HaveAll CL CH n y) : ∀ i, i ≤ n → cfOut CL CH n i = []
  | 0, _ => rfl
  | i + 1, hi => by
    unfold cfOut
    rw [have_out h i (by omega), have_in h (by omega) n (Nat.le_refl _)]
    rfl
theorem setF_zero (n j : Nat) : setF n 0 j = decide (j < n) := by
  unfold setF pset
  simp
theorem sizeTo_full (n : Nat) : ∀ k, k ≤ n → sizeTo (setF n 0) k = k
  | 0, _ => rfl
  | k + 1, h => by
    unfold sizeTo
    rw [sizeTo_full n k (by omega), setF_zero, if_pos (decide_eq_true (by omega))]
theorem sizeTo_above (n : Nat) (s : Nat → Bool) (h : ∀ j, n ≤ j → s j = false) : ∀ k, n ≤ k → sizeTo s k = sizeTo s n := fun k hk => by
  induction k with
  | zero => obtain rfl : n = 0 := by omega
            rfl
  | succ k ih =>
    by_cases e : n = k + 1
    · rw [← e]
    · show sizeTo s k + (if s k = true then 1 else 0) = _
      rw [ih (by omega), h k (by omega)]
      simp
theorem setF_above (n x j : Nat) (h : n ≤ j) : setF n x j = false := by
  unfold setF pset
  rw [decide_eq_false (by omega)]
  rfl
theorem have_head {CL CH : Nat → Nat → Int} {n : Nat} {y : Nat → Int} (hn : n ≤ 12) (h : HaveAll CL CH n y) (j : Nat) : headS CL CH n j = decide (j < n) := by
  have hag : agB CL CH n 0 = true := (have_cm h (setF n 0) n (Nat.le_refl _)).1
  have hsz : ∀ x, sizeTo (setF n x) 12 ≤ n := fun x => by
    rw [sizeTo_above n _ (setF_above n x) 12 hn]
    exact sizeTo_le _ _
  have hs0 : sizeTo (setF n 0) 12 = n := by
    rw [sizeTo_above n _ (setF_above n 0) 12 hn]
    exact sizeTo_full n n (Nat.le_refl _)
  have key : ∀ (pre : List Nat) (st : Nat × List Nat), st.1 = n → st.2.head? = some 0 → (pre.foldl (grStep n (agB CL CH n)) st).2.head? = some 0 := by
    intro pre
    induction pre with
    | nil => intro st _ h2; exact h2
    | cons x pre ih =>
      intro st h1 h2
      have hx := hsz x
      refine ih _ ?_ ?_
      · unfold grStep
        split
        · exact h1
        · split
          · exact h1
          · rw [if_neg (by omega)]
            exact h1
      · unfold grStep
        split
        · exact h2
        · split
          · exact h2
          · rw [if_neg (by omega)]
            cases hl : st.2 with
            | nil => rw [hl] at h2; cases h2
            | cons a l => rw [hl] at h2; simpa using h2
  have hr : List.range (2 ^ n) = 0 :: (List.range (2 ^ n - 1)).map Nat.succ := by
    have h1 := Nat.one_le_two_pow (n := n)
    have : 2 ^ n = (2 ^ n - 1) + 1 := by omega
    rw [this, List.range_succ_eq_map]
    simp
  have hf : (foundL CL CH n).head? = some 0 := by
    unfold foundL gr
    rw [hr, List.foldl_cons]
    have e1 : grStep n (agB CL CH n) (0, []) 0 = (n, [0]) := by
      unfold grStep
      rw [hs0, hag]
      by_cases e : n = 0
      · subst e; rfl
      · simp
        omega
    rw [e1]
    exact key _ _ rfl rfl
  have hd : (foundL CL CH n).headD 0 = 0 := by
    cases hl : foundL CL CH n with
    | nil => rfl
    | cons a l => rw [hl] at hf; simpa using hf
  unfold headS
  rw [hd, setF_zero]
theorem cm_congr {s t : Nat → Bool} {CL CH : Nat → Nat → Int} : ∀ {n : Nat}, (∀ k, k < n → s k = t k) → cmLo s CL n = cmLo t CL n ∧ cmHi s CH n = cmHi t CH n
  | 0, _ => ⟨rfl, rfl⟩
  | n + 1, h => by
    obtain ⟨h1, h2⟩ := cm_congr (CL := CL) (CH := CH) (n := n) (fun k hk => h k (by omega))
    refine ⟨funext fun q => ?_, funext fun q => ?_⟩
    · unfold cmLo; rw [h1, h n (by omega)]
    · unfold cmHi; rw [h2, h n (by omega)]
/-- A cell that had some ice, aged, has what the ice became. -/
theorem told_has {lo hi u d x y : Nat → Int} {h : Int} (q : Nat) (hl : lo q ≤ x q ∧ x q ≤ hi q) (hy : 0 ≤ y q ∧ y q ≤ lim q) (hc : -chg (d q) h ≤ y q - x q ∧ y q - x q ≤ chg (u q) h) : agLo lo d h q ≤ y q ∧ y q ≤ agHi hi u h q := by
  unfold agLo agHi mx mn
  omega
end Go.Proofs.YtdcpmdigihbdpaaDoor
