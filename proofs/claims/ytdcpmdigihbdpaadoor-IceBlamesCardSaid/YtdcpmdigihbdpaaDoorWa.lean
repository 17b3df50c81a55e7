/- Sets of cells that have something in common: they are just those of which no two are apart; what the greatest of them leave out. Pure. -/
import Derived.Test.YtdcpmdigihbdpaaDoorVa
import Derived.Test.YtdcpmdigihbdpaaDoorSi
import Derived.Test.YtdcpmdigihbdpaaDoorSm
namespace Go.Proofs.YtdcpmdigihbdpaaDoor
open Go.RowKit
set_option maxRecDepth 100000
/-- Each cell is right. -/
def OkAll (CL CH : Nat → Nat → Int) (n : Nat) : Prop := ∀ i, i < n → ∀ q, q < 4 → 0 ≤ CL i q ∧ CL i q ≤ CH i q ∧ CH i q ≤ lim q
/-- No two cells of a set are apart. -/
def Pw (s : Nat → Bool) (CL CH : Nat → Nat → Int) (n : Nat) : Prop := ∀ i j, i < n → j < n → s i = true → s j = true → ∀ q, q < 4 → CL i q ≤ CH j q
theorem cm_lo_ge {s : Nat → Bool} {CL : Nat → Nat → Int} {q : Nat} : ∀ {n i : Nat}, i < n → s i = true → CL i q ≤ cmLo s CL n q
  | n + 1, i, hi, h => by
    by_cases e : i = n
    · subst e
      unfold cmLo; rw [if_pos h]; unfold mx; omega
    · have := cm_lo_ge (CL := CL) (q := q) (show i < n by omega) h
      unfold cmLo
      split
      · unfold mx; omega
      · exact this
theorem cm_hi_le {s : Nat → Bool} {CH : Nat → Nat → Int} {q : Nat} : ∀ {n i : Nat}, i < n → s i = true → cmHi s CH n q ≤ CH i q
  | n + 1, i, hi, h => by
    by_cases e : i = n
    · subst e
      unfold cmHi; rw [if_pos h]; unfold mn; omega
    · have := cm_hi_le (CH := CH) (q := q) (show i < n by omega) h
      unfold cmHi
      split
      · unfold mn; omega
      · exact this
theorem cm_lo_le {s : Nat → Bool} {CL : Nat → Nat → Int} {q : Nat} {b : Int} (h0 : 0 ≤ b) : ∀ {n : Nat}, (∀ i, i < n → s i = true → CL i q ≤ b) → cmLo s CL n q ≤ b
  | 0, _ => h0
  | n + 1, h => by
    have := cm_lo_le h0 (n := n) (fun i hi => h i (by omega))
    unfold cmLo
    split
    · rename_i e; have := h n (by omega) e; unfold mx; omega
    · exact this
theorem cm_lo_nn {s : Nat → Bool} {CL : Nat → Nat → Int} {q : Nat} : ∀ {n : Nat}, 0 ≤ cmLo s CL n q
  | 0 => Int.le_refl _
  | n + 1 => by
    have := cm_lo_nn (s := s) (CL := CL) (q := q) (n := n)
    unfold cmLo
    split
    · unfold mx; omega
    · exact this
theorem cm_pairs {s : Nat → Bool} {CL CH : Nat → Nat → Int} : ∀ {n : Nat}, OkAll CL CH n → cmOK s CL CH n = true → Pw s CL CH n
  | 0, _, _ => fun i j hi => by omega
  | n + 1, ho, h => by
    unfold cmOK at h
    rw [Bool.and_eq_true] at h
    obtain ⟨h1, h2⟩ := h
    have ih := cm_pairs (fun i hi => ho i (by omega)) h1
    intro i j hi hj si sj q hq
    by_cases ei : i = n
    · by_cases ej : j = n
      · have e : i = j := by omega
        rw [← e]; exact (ho i hi q hq).2.1
      · rw [ei] at si ⊢
        rw [if_pos si, meetB_iff] at h2
        have a := h2 q hq
        have b := cm_hi_le (CH := CH) (q := q) (show j < n by omega) sj
        unfold mx mn at a
        omega
    · by_cases ej : j = n
      · rw [ej] at sj ⊢
        rw [if_pos sj, meetB_iff] at h2
        have a := h2 q hq
        have b := cm_lo_ge (CL := CL) (q := q) (show i < n by omega) si
        unfold mx mn at a
        omega
      · exact ih i j (by omega) (by omega) si sj q hq
theorem pairs_cm {s : Nat → Bool} {CL CH : Nat → Nat → Int} {n : Nat} (ho : OkAll CL CH n) (h : Pw s CL CH n) : ∀ k, k ≤ n → cmOK s CL CH k = true ∧ ∀ q, q < 4 → cmLo s CL k q ≤ cmLo s CL n q ∧ cmLo s CL n q ≤ cmHi s CH k q
  | 0, _ => ⟨rfl, fun q hq => ⟨cm_lo_nn, cm_lo_le (by unfold cmHi lim; split <;> (try split) <;> omega) fun i hi hs => by
      have := ho i hi q hq
      show _ ≤ lim q
      omega⟩⟩
  | k + 1, hk => by
    obtain ⟨h1, h2⟩ := pairs_cm ho h k (by omega)
    have hnn : ∀ q, q < 4 → s k = true → CL k q ≤ cmLo s CL n q ∧ cmLo s CL n q ≤ CH k q := fun q hq e =>
      ⟨cm_lo_ge (by omega) e, cm_lo_le (by have := ho k (by omega) q hq; omega) fun i hi hs => h i k hi (by omega) hs e q hq⟩
    refine ⟨?_, fun q hq => ?_⟩
    · unfold cmOK
      rw [h1, Bool.true_and]
      by_cases e : s k = true
      · rw [if_pos e, meetB_iff]
        intro q hq
        have a := h2 q hq
        have b := hnn q hq e
        unfold mx mn
        omega
      · rw [if_neg e]
    · have a := h2 q hq
      show (if s k = true then mx (cmLo s CL k q) (CL k q) else cmLo s CL k q) ≤ cmLo s CL n q ∧ cmLo s CL n q ≤ (if s k = true then mn (cmHi s CH k q) (CH k q) else cmHi s CH k q)
      by_cases e : s k = true
      · have b := hnn q hq e
        rw [if_pos e, if_pos e]
        unfold mx mn
        omega
      · rw [if_neg e, if_neg e]
        exact a
theorem cm_iff {s : Nat → Bool} {CL CH : Nat → Nat → Int} {n : Nat} (ho : OkAll CL CH n) : cmOK s CL CH n = true ↔ Pw s CL CH n :=
  ⟨cm_pairs ho, fun h => (pairs_cm ho h n (Nat.le_refl _)).1⟩
theorem Pw.congr {s t : Nat → Bool} {CL CH : Nat → Nat → Int} {n : Nat} (h : Pw s CL CH n) (e : ∀ i, i < n → t i = true → s i = true) : Pw t CL CH n :=
  fun i j hi hj a b => h i j hi hj (e i hi a) (e j hj b)
theorem size_congr {s t : Nat → Bool} : ∀ {n : Nat}, (∀ i, i < n → s i = t i) → sizeTo s n = sizeTo t n
  | 0, _ => rfl
  | n + 1, h => by
    unfold sizeTo
    rw [size_congr (n := n) (fun i hi => h i (by omega)), h n (by omega)]
/-- The number of a set. -/
def numTo (s : Nat → Bool) : Nat → Nat
  | 0 => 0
  | k + 1 => 2 * numTo s k + if s k = true then 0 else 1
theorem numTo_lt (s : Nat → Bool) : ∀ n, numTo s n < 2 ^ n
  | 0 => by simp [numTo]
  | n + 1 => by
    have := numTo_lt s n
    unfold numTo
    rw [Nat.pow_succ]
    split <;> omega
theorem numTo_div (s : Nat → Bool) (m : Nat) : ∀ t, numTo s (m + t) / 2 ^ t = numTo s m
  | 0 => by simp
  | t + 1 => by
    have e : numTo s (m + (t + 1)) / 2 = numTo s (m + t) := by
      show (2 * numTo s (m + t) + if s (m + t) = true then 0 else 1) / 2 = _
      split <;> omega
    rw [Nat.pow_succ, Nat.mul_comm, ← Nat.div_div_eq_div_mul, e]
    exact numTo_div s m t
theorem setF_num (s : Nat → Bool) {n j : Nat} (h : j < n) : setF n (numTo s n) j = s j := by
  have e := numTo_div s (j + 1) (n - 1 - j)
  rw [show j + 1 + (n - 1 - j) = n by omega] at e
  unfold setF pset
  rw [e]
  show (decide (j < n) && decide ((2 * numTo s j + if s j = true then 0 else 1) % 2 = 0)) = s j
  rw [decide_eq_true h, Bool.true_and]
  by_cases hs : s j = true
  · rw [if_pos hs, hs]; exact decide_eq_true (by omega)
  · rw [if_neg hs]
    have : s j = false := by simpa using hs
    rw [this]; exact decide_eq_false (by omega)
theorem gr_most (n : Nat) (ag : Nat → Bool) (pre : List Nat) : (∀ x ∈ (gr n ag pre).2, sizeTo (setF n x) 12 = (gr n ag pre).1) ∧ ∀ y ∈ pre, ag y = true → sizeTo (setF n y) 12 ≤ (gr n ag pre).1 := by
  have : ∀ (pre pre0 : List Nat) (st : Nat × List Nat), ((∀ x ∈ st.2, sizeTo (setF n x) 12 = st.1) ∧ ∀ y ∈ pre0, ag y = true → sizeTo (setF n y) 12 ≤ st.1) →
      (∀ x ∈ (pre.foldl (grStep n ag) st).2, sizeTo (setF n x) 12 = (pre.foldl (grStep n ag) st).1) ∧ ∀ y ∈ pre0 ++ pre, ag y = true → sizeTo (setF n y) 12 ≤ (pre.foldl (grStep n ag) st).1 := by
    intro pre
    induction pre with
    | nil => intro pre0 st h; simpa using h
    | cons z pre ih =>
      intro pre0 st h
      have k := ih (pre0 ++ [z]) (grStep n ag st z) (by
        obtain ⟨h1, h2⟩ := h
        unfold grStep
        by_cases c1 : sizeTo (setF n z) 12 < st.1
        · rw [if_pos c1]
          refine ⟨h1, fun y hy ha => ?_⟩
          simp only [List.mem_append, List.mem_singleton] at hy
          rcases hy with hy | rfl
          · exact h2 y hy ha
          · omega
        · rw [if_neg c1]
          by_cases c2 : ag z = false
          · rw [if_pos c2]
            refine ⟨h1, fun y hy ha => ?_⟩
            simp only [List.mem_append, List.mem_singleton] at hy
            rcases hy with hy | rfl
            · exact h2 y hy ha
            · rw [c2] at ha; cases ha
          · rw [if_neg c2]
            by_cases c3 : st.1 < sizeTo (setF n z) 12
            · rw [if_pos c3]
              refine ⟨fun x hx => by simp at hx; rw [hx], fun y hy ha => ?_⟩
              simp only [List.mem_append, List.mem_singleton] at hy
              rcases hy with hy | rfl
              · have := h2 y hy ha; show _ ≤ sizeTo (setF n z) 12; omega
              · exact Nat.le_refl _
            · rw [if_neg c3]
              refine ⟨fun x hx => ?_, fun y hy ha => ?_⟩
              · simp only [List.mem_append, List.mem_singleton] at hx
                rcases hx with hx | rfl
                · exact h1 x hx
                · show _ = st.1; omega
              · simp only [List.mem_append, List.mem_singleton] at hy
                rcases hy with hy | rfl
                · exact h2 y hy ha
                · show _ ≤ st.1; omega)
      simpa using k
  simpa [gr] using this pre [] (0, []) (by simp)
/-- What is known of each of the greatest sets. -/
theorem found_max {CL CH : Nat → Nat → Int} {n x : Nat} (hn : n ≤ 12) (h : x ∈ foundL CL CH n) : cmOK (setF n x) CL CH n = true ∧ ∀ s, cmOK s CL CH n = true → sizeTo s n ≤ sizeTo (setF n x) n := by
  have hx := gr_mem n (agB CL CH n) (List.range (2 ^ n)) x h
  have hm := gr_most n (agB CL CH n) (List.range (2 ^ n))
  refine ⟨hx.2, fun s hs => ?_⟩
  have e : ∀ k, k < n → setF n (numTo s n) k = s k := fun k hk => setF_num s hk
  have ha : agB CL CH n (numTo s n) = true := by
    unfold agB
    have : ∀ m, m ≤ n → cmOK (setF n (numTo s n)) CL CH m = cmOK s CL CH m := by
      intro m hm
      induction m with
      | zero => rfl
      | succ m ih =>
        have c := cm_congr (s := setF n (numTo s n)) (t := s) (CL := CL) (CH := CH) (n := m) (fun k hk => e k (by omega))
        unfold cmOK
        rw [ih (by omega), c.1, c.2, e m (by omega)]
    rw [this n (Nat.le_refl _)]; exact hs
  have h1 := hm.2 (numTo s n) (List.mem_range.2 (numTo_lt s n)) ha
  have h2 := hm.1 x h
  rw [sizeTo_above n _ (setF_above n _) 12 hn, size_congr e] at h1
  rw [sizeTo_above n _ (setF_above n _) 12 hn] at h2
  omega
theorem found_same {CL CH : Nat → Nat → Int} {n x y : Nat} (hn : n ≤ 12) (h : x ∈ foundL CL CH n) (k : y ∈ foundL CL CH n) : sizeTo (setF n x) n = sizeTo (setF n y) n :=
  Nat.le_antisymm ((found_max hn k).2 _ (found_max hn h).1) ((found_max hn h).2 _ (found_max hn k).1)
theorem size_add {s : Nat → Bool} {i : Nat} (h : s i = false) : ∀ n, i < n → sizeTo (fun j => s j || j == i) n = sizeTo s n + 1 := by
  have lower : ∀ n, n ≤ i → sizeTo (fun j => s j || j == i) n = sizeTo s n := fun n hn => size_congr fun j hj => by
    have : (j == i) = false := by simp; omega
    simp [this]
  intro n
  induction n with
  | zero => intro hn; omega
  | succ n ih =>
    intro hn
    unfold sizeTo
    by_cases e : i = n
    · subst e
      rw [lower i (Nat.le_refl _), h]
      simp
    · rw [ih (by omega)]
      have : (n == i) = false := by simp; omega
      simp only [this, Bool.or_false]
      omega
theorem size_pos {s : Nat → Bool} {i : Nat} (h : s i = true) : ∀ n, i < n → 0 < sizeTo s n
  | n + 1, hi => by
    unfold sizeTo
    by_cases e : i = n
    · subst e; rw [if_pos h]; omega
    · have := size_pos h n (by omega); omega
/-- A cell that is apart from no other one is in each greatest set. -/
theorem found_in {CL CH : Nat → Nat → Int} {n x i : Nat} (hn : n ≤ 12) (ho : OkAll CL CH n) (hi : i < n) (hm : ∀ j, j < n → ∀ q, q < 4 → CL i q ≤ CH j q ∧ CL j q ≤ CH i q) (h : x ∈ foundL CL CH n) : setF n x i = true := by
  obtain ⟨h1, h2⟩ := found_max hn h
  cases e : setF n x i with
  | true => rfl
  | false =>
    exfalso
    have hp := cm_pairs ho h1
    have := h2 (fun j => setF n x j || j == i) ((cm_iff ho).2 fun a b ha hb sa sb q hq => by
      simp only [Bool.or_eq_true, beq_iff_eq] at sa sb
      rcases sa with sa | rfl
      · rcases sb with sb | rfl
        · exact hp a b ha hb sa sb q hq
        · exact (hm a ha q hq).2
      · exact (hm b hb q hq).1)
    rw [size_add e n hi] at this
    omega
/-- Numbers without one. -/
def skip (i j : Nat) : Nat := if j < i then j else j + 1
theorem skip_lt {i j n : Nat} (hi : i < n) (hj : j < n - 1) : skip i j < n := by unfold skip; split <;> omega
theorem skip_mono {i a b : Nat} (h : a < b) : skip i a < skip i b := by unfold skip; split <;> split <;> omega
theorem size_skip {s : Nat → Bool} {i : Nat} (h : s i = false) : ∀ n, i < n → sizeTo (fun j => s (skip i j)) (n - 1) = sizeTo s n := by
  have lower : ∀ n, n ≤ i → sizeTo (fun j => s (skip i j)) n = sizeTo s n := fun n hn => size_congr fun j hj => by
    unfold skip; rw [if_pos (by omega)]
  intro n
  induction n with
  | zero => intro hn; omega
  | succ n ih =>
    intro hn
    show sizeTo (fun j => s (skip i j)) n = sizeTo s n + _
    by_cases e : i = n
    · subst e
      rw [lower i (Nat.le_refl _), h]
      simp
    · have k := ih (by omega)
      obtain ⟨m, rfl⟩ : ∃ m, n = m + 1 := ⟨n - 1, by omega⟩
      show sizeTo (fun j => s (skip i j)) m + (if s (skip i m) = true then 1 else 0) = _
      rw [show m + 1 - 1 = m from rfl] at k
      rw [k, show skip i m = m + 1 by unfold skip; rw [if_neg (by omega)]]
theorem okAll_of {CL CH : Nat → Nat → Int} {n m : Nat} {f : Nat → Nat} (h : OkAll CL CH n) (hf : ∀ j, j < m → f j < n) : OkAll (fun j => CL (f j)) (fun j => CH (f j)) m := fun j hj => h (f j) (hf j hj)
/-- Without a cell that a greatest set leaves out, the greatest sets are as great. -/
theorem found_skip {CL CH : Nat → Nat → Int} {n x y i : Nat} (hn : n ≤ 12) (ho : OkAll CL CH n) (hi : i < n) (h : x ∈ foundL CL CH n) (hx : setF n x i = false) (k : y ∈ foundL (fun j => CL (skip i j)) (fun j => CH (skip i j)) (n - 1)) :
    sizeTo (setF (n - 1) y) (n - 1) = sizeTo (setF n x) n := by
  have ho' : OkAll (fun j => CL (skip i j)) (fun j => CH (skip i j)) (n - 1) := okAll_of ho fun j hj => skip_lt hi hj
  obtain ⟨h1, h2⟩ := found_max hn h
  obtain ⟨k1, k2⟩ := found_max (by omega) k
  refine Nat.le_antisymm ?_ ?_
  · have e : ∀ j, (fun j => if j < i then setF (n - 1) y j else if j = i then false else setF (n - 1) y (j - 1)) (skip i j) = setF (n - 1) y j := fun j => by
      unfold skip
      by_cases c : j < i
      · simp [c]
      · simp only [if_neg c]
        rw [if_neg (by omega), if_neg (by omega)]
        rfl
    have hz : (fun j => if j < i then setF (n - 1) y j else if j = i then false else setF (n - 1) y (j - 1)) i = false := by simp
    have hsz := size_skip (s := fun j => if j < i then setF (n - 1) y j else if j = i then false else setF (n - 1) y (j - 1)) hz n hi
    rw [size_congr (t := setF (n - 1) y) (fun j _ => e j)] at hsz
    rw [hsz]
    refine h2 _ ((cm_iff ho).2 fun a b ha hb sa sb q hq => ?_)
    have kp := cm_pairs ho' k1
    have back : ∀ a, a < n → (fun j => if j < i then setF (n - 1) y j else if j = i then false else setF (n - 1) y (j - 1)) a = true → ∃ j, j < n - 1 ∧ skip i j = a ∧ setF (n - 1) y j = true := by
      intro a ha sa
      by_cases c : a < i
      · simp only [if_pos c] at sa
        exact ⟨a, by omega, by unfold skip; rw [if_pos c], sa⟩
      · simp only [if_neg c] at sa
        by_cases c2 : a = i
        · simp [c2] at sa
        · rw [if_neg c2] at sa
          exact ⟨a - 1, by omega, by unfold skip; rw [if_neg (by omega)]; omega, sa⟩
    obtain ⟨a', ha', rfl, sa'⟩ := back a ha sa
    obtain ⟨b', hb', rfl, sb'⟩ := back b hb sb
    exact kp a' b' ha' hb' sa' sb' q hq
  · rw [← size_skip hx n hi]
    refine k2 _ ((cm_iff ho').2 fun a b ha hb sa sb q hq => ?_)
    exact cm_pairs ho h1 (skip i a) (skip i b) (skip_lt hi ha) (skip_lt hi hb) sa sb q hq
theorem outs_size (s : Nat → Bool) : ∀ n, (outs s n).length + sizeTo s n = n
  | 0 => rfl
  | n + 1 => by
    have := outs_size s n
    unfold outs sizeTo
    split
    · omega
    · simp; omega
theorem mem_outs {s : Nat → Bool} {i : Nat} : ∀ {n : Nat}, i ∈ outs s n ↔ i < n ∧ s i = false
  | 0 => by simp [outs]
  | n + 1 => by
    have ih := mem_outs (s := s) (i := i) (n := n)
    unfold outs
    by_cases e : s n = true
    · rw [if_pos e, ih]
      constructor
      · rintro ⟨h1, h2⟩; exact ⟨by omega, h2⟩
      · rintro ⟨h1, h2⟩
        refine ⟨?_, h2⟩
        by_cases c : i = n
        · subst c; rw [e] at h2; cases h2
        · omega
    · rw [if_neg e, List.mem_append, ih, List.mem_singleton]
      constructor
      · rintro (⟨h1, h2⟩ | rfl)
        · exact ⟨by omega, h2⟩
        · exact ⟨by omega, by simpa using e⟩
      · rintro ⟨h1, h2⟩
        by_cases c : i = n
        · exact .inr c
        · exact .inl ⟨by omega, h2⟩
theorem blame_mem {CL CH : Nat → Nat → Int} {n : Nat} {l : List Nat} (h : l ∈ blameL CL CH n) : ∃ x ∈ foundL CL CH n, l = outs (setF n x) n := by
  unfold blameL at h
  obtain ⟨k, hk, rfl⟩ := List.mem_map.1 h
  have hk' := List.mem_range.1 hk
  refine ⟨(foundL CL CH n)[(foundL CL CH n).length - 1 - k]?.getD 0, ?_, rfl⟩
  rw [List.getElem?_eq_getElem (by omega)]
  simp
theorem blame_of {CL CH : Nat → Nat → Int} {n x : Nat} (h : x ∈ foundL CL CH n) : outs (setF n x) n ∈ blameL CL CH n := by
  unfold blameL
  obtain ⟨j, hj, rfl⟩ := List.mem_iff_getElem.1 h
  refine List.mem_map.2 ⟨(foundL CL CH n).length - 1 - j, List.mem_range.2 (by omega), ?_⟩
  unfold blameK
  rw [show (foundL CL CH n).length - 1 - ((foundL CL CH n).length - 1 - j) = j by omega, List.getElem?_eq_getElem hj]
  rfl
theorem blame_ne (CL CH : Nat → Nat → Int) (n : Nat) : 0 < (blameL CL CH n).length := by
  have h := found_ne CL CH n
  unfold blameL
  rw [List.length_map, List.length_range]
  exact List.length_pos_iff.2 h
theorem blame_same {CL CH : Nat → Nat → Int} {n : Nat} (hn : n ≤ 12) {l m : List Nat} (h : l ∈ blameL CL CH n) (k : m ∈ blameL CL CH n) : l.length = m.length := by
  obtain ⟨x, hx, rfl⟩ := blame_mem h
  obtain ⟨y, hy, rfl⟩ := blame_mem k
  have a := outs_size (setF n x) n
  have b := outs_size (setF n y) n
  have c := found_same hn hx hy
  omega
theorem occ1_none {l : List Nat} {i : Nat} (h : i ∉ l) : ∀ m, m ≤ l.length → occ1 l m i = 0
  | 0, _ => rfl
  | m + 1, hm => by
    unfold occ1
    rw [occ1_none h m (by omega), List.getElem?_eq_getElem (by omega)]
    have : l[m] ≠ i := fun e => h (e ▸ List.getElem_mem _)
    simp [this]
theorem occ_none {ls : List (List Nat)} {i : Nat} (h : ∀ l ∈ ls, i ∉ l) : ∀ k, k ≤ ls.length → occ ls k i = 0
  | 0, _ => rfl
  | k + 1, hk => by
    unfold occ
    rw [occ_none h k (by omega), List.getElem?_eq_getElem (by omega)]
    simp only [Option.getD_some]
    rw [occ1_none (h _ (List.getElem_mem _)) _ (Nat.le_refl _)]
    rfl
theorem mem_cfIn {CL CH : Nat → Nat → Int} {i : Nat} {p : Nat × Nat} : ∀ {m : Nat}, p ∈ cfIn CL CH i m ↔ p.1 = i ∧ i < p.2 ∧ p.2 < m ∧ meetB (CL i) (CH i) (CL p.2) (CH p.2) = false
  | 0 => by simp [cfIn]
  | m + 1 => by
    have ih := mem_cfIn (CL := CL) (CH := CH) (i := i) (p := p) (m := m)
    rw [cfIn_succ]
    by_cases e : i < m ∧ meetB (CL i) (CH i) (CL m) (CH m) = false
    · rw [if_pos e, List.mem_append, ih, List.mem_singleton]
      constructor
      · rintro (⟨h1, h2, h3, h4⟩ | rfl)
        · exact ⟨h1, h2, by omega, h4⟩
        · exact ⟨rfl, e.1, by simp, e.2⟩
      · rintro ⟨h1, h2, h3, h4⟩
        by_cases c : p.2 = m
        · right; exact Prod.ext h1 c
        · left; exact ⟨h1, h2, by omega, h4⟩
    · rw [if_neg e, ih]
      constructor
      · rintro ⟨h1, h2, h3, h4⟩; exact ⟨h1, h2, by omega, h4⟩
      · rintro ⟨h1, h2, h3, h4⟩
        refine ⟨h1, h2, ?_, h4⟩
        by_cases c : p.2 = m
        · exact absurd ⟨by omega, by rw [← c]; exact h4⟩ e
        · omega
theorem mem_cfOut {CL CH : Nat → Nat → Int} {n : Nat} {p : Nat × Nat} : ∀ {k : Nat}, p ∈ cfOut CL CH n k ↔ p.1 < k ∧ p.1 < p.2 ∧ p.2 < n ∧ meetB (CL p.1) (CH p.1) (CL p.2) (CH p.2) = false
  | 0 => by simp [cfOut]
  | k + 1 => by
    unfold cfOut
    rw [List.mem_append, mem_cfOut (k := k), mem_cfIn]
    constructor
    · rintro (⟨h1, h2, h3, h4⟩ | ⟨rfl, h2, h3, h4⟩)
      · exact ⟨by omega, h2, h3, h4⟩
      · exact ⟨by omega, h2, h3, h4⟩
    · rintro ⟨h1, h2, h3, h4⟩
      by_cases c : p.1 = k
      · right; subst c; exact ⟨rfl, h2, h3, h4⟩
      · left; exact ⟨by omega, h2, h3, h4⟩
theorem meet_iff {CL CH : Nat → Nat → Int} {n i j : Nat} (ho : OkAll CL CH n) (hi : i < n) (hj : j < n) : meetB (CL i) (CH i) (CL j) (CH j) = true ↔ ∀ q, q < 4 → CL i q ≤ CH j q ∧ CL j q ≤ CH i q := by
  rw [meetB_iff]
  constructor
  · intro h q hq
    have := h q hq
    unfold mx mn at this
    omega
  · intro h q hq
    have a := h q hq
    have b := ho i hi q hq
    have c := ho j hj q hq
    unfold mx mn
    omega
/-- In no pair: in no blamed set. -/
theorem not_blamed {CL CH : Nat → Nat → Int} {n i : Nat} (hn : n ≤ 12) (ho : OkAll CL CH n) (hi : i < n) (h : ∀ p ∈ cfOut CL CH n n, p.1 ≠ i ∧ p.2 ≠ i) : ∀ l ∈ blameL CL CH n, i ∉ l := by
  intro l hl
  obtain ⟨x, hx, rfl⟩ := blame_mem hl
  rw [mem_outs]
  rintro ⟨_, hf⟩
  have := found_in hn ho hi (fun j hj => ?_) hx
  · rw [this] at hf; cases hf
  · by_cases e : j = i
    · subst e; exact fun q hq => ⟨(ho j hj q hq).2.1, (ho j hj q hq).2.1⟩
    · by_cases c : i < j
      · cases hm : meetB (CL i) (CH i) (CL j) (CH j) with
        | true => exact fun q hq => (meet_iff ho hi hj).1 hm q hq
        | false => exact absurd rfl (h (i, j) (mem_cfOut.2 ⟨hi, c, hj, hm⟩)).1
      · cases hm : meetB (CL j) (CH j) (CL i) (CH i) with
        | true => exact fun q hq => ((meet_iff ho hj hi).1 hm q hq).symm
        | false => exact absurd rfl (h (j, i) (mem_cfOut.2 ⟨hj, by show j < i; omega, hi, hm⟩)).2
/-- Without a report that is blamed by all, one fewer is to blame. -/
theorem blame_skip {CL CH : Nat → Nat → Int} {n i : Nat} (hn : n ≤ 12) (ho : OkAll CL CH n) (hi : i < n) {l m : List Nat} (hl : l ∈ blameL CL CH n) (him : ∃ l ∈ blameL CL CH n, i ∈ l) (hm : m ∈ blameL (fun j => CL (skip i j)) (fun j => CH (skip i j)) (n - 1)) : m.length + 1 = l.length := by
  obtain ⟨l0, h0, hi0⟩ := him
  rw [blame_same hn hl h0]
  obtain ⟨x, hx, rfl⟩ := blame_mem h0
  obtain ⟨y, hy, rfl⟩ := blame_mem hm
  have hf := (mem_outs.1 hi0).2
  have a := outs_size (setF n x) n
  have b := outs_size (setF (n - 1) y) (n - 1)
  have c := found_skip hn ho hi hx hf hy
  omega
theorem occ_some {ls : List (List Nat)} {i : Nat} (h : occ ls ls.length i ≠ 0) : ∃ l ∈ ls, i ∈ l := by
  apply Classical.byContradiction
  intro hn
  exact h (occ_none (fun l hl hi => hn ⟨l, hl, hi⟩) _ (Nat.le_refl _))
theorem fine_ok {u d : Nat → Int} {now : Int} {R : Nat → Rep} {n : Nat} (h : Fine u d now R n) : OkAll (tdLo R d now) (tdHi R u now) n := fun i hi q hq => by
  obtain ⟨hr, _, h1⟩ := inE_ok h.1
  have he := errF_zero (fwE_zero' h.2.2 i hi)
  have a := told_bd he.1 q hq
  have b := rates_bd hr q hq
  have c1 := chg_bd b.1.1 b.1.2 (show 0 ≤ now - (R i).hour by omega) (by have := okRep_bd he.1; omega)
  have c2 := chg_bd b.2.1 b.2.2 (show 0 ≤ now - (R i).hour by omega) (by have := okRep_bd he.1; omega)
  unfold tdLo tdHi agLo agHi mx mn
  omega
theorem mnM_ok (lo hi : Int) (q : Nat) : 0 ≤ mnM (lim q) lo hi ∧ mnM (lim q) lo hi ≤ mxM (lim q) lo hi ∧ mxM (lim q) lo hi ≤ lim q := by
  have hl : 0 ≤ lim q := by unfold lim; split <;> (try split) <;> omega
  have a0 := Int.emod_nonneg lo (show lim q + 1 ≠ 0 by omega)
  have a1 := Int.emod_lt_of_pos lo (show 0 < lim q + 1 by omega)
  have b0 := Int.emod_nonneg hi (show lim q + 1 ≠ 0 by omega)
  have b1 := Int.emod_lt_of_pos hi (show 0 < lim q + 1 by omega)
  unfold mnM mxM mn mx
  omega
theorem rg_seen (R : Nat → Rep) (f : Nat → Nat) : ∀ (k z : Nat), (∀ j, j < k → f j < z) → seenF (fun j => rgRep R (f j)) k (z : Int) = false
  | 0, _, _ => rfl
  | k + 1, z, h => by
    unfold seenF
    have e : ((z : Int) == (rgRep R (f k)).id) = false := by
      have := h k (by omega)
      rw [show (rgRep R (f k)).id = (f k : Int) from rfl]
      simp; omega
    rw [rg_seen R f k z (fun j hj => h j (by omega)), e]
    rfl
/-- Reports made right, some of them in their order: they have no error. -/
theorem rg_fine {u d : Nat → Int} (R : Nat → Rep) (f : Nat → Nat) {n : Nat} (hr : okRates u d = true) (hn : n ≤ 12) (hf : ∀ a b, a < b → b < n → f a < f b) (hb : ∀ j, j < n → f j ≤ 1000000) : Fine u d 100 (fun j => rgRep R (f j)) n := by
  refine ⟨?_, hn, fwE_zero fun j hj => ?_⟩
  · unfold inE hourE
    rw [hr, if_pos (by omega)]
    rfl
  · have s0 := Int.emod_nonneg (R (f j)).src (show (3 : Int) ≠ 0 by decide)
    have s1 := Int.emod_lt_of_pos (R (f j)).src (show (0 : Int) < 3 by decide)
    have t0 := Int.emod_nonneg (R (f j)).hour (show (100 : Int) ≠ 0 by decide)
    have t1 := Int.emod_lt_of_pos (R (f j)).hour (show (0 : Int) < 100 by decide)
    have g0 := Int.emod_nonneg (R (f j)).has (show (15 : Int) ≠ 0 by decide)
    have g1 := Int.emod_lt_of_pos (R (f j)).has (show (0 : Int) < 15 by decide)
    have hbj := hb j hj
    have hok : okRep (rgRep R (f j)) = true := by
      have e6 : allB (repB (rgRep R (f j))) = true := allB_yes fun q hq => by
        have := mnM_ok ((R (f j)).lo q) ((R (f j)).hi q) q
        unfold repB
        have e : okSpan ((rgRep R (f j)).lo q) ((rgRep R (f j)).hi q) q = true := by
          show okSpan (mnM (lim q) ((R (f j)).lo q) ((R (f j)).hi q)) (mxM (lim q) ((R (f j)).lo q) ((R (f j)).hi q)) q = true
          unfold okSpan
          simp
          omega
        rw [e, Bool.or_true]
      unfold okRep
      rw [e6]
      simp only [inB, Bool.and_eq_true, decide_eq_true_eq, and_true]
      simp only [rgRep]
      refine ⟨⟨⟨⟨⟨?_, ?_⟩, ?_⟩, ?_⟩, ?_⟩, ?_⟩ <;> omega
    have hc := cntF_bd (fun j => rgRep R (f j)) j (rgRep R (f j)).x (rgRep R (f j)).y
    have ha : astB (fun j => rgRep R (f j)) (rgRep R (f j)) = false := rfl
    have hs : seenF (fun j => rgRep R (f j)) j (rgRep R (f j)).id = false := rg_seen R f j (f j) fun a ha => hf a j ha hj
    unfold errF errC
    simp only
    rw [hok, hs, ha, if_neg (by decide), if_neg (by decide), if_neg (by decide), if_neg (by show ¬ (100 : Int) < (R (f j)).hour % 100; omega), if_neg (by omega)]
end Go.Proofs.YtdcpmdigihbdpaaDoor
