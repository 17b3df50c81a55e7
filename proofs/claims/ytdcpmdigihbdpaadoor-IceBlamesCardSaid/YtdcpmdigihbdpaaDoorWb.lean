/- Some reports of a list, in their order: rows, and what they have in common. Pure. -/
import Derived.Test.YtdcpmdigihbdpaaDoorWa
import Derived.Test.YtdcpmdigihbdpaaDoorSh
namespace Go.Proofs.YtdcpmdigihbdpaaDoor
open Go.RowKit
set_option maxRecDepth 100000
/-- The numbers of a set, in increasing order. -/
def sel (s : Nat → Bool) : Nat → List Nat
  | 0 => []
  | k + 1 => if s k = true then sel s k ++ [k] else sel s k
theorem sel_len (s : Nat → Bool) : ∀ n, (sel s n).length = sizeTo s n
  | 0 => rfl
  | n + 1 => by
    have := sel_len s n
    unfold sel sizeTo
    split
    · simp [this]
    · omega
theorem sel_mem {s : Nat → Bool} {i : Nat} : ∀ {n : Nat}, i ∈ sel s n ↔ i < n ∧ s i = true
  | 0 => by simp [sel]
  | n + 1 => by
    have ih := sel_mem (s := s) (i := i) (n := n)
    unfold sel
    by_cases e : s n = true
    · rw [if_pos e, List.mem_append, ih, List.mem_singleton]
      constructor
      · rintro (⟨h1, h2⟩ | rfl)
        · exact ⟨by omega, h2⟩
        · exact ⟨by omega, e⟩
      · rintro ⟨h1, h2⟩
        by_cases c : i = n
        · exact .inr c
        · exact .inl ⟨by omega, h2⟩
    · rw [if_neg e, ih]
      constructor
      · rintro ⟨h1, h2⟩; exact ⟨by omega, h2⟩
      · rintro ⟨h1, h2⟩
        refine ⟨?_, h2⟩
        by_cases c : i = n
        · subst c; exact absurd h2 e
        · omega
/-- The number at a place. -/
def fs (s : Nat → Bool) (n j : Nat) : Nat := (sel s n)[j]?.getD 0
theorem fs_at {s : Nat → Bool} : ∀ {n k : Nat}, k < n → s k = true → fs s n (sizeTo s k) = k
  | n + 1, k, hk, h => by
    by_cases e : k = n
    · subst e
      unfold fs sel
      rw [if_pos h, List.getElem?_append_right (by rw [sel_len]; exact Nat.le_refl _), sel_len]
      simp
    · have ih := fs_at (n := n) (show k < n by omega) h
      have hlt : sizeTo s k < (sel s n).length := by
        rw [sel_len]
        have : ∀ m, k + 1 ≤ m → sizeTo s k + 1 ≤ sizeTo s m := by
          intro m hm
          induction m with
          | zero => omega
          | succ m ihm =>
            show sizeTo s k + 1 ≤ sizeTo s m + if s m = true then 1 else 0
            by_cases c : k = m
            · subst c; rw [if_pos h]; exact Nat.le_refl _
            · have := ihm (by omega); omega
        exact this n (by omega)
      unfold fs at ih ⊢
      unfold sel
      split
      · rw [List.getElem?_append_left hlt]; exact ih
      · exact ih
theorem fs_mem {s : Nat → Bool} {n j : Nat} (h : j < sizeTo s n) : fs s n j < n ∧ s (fs s n j) = true := by
  have hl : j < (sel s n).length := by rw [sel_len]; exact h
  unfold fs
  rw [List.getElem?_eq_getElem hl]
  exact sel_mem.1 (List.getElem_mem hl)
theorem fs_mono {s : Nat → Bool} : ∀ {n a b : Nat}, a < b → b < sizeTo s n → fs s n a < fs s n b
  | n + 1, a, b, hab, hb => by
    have hl := sel_len s n
    have ih := fs_mono (s := s) (n := n) (a := a) (b := b) hab
    unfold sizeTo at hb
    by_cases e : s n = true
    · rw [if_pos e] at hb
      have hs : ∀ j, j < sizeTo s n → fs s (n + 1) j = fs s n j := fun j hj => by
        unfold fs
        show (if s n = true then sel s n ++ [n] else sel s n)[j]?.getD 0 = _
        rw [if_pos e, List.getElem?_append_left (by omega)]
      by_cases c : b < sizeTo s n
      · rw [hs a (by omega), hs b c]; exact ih c
      · have hbn : fs s (n + 1) b = n := by
          unfold fs
          show (if s n = true then sel s n ++ [n] else sel s n)[b]?.getD 0 = _
          rw [if_pos e, List.getElem?_append_right (by omega), show b - (sel s n).length = 0 by omega]
          rfl
        rw [hs a (by omega), hbn]
        exact (fs_mem (by omega)).1
    · rw [if_neg e] at hb
      have hs : ∀ j, fs s (n + 1) j = fs s n j := fun j => by
        unfold fs
        show (if s n = true then sel s n ++ [n] else sel s n)[j]?.getD 0 = _
        rw [if_neg e]
      rw [hs, hs]
      exact ih (by omega)
/-- Reports of a set agree just if the set does. -/
theorem cm_sel {s : Nat → Bool} {CL CH : Nat → Nat → Int} {n : Nat} (ho : OkAll CL CH n) : cmOK allT (fun j => CL (fs s n j)) (fun j => CH (fs s n j)) (sizeTo s n) = true ↔ cmOK s CL CH n = true := by
  rw [cm_iff (okAll_of ho fun j hj => (fs_mem hj).1), cm_iff ho]
  constructor
  · intro h i j hi hj si sj q hq
    obtain ⟨a, ha, ea⟩ := List.mem_iff_getElem.1 (sel_mem.2 ⟨hi, si⟩)
    obtain ⟨b, hb, eb⟩ := List.mem_iff_getElem.1 (sel_mem.2 ⟨hj, sj⟩)
    have ka : fs s n a = i := by unfold fs; rw [List.getElem?_eq_getElem ha]; exact ea
    have kb : fs s n b = j := by unfold fs; rw [List.getElem?_eq_getElem hb]; exact eb
    have : CL (fs s n a) q ≤ CH (fs s n b) q := h a b (by rw [← sel_len]; exact ha) (by rw [← sel_len]; exact hb) rfl rfl q hq
    rwa [ka, kb] at this
  · intro h a b ha hb _ _ q hq
    obtain ⟨h1, h2⟩ := fs_mem ha
    obtain ⟨k1, k2⟩ := fs_mem hb
    exact h _ _ h1 k1 h2 k2 q hq
theorem full_of_size {s : Nat → Bool} : ∀ {n : Nat}, sizeTo s n = n → ∀ i, i < n → s i = true
  | n + 1, h, i, hi => by
    have hle := sizeTo_le s n
    unfold sizeTo at h
    by_cases e : s n = true
    · rw [if_pos e] at h
      by_cases c : i = n
      · rw [c]; exact e
      · exact full_of_size (n := n) (by omega) i (by omega)
    · rw [if_neg e] at h; omega
/-- No pair is in conflict just if nobody is to blame. -/
theorem none_iff {CL CH : Nat → Nat → Int} {n : Nat} {l : List Nat} (hn : n ≤ 12) (ho : OkAll CL CH n) (hl : l ∈ blameL CL CH n) : cfOut CL CH n n = [] ↔ l = [] := by
  obtain ⟨x, hx, rfl⟩ := blame_mem hl
  have hz := outs_size (setF n x) n
  obtain ⟨h1, h2⟩ := found_max hn hx
  constructor
  · intro h
    have hp : cmOK allT CL CH n = true := (cm_iff ho).2 fun i j hi hj _ _ q hq => by
      by_cases e : i = j
      · subst e; exact (ho i hi q hq).2.1
      · by_cases c : i < j
        · cases hm : meetB (CL i) (CH i) (CL j) (CH j) with
          | true => exact ((meet_iff ho hi hj).1 hm q hq).1
          | false => have := (mem_cfOut (CL := CL) (CH := CH) (n := n) (p := (i, j)) (k := n)).2 ⟨hi, c, hj, hm⟩; rw [h] at this; cases this
        · cases hm : meetB (CL j) (CH j) (CL i) (CH i) with
          | true => exact ((meet_iff ho hj hi).1 hm q hq).2
          | false => have := (mem_cfOut (CL := CL) (CH := CH) (n := n) (p := (j, i)) (k := n)).2 ⟨hj, by show j < i; omega, hi, hm⟩; rw [h] at this; cases this
    have hs : ∀ m, sizeTo allT m = m := fun m => by
      induction m with
      | zero => rfl
      | succ m ih => unfold sizeTo; rw [ih]; rfl
    have := h2 allT hp
    rw [hs] at this
    exact List.length_eq_zero_iff.1 (by omega)
  · intro h
    rw [h] at hz
    have hf := full_of_size (s := setF n x) (n := n) (by simpa using hz)
    have hp := cm_pairs ho h1
    apply List.eq_nil_iff_forall_not_mem.2
    intro p hp'
    obtain ⟨k1, k2, k3, k4⟩ := mem_cfOut.1 hp'
    have : meetB (CL p.1) (CH p.1) (CL p.2) (CH p.2) = true := (meet_iff ho k1 k3).2 fun q hq => ⟨hp _ _ k1 k3 (hf _ k1) (hf _ k3) q hq, hp _ _ k3 k1 (hf _ k3) (hf _ k1) q hq⟩
    rw [this] at k4; cases k4
/-- Each pair in conflict has one that is blamed. -/
theorem pair_out {CL CH : Nat → Nat → Int} {n x : Nat} (hn : n ≤ 12) (ho : OkAll CL CH n) (hx : x ∈ foundL CL CH n) {p : Nat × Nat} (hp : p ∈ cfOut CL CH n n) : setF n x p.1 = false ∨ setF n x p.2 = false := by
  obtain ⟨k1, k2, k3, k4⟩ := mem_cfOut.1 hp
  cases e1 : setF n x p.1 with
  | false => exact .inl rfl
  | true =>
    cases e2 : setF n x p.2 with
    | false => exact .inr rfl
    | true =>
      have hq := cm_pairs ho (found_max hn hx).1
      have : meetB (CL p.1) (CH p.1) (CL p.2) (CH p.2) = true := (meet_iff ho k1 k3).2 fun q h => ⟨hq _ _ k1 k3 e1 e2 q h, hq _ _ k3 k1 e2 e1 q h⟩
      rw [this] at k4; cases k4
theorem repRow_add (R : Nat → Rep) (a : Nat) : ∀ m, repRow R (a + m) = repRow R a ++ repRow (fun j => R (a + j)) m
  | 0 => by simp [repRow]
  | m + 1 => by
    show repRow R (a + m) ++ _ = _
    rw [repRow_add R a m, List.append_assoc]
    rfl
theorem repRow_congr {R R' : Nat → Rep} : ∀ {k : Nat}, (∀ j, j < k → R j = R' j) → repRow R k = repRow R' k
  | 0, _ => rfl
  | k + 1, h => by
    unfold repRow
    rw [repRow_congr (k := k) (fun j hj => h j (by omega)), h k (by omega)]
theorem repRow_inv {R : Nat → Rep} {u : Value} : ∀ {k j : Nat}, (repRow R k)[j]? = some u → j / 14 < k ∧ (repA (R (j / 14)))[j % 14]? = some u
  | 0, j, h => by simp [repRow] at h
  | k + 1, j, h => by
    unfold repRow at h
    by_cases c : j < k * 14
    · rw [List.getElem?_append_left (by rw [repRow_len]; exact c)] at h
      have := repRow_inv h
      exact ⟨by omega, this.2⟩
    · rw [List.getElem?_append_right (by rw [repRow_len]; omega), repRow_len] at h
      have hl : j - k * 14 < 14 := by
        have := (List.getElem?_eq_some_iff.1 h).1
        simpa using this
      have e1 : j / 14 = k := by omega
      have e2 : j % 14 = j - k * 14 := by omega
      refine ⟨by omega, ?_⟩
      rw [e1, e2]
      simpa using h
theorem repA_int (r : Rep) : ∀ u ∈ (repA r).toList, ∃ z, u = .int .i64 z := by
  intro u hu
  simp at hu
  rcases hu with rfl | rfl | rfl | rfl | rfl | rfl | rfl | rfl | rfl | rfl | rfl | rfl | rfl | rfl <;> exact ⟨_, rfl⟩
theorem repRow_int (R : Nat → Rep) : ∀ k, ∀ u ∈ repRow R k, u.oneCell' = true
  | 0, u, h => by cases h
  | k + 1, u, h => by
    unfold repRow at h
    rcases List.mem_append.1 h with h | h
    · exact repRow_int R k u h
    · obtain ⟨z, rfl⟩ := repA_int _ u h
      rfl
end Go.Proofs.YtdcpmdigihbdpaaDoor
