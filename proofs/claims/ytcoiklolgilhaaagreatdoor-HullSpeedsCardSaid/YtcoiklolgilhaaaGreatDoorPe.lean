/- The contracts of cmp.Compare, of slices.IsSortedFunc over points at hull's two orders, of hull.rises and hull.falls. At least one point. -/
import Derived.Test.YtcoiklolgilhaaaGreatDoorPd
namespace Go.Proofs.YtcoiklolgilhaaaGreatDoor
open Go.RowKit
set_option maxRecDepth 100000
theorem isNaN_any (n : Int) (w : World) : Calls Tryz.prog 189 #[.int .i64 n] w fun e w' => e = .returned (.bool false) ∧ w = w' := by
  go_enter Tryz.func189, Tryz.ntmps189
  go_wp2
  go_ret
  simp
def cmpI (a b : Int) : Int := if a < b then -1 else if b < a then 1 else 0
theorem Compare_any (a b : Int) (w : World) : Calls Tryz.prog 186 #[.int .i64 a, .int .i64 b] w fun e w' => e = .returned (.int .i64 (cmpI a b)) ∧ w = w' := by
  by_cases h1 : a < b
  · have HE := Lib.hid (show cmpI a b = -1 from if_pos h1)
    go_enter Tryz.func186, Tryz.ntmps186
    go_wp2_with fail
    refine (isNaN_any _ _).mono ?_
    rintro e w' ⟨rfl, rfl⟩
    go_wp2_with fail
    refine (isNaN_any _ _).mono ?_
    rintro e w' ⟨rfl, rfl⟩
    go_wp2_with fail
    go_ret
    exact ⟨by rw [HE.out]; rfl, rfl⟩
  · by_cases h2 : b < a
    · have HE := Lib.hid (show cmpI a b = 1 by unfold cmpI; rw [if_neg h1, if_pos h2])
      go_enter Tryz.func186, Tryz.ntmps186
      go_wp2_with fail
      refine (isNaN_any _ _).mono ?_
      rintro e w' ⟨rfl, rfl⟩
      go_wp2_with fail
      refine (isNaN_any _ _).mono ?_
      rintro e w' ⟨rfl, rfl⟩
      go_wp2_with fail
      go_ret
      exact ⟨by rw [HE.out]; rfl, rfl⟩
    · have HE := Lib.hid (show cmpI a b = 0 by unfold cmpI; rw [if_neg h1, if_neg h2])
      go_enter Tryz.func186, Tryz.ntmps186
      go_wp2_with fail
      refine (isNaN_any _ _).mono ?_
      rintro e w' ⟨rfl, rfl⟩
      go_wp2_with fail
      refine (isNaN_any _ _).mono ?_
      rintro e w' ⟨rfl, rfl⟩
      go_wp2_with fail
      go_ret
      exact ⟨by rw [HE.out]; rfl, rfl⟩
def decBAt (c : Cv) (i : Nat) : Bool := decide (c.y (i + 1) ≤ c.y i)
def incBAt (c : Cv) (i : Nat) : Bool := decide (c.y i ≤ c.y (i + 1))
theorem rises1_any (x y x' y' : Int) (w : World) : Calls Tryz.prog 185 #[.agg #[.int .i64 x, .int .i64 y], .agg #[.int .i64 x', .int .i64 y']] w fun e w' => e = .returned (.int .i64 (cmpI y' y)) ∧ Below w.heap.size w w' := by
  go_enter Tryz.func185, Tryz.ntmps185
  go_wp2_with fail
  refine (Compare_any _ _ _).mono ?_
  rintro e w' ⟨rfl, rfl⟩
  go_wp2_with fail
  go_ret
  exact ⟨rfl, ((Below.refl _ _).alloc (Nat.le_refl _) _).alloc (by simp) _⟩
theorem eg117 : ∀ args w, (callFunc 185 args).run Tryz.prog w = .ok (.enter 185 args) w := Go.Proofs.enters_of Tryz.func185 (by kernel_rfl) rfl
theorem sorted117 (p : Option Addr) (n cap : Nat) (c : Cv) (hc : c.n = n) (hn : 1 ≤ n) (hm : n ≤ 1000000) (w : World) (h : Pts w p c) :
    Calls Tryz.prog 184 #[.slice p n cap, .func (.func 185) #[] #[]] w fun e w' => e = .returned (.bool (decB c)) ∧ Below w.heap.size w w' := by
  have HP := Lib.hid h
  obtain ⟨b, o, rfl, hlt, _, _⟩ := h 0 (by omega)
  have HC := Lib.hid hc
  have hn1 : (((n - 1 : Nat)) : Int) = (n : Int) - 1 := by omega
  clear h hc
  go_enter Tryz.func184, Tryz.ntmps184
  go_wp2_with fail
  go_loopw [5] (fun i wr => ∃ k : Nat, k ≤ n - 1 ∧ i = .int .i64 k ∧ Hid (∀ j, k ≤ j → j < n - 1 → decBAt c j = true) ∧ Hid (Below w.heap.size w wr)) (fun i _ => (intOf i).toNat)
  case atStart => exact ⟨n - 1, by omega, by simp; omega, fun j h1 h2 => by omega, Below.refl _ _⟩
  case round =>
    obtain ⟨k, hk, rfl, hu, hI⟩ := hrel
    by_cases hk0 : 0 < k
    · obtain ⟨j, hj⟩ : ∃ j, k = j + 1 := ⟨k - 1, by omega⟩
      obtain ⟨b', o', e', hltk, px, py⟩ := (HP.out.later hI.out) k (by rw [HC.out]; omega)
      obtain ⟨rfl, rfl⟩ : _ = b' ∧ _ = o' := by simpa using e'
      obtain ⟨b', o', e2, hltq, qx, qy⟩ := (HP.out.later hI.out) j (by rw [HC.out]; omega)
      obtain ⟨rfl, rfl⟩ : _ = b' ∧ _ = o' := by simpa using e2
      clear e' e2
      have hkj : (k : Int) - 1 = (j : Int) := by omega
      have hjn : (j : Int) < (n : Int) := by omega
      have hkn : (k : Int) < (n : Int) := by omega
      have px' := later_cell hltk px
      have py' := later_cell hltk py
      have qx' := later_cell hltk qx
      have qy' := later_cell hltk qy
      have HR := Lib.hid (fun (x : Later wr) => rises1_any (c.x k) (c.y k) (c.x j) (c.y j) x.world)
      haveI : Nonempty (Later wr) := ⟨⟨wr, Below.refl _ _⟩⟩
      have HJ := Lib.hid hj
      clear px py qx qy hj
      by_cases hs : cmpI (c.y j) (c.y k) < 0
      · have HF := Lib.hid (show decB c = false by
          cases hd : decB c with
          | false => rfl
          | true =>
            have := allN_iff.1 hd j (by rw [HC.out]; omega)
            have hj := HJ.out
            subst hj
            simp only [cmpI] at hs
            simp only [decide_eq_true_eq] at this
            split at hs <;> omega)
        have hs' := decide_eq_true hs
        go_wp2_with fail
        refine wp_region_later (by kernel_rfl) (by kernel_rfl) ?_
        repeat (go_big_quiet_step ((go_at_call 185; exact later_call (HR.out _))))
        refine wpQuiet_nil ?_
        intro _ hw'
        obtain ⟨⟨W, hW⟩, rfl⟩ := hw'
        have HW := Lib.hid (hI.out.trans (hW.mono hI.out.size))
        clear hW
        go_wp2_with fail
        go_ret
        exact ⟨by rw [HF.out]; rfl, HW.out⟩
      · have hs' := decide_eq_false hs
        have HU := Lib.hid (show ∀ i, j ≤ i → i < n - 1 → decBAt c i = true from fun i h1 h2 => by
          by_cases e : i = j
          · subst e
            have hj := HJ.out
            subst hj
            simp only [cmpI] at hs
            simp only [decBAt, decide_eq_true_eq]
            split at hs <;> omega
          · exact hu.out i (by have := HJ.out; omega) h2)
        go_wp2_with fail
        refine wp_region_later (by kernel_rfl) (by kernel_rfl) ?_
        repeat (go_big_quiet_step ((go_at_call 185; exact later_call (HR.out _))))
        refine wpQuiet_nil ?_
        intro _ hw'
        obtain ⟨⟨W, hW⟩, rfl⟩ := hw'
        have HW := Lib.hid (hI.out.trans (hW.mono hI.out.size))
        clear hW
        go_wp2_with fail
        go_roundw
        case rel => exact ⟨j, by omega, by go_num, HU.out, HW.out⟩
        case measure => simp [intOf]; omega
    · obtain rfl : k = 0 := by omega
      have HT := Lib.hid (show decB c = true from allN_iff.2 fun i hi => hu.out i (by omega) (by rw [HC.out] at hi; exact hi))
      go_wp2_with fail
      go_ret
      exact ⟨by rw [HT.out]; rfl, hI.out⟩
theorem rises_any (p : Option Addr) (n cap : Nat) (c : Cv) (hc : c.n = n) (hn : 1 ≤ n) (hm : n ≤ 1000000) (w : World) (h : Pts w p c) :
    Calls Tryz.prog 166 #[.slice p n cap] w fun e w' => e = .returned (.bool (!decB c)) ∧ Below w.heap.size w w' := by
  have HS := Lib.hid (sorted117 p n cap c hc hn hm w h)
  clear h hc hn hm
  cases hd : decB c with
  | false =>
    have HS' := Lib.hid (by have := HS.out; rw [hd] at this; exact this)
    clear HS
    go_enter Tryz.func166, Tryz.ntmps166
    go_wp2_with fail
    refine HS'.out.mono ?_
    rintro e w' ⟨rfl, hb⟩
    have HB := Lib.hid hb
    clear hb
    go_wp2_with fail
    go_ret
    exact ⟨rfl, HB.out⟩
  | true =>
    have HS' := Lib.hid (by have := HS.out; rw [hd] at this; exact this)
    clear HS
    go_enter Tryz.func166, Tryz.ntmps166
    go_wp2_with fail
    refine HS'.out.mono ?_
    rintro e w' ⟨rfl, hb⟩
    have HB := Lib.hid hb
    clear hb
    go_wp2_with fail
    go_ret
    exact ⟨rfl, HB.out⟩
theorem falls1_any (x y x' y' : Int) (w : World) : Calls Tryz.prog 187 #[.agg #[.int .i64 x, .int .i64 y], .agg #[.int .i64 x', .int .i64 y']] w fun e w' => e = .returned (.int .i64 (cmpI y y')) ∧ Below w.heap.size w w' := by
  go_enter Tryz.func187, Tryz.ntmps187
  go_wp2_with fail
  refine (Compare_any _ _ _).mono ?_
  rintro e w' ⟨rfl, rfl⟩
  go_wp2_with fail
  go_ret
  exact ⟨rfl, ((Below.refl _ _).alloc (Nat.le_refl _) _).alloc (by simp) _⟩
theorem eg119 : ∀ args w, (callFunc 187 args).run Tryz.prog w = .ok (.enter 187 args) w := Go.Proofs.enters_of Tryz.func187 (by kernel_rfl) rfl
theorem sorted119 (p : Option Addr) (n cap : Nat) (c : Cv) (hc : c.n = n) (hn : 1 ≤ n) (hm : n ≤ 1000000) (w : World) (h : Pts w p c) :
    Calls Tryz.prog 184 #[.slice p n cap, .func (.func 187) #[] #[]] w fun e w' => e = .returned (.bool (incB c)) ∧ Below w.heap.size w w' := by
  have HP := Lib.hid h
  obtain ⟨b, o, rfl, hlt, _, _⟩ := h 0 (by omega)
  have HC := Lib.hid hc
  have hn1 : (((n - 1 : Nat)) : Int) = (n : Int) - 1 := by omega
  clear h hc
  go_enter Tryz.func184, Tryz.ntmps184
  go_wp2_with fail
  go_loopw [5] (fun i wr => ∃ k : Nat, k ≤ n - 1 ∧ i = .int .i64 k ∧ Hid (∀ j, k ≤ j → j < n - 1 → incBAt c j = true) ∧ Hid (Below w.heap.size w wr)) (fun i _ => (intOf i).toNat)
  case atStart => exact ⟨n - 1, by omega, by simp; omega, fun j h1 h2 => by omega, Below.refl _ _⟩
  case round =>
    obtain ⟨k, hk, rfl, hu, hI⟩ := hrel
    by_cases hk0 : 0 < k
    · obtain ⟨j, hj⟩ : ∃ j, k = j + 1 := ⟨k - 1, by omega⟩
      obtain ⟨b', o', e', hltk, px, py⟩ := (HP.out.later hI.out) k (by rw [HC.out]; omega)
      obtain ⟨rfl, rfl⟩ : _ = b' ∧ _ = o' := by simpa using e'
      obtain ⟨b', o', e2, hltq, qx, qy⟩ := (HP.out.later hI.out) j (by rw [HC.out]; omega)
      obtain ⟨rfl, rfl⟩ : _ = b' ∧ _ = o' := by simpa using e2
      clear e' e2
      have hkj : (k : Int) - 1 = (j : Int) := by omega
      have hjn : (j : Int) < (n : Int) := by omega
      have hkn : (k : Int) < (n : Int) := by omega
      have px' := later_cell hltk px
      have py' := later_cell hltk py
      have qx' := later_cell hltk qx
      have qy' := later_cell hltk qy
      have HR := Lib.hid (fun (x : Later wr) => falls1_any (c.x k) (c.y k) (c.x j) (c.y j) x.world)
      haveI : Nonempty (Later wr) := ⟨⟨wr, Below.refl _ _⟩⟩
      have HJ := Lib.hid hj
      clear px py qx qy hj
      by_cases hs : cmpI (c.y k) (c.y j) < 0
      · have HF := Lib.hid (show incB c = false by
          cases hd : incB c with
          | false => rfl
          | true =>
            have := allN_iff.1 hd j (by rw [HC.out]; omega)
            have hj := HJ.out
            subst hj
            simp only [cmpI] at hs
            simp only [decide_eq_true_eq] at this
            split at hs <;> omega)
        have hs' := decide_eq_true hs
        go_wp2_with fail
        refine wp_region_later (by kernel_rfl) (by kernel_rfl) ?_
        repeat (go_big_quiet_step ((go_at_call 187; exact later_call (HR.out _))))
        refine wpQuiet_nil ?_
        intro _ hw'
        obtain ⟨⟨W, hW⟩, rfl⟩ := hw'
        have HW := Lib.hid (hI.out.trans (hW.mono hI.out.size))
        clear hW
        go_wp2_with fail
        go_ret
        exact ⟨by rw [HF.out]; rfl, HW.out⟩
      · have hs' := decide_eq_false hs
        have HU := Lib.hid (show ∀ i, j ≤ i → i < n - 1 → incBAt c i = true from fun i h1 h2 => by
          by_cases e : i = j
          · subst e
            have hj := HJ.out
            subst hj
            simp only [cmpI] at hs
            simp only [incBAt, decide_eq_true_eq]
            split at hs <;> omega
          · exact hu.out i (by have := HJ.out; omega) h2)
        go_wp2_with fail
        refine wp_region_later (by kernel_rfl) (by kernel_rfl) ?_
        repeat (go_big_quiet_step ((go_at_call 187; exact later_call (HR.out _))))
        refine wpQuiet_nil ?_
        intro _ hw'
        obtain ⟨⟨W, hW⟩, rfl⟩ := hw'
        have HW := Lib.hid (hI.out.trans (hW.mono hI.out.size))
        clear hW
        go_wp2_with fail
        go_roundw
        case rel => exact ⟨j, by omega, by go_num, HU.out, HW.out⟩
        case measure => simp [intOf]; omega
    · obtain rfl : k = 0 := by omega
      have HT := Lib.hid (show incB c = true from allN_iff.2 fun i hi => hu.out i (by omega) (by rw [HC.out] at hi; exact hi))
      go_wp2_with fail
      go_ret
      exact ⟨by rw [HT.out]; rfl, hI.out⟩
theorem falls_any (p : Option Addr) (n cap : Nat) (c : Cv) (hc : c.n = n) (hn : 1 ≤ n) (hm : n ≤ 1000000) (w : World) (h : Pts w p c) :
    Calls Tryz.prog 169 #[.slice p n cap] w fun e w' => e = .returned (.bool (!incB c)) ∧ Below w.heap.size w w' := by
  have HS := Lib.hid (sorted119 p n cap c hc hn hm w h)
  clear h hc hn hm
  cases hd : incB c with
  | false =>
    have HS' := Lib.hid (by have := HS.out; rw [hd] at this; exact this)
    clear HS
    go_enter Tryz.func169, Tryz.ntmps169
    go_wp2_with fail
    refine HS'.out.mono ?_
    rintro e w' ⟨rfl, hb⟩
    have HB := Lib.hid hb
    clear hb
    go_wp2_with fail
    go_ret
    exact ⟨rfl, HB.out⟩
  | true =>
    have HS' := Lib.hid (by have := HS.out; rw [hd] at this; exact this)
    clear HS
    go_enter Tryz.func169, Tryz.ntmps169
    go_wp2_with fail
    refine HS'.out.mono ?_
    rintro e w' ⟨rfl, hb⟩
    have HB := Lib.hid hb
    clear hb
    go_wp2_with fail
    go_ret
    exact ⟨rfl, HB.out⟩
end Go.Proofs.YtcoiklolgilhaaaGreatDoor
