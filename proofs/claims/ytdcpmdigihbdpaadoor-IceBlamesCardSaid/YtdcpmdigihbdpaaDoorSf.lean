/- The contracts of polynyakit.SameInts and SameTruths: at most 100 elements. -/
import Derived.Test.YtdcpmdigihbdpaaDoorRz
import Derived.Deep.AppendLies
namespace Go.Proofs.YtdcpmdigihbdpaaDoor
open Go.RowKit
set_option maxRecDepth 100000
/-- Values in memory, one cell each. -/
def CellsV (W : World) (p : Option Addr) (l : List Value) : Prop := ∀ i v, l[i]? = some v → ∃ b, p = some ⟨b, 0, none⟩ ∧ b < W.heap.size ∧ W.cell? ⟨b, i, none⟩ = some v
theorem CellsV.later {w W : World} {p : Option Addr} {l : List Value} (h : CellsV w p l) (hb : Below w.heap.size w W) : CellsV W p l := fun i v hv => by
  obtain ⟨b, e, hlt, hc⟩ := h i v hv
  exact ⟨b, e, Nat.lt_of_lt_of_le hlt hb.size, (hb.cell (p := ⟨b, i, none⟩) hlt).trans hc⟩
theorem cellsV_of_row {W : World} {base n : Nat} {e : TypeId} {p : Option Addr} {m c : Nat} {xs : List Value} (h : W.ownsRow base e 1 (.slice p m c) n xs) : CellsV W p xs := fun i v hv => by
  have hr := h
  rcases h.2 with ⟨e1, e2⟩ | ⟨g, cap, cur, e1, _, hg, _⟩
  · have := h.1
    rw [e2] at this
    have hx : xs = [] := List.eq_nil_of_length_eq_zero (by simpa using this)
    rw [hx] at hv
    cases hv
  · cases e1
    have := hr.cells (g := g) rfl i v hv
    have hadd : (⟨g, 0, none⟩ : Addr).add i = ⟨g, i, none⟩ := by unfold Addr.add; split <;> simp_all
    rw [hadd] at this
    exact ⟨g, rfl, lt_of_block hg, this⟩
def intL (l : List Int) : List Value := l.map (Value.int .i64)
def truL (l : List Bool) : List Value := l.map Value.bool
def eqTo (x y : Nat → Int) (k : Nat) : Prop := ∀ j, j < k → x j = y j
theorem SameInts_any (pa pb : Option Addr) (ca cb : Nat) (la lb : List Int) (hla : la.length ≤ 100) (hlb : lb.length ≤ 100) (w : World) (ha : CellsV w pa (intL la)) (hb : CellsV w pb (intL lb)) :
    Calls Tryd.prog 45 #[.slice pa la.length ca, .slice pb lb.length cb] w fun e w' => e = .returned (.bool (decide (la = lb))) ∧ Below w.heap.size w w' := by
  have HA := Lib.hid ha
  have HB := Lib.hid hb
  clear ha hb
  by_cases hlen : la.length = lb.length
  · have hlen' : (la.length : Int) = (lb.length : Int) := by omega
    have HLen := Lib.hid hlen
    generalize hna : la.length = na at *
    generalize hnb : lb.length = nb at *
    clear hlen
    obtain rfl : na = nb := HLen.out
    have HNA := Lib.hid hna
    have HNB := Lib.hid hnb
    clear hna hnb HLen hlen'
    go_enter Tryd.func45, Tryd.ntmps45
    go_wp2_with fail
    go_loopw [5] (fun i wr => ∃ k : Nat, k ≤ na ∧ i = .int .i64 k ∧ Hid (∀ j, j < k → la[j]? = lb[j]?) ∧ Hid (Below w.heap.size w wr)) (fun i _ => na - (intOf i).toNat)
    case atStart => exact ⟨0, by omega, rfl, fun j hj => by omega, Below.refl _ _⟩
    case round =>
      obtain ⟨k, hk, rfl, hE, hBl⟩ := hrel
      by_cases hlt : k < na
      · have hk0 : (0 : Int) ≤ (k : Int) := by omega
        have hk1 : (k : Int) < (na : Int) := by omega
        have hka : k < la.length := by rw [HNA.out]; exact hlt
        have hkb : k < lb.length := by rw [HNB.out]; exact hlt
        obtain ⟨ba, rfl, lba, qa⟩ := (HA.out.later hBl.out) k (Value.int .i64 la[k]) (by simp [intL, hka])
        obtain ⟨bb, rfl, lbb, qb⟩ := (HB.out.later hBl.out) k (Value.int .i64 lb[k]) (by simp [intL, hkb])
        have HXa := Lib.hid (show la[k]? = some la[k] from List.getElem?_eq_getElem hka)
        have HXb := Lib.hid (show lb[k]? = some lb[k] from List.getElem?_eq_getElem hkb)
        generalize la[k] = x at *
        generalize lb[k] = y at *
        have qa' := later_cell lba qa
        have qb' := later_cell lbb qb
        haveI : Nonempty (Later wr) := ⟨⟨wr, Below.refl _ _⟩⟩
        clear qa qb hka hkb
        by_cases hxy : x = y
        · have HXY := Lib.hid hxy
          subst hxy
          have hne : (x != x) = false := by simp
          go_wp2_with fail
          refine wp_region_later (by kernel_rfl) (by kernel_rfl) ?_
          repeat (go_big_quiet_step (fail))
          refine wpQuiet_nil ?_
          intro _ hw'
          obtain ⟨⟨W, hW⟩, rfl⟩ := hw'
          have HW := Lib.hid (hBl.out.trans (hW.mono hBl.out.size))
          clear hW
          go_wp2_with fail
          go_roundw
          case rel => exact ⟨k + 1, by omega, by go_num, fun j hj => by by_cases e : j = k; (· rw [e, HXa.out, HXb.out]); (· exact hE.out j (by omega)), HW⟩
          case measure => simp [intOf]; omega
        · have hne : (x != y) = true := by simpa using hxy
          have HF := Lib.hid (show decide (la = lb) = false from decide_eq_false (fun e => by
            have h1 := HXa.out
            rw [e, HXb.out] at h1
            exact hxy (Option.some.inj h1).symm))
          go_wp2_with fail
          refine wp_region_later (by kernel_rfl) (by kernel_rfl) ?_
          repeat (go_big_quiet_step (fail))
          refine wpQuiet_nil ?_
          intro _ hw'
          obtain ⟨⟨W, hW⟩, rfl⟩ := hw'
          have HW := Lib.hid (hBl.out.trans (hW.mono hBl.out.size))
          clear hW
          go_wp2_with fail
          go_ret
          exact ⟨by rw [HF.out]; rfl, HW.out⟩
      · obtain rfl : k = na := by omega
        have HF := Lib.hid (show decide (la = lb) = true from decide_eq_true (List.ext_getElem? fun j => by
          by_cases hj : j < k
          · exact hE.out j hj
          · rw [List.getElem?_eq_none (by rw [HNA.out]; omega), List.getElem?_eq_none (by rw [HNB.out]; omega)]))
        go_wp2_with fail
        go_ret
        exact ⟨by rw [HF.out]; rfl, hBl.out⟩
  · have hlen' : ¬ (la.length : Int) = (lb.length : Int) := by omega
    have HE := Lib.hid (show decide (la = lb) = false from decide_eq_false (fun e => hlen (by rw [e])))
    go_enter Tryd.func45, Tryd.ntmps45
    go_wp2_with fail
    go_ret
    exact ⟨by rw [HE.out]; rfl, Below.refl _ _⟩
theorem SameTruths_any (pa pb : Option Addr) (ca cb : Nat) (la lb : List Bool) (hla : la.length ≤ 100) (hlb : lb.length ≤ 100) (w : World) (ha : CellsV w pa (truL la)) (hb : CellsV w pb (truL lb)) :
    Calls Tryd.prog 42 #[.slice pa la.length ca, .slice pb lb.length cb] w fun e w' => e = .returned (.bool (decide (la = lb))) ∧ Below w.heap.size w w' := by
  have HA := Lib.hid ha
  have HB := Lib.hid hb
  clear ha hb
  by_cases hlen : la.length = lb.length
  · have hlen' : (la.length : Int) = (lb.length : Int) := by omega
    have HLen := Lib.hid hlen
    generalize hna : la.length = na at *
    generalize hnb : lb.length = nb at *
    clear hlen
    obtain rfl : na = nb := HLen.out
    have HNA := Lib.hid hna
    have HNB := Lib.hid hnb
    clear hna hnb HLen hlen'
    go_enter Tryd.func42, Tryd.ntmps42
    go_wp2_with fail
    go_loopw [5] (fun i wr => ∃ k : Nat, k ≤ na ∧ i = .int .i64 k ∧ Hid (∀ j, j < k → la[j]? = lb[j]?) ∧ Hid (Below w.heap.size w wr)) (fun i _ => na - (intOf i).toNat)
    case atStart => exact ⟨0, by omega, rfl, fun j hj => by omega, Below.refl _ _⟩
    case round =>
      obtain ⟨k, hk, rfl, hE, hBl⟩ := hrel
      by_cases hlt : k < na
      · have hk0 : (0 : Int) ≤ (k : Int) := by omega
        have hk1 : (k : Int) < (na : Int) := by omega
        have hka : k < la.length := by rw [HNA.out]; exact hlt
        have hkb : k < lb.length := by rw [HNB.out]; exact hlt
        obtain ⟨ba, rfl, lba, qa⟩ := (HA.out.later hBl.out) k (Value.bool la[k]) (by simp [truL, hka])
        obtain ⟨bb, rfl, lbb, qb⟩ := (HB.out.later hBl.out) k (Value.bool lb[k]) (by simp [truL, hkb])
        have HXa := Lib.hid (show la[k]? = some la[k] from List.getElem?_eq_getElem hka)
        have HXb := Lib.hid (show lb[k]? = some lb[k] from List.getElem?_eq_getElem hkb)
        generalize la[k] = x at *
        generalize lb[k] = y at *
        have qa' := later_cell lba qa
        have qb' := later_cell lbb qb
        haveI : Nonempty (Later wr) := ⟨⟨wr, Below.refl _ _⟩⟩
        clear qa qb hka hkb
        by_cases hxy : x = y
        · have HXY := Lib.hid hxy
          subst hxy
          have hne : (x != x) = false := by simp
          go_wp2_with fail
          refine wp_region_later (by kernel_rfl) (by kernel_rfl) ?_
          repeat (go_big_quiet_step (fail))
          refine wpQuiet_nil ?_
          intro _ hw'
          obtain ⟨⟨W, hW⟩, rfl⟩ := hw'
          have HW := Lib.hid (hBl.out.trans (hW.mono hBl.out.size))
          clear hW
          go_wp2_with fail
          all_goals (go_roundw; (case rel => exact ⟨k + 1, by omega, by go_num, fun j hj => by by_cases e : j = k; (· rw [e, HXa.out, HXb.out]); (· exact hE.out j (by omega)), HW⟩); (case measure => simp [intOf]; omega))
        · cases x <;> cases y
          case false.false => exact absurd rfl hxy
          case true.true => exact absurd rfl hxy
          all_goals
            have HF := Lib.hid (show decide (la = lb) = false from decide_eq_false (fun e => by
              have h1 := HXa.out
              rw [e, HXb.out] at h1
              exact hxy (Option.some.inj h1).symm))
            go_wp2_with fail
            refine wp_region_later (by kernel_rfl) (by kernel_rfl) ?_
            repeat (go_big_quiet_step (fail))
            refine wpQuiet_nil ?_
            intro _ hw'
            obtain ⟨⟨W, hW⟩, rfl⟩ := hw'
            have HW := Lib.hid (hBl.out.trans (hW.mono hBl.out.size))
            clear hW
            go_wp2_with fail
            all_goals (go_ret; exact ⟨by rw [HF.out]; rfl, HW.out⟩)
      · obtain rfl : k = na := by omega
        have HF := Lib.hid (show decide (la = lb) = true from decide_eq_true (List.ext_getElem? fun j => by
          by_cases hj : j < k
          · exact hE.out j hj
          · rw [List.getElem?_eq_none (by rw [HNA.out]; omega), List.getElem?_eq_none (by rw [HNB.out]; omega)]))
        go_wp2_with fail
        go_ret
        exact ⟨by rw [HF.out]; rfl, hBl.out⟩
  · have hlen' : ¬ (la.length : Int) = (lb.length : Int) := by omega
    have HE := Lib.hid (show decide (la = lb) = false from decide_eq_false (fun e => hlen (by rw [e])))
    go_enter Tryd.func42, Tryd.ntmps42
    go_wp2_with fail
    go_ret
    exact ⟨by rw [HE.out]; rfl, Below.refl _ _⟩
end Go.Proofs.YtdcpmdigihbdpaaDoor
