/- The contracts of the law's Example and Level, and of slices.Equal over ints. At most a million ints. -/
import Derived.Test.YtcoiklolgilhaaaGreatDoorPw
namespace Go.Proofs.YtcoiklolgilhaaaGreatDoor
open Go.RowKit
set_option maxRecDepth 100000
def cvOf (l : List (Int × Int)) : Cv := ⟨l.length, fun i => (l[i]?.getD (0, 0)).1, fun i => (l[i]?.getD (0, 0)).2⟩
def exS : Sh := { cls := 3, pow := 6000, dra := 800, ton := 9000, th := cvOf [(0, 1000), (100, 800), (200, 0)], wa := cvOf [(0, 0), (200, 400)], ic := cvOf [(0, 0), (400, 2000)], slow := 0, brash := 20, ridge := 10, press := 100 }
def exM (b : Nat) : Mem3 := ⟨some ⟨b + 1, 0, none⟩, some ⟨b + 1 + 1, 0, none⟩, some ⟨b + 1 + 1 + 1, 0, none⟩, 3, 2, 2⟩
theorem pts_block2 {W : World} {b : Nat} {t : TypeId} {x0 y0 x1 y1 : Int} (h : W.heap[b]? = some (.cells #[.int .i64 x0, .int .i64 y0, .int .i64 x1, .int .i64 y1] t (0, 0))) : Pts W (some ⟨b, 0, none⟩) (cvOf [(x0, y0), (x1, y1)]) := fun i hi => by
  have c := fun o => cell_of_block h o
  refine ⟨b, 0, rfl, lt_of_block h, ?_⟩
  have hi' : i < 2 := hi
  match i, hi' with
  | 0, _ => exact ⟨(c 0).trans rfl, (c 1).trans rfl⟩
  | 1, _ => exact ⟨(c 2).trans rfl, (c 3).trans rfl⟩
theorem pts_block3 {W : World} {b : Nat} {t : TypeId} {x0 y0 x1 y1 x2 y2 : Int} (h : W.heap[b]? = some (.cells #[.int .i64 x0, .int .i64 y0, .int .i64 x1, .int .i64 y1, .int .i64 x2, .int .i64 y2] t (0, 0))) : Pts W (some ⟨b, 0, none⟩) (cvOf [(x0, y0), (x1, y1), (x2, y2)]) := fun i hi => by
  have c := fun o => cell_of_block h o
  refine ⟨b, 0, rfl, lt_of_block h, ?_⟩
  have hi' : i < 3 := hi
  match i, hi' with
  | 0, _ => exact ⟨(c 0).trans rfl, (c 1).trans rfl⟩
  | 1, _ => exact ⟨(c 2).trans rfl, (c 3).trans rfl⟩
  | 2, _ => exact ⟨(c 4).trans rfl, (c 5).trans rfl⟩
theorem Example_any (w : World) : Calls Tryz.prog 46 #[] w fun e w' => e = .returned (.agg (shipA exS (exM w.heap.size))) ∧ ShipIn w' exS (exM w.heap.size) ∧ Below w.heap.size w w' := by
  go_enter Tryz.func46, Tryz.ntmps46
  go_wp2_with fail
  obtain ⟨t1, t2, t3, t4, t5, t6⟩ := four_allocs w (.cells (shipA exS (exM w.heap.size)) 24) (.cells #[.int .i64 0, .int .i64 1000, .int .i64 100, .int .i64 800, .int .i64 200, .int .i64 0] 89) (.cells #[.int .i64 0, .int .i64 0, .int .i64 200, .int .i64 400] 89) (.cells #[.int .i64 0, .int .i64 0, .int .i64 400, .int .i64 2000] 89)
  obtain ⟨c0, c1, c2, c3, c4, c5, c6, c7, c8, c9, c10⟩ := cells11 t1
  refine bodyPost_ret (v := .agg (shipA exS (exM w.heap.size))) ?_ rfl ⟨rfl, ⟨pts_block3 t2, pts_block2 t3, pts_block2 t4, show 3 ≤ 3 from Nat.le_refl _, show 2 ≤ 2 from Nat.le_refl _, show 2 ≤ 2 from Nat.le_refl _, by decide, by decide, by decide⟩, t6⟩
  simp [results, Tryz.results46, go_sem, exS, exM, cvOf]
theorem Level_any (a b : Int) (w : World) : Calls Tryz.prog 48 #[.int .i64 a, .int .i64 b] w fun e w' => e = .returned (.agg (cellV ⟨100, a, 0, 0⟩ ⟨100, b, 0, 0⟩)) ∧ Below w.heap.size w w' := by
  go_enter Tryz.func48, Tryz.ntmps48
  go_wp2_with fail
  refine bodyPost_ret (v := .agg (cellV ⟨100, a, 0, 0⟩ ⟨100, b, 0, 0⟩)) (by simp [results, Tryz.results48, go_sem]) rfl ⟨rfl, (Below.refl _ _).alloc (Nat.le_refl _) _⟩
/-- ints in memory, one cell each -/
def IntsAt (W : World) (p : Option Addr) (l : List Int) : Prop := ∀ i v, l[i]? = some v → ∃ b, p = some ⟨b, 0, none⟩ ∧ b < W.heap.size ∧ W.cell? ⟨b, i, none⟩ = some (.int .i64 v)
theorem IntsAt.later {w W : World} {p : Option Addr} {l : List Int} (h : IntsAt w p l) (hb : Below w.heap.size w W) : IntsAt W p l := fun i v hv => by
  obtain ⟨b, e, hlt, hc⟩ := h i v hv
  exact ⟨b, e, Nat.lt_of_lt_of_le hlt hb.size, (hb.cell (p := ⟨b, i, none⟩) hlt).trans hc⟩
set_option maxHeartbeats 1000000 in
theorem EqualInts_same (pa pb : Option Addr) (ca cb : Nat) (l : List Int) (n : Nat) (hn : l.length = n) (hm : n ≤ 1000000) (w : World) (ha : IntsAt w pa l) (hb : IntsAt w pb l) :
    Calls Tryz.prog 63 #[.slice pa n ca, .slice pb n cb] w fun e w' => e = .returned (.bool true) ∧ Below w.heap.size w w' := by
  have HA := Lib.hid ha
  have HB := Lib.hid hb
  have HN := Lib.hid hn
  clear ha hb hn
  go_enter Tryz.func63, Tryz.ntmps63
  go_wp2_with fail
  go_loopw [13] (fun i wr => ∃ k : Nat, k ≤ n ∧ i = .int .i64 k ∧ Hid (Below w.heap.size w wr)) (fun i _ => n - (intOf i).toNat)
  case atStart => exact ⟨0, by omega, rfl, Below.refl _ _⟩
  case round =>
    obtain ⟨k, hk, rfl, hI⟩ := hrel
    by_cases hlt : k < n
    · have hk0 : (0 : Int) ≤ (k : Int) := by omega
      have hk1 : (k : Int) < (n : Int) := by omega
      have hkl : k < l.length := by rw [HN.out]; exact hlt
      obtain ⟨ba, rfl, lba, qa⟩ := (HA.out.later hI.out) k l[k] (List.getElem?_eq_getElem hkl)
      obtain ⟨bb, rfl, lbb, qb⟩ := (HB.out.later hI.out) k l[k] (List.getElem?_eq_getElem hkl)
      generalize l[k] = x at *
      have qa' := later_cell lba qa
      have qb' := later_cell lbb qb
      haveI : Nonempty (Later wr) := ⟨⟨wr, Below.refl _ _⟩⟩
      clear qa qb hkl
      have hne : (x != x) = false := by simp
      go_wp2_with fail
      refine wp_region_later (by kernel_rfl) (by kernel_rfl) ?_
      repeat (go_big_quiet_step (fail))
      refine wpQuiet_nil ?_
      intro _ hw'
      obtain ⟨⟨W, hW⟩, rfl⟩ := hw'
      have HW := Lib.hid (hI.out.trans (hW.mono hI.out.size))
      clear hW
      go_wp2_with fail
      go_roundw
      case rel => exact ⟨k + 1, by omega, by go_num, HW⟩
      case measure => simp [intOf]; omega
    · obtain rfl : k = n := by omega
      go_wp2_with fail
      go_ret
      exact ⟨rfl, hI.out⟩
theorem ints_of_row {W : World} {base n : Nat} {e : TypeId} {p : Option Addr} {m c : Nat} {l : List Int} (h : W.ownsRow base e 1 (.slice p m c) n (l.map (Value.int .i64))) : IntsAt W p l := fun i v hv => by
  have hr := h
  rcases h.2 with ⟨e1, e2⟩ | ⟨g, cap, cur, e1, _, hg, _⟩
  · have := h.1
    rw [e2] at this
    have hx : l = [] := List.eq_nil_of_length_eq_zero (by simpa using this)
    rw [hx] at hv
    cases hv
  · cases e1
    have := hr.cells (g := g) rfl i (.int .i64 v) (by simp [hv])
    have hadd : (⟨g, 0, none⟩ : Addr).add i = ⟨g, i, none⟩ := by unfold Addr.add; split <;> simp_all
    rw [hadd] at this
    exact ⟨g, rfl, lt_of_block hg, this⟩
end Go.Proofs.YtcoiklolgilhaaaGreatDoor
