/- Pure facts on legs, single operations, the contract of what a part takes. -/
import Derived.Test.YtcoiklolgilhaaaGreatDoorPt
import Derived.Test.YtcoiklolgilhaaaGreatDoorPu
import Derived.Laws.MakeOwn
import Derived.OwnWalk
namespace Go.Proofs.YtcoiklolgilhaaaGreatDoor
open Go.RowKit
set_option maxRecDepth 100000
theorem besP_speed {s : Sh} {i : Ic} {ch : Bool} (h : besP s i ch = false) : 10 ≤ speedP s i ch := by
  have := of_decide_eq_false h
  omega
theorem safe_ten {s : Sh} (g : Good s) {i : Ic} (gi : GoodI i) {ch : Bool} (hb : besP s i ch = false) (hy : beyP s i ch 10 = false) : 10 ≤ safeP s i ch ∧ safeP s i ch ≤ 250 := by
  obtain ⟨n, hn, hn2, hn3⟩ := top_nat g
  have hsp := besP_speed hb
  have ga := great_spec (makes_anti g gi ch (lastXP s.th).toNat)
  have htop := g.top
  have h10 : makesP s i ch ((10 : Nat) : Int) = true := by
    have h0 : makesP s i ch ((0 : Nat) : Int) = true := by
      cases h0 : makesP s i ch ((0 : Nat) : Int) with
      | true => rfl
      | false =>
        unfold speedP greatP at hsp
        simp only [h0] at hsp
        simp at hsp
    have := ga.2.1 h0
    exact makes_anti g gi ch (lastXP s.th).toNat 10 _ hsp ga.1 this
  have hsb : safeB s i ch 10 = true := by
    unfold safeB
    rw [h10]
    have : beyP s i ch ((10 : Nat) : Int) = false := hy
    rw [this]; rfl
  have gs := great_spec (safeB_anti g gi ch (lastXP s.th).toNat)
  refine ⟨?_, ?_⟩
  · rcases Nat.lt_or_ge (safeP s i ch) 10 with h | h
    · have := gs.2.2 10 h (by omega)
      rw [hsb] at this; cases this
    · exact h
  · have := gs.1
    unfold safeP
    omega
theorem ss_bounds {s : Sh} (g : Good s) {lo hi : Ic} (gc : GoodC lo hi) {ch : Bool} (h : ssE s lo hi ch = 0) : 10 ≤ ssLo s lo hi ch ∧ ssLo s lo hi ch ≤ 250 ∧ 10 ≤ ssHi s lo hi ch ∧ ssHi s lo hi ch ≤ 250 := by
  have h1 : (besP s hi ch || besP s lo ch) = false := by
    cases hb : (besP s hi ch || besP s lo ch) with
    | false => rfl
    | true => unfold ssE at h; rw [hb] at h; simp at h
  have h2 : (beyP s hi ch 10 || beyP s lo ch 10) = false := by
    cases hb : (beyP s hi ch 10 || beyP s lo ch 10) with
    | false => rfl
    | true => unfold ssE at h; rw [h1, hb] at h; simp at h
  simp only [Bool.or_eq_false_iff] at h1 h2
  have a := safe_ten g gc.gh h1.1 h2.1
  have b := safe_ten g gc.gl h1.2 h2.2
  unfold ssLo ssHi
  rw [if_pos h, if_pos h]
  simp only [spanLo, spanHi, mn, mx]
  omega
/-- how long a part takes at a speed -/
def takesP (q : Prt) (v : Int) : Int := cdiv (60 * q.len) v
theorem takes_bd {q : Prt} (h1 : 1 ≤ q.len) (h2 : q.len ≤ 10000) {v : Int} (hv : 10 ≤ v) : 0 ≤ takesP q v ∧ takesP q v ≤ 60000 := by
  constructor
  · exact Int.ediv_nonneg (by omega) (by omega)
  · unfold takesP
    rw [cdiv_le (by omega)]
    have := Int.mul_le_mul_of_nonneg_left hv (show (0 : Int) ≤ 60000 by omega)
    omega
def legLo (s : Sh) (P : Nat → Prt) : Nat → Int
  | 0 => 0
  | k + 1 => legLo s P k + takesP (P k) (ssHi s (P k).lo (P k).hi (P k).ch)
def legHi (s : Sh) (P : Nat → Prt) : Nat → Int
  | 0 => 0
  | k + 1 => legHi s P k + takesP (P k) (ssLo s (P k).lo (P k).hi (P k).ch)
def spdL (s : Sh) (P : Nat → Prt) : Nat → List Value
  | 0 => []
  | k + 1 => spdL s P k ++ [.int .i64 (ssLo s (P k).lo (P k).hi (P k).ch)]
theorem spdL_len (s : Sh) (P : Nat → Prt) : ∀ k, (spdL s P k).length = k
  | 0 => rfl
  | k + 1 => by simp [spdL, spdL_len s P k]
def pE (s : Sh) (q : Prt) : Int := ssE s q.lo q.hi q.ch
/-- the parts up to k have a safe speed -/
def LegTo (s : Sh) (P : Nat → Prt) (k : Nat) : Prop := ∀ j, j < k → pE s (P j) = 0
theorem peG_zero {P : Nat → Prt} : ∀ f i, peG P f i = 0 → ∀ j, i ≤ j → j < i + f → partE (P j) = 0
  | 0, i, _, j, h1, h2 => by omega
  | f + 1, i, h, j, h1, h2 => by
    unfold peG at h
    by_cases e : partE (P i) = 0
    · rw [if_pos e] at h
      by_cases hj : j = i
      · rw [hj]; exact e
      · exact peG_zero f (i + 1) h j (by omega) (by omega)
    · rw [if_neg e] at h; exact absurd h e
theorem partE_ok {q : Prt} (h : partE q = 0) : 1 ≤ q.len ∧ q.len ≤ 10000 ∧ GoodC q.lo q.hi := by
  unfold partE at h
  by_cases hl : 1 ≤ q.len ∧ q.len ≤ 10000
  · rw [if_pos hl] at h; exact ⟨hl.1, hl.2, cellE_ok h⟩
  · rw [if_neg hl] at h; cases h
theorem partsE_ok {P : Nat → Prt} {n : Nat} (h : partsE P n = 0) : n ≤ 100 ∧ ∀ j, j < n → 1 ≤ (P j).len ∧ (P j).len ≤ 10000 ∧ GoodC (P j).lo (P j).hi := by
  unfold partsE at h
  by_cases hn : 1 ≤ n ∧ n ≤ 100
  · rw [if_pos hn] at h
    exact ⟨hn.2, fun j hj => partE_ok (peG_zero n 0 h j (by omega) (by omega))⟩
  · rw [if_neg hn] at h; cases h
theorem leg_bd {s : Sh} (g : Good s) {P : Nat → Prt} {n : Nat} (hp : ∀ j, j < n → 1 ≤ (P j).len ∧ (P j).len ≤ 10000 ∧ GoodC (P j).lo (P j).hi) : ∀ k, k ≤ n → LegTo s P k → 0 ≤ legLo s P k ∧ legLo s P k ≤ 60000 * k ∧ 0 ≤ legHi s P k ∧ legHi s P k ≤ 60000 * k
  | 0, _, _ => by simp [legLo, legHi]
  | k + 1, hk, h => by
    obtain ⟨a, b, c, d⟩ := leg_bd g hp k (by omega) (fun j hj => h j (by omega))
    obtain ⟨p1, p2, p3⟩ := hp k (by omega)
    obtain ⟨s1, s2, s3, s4⟩ := ss_bounds g p3 (h k (by omega))
    have t1 := takes_bd p1 p2 s1
    have t2 := takes_bd p1 p2 s3
    simp only [legLo, legHi]
    omega
section
variable {Q : Exit → Act → World → Prop} {o : Oper} {a' : Act} {W : World}
theorem op_fa57 {s b k : Nat} (hop : o.op = Op.fieldAddr 28 (.tmp s) k) (he : a'.eval (.tmp s) = .pointer (some ⟨b, 0, none⟩)) (hk : k < 2) :
    o.wp Tryz.prog a' W (fun a'' W' => a'' = a'.put o.dst (.pointer (some ⟨b, k, none⟩)) ∧ Below W.heap.size W W') Q := by
  have hr := Below.refl W.heap.size W
  have he' : a'.tmps[s]?.getD undef = .pointer (some ⟨b, 0, none⟩) := by simpa [Act.eval] using he
  unfold Oper.wp execOp
  rw [hop]
  have : k = 0 ∨ k = 1 := by omega
  rcases this with rfl | rfl <;> simp [go_sem, he', hr]
theorem op_load3 {s b off : Nat} {v : Value} (hop : o.op = Op.load 3 (.tmp s)) (he : a'.eval (.tmp s) = .pointer (some ⟨b, off, none⟩)) (hc : W.cell? ⟨b, off, none⟩ = some v) :
    o.wp Tryz.prog a' W (fun a'' W' => a'' = a'.put o.dst v ∧ Below W.heap.size W W') Q := by
  have hr := Below.refl W.heap.size W
  have he' : a'.tmps[s]?.getD undef = .pointer (some ⟨b, off, none⟩) := by simpa [Act.eval] using he
  unfold Oper.wp execOp
  rw [hop]
  simp [go_sem, he', hc, hr]
theorem op_addt {s t : Nat} {x y : Int} (hop : o.op = Op.binOp .add 3 (.tmp s) (.tmp t) 3) (he : a'.eval (.tmp s) = .int .i64 x) (ht : a'.eval (.tmp t) = .int .i64 y) (hw : -9223372036854775808 ≤ x + y ∧ x + y ≤ 9223372036854775807) :
    o.wp Tryz.prog a' W (fun a'' W' => a'' = a'.put o.dst (.int .i64 (x + y)) ∧ Below W.heap.size W W') Q := by
  have hr := Below.refl W.heap.size W
  have he' : a'.tmps[s]?.getD undef = .int .i64 x := by simpa [Act.eval] using he
  have ht' : a'.tmps[t]?.getD undef = .int .i64 y := by simpa [Act.eval] using ht
  have hw' := i64w _ hw
  unfold Oper.wp execOp
  rw [hop]
  simp [go_sem, he', ht', hw', hr]
theorem op_callv {f : Nat} {s t : Nat} {v r : Value} {lb : Array Value} {ts : Array TypeId} (hop : o.op = Op.call { callee := .value (.tmp t), args := #[.tmp s], argTypes := ts })
    (ht : a'.eval (.tmp t) = .func (.func f) #[] lb) (he : a'.eval (.tmp s) = v) (eg : ∀ args w, (callFunc f args).run Tryz.prog w = .ok (.enter f args) w) (hc : Calls Tryz.prog f (#[v] ++ lb) W fun e w' => e = .returned r ∧ Below W.heap.size W w') :
    o.wp Tryz.prog a' W (fun a'' W' => a'' = a'.put o.dst r ∧ Below W.heap.size W W') Q := by
  have he' : a'.tmps[s]?.getD undef = v := by simpa [Act.eval] using he
  have ht' : a'.tmps[t]?.getD undef = .func (.func f) #[] lb := by simpa [Act.eval] using ht
  unfold Oper.wp execOp
  rw [hop]
  simp [go_sem, he', ht', eg]
  refine hc.mono ?_
  rintro e w' ⟨rfl, hb⟩
  exact ⟨rfl, hb⟩
theorem list_store3 {ops : Array Oper} {rest : List Oper} {a : Act} {s r b off : Nat} {t : TypeId} {cs : Array Value} {v : Int} (hg : o.guard = none) (hd : o.dst = none) (hop : o.op = Op.store 3 (.tmp s) (.tmp r))
    (he : a.eval (.tmp s) = .pointer (some ⟨b, off, none⟩)) (hv : a.eval (.tmp r) = .int .i64 v) (hb : W.heap[b]? = some (.cells cs t (0, 0))) (hlt : off < cs.size)
    (hK : ∀ W', W'.heap[b]? = some (.cells (cs.setIfInBounds off (.int .i64 v)) t (0, 0)) → Chg b W W' → wpList Tryz.prog ops Q rest a W') : wpList Tryz.prog ops Q (o :: rest) a W := by
  have c := (cell_of_block hb off).trans (Array.getElem?_eq_getElem hlt)
  have f := frozen_of_block hb off
  have he' : a.tmps[s]?.getD undef = .pointer (some ⟨b, off, none⟩) := by simpa [Act.eval] using he
  have hv' : a.tmps[r]?.getD undef = .int .i64 v := by simpa [Act.eval] using hv
  refine list_store hg hd ?_ (hK (W.setCell ⟨b, off, none⟩ (.int .i64 v)) (setCell_block hb off _) (chg_setCell W b off _))
  unfold execOp
  rw [hop]
  simp [go_sem, he', hv', c, f]
end
theorem eg75 : ∀ args w, (callFunc 94 args).run Tryz.prog w = .ok (.enter 94 args) w := Go.Proofs.enters_of Tryz.func94 (by kernel_rfl) rfl
theorem eg74 : ∀ args w, (callFunc 93 args).run Tryz.prog w = .ok (.enter 93 args) w := Go.Proofs.enters_of Tryz.func93 (by kernel_rfl) rfl
theorem Leg1_any (q : Prt) (h1 : 1 ≤ q.len) (h2 : q.len ≤ 10000) (v : Int) (hv : 10 ≤ v) (hv' : v ≤ 250) (b : Nat) (w : World) (hb : w.heap[b]? = some (.cells (partV q) 67 (0, 0))) :
    Calls Tryz.prog 94 #[.int .i64 v, .pointer (some ⟨b, 0, none⟩)] w fun e w' => e = .returned (.int .i64 (takesP q v)) ∧ Below w.heap.size w w' := by
  obtain ⟨c0, c1, c2, c3, c4, c5, c6, c7, c8, c9⟩ := cells10 hb
  have HE := Lib.hid (show takesP q v = cdiv (60 * q.len) v from rfl)
  clear hb
  go_enter Tryz.func94, Tryz.ntmps94
  go_wp2_with fail
  refine (roundedUp_any _ _ (by omega) (by omega) (by omega) (by omega) _).mono ?_
  rintro e w' ⟨rfl, rfl⟩
  go_wp2_with fail
  go_ret
  exact ⟨by rw [HE.out]; rfl, Below.refl _ _⟩
end Go.Proofs.YtcoiklolgilhaaaGreatDoor
