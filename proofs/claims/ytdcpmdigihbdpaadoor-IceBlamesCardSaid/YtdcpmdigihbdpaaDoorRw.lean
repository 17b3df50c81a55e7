/- The contract of work.trusted: at most 12 reports that can be told. The table of limits holds 100, 400, 100, 3. -/
import Derived.Test.YtdcpmdigihbdpaaDoorRt
import Derived.Test.YtdcpmdigihbdpaaDoorRr
import Derived.Test.YtdcpmdigihbdpaaDoorRv
namespace Go.Proofs.YtdcpmdigihbdpaaDoor
open Go.RowKit
set_option maxRecDepth 100000
/-- Whether what reports tell has something in common, for the set of each number. -/
def agB (CL CH : Nat → Nat → Int) (n : Nat) (x : Nat) : Bool := cmOK (setF n x) CL CH n
def foundL (CL CH : Nat → Nat → Int) (n : Nat) : List Nat := (gr n (agB CL CH n) (List.range (2 ^ n))).2
theorem greatest_f (CL CH : Nat → Nat → Int) (b n : Nat) (hn : n ≤ 12) (w : World) (hl : Lim w) (hb : b < w.heap.size) (hc : CellsAt w b n CL CH) :
    Calls Tryd.prog 101 #[.slice (some ⟨b, 0, none⟩) n n] w fun e w' => ∃ v, e = .returned v ∧ w'.ownsRow w.heap.size 152 12 v (foundL CL CH n).length (setRow n (foundL CL CH n)) ∧ Below w.heap.size w w' := greatest_any CL CH b n hn w hl hb hc
/-- The first set of a list that is not empty. -/
def headS (CL CH : Nat → Nat → Int) (n : Nat) : Nat → Bool := setF n ((foundL CL CH n).headD 0)
theorem setF_none (n j : Nat) : setF n (2 ^ n - 1) j = false := by
  unfold setF pset
  by_cases h : j < n
  · have e : (2 ^ n - 1) / 2 ^ (n - 1 - j) % 2 = 1 := by
      have h1 : 2 ^ n = 2 ^ (j + 1) * 2 ^ (n - 1 - j) := by rw [← Nat.pow_add]; congr 1; omega
      have hp : 0 < 2 ^ (n - 1 - j) := Nat.pow_pos (by decide)
      have h2 : (2 ^ n - 1) / 2 ^ (n - 1 - j) = 2 ^ (j + 1) - 1 := by
        rw [h1]
        have h3 : 1 ≤ 2 ^ (j + 1) := Nat.one_le_two_pow
        have h4 : 2 ^ (j + 1) * 2 ^ (n - 1 - j) - 1 = (2 ^ (j + 1) - 1) * 2 ^ (n - 1 - j) + (2 ^ (n - 1 - j) - 1) := by
          have : 2 ^ (j + 1) * 2 ^ (n - 1 - j) = (2 ^ (j + 1) - 1) * 2 ^ (n - 1 - j) + 2 ^ (n - 1 - j) := by
            rw [Nat.sub_mul, Nat.one_mul]
            have : 2 ^ (n - 1 - j) ≤ 2 ^ (j + 1) * 2 ^ (n - 1 - j) := Nat.le_mul_of_pos_left _ (Nat.lt_of_lt_of_le (by decide) h3)
            omega
          omega
        rw [h4, Nat.mul_comm, Nat.mul_add_div hp]
        have : (2 ^ (n - 1 - j) - 1) / 2 ^ (n - 1 - j) = 0 := Nat.div_eq_of_lt (by omega)
        omega
      rw [h2, Nat.pow_succ]
      have h3 : 1 ≤ 2 ^ j := Nat.one_le_two_pow
      omega
    simp [e]
  · simp [h]
theorem cmOK_none {s : Nat → Bool} {CL CH : Nat → Nat → Int} (h : ∀ j, s j = false) : ∀ n, cmOK s CL CH n = true
  | 0 => rfl
  | n + 1 => by unfold cmOK; rw [cmOK_none h n, if_neg (by simp [h])]; rfl
theorem sizeTo_none {s : Nat → Bool} (h : ∀ j, s j = false) : ∀ n, sizeTo s n = 0
  | 0 => rfl
  | n + 1 => by unfold sizeTo; rw [sizeTo_none h n]; simp [h]
theorem gr_keep (n : Nat) (ag : Nat → Bool) (pre : List Nat) (st : Nat × List Nat) (h : st.2 ≠ []) : (pre.foldl (grStep n ag) st).2 ≠ [] := by
  induction pre generalizing st with
  | nil => exact h
  | cons x pre ih =>
    refine ih _ ?_
    unfold grStep
    split
    · exact h
    · split
      · exact h
      · split <;> simp
/-- .. it is not: all sets end with the one that has none. -/
theorem found_ne (CL CH : Nat → Nat → Int) (n : Nat) : foundL CL CH n ≠ [] := by
  unfold foundL
  have hr : List.range (2 ^ n) = List.range (2 ^ n - 1) ++ [2 ^ n - 1] := by
    have h := Nat.one_le_two_pow (n := n)
    have : 2 ^ n = (2 ^ n - 1) + 1 := by omega
    rw [this, List.range_succ]; simp
  rw [hr, gr_snoc]
  generalize hst : gr n (agB CL CH n) (List.range (2 ^ n - 1)) = st
  unfold grStep
  have hz : sizeTo (setF n (2 ^ n - 1)) 12 = 0 := sizeTo_none (setF_none n) 12
  have ha : agB CL CH n (2 ^ n - 1) = true := cmOK_none (setF_none n) n
  rw [hz, ha]
  by_cases h0 : 0 < st.1
  · rw [if_pos h0]
    -- something has been found: the number is above 0
    have key : ∀ (pre : List Nat) (st : Nat × List Nat), (0 < st.1 → st.2 ≠ []) → 0 < (pre.foldl (grStep n (agB CL CH n)) st).1 → (pre.foldl (grStep n (agB CL CH n)) st).2 ≠ [] := by
      intro pre
      induction pre with
      | nil => intro st h; exact h
      | cons x pre ih =>
        intro st h
        refine ih _ ?_
        unfold grStep
        split
        · exact h
        · split
          · exact h
          · split
            · intro _; simp
            · intro _; simp
    rw [← hst] at h0 ⊢
    exact key _ (0, []) (by simp) h0
  · rw [if_neg h0, if_neg (by decide), if_neg (by omega)]
    simp
theorem eg98 : ∀ args w, (callFunc 98 args).run Tryd.prog w = .ok (.enter 98 args) w := Go.Proofs.enters_of Tryd.func98 (by kernel_rfl) rfl
theorem setRow_head (n : Nat) (l : List Nat) (h : l ≠ []) (j : Nat) (hj : j < 12) : (setRow n l)[j]? = some (.bool (setF n (l.headD 0) j)) := by
  cases l with
  | nil => exact absurd rfl h
  | cons x r =>
    simp only [setRow, List.flatMap_cons, List.headD_cons]
    rw [List.getElem?_append_left (by simp; omega)]
    have := set_get (setF n x) j hj
    simpa using this
theorem gr_mem (n : Nat) (ag : Nat → Bool) (pre : List Nat) : ∀ x ∈ (gr n ag pre).2, x ∈ pre ∧ ag x = true := by
  have : ∀ (pre pre0 : List Nat) (st : Nat × List Nat), (∀ x ∈ st.2, x ∈ pre0 ∧ ag x = true) → ∀ x ∈ (pre.foldl (grStep n ag) st).2, x ∈ pre0 ++ pre ∧ ag x = true := by
    intro pre
    induction pre with
    | nil => intro pre0 st h x hx; simpa using h x hx
    | cons y pre ih =>
      intro pre0 st h x hx
      have := ih (pre0 ++ [y]) (grStep n ag st y) (fun z hz => by
        have old : z ∈ st.2 → z ∈ pre0 ++ [y] ∧ ag z = true := fun hz => ⟨by simp [(h z hz).1], (h z hz).2⟩
        unfold grStep at hz
        split at hz
        · exact old hz
        · split at hz
          · exact old hz
          · rename_i hy
            have hy' : ag y = true := by simpa using hy
            split at hz
            · simp at hz; subst hz; exact ⟨by simp, hy'⟩
            · simp only [List.mem_append, List.mem_singleton] at hz
              rcases hz with hz | rfl
              · exact old hz
              · exact ⟨by simp, hy'⟩) x hx
      simpa using this
  intro x hx
  simpa using this pre [] (0, []) (by simp) x hx
theorem headS_ok (CL CH : Nat → Nat → Int) (n : Nat) : cmOK (headS CL CH n) CL CH n = true := by
  have h := found_ne CL CH n
  have : (foundL CL CH n).headD 0 ∈ foundL CL CH n := by
    cases e : foundL CL CH n with
    | nil => exact absurd e h
    | cons x r => simp
  exact (gr_mem n (agB CL CH n) (List.range (2 ^ n)) _ this).2
theorem setRow_get (n : Nat) : ∀ (l : List Nat) (i : Nat) (hi : i < l.length) (j : Nat), j < 12 → (setRow n l)[i * 12 + j]? = some (.bool (setF n (l[i]'hi) j))
  | [], i, hi, _, _ => by simp at hi
  | x :: r, 0, _, j, hj => by
    simp only [setRow, List.flatMap_cons]
    rw [List.getElem?_append_left (by simp; omega)]
    simpa using set_get (setF n x) j hj
  | x :: r, i + 1, hi, j, hj => by
    simp only [setRow, List.flatMap_cons]
    rw [List.getElem?_append_right (by simp; omega)]
    have hi' : i < r.length := by simpa using hi
    have := setRow_get n r i hi' j hj
    simp only [setRow] at this
    simp only [List.getElem_cons_succ]
    rw [← this]
    congr 1
    simp
    omega
theorem head_get {l : List Nat} (h : 0 < l.length) : l[0] = l.headD 0 := by
  cases l with
  | nil => simp at h
  | cons x r => rfl
theorem row12 {W : World} {base n m : Nat} {v : Value} {l : List Nat} (h : W.ownsRow base 152 12 v m (setRow n l)) (hm : m = l.length) {i : Nat} (hi : i < l.length) : ∃ g cap, v = .slice (some ⟨g, 0, none⟩) l.length cap ∧ base ≤ g ∧ g < W.heap.size ∧ ∀ j, j < 12 → W.cell? ⟨g, i * 12 + j, none⟩ = some (.bool (setF n (l[i]'hi) j)) := by
  subst hm
  have hr := h
  rcases h.2 with ⟨rfl, e⟩ | ⟨g, cap, cur, rfl, hb, hg, _⟩
  · omega
  · refine ⟨g, cap, rfl, hb, lt_of_block hg, fun j hj => ?_⟩
    have := hr.cells (g := g) rfl (i * 12 + j) (.bool (setF n (l[i]'hi) j)) ?_
    · have hadd : (⟨g, 0, none⟩ : Addr).add (i * 12 + j) = ⟨g, i * 12 + j, none⟩ := by unfold Addr.add; split <;> simp_all
      rwa [hadd] at this
    · exact setRow_get n l i hi j hj
theorem frozen12 {W : World} {b : Nat} {vs : Array Value} {t : TypeId} (h : W.heap[b]? = some (.cells vs t (0, 0))) : W.frozen? ⟨b, 0, none⟩ = false ∧ W.frozen? ⟨b, 1, none⟩ = false ∧ W.frozen? ⟨b, 2, none⟩ = false ∧ W.frozen? ⟨b, 3, none⟩ = false ∧ W.frozen? ⟨b, 4, none⟩ = false ∧ W.frozen? ⟨b, 5, none⟩ = false ∧ W.frozen? ⟨b, 6, none⟩ = false ∧ W.frozen? ⟨b, 7, none⟩ = false ∧ W.frozen? ⟨b, 8, none⟩ = false ∧ W.frozen? ⟨b, 9, none⟩ = false ∧ W.frozen? ⟨b, 10, none⟩ = false ∧ W.frozen? ⟨b, 11, none⟩ = false := ⟨frozen_of_block h _, frozen_of_block h _, frozen_of_block h _, frozen_of_block h _, frozen_of_block h _, frozen_of_block h _, frozen_of_block h _, frozen_of_block h _, frozen_of_block h _, frozen_of_block h _, frozen_of_block h _, frozen_of_block h _⟩
theorem store12_block {W : World} {b : Nat} {s : Nat → Bool} {ty : TypeId} (h : W.heap[b]? = some (.cells (setA s) ty (0, 0))) (t : Nat → Bool) : ((((((((((((W.setCell ⟨b, 0, none⟩ (.bool (t 0))).setCell ⟨b, 1, none⟩ (.bool (t 1))).setCell ⟨b, 2, none⟩ (.bool (t 2))).setCell ⟨b, 3, none⟩ (.bool (t 3))).setCell ⟨b, 4, none⟩ (.bool (t 4))).setCell ⟨b, 5, none⟩ (.bool (t 5))).setCell ⟨b, 6, none⟩ (.bool (t 6))).setCell ⟨b, 7, none⟩ (.bool (t 7))).setCell ⟨b, 8, none⟩ (.bool (t 8))).setCell ⟨b, 9, none⟩ (.bool (t 9))).setCell ⟨b, 10, none⟩ (.bool (t 10))).setCell ⟨b, 11, none⟩ (.bool (t 11))).heap[b]? = some (.cells (setA t) ty (0, 0)) := by
  have h0 := setCell_block h 0 (.bool (t 0))
  simp only [setA, List.setIfInBounds_toArray, List.set_cons_zero] at h0
  have h1 := setCell_block h0 1 (.bool (t 1))
  simp only [List.setIfInBounds_toArray, List.set_cons_zero, List.set_cons_succ] at h1
  have h2 := setCell_block h1 2 (.bool (t 2))
  simp only [List.setIfInBounds_toArray, List.set_cons_zero, List.set_cons_succ] at h2
  have h3 := setCell_block h2 3 (.bool (t 3))
  simp only [List.setIfInBounds_toArray, List.set_cons_zero, List.set_cons_succ] at h3
  have h4 := setCell_block h3 4 (.bool (t 4))
  simp only [List.setIfInBounds_toArray, List.set_cons_zero, List.set_cons_succ] at h4
  have h5 := setCell_block h4 5 (.bool (t 5))
  simp only [List.setIfInBounds_toArray, List.set_cons_zero, List.set_cons_succ] at h5
  have h6 := setCell_block h5 6 (.bool (t 6))
  simp only [List.setIfInBounds_toArray, List.set_cons_zero, List.set_cons_succ] at h6
  have h7 := setCell_block h6 7 (.bool (t 7))
  simp only [List.setIfInBounds_toArray, List.set_cons_zero, List.set_cons_succ] at h7
  have h8 := setCell_block h7 8 (.bool (t 8))
  simp only [List.setIfInBounds_toArray, List.set_cons_zero, List.set_cons_succ] at h8
  have h9 := setCell_block h8 9 (.bool (t 9))
  simp only [List.setIfInBounds_toArray, List.set_cons_zero, List.set_cons_succ] at h9
  have h10 := setCell_block h9 10 (.bool (t 10))
  simp only [List.setIfInBounds_toArray, List.set_cons_zero, List.set_cons_succ] at h10
  have h11 := setCell_block h10 11 (.bool (t 11))
  simp only [List.setIfInBounds_toArray, List.set_cons_zero, List.set_cons_succ] at h11
  exact h11
variable {Q : Exit → Act → World → Prop}
theorem list_store12 {ops : Array Oper} {o : Oper} {rest : List Oper} {a : Act} {W : World} {k r b : Nat} {ty : TypeId} {s t : Nat → Bool} (hg : o.guard = none) (hd : o.dst = none) (hop : o.op = Op.store 152 (.tmp k) (.tmp r))
    (he : a.eval (.tmp k) = .pointer (some ⟨b, 0, none⟩)) (hv : a.eval (.tmp r) = .agg (setA t)) (hb : W.heap[b]? = some (.cells (setA s) ty (0, 0)))
    (hK : ∀ W', W'.heap[b]? = some (.cells (setA t) ty (0, 0)) → Chg b W W' → wpList Tryd.prog ops Q rest a W') : wpList Tryd.prog ops Q (o :: rest) a W := by
  obtain ⟨c0, c1, c2, c3, c4, c5, c6, c7, c8, c9, c10, c11⟩ := cells12 hb
  obtain ⟨f0, f1, f2, f3, f4, f5, f6, f7, f8, f9, f10, f11⟩ := frozen12 hb
  have he' : a.tmps[k]?.getD undef = .pointer (some ⟨b, 0, none⟩) := by simpa [Act.eval] using he
  have hv' : a.tmps[r]?.getD undef = .agg (setA t) := by simpa [Act.eval] using hv
  refine list_store hg hd ?_ (hK _ (store12_block hb t) ((((((((((((chg_setCell W b 0 _).trans (chg_setCell _ b 1 _)).trans (chg_setCell _ b 2 _)).trans (chg_setCell _ b 3 _)).trans (chg_setCell _ b 4 _)).trans (chg_setCell _ b 5 _)).trans (chg_setCell _ b 6 _)).trans (chg_setCell _ b 7 _)).trans (chg_setCell _ b 8 _)).trans (chg_setCell _ b 9 _)).trans (chg_setCell _ b 10 _)).trans (chg_setCell _ b 11 _)))
  unfold execOp
  rw [hop]
  simp [go_sem, he', hv', c0, c1, c2, c3, c4, c5, c6, c7, c8, c9, c10, c11, f0, f1, f2, f3, f4, f5, f6, f7, f8, f9, f10, f11]
theorem op_store12 {o : Oper} {a : Act} {W : World} {k r b : Nat} {ty : TypeId} {s t : Nat → Bool} (hd : o.dst = none) (hop : o.op = Op.store 152 (.tmp k) (.tmp r))
    (he : a.eval (.tmp k) = .pointer (some ⟨b, 0, none⟩)) (hv : a.eval (.tmp r) = .agg (setA t)) (hb : W.heap[b]? = some (.cells (setA s) ty (0, 0))) :
    o.wp Tryd.prog a W (fun a'' W' => a'' = a.put o.dst undef ∧ W'.heap[b]? = some (.cells (setA t) ty (0, 0)) ∧ Chg b W W') Q := by
  obtain ⟨c0, c1, c2, c3, c4, c5, c6, c7, c8, c9, c10, c11⟩ := cells12 hb
  obtain ⟨f0, f1, f2, f3, f4, f5, f6, f7, f8, f9, f10, f11⟩ := frozen12 hb
  have he' : a.tmps[k]?.getD undef = .pointer (some ⟨b, 0, none⟩) := by simpa [Act.eval] using he
  have hv' : a.tmps[r]?.getD undef = .agg (setA t) := by simpa [Act.eval] using hv
  have hB := store12_block hb t
  have hC : Chg b W ((((((((((((W.setCell ⟨b, 0, none⟩ (.bool (t 0))).setCell ⟨b, 1, none⟩ (.bool (t 1))).setCell ⟨b, 2, none⟩ (.bool (t 2))).setCell ⟨b, 3, none⟩ (.bool (t 3))).setCell ⟨b, 4, none⟩ (.bool (t 4))).setCell ⟨b, 5, none⟩ (.bool (t 5))).setCell ⟨b, 6, none⟩ (.bool (t 6))).setCell ⟨b, 7, none⟩ (.bool (t 7))).setCell ⟨b, 8, none⟩ (.bool (t 8))).setCell ⟨b, 9, none⟩ (.bool (t 9))).setCell ⟨b, 10, none⟩ (.bool (t 10))).setCell ⟨b, 11, none⟩ (.bool (t 11))) := ((((((((((((chg_setCell W b 0 _).trans (chg_setCell _ b 1 _)).trans (chg_setCell _ b 2 _)).trans (chg_setCell _ b 3 _)).trans (chg_setCell _ b 4 _)).trans (chg_setCell _ b 5 _)).trans (chg_setCell _ b 6 _)).trans (chg_setCell _ b 7 _)).trans (chg_setCell _ b 8 _)).trans (chg_setCell _ b 9 _)).trans (chg_setCell _ b 10 _)).trans (chg_setCell _ b 11 _))
  unfold Oper.wp execOp
  rw [hop, hd]
  simp [go_sem, he', hv', c0, c1, c2, c3, c4, c5, c6, c7, c8, c9, c10, c11, f0, f1, f2, f3, f4, f5, f6, f7, f8, f9, f10, f11, Oper.upon, Act.put, hd]
  exact ⟨hB, hC⟩
theorem op_load152 {o : Oper} {a' : Act} {W : World} {k b : Nat} {ty : TypeId} {s : Nat → Bool} (hop : o.op = Op.load 152 (.tmp k)) (he : a'.eval (.tmp k) = .pointer (some ⟨b, 0, none⟩)) (hb : W.heap[b]? = some (.cells (setA s) ty (0, 0))) :
    o.wp Tryd.prog a' W (fun a'' W' => a'' = a'.put o.dst (.agg (setA s)) ∧ W' = W) Q := by
  obtain ⟨c0, c1, c2, c3, c4, c5, c6, c7, c8, c9, c10, c11⟩ := cells12 hb
  have he' : a'.tmps[k]?.getD undef = .pointer (some ⟨b, 0, none⟩) := by simpa [Act.eval] using he
  unfold Oper.wp execOp
  rw [hop]
  simp [go_sem, he', c0, c1, c2, c3, c4, c5, c6, c7, c8, c9, c10, c11]
set_option maxHeartbeats 2000000 in
theorem trusted_any (u d : Nat → Int) (now : Int) (p : Option Addr) (n cap : Nat) (R : Nat → Rep) (hn : n ≤ 12) (w : World) (hl : Lim w) (hR : Reps w p n R) (hok : ∀ i, i < n → Tellable u d now (R i)) :
    Calls Tryd.prog 97 #[.agg (workA u d now (.slice p n cap))] w fun e w' => e = .returned (.tuple #[.agg (setA (headS (tdLo R d now) (tdHi R u now) n)), .agg (cellA (cmLo (headS (tdLo R d now) (tdHi R u now) n) (tdLo R d now) n) (cmHi (headS (tdLo R d now) (tdHi R u now) n) (tdHi R u now) n))]) ∧ Below w.heap.size w w' := by
  have hpos := hl.pos
  have HL := Lib.hid hl
  have HR := Lib.hid hR
  have HK := Lib.hid hok
  clear hl hR hok
  go_enter Tryd.func97, Tryd.ntmps97
  obtain ⟨a1, a2, a3, a4, a5⟩ := three_allocs w (.cells (workA u d now (.slice p n cap)) 139) (.cells (setA fun _ => false) 152) (.cells #[.int .i64 0, .int .i64 0, .int .i64 0, .int .i64 0, .int .i64 0, .int .i64 0, .int .i64 0, .int .i64 0] 32)
  have A1 := Lib.hid a1
  have A2 := Lib.hid a2
  have A3 := Lib.hid a3
  have AB := Lib.hid a5
  obtain ⟨⟨c0, c1, c2, c3, c4, c5, c6, c7, c8, c9⟩, _⟩ := cells10 a1
  clear a1 a2 a3 a5
  go_wp2_with fail
  generalize ((w.alloc (.cells (workA u d now (.slice p n cap)) 139)).alloc (.cells (setA fun _ => false) 152)).alloc (.cells #[.int .i64 0, .int .i64 0, .int .i64 0, .int .i64 0, .int .i64 0, .int .i64 0, .int .i64 0, .int .i64 0] 32) = V at *
  refine (told_any u d now p n cap R hn V (HL.out.below hpos AB.out) (HR.out.later AB.out) HK.out).mono ?_
  rintro e W1 ⟨g, rfl, hg1, hg2, hC, hb1⟩
  have HC := Lib.hid hC
  have z1 := hb1.size
  have B2 := Lib.hid ((hb1.block _ (by omega)).trans A2.out)
  have B3 := Lib.hid ((hb1.block _ (by omega)).trans A3.out)
  have BB := Lib.hid (AB.out.trans (hb1.mono AB.out.size))
  clear hC hb1 A1 A2 A3 AB c0 c1 c2 c3 c4 c5 c6 c7 c8 c9
  go_wp2_with fail
  refine (greatest_f (tdLo R d now) (tdHi R u now) g n hn W1 (HL.out.below hpos BB.out) hg2 HC.out).mono ?_
  rintro e W2 ⟨v, rfl, hrow, hb2⟩
  have hfn := found_ne (tdLo R d now) (tdHi R u now) n
  have hpl : 0 < (foundL (tdLo R d now) (tdHi R u now) n).length := List.length_pos_iff.2 hfn
  obtain ⟨gf, cf, rfl, hgf1, hgf2, hgc⟩ := row12 hrow rfl hpl
  have hhd := head_get hpl
  rw [hhd] at hgc
  have hgc' : ∀ j, j < 12 → W2.cell? ⟨gf, j, none⟩ = some (.bool (headS (tdLo R d now) (tdHi R u now) n j)) := fun j hj => by
    have := hgc j hj
    rwa [Nat.zero_mul, Nat.zero_add] at this
  have y0 := hgc' 0 (by omega)
  have y1 := hgc' 1 (by omega)
  have y2 := hgc' 2 (by omega)
  have y3 := hgc' 3 (by omega)
  have y4 := hgc' 4 (by omega)
  have y5 := hgc' 5 (by omega)
  have y6 := hgc' 6 (by omega)
  have y7 := hgc' 7 (by omega)
  have y8 := hgc' 8 (by omega)
  have y9 := hgc' 9 (by omega)
  have y10 := hgc' 10 (by omega)
  have y11 := hgc' 11 (by omega)
  have hpl' : (0 : Int) < ((foundL (tdLo R d now) (tdHi R u now) n).length : Int) := by omega
  have z2 := hb2.size
  have D2 := Lib.hid ((hb2.block _ (by omega)).trans B2.out)
  have D3 := Lib.hid ((hb2.block _ (by omega)).trans B3.out)
  have DB := Lib.hid (BB.out.trans (hb2.mono BB.out.size))
  have DC := Lib.hid (HC.out.below hg2 hb2)
  have HOK := Lib.hid (headS_ok (tdLo R d now) (tdHi R u now) n)
  clear hrow hgc hgc' hb2 B2 B3 BB HC hhd hfn
  go_wp2_with fail
  clear y0 y1 y2 y3 y4 y5 y6 y7 y8 y9 y10 y11
  have E4 := Lib.hid (block_new W2 (.cells (setA (headS (tdLo R d now) (tdHi R u now) n)) 152))
  have EB := (Below.refl W2.heap.size W2).alloc (Nat.le_refl _) (.cells (setA (headS (tdLo R d now) (tdHi R u now) n)) 152)
  have E2 := Lib.hid ((EB.block _ (by omega)).trans D2.out)
  have E3 := Lib.hid ((EB.block _ (by omega)).trans D3.out)
  have EA := Lib.hid (DB.out.trans (EB.mono DB.out.size))
  have EC := Lib.hid (DC.out.below (by omega) EB)
  have z4 : W2.heap.size < (W2.alloc (.cells (setA (headS (tdLo R d now) (tdHi R u now) n)) 152)).heap.size := by simp
  clear EB D2 D3 DB DC
  generalize W2.alloc (.cells (setA (headS (tdLo R d now) (tdHi R u now) n)) 152) = W4 at *
  refine (common_any (headS (tdLo R d now) (tdHi R u now) n) (tdLo R d now) (tdHi R u now) g n hn W4 (HL.out.below hpos EA.out) (by omega) EC.out).mono ?_
  rintro e W5 ⟨rfl, hb5⟩
  have hR : cmRes (headS (tdLo R d now) (tdHi R u now) n) (tdLo R d now) (tdHi R u now) n = .tuple #[.agg (cellA (cmLo (headS (tdLo R d now) (tdHi R u now) n) (tdLo R d now) n) (cmHi (headS (tdLo R d now) (tdHi R u now) n) (tdHi R u now) n)), .bool true] := by unfold cmRes; rw [HOK.out]; rfl
  rw [hR]
  have z5 := hb5.size
  have F2 := Lib.hid ((hb5.block _ (by omega)).trans E2.out)
  have F3 := Lib.hid ((hb5.block _ (by omega)).trans E3.out)
  have F4 := Lib.hid ((hb5.block _ z4).trans E4.out)
  have FB := Lib.hid (EA.out.trans (hb5.mono EA.out.size))
  clear hb5 hR E2 E3 E4 EA EC
  go_wp2_with fail
  have G6 := Lib.hid (block_new W5 (.cells (cellA (cmLo (headS (tdLo R d now) (tdHi R u now) n) (tdLo R d now) n) (cmHi (headS (tdLo R d now) (tdHi R u now) n) (tdHi R u now) n)) 32))
  have GBb := (Below.refl W5.heap.size W5).alloc (Nat.le_refl _) (.cells (cellA (cmLo (headS (tdLo R d now) (tdHi R u now) n) (tdLo R d now) n) (cmHi (headS (tdLo R d now) (tdHi R u now) n) (tdHi R u now) n)) 32)
  have G2 := Lib.hid ((GBb.block _ (by omega)).trans F2.out)
  have G3 := Lib.hid ((GBb.block _ (by omega)).trans F3.out)
  have G4 := Lib.hid ((GBb.block _ (by omega)).trans F4.out)
  have GB := Lib.hid (FB.out.trans (GBb.mono FB.out.size))
  have z6 : W5.heap.size < (W5.alloc (.cells (cellA (cmLo (headS (tdLo R d now) (tdHi R u now) n) (tdLo R d now) n) (cmHi (headS (tdLo R d now) (tdHi R u now) n) (tdHi R u now) n)) 32)).heap.size := by simp
  clear GBb F2 F3 F4 FB
  generalize W5.alloc (.cells (cellA (cmLo (headS (tdLo R d now) (tdHi R u now) n) (tdLo R d now) n) (cmHi (headS (tdLo R d now) (tdHi R u now) n) (tdHi R u now) n)) 32) = W6 at *
  refine wp_region_stores 3 [20, 21, 1000] (fun i => ([.agg (setA (headS (tdLo R d now) (tdHi R u now) n)), (.agg (cellA (cmLo (headS (tdLo R d now) (tdHi R u now) n) (tdLo R d now) n) (cmHi (headS (tdLo R d now) (tdHi R u now) n) (tdHi R u now) n))), undef] : List Value).getD i undef)
    (fun L X => But (w.heap.size + 1) W6 X ∧ X.heap[w.heap.size + 1]? = some (.cells (setA (if L 2 = true then (headS (tdLo R d now) (tdHi R u now) n) else fun _ => false)) 152 (0, 0))) (by kernel_rfl) (by kernel_rfl) (fun s hs h => by simp at hs ⊢; omega) (by simp) ⟨⟨rfl, rfl, rfl, Nat.le_refl _, fun _ _ _ => rfl⟩, by simpa using G2.out⟩ ?val ?fin
  case val =>
    intro i
    match i with
    | 0 => intro o L hlt ho hLi a' X hX hfr hdp; obtain rfl := Option.some.inj ho; exact Oper.wp_mono (fun a'' W' ⟨h1, h2⟩ => ⟨h1, by subst h2; simpa using hX⟩) (op_load152 rfl (hfr 5 (by decide)) ((hX.1.2.2.2.2 _ (by omega) (by omega)).trans G4.out))
    | 1 => intro o L hlt ho hLi a' X hX hfr hdp; obtain rfl := Option.some.inj ho; exact Oper.wp_mono (fun a'' W' ⟨h1, h2⟩ => ⟨h1, hX.1.trans (But.of_below h2), by rw [h2.block _ (lt_of_block hX.2)]; simpa using hX.2⟩) (op_load8 rfl (hfr 6 (by decide)) ((hX.1.2.2.2.2 _ z6 (by omega)).trans G6.out))
    | 2 => intro o L hlt ho hLi a' X hX hfr hdp; obtain rfl := Option.some.inj ho; exact Oper.wp_mono (fun a'' W' ⟨h1, h2, h3⟩ => ⟨h1, hX.1.trans ⟨h3.2.2.1, h3.2.2.2.1, h3.2.2.2.2, Nat.le_of_eq h3.1.symm, fun k _ hk => h3.2.1 k hk⟩, by simpa using h2⟩) (op_store12 rfl rfl (hfr 2 (by decide)) (hdp 0 20 (by decide) (by decide) rfl (by kernel_rfl)) hX.2)
    | m + 3 => intro o L hlt; omega
  case fin =>
    intro X L hall hX
    have J2 := Lib.hid (show X.heap[w.heap.size + 1]? = some (.cells (setA (headS (tdLo R d now) (tdHi R u now) n)) 152 (0, 0)) by have := hX.2; rwa [if_pos (hall 2 (by decide))] at this)
    have J3 := Lib.hid ((hX.1.2.2.2.2 _ (by omega) (by omega)).trans G3.out)
    have JB := Lib.hid (GB.out.trans (hX.1.below (by omega) GB.out.size))
    simp only [List.drop_succ_cons, List.drop_zero, fill, Act.put, List.setIfInBounds_toArray, List.set_cons_zero, List.set_cons_succ, Nat.reduceAdd, List.getD_cons_zero, List.getD_cons_succ]
    clear hX hall G2 G3 G4 G6 GB
    go_wp2_with (refine list_store8 rfl rfl rfl (.inl rfl) rfl rfl J3.out ?_; intro W8 h8 hc8)
    obtain ⟨g0, g1, g2, g3, g4, g5, g6, g7, g8, g9, g10, g11⟩ := cells12 ((hc8.2.1 (w.heap.size + 1) (by omega)).trans J2.out)
    obtain ⟨⟨k0, k1, k2, k3, k4, k5, k6, k7⟩, _⟩ := cells8 h8
    refine bodyPost_ret (v := .tuple #[.agg (setA (headS (tdLo R d now) (tdHi R u now) n)), (.agg (cellA (cmLo (headS (tdLo R d now) (tdHi R u now) n) (tdLo R d now) n) (cmHi (headS (tdLo R d now) (tdHi R u now) n) (tdHi R u now) n)))]) ?_ rfl ⟨rfl, JB.out.trans (hc8.below (by omega))⟩
    simp [results, Tryd.results97, go_sem, g0, g1, g2, g3, g4, g5, g6, g7, g8, g9, g10, g11, k0, k1, k2, k3, k4, k5, k6, k7]
end Go.Proofs.YtdcpmdigihbdpaaDoor
