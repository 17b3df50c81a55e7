/- A course whose hours can each become the next is allowed; the contracts of the law's around. -/
import Derived.Test.YtdcpmdigihbdpaaDoorVb
namespace Go.Proofs.YtdcpmdigihbdpaaDoor
open Go.RowKit
set_option maxRecDepth 100000
theorem chg_le {r h : Int} (hh : 0 ≤ h) : h * (r / 24) ≤ chg r h := by
  unfold chg
  have e : 24 * (r / 24) ≤ r := by omega
  have k : h * (24 * (r / 24)) ≤ h * r := Int.mul_le_mul_of_nonneg_left e hh
  have k2 : h * (24 * (r / 24)) = 24 * (h * (r / 24)) := by rw [← Int.mul_assoc, Int.mul_comm h 24, Int.mul_assoc]
  rw [Int.mul_comm r h]
  generalize h * (r / 24) = a at *
  generalize h * r = b at *
  omega
theorem Good.far {x0 u d : Nat → Int} {X : Nat → Nat → Int} {n : Nat} (h : Good x0 u d X n) (q : Nat) (hq : q < 4) (s : Nat) : ∀ m, s + m < n → -((m : Int) * (d q / 24)) ≤ X (s + m) q - X s q ∧ X (s + m) q - X s q ≤ (m : Int) * (u q / 24)
  | 0, _ => by simp
  | m + 1, hm => by
    obtain ⟨a1, a2⟩ := Good.far h q hq s m (by omega)
    obtain ⟨b1, b2⟩ := h.step (s + m) (by omega) q hq
    have e1 : ((m + 1 : Nat) : Int) * (d q / 24) = (m : Int) * (d q / 24) + d q / 24 := by rw [Int.natCast_add, Int.add_mul]; simp
    have e2 : ((m + 1 : Nat) : Int) * (u q / 24) = (m : Int) * (u q / 24) + u q / 24 := by rw [Int.natCast_add, Int.add_mul]; simp
    have e3 : X (s + (m + 1)) q = X (s + m + 1) q := rfl
    rw [e1, e2, e3]
    generalize (m : Int) * (d q / 24) = A at *
    generalize (m : Int) * (u q / 24) = B at *
    omega
theorem Good.can {x0 u d : Nat → Int} {X : Nat → Nat → Int} {n : Nat} (h : Good x0 u d X n) {s t : Nat} (hst : s ≤ t) (ht : t < n) (q : Nat) (hq : q < 4) :
    -chg (d q) ((t : Int) - (s : Int)) ≤ X t q - X s q ∧ X t q - X s q ≤ chg (u q) ((t : Int) - (s : Int)) := by
  obtain ⟨m, rfl⟩ : ∃ m, t = s + m := ⟨t - s, by omega⟩
  obtain ⟨a1, a2⟩ := h.far q hq s m ht
  have e : ((s + m : Nat) : Int) - (s : Int) = (m : Int) := by omega
  rw [e]
  have k1 := chg_le (r := d q) (h := (m : Int)) (by omega)
  have k2 := chg_le (r := u q) (h := (m : Int)) (by omega)
  omega
theorem Good.allow {x0 u d : Nat → Int} {X : Nat → Nat → Int} {n : Nat} (h : Good x0 u d X n) (hr : okRates u d = true) (hn : n ≤ 400) : alRes X u d n = .tuple #[.bool true, .int .i64 0] := by
  have e0 : alE X u d n = 0 := by
    unfold alE
    rw [if_neg (by omega)]
    have e1 : fwE (fun k => errB (okIce (X k)) 20) n = 0 := fwE_zero fun j hj => by
      have : okIce (X j) = true := allB_yes fun q hq => decide_eq_true (h.ok j hj q hq)
      simp [errB, this]
    rw [e1, hr]
    rfl
  have e1 : allowB X u d n = true := (allowB_iff _ _ _ _).2 fun s t hst ht => allB_yes fun q hq => decide_eq_true (h.can (by omega) ht q hq)
  unfold alRes
  rw [if_pos e0, e1]
section
variable {Q : Exit → Act → World → Prop} {o : Oper} {a : Act} {W : World} {R : Value → World → Prop}
theorem opx_max0 {s : Nat} {x : Int} (hop : o.op = Op.call { callee := .builtin .max, args := #[.tmp s, .const (.int .i64 0)], argTypes := #[3, 3] }) (hty : o.type = 3) (he : a.eval (.tmp s) = .int .i64 x) (hR : R (.int .i64 (mx x 0)) W) : o.wp Tryd.prog a W (fun a'' W'' => ∃ x, a'' = a.put o.dst x ∧ R x W'') Q := by
  have he' : a.tmps[s]?.getD undef = .int .i64 x := by simpa [Act.eval] using he
  refine op_val ?_ hR
  unfold execOp
  rw [hop]
  unfold mx
  by_cases h2 : x < 0
  · simp [go_sem, he', hty, h2]
    omega
  · by_cases h1 : 0 < x
    · simp [go_sem, he', hty, h2]
      omega
    · obtain rfl : x = 0 := by omega
      simp [go_sem, he', hty]
theorem opx_min {s t : Nat} {x y : Int} (hop : o.op = Op.call { callee := .builtin .min, args := #[.tmp s, .tmp t], argTypes := #[3, 3] }) (hty : o.type = 3) (he : a.eval (.tmp s) = .int .i64 x) (ht : a.eval (.tmp t) = .int .i64 y) (hR : R (.int .i64 (mn x y)) W) : o.wp Tryd.prog a W (fun a'' W'' => ∃ x, a'' = a.put o.dst x ∧ R x W'') Q := by
  have he' : a.tmps[s]?.getD undef = .int .i64 x := by simpa [Act.eval] using he
  have ht' : a.tmps[t]?.getD undef = .int .i64 y := by simpa [Act.eval] using ht
  refine op_val ?_ hR
  unfold execOp
  rw [hop]
  unfold mn
  by_cases h1 : y < x
  · simp [go_sem, he', ht', hty, h1]
    omega
  · by_cases h2 : x < y
    · simp [go_sem, he', ht', hty, h1]
      omega
    · obtain rfl : x = y := by omega
      simp [go_sem, he', ht', hty]
theorem opx_build23 {s t : Nat} {x y : Int} (hop : o.op = Op.build 23 #[(0, .tmp s), (1, .tmp t)]) (he : a.eval (.tmp s) = .int .i64 x) (ht : a.eval (.tmp t) = .int .i64 y) (hR : R (.agg #[.int .i64 x, .int .i64 y]) W) : o.wp Tryd.prog a W (fun a'' W'' => ∃ x, a'' = a.put o.dst x ∧ R x W'') Q := by
  have he' : a.tmps[s]?.getD undef = .int .i64 x := by simpa [Act.eval] using he
  have ht' : a.tmps[t]?.getD undef = .int .i64 y := by simpa [Act.eval] using ht
  refine op_val ?_ hR
  unfold execOp
  rw [hop]
  simp [go_sem, he', ht']
theorem opx_store23 {s r b : Nat} {t : TypeId} {x0 x1 y0 y1 : Int} (hop : o.op = Op.store 23 (.tmp s) (.tmp r)) (he : a.eval (.tmp s) = .pointer (some ⟨b, 0, none⟩)) (hv : a.eval (.tmp r) = .agg #[.int .i64 y0, .int .i64 y1])
    (hb : W.heap[b]? = some (.cells #[.int .i64 x0, .int .i64 x1] t (0, 0)))
    (hR : ∀ W', W'.heap[b]? = some (.cells #[.int .i64 y0, .int .i64 y1] t (0, 0)) → Chg b W W' → R undef W') : o.wp Tryd.prog a W (fun a'' W'' => ∃ x, a'' = a.put o.dst x ∧ R x W'') Q := by
  have c0 := (cell_of_block hb 0).trans rfl
  have f0 := frozen_of_block hb 0
  have hb1 := setCell_block hb 0 (.int .i64 y0)
  have d1 := (cell_of_block hb1 1).trans rfl
  have g1 := frozen_of_block hb1 1
  have he' : a.tmps[s]?.getD undef = .pointer (some ⟨b, 0, none⟩) := by simpa [Act.eval] using he
  have hv' : a.tmps[r]?.getD undef = .agg #[.int .i64 y0, .int .i64 y1] := by simpa [Act.eval] using hv
  refine op_skip (W' := (W.setCell ⟨b, 0, none⟩ (.int .i64 y0)).setCell ⟨b, 1, none⟩ (.int .i64 y1)) ?_ (hR _ (setCell_block hb1 1 _) ((chg_setCell W b 0 _).trans (chg_setCell _ b 1 _)))
  unfold execOp
  rw [hop]
  simp [go_sem, he', hv', c0, f0, d1, g1]
end
/-- What is known of each value while one span around a number is made. -/
def arPv (x most a b : Int) (j : Nat) (v : Value) : Prop :=
  match j with
  | 0 | 5 => v = .int .i64 x
  | 1 => v = .int .i64 a
  | 2 => v = .int .i64 (a % 30)
  | 3 => v = .int .i64 (x - a % 30)
  | 4 => v = .int .i64 (mx (x - a % 30) 0)
  | 6 => v = .int .i64 b
  | 7 => v = .int .i64 (b % 30)
  | 8 => v = .int .i64 (x + b % 30)
  | 9 => v = .int .i64 most
  | 10 => v = .int .i64 (mn (x + b % 30) most)
  | 11 => v = .agg #[.int .i64 (mx (x - a % 30) 0), .int .i64 (mn (x + b % 30) most)]
  | _ => True
structure ArWd (w : World) (s t : Array Value) (L : Nat → Bool) (X : World) : Prop where
  below : Below w.heap.size w X
  s : X.heap[w.heap.size]? = some (.cells (if L 12 = true then t else s) 23 (0, 0))
theorem ArWd.next {w : World} {s t : Array Value} {L : Nat → Bool} {X : World} (h : ArWd w s t L X) {i : Nat} (n : 12 ≠ i) : ArWd w s t (fun j => if j = i then true else L j) X := ⟨h.below, by simp only [if_neg n]; exact h.s⟩
set_option maxHeartbeats 4000000 in
theorem around1_any (x most a b : Int) (T U : Nat) (w : World) (lT : T < w.heap.size) (lU : U < w.heap.size) (hT : w.cell? ⟨T, 0, none⟩ = some (.int .i64 a)) (hU : w.cell? ⟨U, 0, none⟩ = some (.int .i64 b)) (hx : 0 ≤ x ∧ x ≤ 400) :
    Calls Tryd.prog 105 #[.int .i64 x, .int .i64 most, .pointer (some ⟨T, 0, none⟩), .pointer (some ⟨U, 0, none⟩)] w fun e w' => e = .returned (.agg #[.int .i64 (mx (x - a % 30) 0), .int .i64 (mn (x + b % 30) most)]) ∧ Below w.heap.size w w' := by
  have p0 := Int.emod_nonneg a (show (30 : Int) ≠ 0 by decide)
  have p1 := Int.emod_lt_of_pos a (show (0 : Int) < 30 by decide)
  have q0 := Int.emod_nonneg b (show (30 : Int) ≠ 0 by decide)
  have q1 := Int.emod_lt_of_pos b (show (0 : Int) < 30 by decide)
  go_enter Tryd.func105, Tryd.ntmps105
  go_wp2_with fail
  have KB := Lib.hid (show Below w.heap.size w (w.alloc (.cells #[.int .i64 0, .int .i64 0] 23)) from (Below.refl _ _).alloc (Nat.le_refl _) _)
  refine wp_region_valsL [7, 8, 9, 10, 11, 12, 13, 14, 15, 16, 17, 18, 1000] (ArWd w #[.int .i64 0, .int .i64 0] #[.int .i64 (mx (x - a % 30) 0), .int .i64 (mn (x + b % 30) most)]) (fun j v _ => arPv x most a b j v)
    (by kernel_rfl) (by kernel_rfl) (fun s hs h => by simp at hs ⊢; omega) (by simp) ⟨⟨KB.out.os, KB.out.tape, KB.out.output, KB.out.size, KB.out.block⟩, block_new w (.cells #[.int .i64 0, .int .i64 0] 23)⟩ ?val ?fin
  case val =>
    intro j
    match j with
    | 0 => intro o L ho hLi hd a' X hX hfr hdp; obtain rfl := Option.some.inj ho; exact opx_move rfl (hfr 0 (by decide)) ⟨hX.next (by decide), rfl, fun _ _ _ h => h⟩
    | 1 => intro o L ho hLi hd a' X hX hfr hdp; obtain rfl := Option.some.inj ho; exact opx_load3 rfl (hfr 2 (by decide)) ((hX.below.cell (p := ⟨T, 0, none⟩) lT).trans hT) ⟨hX.next (by decide), rfl, fun _ _ _ h => h⟩
    | 2 =>
      intro o L ho hLi hd a' X hX hfr hdp; obtain rfl := Option.some.inj ho
      refine opx_callc rfl (hdp 1 8 (by decide) rfl (by kernel_rfl)) eg51 ((Pick_any a 30 (by decide) (by decide) X).mono ?_)
      rintro e W' ⟨rfl, rfl⟩
      exact ⟨_, rfl, hX.next (by decide), rfl, fun _ _ _ h => h⟩
    | 3 => intro o L ho hLi hd a' X hX hfr hdp; obtain rfl := Option.some.inj ho; exact opx_sub rfl (hdp 0 7 (by decide) rfl (by kernel_rfl)) (hdp 2 9 (by decide) rfl (by kernel_rfl)) (by rw [IntKind.wrap_i64]; omega) ⟨hX.next (by decide), rfl, fun _ _ _ h => h⟩
    | 4 => intro o L ho hLi hd a' X hX hfr hdp; obtain rfl := Option.some.inj ho; exact opx_max0 rfl rfl (hdp 3 10 (by decide) rfl (by kernel_rfl)) ⟨hX.next (by decide), rfl, fun _ _ _ h => h⟩
    | 5 => intro o L ho hLi hd a' X hX hfr hdp; obtain rfl := Option.some.inj ho; exact opx_move rfl (hfr 0 (by decide)) ⟨hX.next (by decide), rfl, fun _ _ _ h => h⟩
    | 6 => intro o L ho hLi hd a' X hX hfr hdp; obtain rfl := Option.some.inj ho; exact opx_load3 rfl (hfr 3 (by decide)) ((hX.below.cell (p := ⟨U, 0, none⟩) lU).trans hU) ⟨hX.next (by decide), rfl, fun _ _ _ h => h⟩
    | 7 =>
      intro o L ho hLi hd a' X hX hfr hdp; obtain rfl := Option.some.inj ho
      refine opx_callc rfl (hdp 6 13 (by decide) rfl (by kernel_rfl)) eg51 ((Pick_any b 30 (by decide) (by decide) X).mono ?_)
      rintro e W' ⟨rfl, rfl⟩
      exact ⟨_, rfl, hX.next (by decide), rfl, fun _ _ _ h => h⟩
    | 8 => intro o L ho hLi hd a' X hX hfr hdp; obtain rfl := Option.some.inj ho; exact opx_addt rfl (hdp 5 12 (by decide) rfl (by kernel_rfl)) (hdp 7 14 (by decide) rfl (by kernel_rfl)) (by rw [IntKind.wrap_i64]; omega) ⟨hX.next (by decide), rfl, fun _ _ _ h => h⟩
    | 9 => intro o L ho hLi hd a' X hX hfr hdp; obtain rfl := Option.some.inj ho; exact opx_move rfl (hfr 1 (by decide)) ⟨hX.next (by decide), rfl, fun _ _ _ h => h⟩
    | 10 => intro o L ho hLi hd a' X hX hfr hdp; obtain rfl := Option.some.inj ho; exact opx_min rfl rfl (hdp 8 15 (by decide) rfl (by kernel_rfl)) (hdp 9 16 (by decide) rfl (by kernel_rfl)) ⟨hX.next (by decide), rfl, fun _ _ _ h => h⟩
    | 11 => intro o L ho hLi hd a' X hX hfr hdp; obtain rfl := Option.some.inj ho; exact opx_build23 rfl (hdp 4 11 (by decide) rfl (by kernel_rfl)) (hdp 10 17 (by decide) rfl (by kernel_rfl)) ⟨hX.next (by decide), rfl, fun _ _ _ h => h⟩
    | 12 =>
      intro o L ho hLi hd a' X hX hfr hdp; obtain rfl := Option.some.inj ho
      have hs := hX.s
      rw [if_neg (by rw [hLi]; decide)] at hs
      refine opx_store23 rfl (hfr 6 (by decide)) (hdp 11 18 (by decide) rfl (by kernel_rfl)) hs ?_
      intro X' hz hc
      exact ⟨⟨hX.below.trans (hc.below (Nat.le_refl _)), by simp only [if_true]; exact hz⟩, trivial, fun _ _ _ h => h⟩
    | j + 13 => intro o L ho; simp at ho
  case fin =>
    intro X L Vv hLL hX hV
    have hs := hX.s
    rw [if_pos (hLL 12 (by decide))] at hs
    have HB := Lib.hid hX.below
    have cc0 := (cell_of_block hs 0).trans rfl
    have cc1 := (cell_of_block hs 1).trans rfl
    simp only [fill, Act.put, List.setIfInBounds_toArray, List.set_cons_zero, List.set_cons_succ, Nat.reduceAdd]
    clear hX hLL hV hs
    go_wp2_with fail
    refine bodyPost_ret (v := .agg #[.int .i64 (mx (x - a % 30) 0), .int .i64 (mn (x + b % 30) most)]) ?_ rfl ⟨rfl, HB.out⟩
    simp [results, Tryd.results105, go_sem, cc0, cc1]
section
variable {Q : Exit → Act → World → Prop} {o : Oper} {a : Act} {W : World} {R : Value → World → Prop}
theorem opx_field37 {s g k : Nat} (hop : o.op = Op.fieldAddr 37 (.tmp s) k) (he : a.eval (.tmp s) = .pointer (some ⟨g, 0, none⟩)) (hk : k < 4) (hR : R (.pointer (some ⟨g, 0 + k, none⟩)) W) : o.wp Tryd.prog a W (fun a'' W'' => ∃ x, a'' = a.put o.dst x ∧ R x W'') Q := by
  have he' : a.tmps[s]?.getD undef = .pointer (some ⟨g, 0, none⟩) := by simpa [Act.eval] using he
  refine op_val ?_ hR
  unfold execOp
  rw [hop]
  match k, hk with
  | 0, _ => simp [go_sem, he']
  | 1, _ => simp [go_sem, he']
  | 2, _ => simp [go_sem, he']
  | 3, _ => simp [go_sem, he']
theorem opx_callcl {f s t : Nat} {v c p q : Value} {ts : Array TypeId} (hop : o.op = Op.call { callee := .value (.tmp t), args := #[.tmp s, .const c], argTypes := ts })
    (he : a.eval (.tmp s) = v) (ht : a.eval (.tmp t) = .func (.func f) #[] #[p, q]) (eg : ∀ args w, (callFunc f args).run Tryd.prog w = .ok (.enter f args) w) (hc : Calls Tryd.prog f #[v, c, p, q] W fun e w' => ∃ x, e = .returned x ∧ R x w') : o.wp Tryd.prog a W (fun a'' W'' => ∃ x, a'' = a.put o.dst x ∧ R x W'') Q := by
  have he' : a.tmps[s]?.getD undef = v := by simpa [Act.eval] using he
  have ht' : a.tmps[t]?.getD undef = .func (.func f) #[] #[p, q] := by simpa [Act.eval] using ht
  unfold Oper.wp execOp
  rw [hop]
  simp [go_sem, he', ht', eg]
  refine hc.mono ?_
  rintro e w' ⟨x, rfl, hb⟩
  exact ⟨x, rfl, hb⟩
end
theorem eg105 : ∀ args w, (callFunc 105 args).run Tryd.prog w = .ok (.enter 105 args) w := Go.Proofs.enters_of Tryd.func105 (by kernel_rfl) rfl
/-- The cell around some ice. -/
def arLo (x : Nat → Int) (a : Int) (q : Nat) : Int := mx (x q - a % 30) 0
def arHi (x : Nat → Int) (b : Int) (q : Nat) : Int := mn (x q + b % 30) (lim q)
def aroPv (x : Nat → Int) (a b : Int) (B T U : Nat) (j : Nat) (v : Value) : Prop :=
  match j with
  | 0 => v = .func (.func 105) #[] #[.pointer (some ⟨T, 0, none⟩), .pointer (some ⟨U, 0, none⟩)]
  | 1 => v = .pointer (some ⟨B, 0 + 0, none⟩)
  | 2 => v = .int .i64 (x 0)
  | 3 => v = .agg #[.int .i64 (mx (x 0 - a % 30) 0), .int .i64 (mn (x 0 + b % 30) 100)]
  | 4 => v = .func (.func 105) #[] #[.pointer (some ⟨T, 0, none⟩), .pointer (some ⟨U, 0, none⟩)]
  | 5 => v = .pointer (some ⟨B, 0 + 1, none⟩)
  | 6 => v = .int .i64 (x 1)
  | 7 => v = .agg #[.int .i64 (mx (x 1 - a % 30) 0), .int .i64 (mn (x 1 + b % 30) 400)]
  | 8 => v = .func (.func 105) #[] #[.pointer (some ⟨T, 0, none⟩), .pointer (some ⟨U, 0, none⟩)]
  | 9 => v = .pointer (some ⟨B, 0 + 2, none⟩)
  | 10 => v = .int .i64 (x 2)
  | 11 => v = .agg #[.int .i64 (mx (x 2 - a % 30) 0), .int .i64 (mn (x 2 + b % 30) 100)]
  | 12 => v = .func (.func 105) #[] #[.pointer (some ⟨T, 0, none⟩), .pointer (some ⟨U, 0, none⟩)]
  | 13 => v = .pointer (some ⟨B, 0 + 3, none⟩)
  | 14 => v = .int .i64 (x 3)
  | 15 => v = .agg #[.int .i64 (mx (x 3 - a % 30) 0), .int .i64 (mn (x 3 + b % 30) 3)]
  | 16 => v = .agg (cellA (arLo x a) (arHi x b))
  | _ => True
structure AoWd (V : World) (B : Nat) (s t : Array Value) (L : Nat → Bool) (X : World) : Prop where
  below : Below B V X
  lt : B < X.heap.size
  s : X.heap[B]? = some (.cells (if L 17 = true then t else s) 32 (0, 0))
theorem AoWd.next {V : World} {B : Nat} {s t : Array Value} {L : Nat → Bool} {X X' : World} (h : AoWd V B s t L X) (hb : Below X.heap.size X X') {i : Nat} (n : 17 ≠ i) : AoWd V B s t (fun j => if j = i then true else L j) X' :=
  ⟨h.below.trans (hb.mono (Nat.le_of_lt h.lt)), Nat.lt_of_lt_of_le h.lt hb.size, by simp only [if_neg n]; exact (hb.block _ h.lt).trans h.s⟩
set_option maxHeartbeats 4000000 in
theorem around_any (x : Nat → Int) (a b : Int) (w : World) (hx : ∀ q, q < 4 → 0 ≤ x q ∧ x q ≤ lim q) :
    Calls Tryd.prog 52 #[.agg (iceA x), .int .i64 a, .int .i64 b] w fun e w' => e = .returned (.agg (cellA (arLo x a) (arHi x b))) ∧ Below w.heap.size w w' := by
  have HX := Lib.hid (show ∀ q, q < 4 → 0 ≤ x q ∧ x q ≤ 400 from all4 (by have := hx 0 (by decide); rw [show lim 0 = 100 from rfl] at this; omega) (by have := hx 1 (by decide); rw [show lim 1 = 400 from rfl] at this; omega) (by have := hx 2 (by decide); rw [show lim 2 = 100 from rfl] at this; omega) (by have := hx 3 (by decide); rw [show lim 3 = 3 from rfl] at this; omega))
  clear hx
  obtain ⟨a1, a2, a3, a4, a5, a6⟩ := four_allocs w (.cells (iceA x) 37) (.cells #[.int .i64 a] 3) (.cells #[.int .i64 b] 3) (.cells zero8 32)
  have K0 := Lib.hid a1
  have K1 := Lib.hid a2
  have K2 := Lib.hid a3
  have KR := Lib.hid a4
  have KB := Lib.hid a6
  clear a1 a2 a3 a4 a6
  go_enter Tryd.func52, Tryd.ntmps52
  go_wp2_with fail
  generalize (((w.alloc (.cells (iceA x) 37)).alloc (.cells #[.int .i64 a] 3)).alloc (.cells #[.int .i64 b] 3)).alloc (.cells zero8 32) = V at *
  refine wp_region_valsL [9, 10, 11, 12, 13, 14, 15, 16, 17, 18, 19, 20, 21, 22, 23, 24, 25, 1000] (AoWd V (w.heap.size + 1 + 1 + 1) zero8 (cellA (arLo x a) (arHi x b))) (fun j v _ => aroPv x a b w.heap.size (w.heap.size + 1) (w.heap.size + 1 + 1) j v)
    (by kernel_rfl) (by kernel_rfl) (fun s hs h => by simp at hs ⊢; omega) (by simp) ⟨⟨rfl, rfl, rfl, Nat.le_refl _, fun _ _ => rfl⟩, by show _ < V.heap.size; omega, KR.out⟩ ?val ?fin
  case val =>
    intro j
    match j with
    | 0 => intro o L ho hLi hd a' X hX hfr hdp; obtain rfl := Option.some.inj ho; exact opx_move rfl (hfr 7 (by decide)) ⟨hX.next (Below.refl _ _) (by decide), rfl, fun _ _ _ h => h⟩
    | 1 => intro o L ho hLi hd a' X hX hfr hdp; obtain rfl := Option.some.inj ho; exact opx_field37 rfl (hfr 3 (by decide)) (by decide) ⟨hX.next (Below.refl _ _) (by decide), rfl, fun _ _ _ h => h⟩
    | 2 => intro o L ho hLi hd a' X hX hfr hdp; obtain rfl := Option.some.inj ho; exact opx_load3 rfl (hdp 1 10 (by decide) rfl (by kernel_rfl)) ((cell_of_block ((hX.below.block w.heap.size (by omega)).trans K0.out) (0 + 0)).trans rfl) ⟨hX.next (Below.refl _ _) (by decide), rfl, fun _ _ _ h => h⟩
    | 3 =>
      intro o L ho hLi hd a' X hX hfr hdp; obtain rfl := Option.some.inj ho
      have hz := hX.below.size
      have b1 := (hX.below.block (w.heap.size + 1) (by omega)).trans K1.out
      have b2 := (hX.below.block (w.heap.size + 1 + 1) (by omega)).trans K2.out
      refine opx_callcl rfl (hdp 2 11 (by decide) rfl (by kernel_rfl)) (hdp 0 9 (by decide) rfl (by kernel_rfl)) eg105 ((around1_any (x 0) 100 a b (w.heap.size + 1) (w.heap.size + 1 + 1) X (lt_of_block b1) (lt_of_block b2) ((cell_of_block b1 0).trans rfl) ((cell_of_block b2 0).trans rfl) (HX.out 0 (by decide))).mono ?_)
      rintro e W' ⟨rfl, hb⟩
      exact ⟨_, rfl, hX.next hb (by decide), rfl, fun _ _ _ h => h⟩
    | 4 => intro o L ho hLi hd a' X hX hfr hdp; obtain rfl := Option.some.inj ho; exact opx_move rfl (hfr 7 (by decide)) ⟨hX.next (Below.refl _ _) (by decide), rfl, fun _ _ _ h => h⟩
    | 5 => intro o L ho hLi hd a' X hX hfr hdp; obtain rfl := Option.some.inj ho; exact opx_field37 rfl (hfr 3 (by decide)) (by decide) ⟨hX.next (Below.refl _ _) (by decide), rfl, fun _ _ _ h => h⟩
    | 6 => intro o L ho hLi hd a' X hX hfr hdp; obtain rfl := Option.some.inj ho; exact opx_load3 rfl (hdp 5 14 (by decide) rfl (by kernel_rfl)) ((cell_of_block ((hX.below.block w.heap.size (by omega)).trans K0.out) (0 + 1)).trans rfl) ⟨hX.next (Below.refl _ _) (by decide), rfl, fun _ _ _ h => h⟩
    | 7 =>
      intro o L ho hLi hd a' X hX hfr hdp; obtain rfl := Option.some.inj ho
      have hz := hX.below.size
      have b1 := (hX.below.block (w.heap.size + 1) (by omega)).trans K1.out
      have b2 := (hX.below.block (w.heap.size + 1 + 1) (by omega)).trans K2.out
      refine opx_callcl rfl (hdp 6 15 (by decide) rfl (by kernel_rfl)) (hdp 4 13 (by decide) rfl (by kernel_rfl)) eg105 ((around1_any (x 1) 400 a b (w.heap.size + 1) (w.heap.size + 1 + 1) X (lt_of_block b1) (lt_of_block b2) ((cell_of_block b1 0).trans rfl) ((cell_of_block b2 0).trans rfl) (HX.out 1 (by decide))).mono ?_)
      rintro e W' ⟨rfl, hb⟩
      exact ⟨_, rfl, hX.next hb (by decide), rfl, fun _ _ _ h => h⟩
    | 8 => intro o L ho hLi hd a' X hX hfr hdp; obtain rfl := Option.some.inj ho; exact opx_move rfl (hfr 7 (by decide)) ⟨hX.next (Below.refl _ _) (by decide), rfl, fun _ _ _ h => h⟩
    | 9 => intro o L ho hLi hd a' X hX hfr hdp; obtain rfl := Option.some.inj ho; exact opx_field37 rfl (hfr 3 (by decide)) (by decide) ⟨hX.next (Below.refl _ _) (by decide), rfl, fun _ _ _ h => h⟩
    | 10 => intro o L ho hLi hd a' X hX hfr hdp; obtain rfl := Option.some.inj ho; exact opx_load3 rfl (hdp 9 18 (by decide) rfl (by kernel_rfl)) ((cell_of_block ((hX.below.block w.heap.size (by omega)).trans K0.out) (0 + 2)).trans rfl) ⟨hX.next (Below.refl _ _) (by decide), rfl, fun _ _ _ h => h⟩
    | 11 =>
      intro o L ho hLi hd a' X hX hfr hdp; obtain rfl := Option.some.inj ho
      have hz := hX.below.size
      have b1 := (hX.below.block (w.heap.size + 1) (by omega)).trans K1.out
      have b2 := (hX.below.block (w.heap.size + 1 + 1) (by omega)).trans K2.out
      refine opx_callcl rfl (hdp 10 19 (by decide) rfl (by kernel_rfl)) (hdp 8 17 (by decide) rfl (by kernel_rfl)) eg105 ((around1_any (x 2) 100 a b (w.heap.size + 1) (w.heap.size + 1 + 1) X (lt_of_block b1) (lt_of_block b2) ((cell_of_block b1 0).trans rfl) ((cell_of_block b2 0).trans rfl) (HX.out 2 (by decide))).mono ?_)
      rintro e W' ⟨rfl, hb⟩
      exact ⟨_, rfl, hX.next hb (by decide), rfl, fun _ _ _ h => h⟩
    | 12 => intro o L ho hLi hd a' X hX hfr hdp; obtain rfl := Option.some.inj ho; exact opx_move rfl (hfr 7 (by decide)) ⟨hX.next (Below.refl _ _) (by decide), rfl, fun _ _ _ h => h⟩
    | 13 => intro o L ho hLi hd a' X hX hfr hdp; obtain rfl := Option.some.inj ho; exact opx_field37 rfl (hfr 3 (by decide)) (by decide) ⟨hX.next (Below.refl _ _) (by decide), rfl, fun _ _ _ h => h⟩
    | 14 => intro o L ho hLi hd a' X hX hfr hdp; obtain rfl := Option.some.inj ho; exact opx_load3 rfl (hdp 13 22 (by decide) rfl (by kernel_rfl)) ((cell_of_block ((hX.below.block w.heap.size (by omega)).trans K0.out) (0 + 3)).trans rfl) ⟨hX.next (Below.refl _ _) (by decide), rfl, fun _ _ _ h => h⟩
    | 15 =>
      intro o L ho hLi hd a' X hX hfr hdp; obtain rfl := Option.some.inj ho
      have hz := hX.below.size
      have b1 := (hX.below.block (w.heap.size + 1) (by omega)).trans K1.out
      have b2 := (hX.below.block (w.heap.size + 1 + 1) (by omega)).trans K2.out
      refine opx_callcl rfl (hdp 14 23 (by decide) rfl (by kernel_rfl)) (hdp 12 21 (by decide) rfl (by kernel_rfl)) eg105 ((around1_any (x 3) 3 a b (w.heap.size + 1) (w.heap.size + 1 + 1) X (lt_of_block b1) (lt_of_block b2) ((cell_of_block b1 0).trans rfl) ((cell_of_block b2 0).trans rfl) (HX.out 3 (by decide))).mono ?_)
      rintro e W' ⟨rfl, hb⟩
      exact ⟨_, rfl, hX.next hb (by decide), rfl, fun _ _ _ h => h⟩
    | 16 => intro o L ho hLi hd a' X hX hfr hdp; obtain rfl := Option.some.inj ho; exact opx_build32 rfl (hdp 3 12 (by decide) rfl (by kernel_rfl)) (hdp 7 16 (by decide) rfl (by kernel_rfl)) (hdp 11 20 (by decide) rfl (by kernel_rfl)) (hdp 15 24 (by decide) rfl (by kernel_rfl)) ⟨hX.next (Below.refl _ _) (by decide), rfl, fun _ _ _ h => h⟩
    | 17 =>
      intro o L ho hLi hd a' X hX hfr hdp; obtain rfl := Option.some.inj ho
      have hs := hX.s
      rw [if_neg (by rw [hLi]; decide)] at hs
      refine op_store8 rfl (hfr 6 (by decide)) (hdp 16 25 (by decide) rfl (by kernel_rfl)) hs ?_
      intro X' hz hc
      exact ⟨⟨hX.below.trans (hc.below (Nat.le_refl _)), Nat.le_trans hX.lt (Nat.le_of_eq hc.1.symm), by simp only [if_true]; exact hz⟩, trivial, fun _ _ _ h => h⟩
    | j + 18 => intro o L ho; simp at ho
  case fin =>
    intro X L Vv hLL hX hV
    have hs := hX.s
    rw [if_pos (hLL 17 (by decide))] at hs
    have HB := Lib.hid (show Below w.heap.size w X from KB.out.trans (hX.below.mono (by omega)))
    obtain ⟨⟨g0, g1, g2, g3, g4, g5, g6, g7⟩, _⟩ := cells8 hs
    simp only [fill, Act.put, List.setIfInBounds_toArray, List.set_cons_zero, List.set_cons_succ, Nat.reduceAdd]
    clear hX hLL hV hs
    go_wp2_with fail
    refine bodyPost_ret (v := .agg (cellA (arLo x a) (arHi x b))) ?_ rfl ⟨rfl, HB.out⟩
    simp [results, Tryd.results52, go_sem, g0, g1, g2, g3, g4, g5, g6, g7]
end Go.Proofs.YtdcpmdigihbdpaaDoor
