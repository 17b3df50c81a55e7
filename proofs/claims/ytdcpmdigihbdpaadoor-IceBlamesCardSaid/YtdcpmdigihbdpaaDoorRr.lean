/- The contract of ice.ofOneCell: at most 400 reports. The table of limits holds 100, 400, 100, 3. -/
import Derived.Test.YtdcpmdigihbdpaaDoorRp
import Derived.Test.YtdcpmdigihbdpaaDoorRq
namespace Go.Proofs.YtdcpmdigihbdpaaDoor
open Go.RowKit
set_option maxRecDepth 100000
variable {Q : Exit → Act → World → Prop}
abbrev zeroWork : Array Value := #[.int .i64 0, .int .i64 0, .int .i64 0, .int .i64 0, .int .i64 0, .int .i64 0, .int .i64 0, .int .i64 0, .int .i64 0, .slice none 0 0]
theorem cells10 {W : World} {b : Nat} {x0 x1 x2 x3 x4 x5 x6 x7 x8 x9 : Value} {t : TypeId} (h : W.heap[b]? = some (.cells #[x0, x1, x2, x3, x4, x5, x6, x7, x8, x9] t (0, 0))) :
    (W.cell? ⟨b, 0, none⟩ = some x0 ∧ W.cell? ⟨b, 1, none⟩ = some x1 ∧ W.cell? ⟨b, 2, none⟩ = some x2 ∧ W.cell? ⟨b, 3, none⟩ = some x3 ∧ W.cell? ⟨b, 4, none⟩ = some x4 ∧ W.cell? ⟨b, 5, none⟩ = some x5 ∧ W.cell? ⟨b, 6, none⟩ = some x6 ∧ W.cell? ⟨b, 7, none⟩ = some x7 ∧ W.cell? ⟨b, 8, none⟩ = some x8 ∧ W.cell? ⟨b, 9, none⟩ = some x9) ∧ (W.frozen? ⟨b, 0, none⟩ = false ∧ W.frozen? ⟨b, 1, none⟩ = false ∧ W.frozen? ⟨b, 2, none⟩ = false ∧ W.frozen? ⟨b, 3, none⟩ = false ∧ W.frozen? ⟨b, 4, none⟩ = false ∧ W.frozen? ⟨b, 5, none⟩ = false ∧ W.frozen? ⟨b, 6, none⟩ = false ∧ W.frozen? ⟨b, 7, none⟩ = false ∧ W.frozen? ⟨b, 8, none⟩ = false ∧ W.frozen? ⟨b, 9, none⟩ = false) := by
  refine ⟨⟨?_, ?_, ?_, ?_, ?_, ?_, ?_, ?_, ?_, ?_⟩, ⟨?_, ?_, ?_, ?_, ?_, ?_, ?_, ?_, ?_, ?_⟩⟩ <;> first | exact frozen_of_block h _ | (rw [cell_of_block h]; rfl)
theorem store10_block {W : World} {b : Nat} {x0 x1 x2 x3 x4 x5 x6 x7 x8 x9 : Value} {t : TypeId} (h : W.heap[b]? = some (.cells #[x0, x1, x2, x3, x4, x5, x6, x7, x8, x9] t (0, 0))) (y0 y1 y2 y3 y4 y5 y6 y7 y8 : Int) (p : Option Addr) (n cap : Nat) :
    ((((((((((W.setCell ⟨b, 0, none⟩ (.int .i64 y0)).setCell ⟨b, 1, none⟩ (.int .i64 y1)).setCell ⟨b, 2, none⟩ (.int .i64 y2)).setCell ⟨b, 3, none⟩ (.int .i64 y3)).setCell ⟨b, 4, none⟩ (.int .i64 y4)).setCell ⟨b, 5, none⟩ (.int .i64 y5)).setCell ⟨b, 6, none⟩ (.int .i64 y6)).setCell ⟨b, 7, none⟩ (.int .i64 y7)).setCell ⟨b, 8, none⟩ (.int .i64 y8)).setCell ⟨b, 9, none⟩ (.slice p n cap)).heap[b]? = some (.cells #[.int .i64 y0, .int .i64 y1, .int .i64 y2, .int .i64 y3, .int .i64 y4, .int .i64 y5, .int .i64 y6, .int .i64 y7, .int .i64 y8, .slice p n cap] t (0, 0)) := by
  have h0 := setCell_block h 0 (.int .i64 y0)
  simp only [List.setIfInBounds_toArray, List.set_cons_zero] at h0
  have h1 := setCell_block h0 1 (.int .i64 y1)
  simp only [List.setIfInBounds_toArray, List.set_cons_zero, List.set_cons_succ] at h1
  have h2 := setCell_block h1 2 (.int .i64 y2)
  simp only [List.setIfInBounds_toArray, List.set_cons_zero, List.set_cons_succ] at h2
  have h3 := setCell_block h2 3 (.int .i64 y3)
  simp only [List.setIfInBounds_toArray, List.set_cons_zero, List.set_cons_succ] at h3
  have h4 := setCell_block h3 4 (.int .i64 y4)
  simp only [List.setIfInBounds_toArray, List.set_cons_zero, List.set_cons_succ] at h4
  have h5 := setCell_block h4 5 (.int .i64 y5)
  simp only [List.setIfInBounds_toArray, List.set_cons_zero, List.set_cons_succ] at h5
  have h6 := setCell_block h5 6 (.int .i64 y6)
  simp only [List.setIfInBounds_toArray, List.set_cons_zero, List.set_cons_succ] at h6
  have h7 := setCell_block h6 7 (.int .i64 y7)
  simp only [List.setIfInBounds_toArray, List.set_cons_zero, List.set_cons_succ] at h7
  have h8 := setCell_block h7 8 (.int .i64 y8)
  simp only [List.setIfInBounds_toArray, List.set_cons_zero, List.set_cons_succ] at h8
  have h9 := setCell_block h8 9 (.slice p n cap)
  simp only [List.setIfInBounds_toArray, List.set_cons_zero, List.set_cons_succ] at h9
  exact h9
theorem list_store10 {ops : Array Oper} {o : Oper} {rest : List Oper} {a : Act} {W : World} {s r b : Nat} {t : TypeId} {x0 x1 x2 x3 x4 x5 x6 x7 x8 : Int} {p0 : Option Addr} {n0 cap0 : Nat} {y0 y1 y2 y3 y4 y5 y6 y7 y8 : Int} {p : Option Addr} {n cap : Nat} (hg : o.guard = none) (hd : o.dst = none) (hop : o.op = Op.store 139 (.tmp s) (.tmp r))
    (he : a.eval (.tmp s) = .pointer (some ⟨b, 0, none⟩)) (hv : a.eval (.tmp r) = .agg #[.int .i64 y0, .int .i64 y1, .int .i64 y2, .int .i64 y3, .int .i64 y4, .int .i64 y5, .int .i64 y6, .int .i64 y7, .int .i64 y8, .slice p n cap]) (hb : W.heap[b]? = some (.cells #[.int .i64 x0, .int .i64 x1, .int .i64 x2, .int .i64 x3, .int .i64 x4, .int .i64 x5, .int .i64 x6, .int .i64 x7, .int .i64 x8, .slice p0 n0 cap0] t (0, 0)))
    (hK : ∀ W', W'.heap[b]? = some (.cells #[.int .i64 y0, .int .i64 y1, .int .i64 y2, .int .i64 y3, .int .i64 y4, .int .i64 y5, .int .i64 y6, .int .i64 y7, .int .i64 y8, .slice p n cap] t (0, 0)) → Chg b W W' → wpList Tryd.prog ops Q rest a W') : wpList Tryd.prog ops Q (o :: rest) a W := by
  obtain ⟨⟨c0, c1, c2, c3, c4, c5, c6, c7, c8, c9⟩, f0, f1, f2, f3, f4, f5, f6, f7, f8, f9⟩ := cells10 hb
  have he' : a.tmps[s]?.getD undef = .pointer (some ⟨b, 0, none⟩) := by simpa [Act.eval] using he
  have hv' : a.tmps[r]?.getD undef = .agg #[.int .i64 y0, .int .i64 y1, .int .i64 y2, .int .i64 y3, .int .i64 y4, .int .i64 y5, .int .i64 y6, .int .i64 y7, .int .i64 y8, .slice p n cap] := by simpa [Act.eval] using hv
  refine list_store hg hd ?_ (hK _ (store10_block hb y0 y1 y2 y3 y4 y5 y6 y7 y8 p n cap) ((((((((((chg_setCell W b 0 _).trans (chg_setCell _ b 1 _)).trans (chg_setCell _ b 2 _)).trans (chg_setCell _ b 3 _)).trans (chg_setCell _ b 4 _)).trans (chg_setCell _ b 5 _)).trans (chg_setCell _ b 6 _)).trans (chg_setCell _ b 7 _)).trans (chg_setCell _ b 8 _)).trans (chg_setCell _ b 9 _)))
  unfold execOp
  rw [hop]
  simp [go_sem, he', hv', c0, c1, c2, c3, c4, c5, c6, c7, c8, c9, f0, f1, f2, f3, f4, f5, f6, f7, f8, f9]
theorem op_load139 {o : Oper} {a' : Act} {W : World} {s b : Nat} {t : TypeId} {x0 x1 x2 x3 x4 x5 x6 x7 x8 x9 : Value} (hop : o.op = Op.load 139 (.tmp s)) (he : a'.eval (.tmp s) = .pointer (some ⟨b, 0, none⟩)) (hb : W.heap[b]? = some (.cells #[x0, x1, x2, x3, x4, x5, x6, x7, x8, x9] t (0, 0))) :
    o.wp Tryd.prog a' W (fun a'' W' => a'' = a'.put o.dst (.agg #[x0, x1, x2, x3, x4, x5, x6, x7, x8, x9]) ∧ W' = W) Q := by
  obtain ⟨⟨c0, c1, c2, c3, c4, c5, c6, c7, c8, c9⟩, _⟩ := cells10 hb
  have he' : a'.tmps[s]?.getD undef = .pointer (some ⟨b, 0, none⟩) := by simpa [Act.eval] using he
  unfold Oper.wp execOp
  rw [hop]
  simp [go_sem, he', c0, c1, c2, c3, c4, c5, c6, c7, c8, c9]
theorem op_makeFunc1 {o : Oper} {a' : Act} {W : World} {s g : Nat} {v : Value} (hop : o.op = Op.makeFunc (.func g) #[] #[.tmp s]) (he : a'.eval (.tmp s) = v) :
    o.wp Tryd.prog a' W (fun a'' W' => a'' = a'.put o.dst (.func (.func g) #[] #[v]) ∧ W' = W) Q := by
  have he' : a'.tmps[s]?.getD undef = v := by simpa [Act.eval] using he
  unfold Oper.wp execOp
  rw [hop]
  simp [go_sem, he']
theorem op_call2 {o : Oper} {a' : Act} {W : World} {f s t : Nat} {v u r : Value} {ts : Array TypeId} (hop : o.op = Op.call { callee := .value (.func f), args := #[.tmp s, .tmp t], argTypes := ts })
    (he : a'.eval (.tmp s) = v) (hu : a'.eval (.tmp t) = u) (eg : ∀ args w, (callFunc f args).run Tryd.prog w = .ok (.enter f args) w) (hc : Calls Tryd.prog f #[v, u] W fun e w' => e = .returned r ∧ Below W.heap.size W w') :
    o.wp Tryd.prog a' W (fun a'' W' => a'' = a'.put o.dst r ∧ Below W.heap.size W W') Q := by
  have he' : a'.tmps[s]?.getD undef = v := by simpa [Act.eval] using he
  have hu' : a'.tmps[t]?.getD undef = u := by simpa [Act.eval] using hu
  unfold Oper.wp execOp
  rw [hop]
  simp [go_sem, he', hu', eg]
  refine hc.mono ?_
  rintro e w' ⟨rfl, hb⟩
  exact ⟨rfl, hb⟩
theorem eg87 : ∀ args w, (callFunc 87 args).run Tryd.prog w = .ok (.enter 87 args) w := Go.Proofs.enters_of Tryd.func87 (by kernel_rfl) rfl
theorem eg121 : ∀ args w, (callFunc 121 args).run Tryd.prog w = .ok (.enter 121 args) w := Go.Proofs.enters_of Tryd.func121 (by kernel_rfl) rfl
def hourE (now : Int) : Int := if 0 ≤ now ∧ now ≤ 10000 then 0 else 6
theorem checkHour_h (now : Int) (w : World) : Calls Tryd.prog 81 #[.int .i64 now] w fun e w' => e = .returned (.int .i64 (hourE now)) ∧ w = w' := checkHour_any now w
def inE (u d : Nat → Int) (now : Int) : Int := orL [errB (okRates u d) 6, hourE now]
def oneE (u d : Nat → Int) (now : Int) (R : Nat → Rep) (n : Nat) : Int := if inE u d now ≠ 0 then inE u d now else if 12 < n then 2 else fwE (errF R now (astB R)) n
def oneW (u d : Nat → Int) (now : Int) (p : Option Addr) (n cap : Nat) : Value := if inE u d now ≠ 0 ∨ 12 < n then .agg zeroWork else .agg (workA u d now (.slice p n cap))
set_option maxHeartbeats 2000000 in
theorem ofOneCell_any (u d : Nat → Int) (now : Int) (p : Option Addr) (n cap : Nat) (hn : n ≤ 400) (R : Nat → Rep) (w : World) (hl : Lim w) (hR : Reps w p n R) :
    Calls Tryd.prog 93 #[.slice p n cap, .agg #[.int .i64 (u 0), .int .i64 (u 1), .int .i64 (u 2), .int .i64 (u 3), .int .i64 (d 0), .int .i64 (d 1), .int .i64 (d 2), .int .i64 (d 3)], .int .i64 now] w fun e w' => e = .returned (.tuple #[oneW u d now p n cap, .int .i64 (oneE u d now R n)]) ∧ Below w.heap.size w w' := by
  have hpos := hl.pos
  have HL := Lib.hid hl
  have HR := Lib.hid hR
  clear hl hR
  go_enter Tryd.func93, Tryd.ntmps93
  have h3 := three_allocs w (.cells #[.slice p n cap] 63) (.cells #[.int .i64 (u 0), .int .i64 (u 1), .int .i64 (u 2), .int .i64 (u 3), .int .i64 (d 0), .int .i64 (d 1), .int .i64 (d 2), .int .i64 (d 3)] 41) (.cells zeroWork 139)
  obtain ⟨a1, a2, a3, a4, a5⟩ := h3
  have A1 := Lib.hid a1
  have A2 := Lib.hid a2
  have A3 := Lib.hid a3
  have AB := Lib.hid a5
  clear a1 a2 a3 a5
  go_wp2_with fail
  generalize ((w.alloc (.cells #[.slice p n cap] 63)).alloc (.cells #[.int .i64 (u 0), .int .i64 (u 1), .int .i64 (u 2), .int .i64 (u 3), .int .i64 (d 0), .int .i64 (d 1), .int .i64 (d 2), .int .i64 (d 3)] 41)).alloc (.cells zeroWork 139) = V at *
  refine (CheckRates_any u d V).mono ?_
  rintro e W1 ⟨rfl, hb1⟩
  go_wp2_with fail
  refine (checkHour_h now W1).mono ?_
  rintro e W1' ⟨rfl, rfl⟩
  go_wp2_with fail
  have z1 := hb1.size
  have hb2 := hb1.alloc hb1.size (.cells #[.int .i64 (errB (okRates u d) 6), .int .i64 (hourE now)] 33)
  have hn2 := cell_of_block (block_new W1 (.cells #[.int .i64 (errB (okRates u d) 6), .int .i64 (hourE now)] 33))
  refine (or_any W1.heap.size [errB (okRates u d) 6, hourE now] _ (fun i hi => ?_) (by simp)).mono ?_
  · match i, hi with
    | 0, _ => exact (hn2 0).trans rfl
    | 1, _ => exact (hn2 1).trans rfl
  rintro e W2 ⟨rfl, hW2⟩
  have hb3 : Below V.heap.size V W2 := hW2 ▸ hb2
  clear hW2 hb2 hn2 hb1
  have z2 := hb3.size
  have B1 := Lib.hid ((hb3.block _ (by omega)).trans A1.out)
  have B2 := Lib.hid ((hb3.block _ (by omega)).trans A2.out)
  have B3 := Lib.hid ((hb3.block _ (by omega)).trans A3.out)
  have BB := Lib.hid (AB.out.trans (hb3.mono AB.out.size))
  clear A1 A2 A3 AB hb3
  cases hE : decide (inE u d now = 0) with
  | false =>
    have hE' : ¬ inE u d now = 0 := of_decide_eq_false hE
    have F1 := Lib.hid (show oneW u d now p n cap = .agg zeroWork by unfold oneW; rw [if_pos (.inl hE')])
    have F2 := Lib.hid (show oneE u d now R n = inE u d now by unfold oneE; rw [if_pos hE'])
    have hE2 : ¬ orL [errB (okRates u d) 6, hourE now] = 0 := hE'
    clear hE
    go_wp2_with (refine list_store10 rfl rfl rfl rfl rfl B3.out ?_; intro W6 h6 hc6)
    obtain ⟨⟨g0, g1, g2, g3, g4, g5, g6, g7, g8, g9⟩, _⟩ := cells10 h6
    have HB6 := Lib.hid (BB.out.trans (hc6.below (by omega)))
    refine bodyPost_ret (v := .tuple #[.agg zeroWork, .int .i64 (orL [errB (okRates u d) 6, hourE now])]) ?_ rfl ⟨by rw [F1.out, F2.out]; rfl, HB6.out⟩
    simp [results, Tryd.results93, go_sem, g0, g1, g2, g3, g4, g5, g6, g7, g8, g9]
  | true =>
    have hE' : inE u d now = 0 := of_decide_eq_true hE
    have hE2 : orL [errB (okRates u d) 6, hourE now] = 0 := hE'
    have s0 := (cell_of_block B1.out 0).trans rfl
    clear hE
    cases hN : decide (12 < n) with
    | true =>
      have hN' : 12 < n := of_decide_eq_true hN
      have hN2 : (12 : Int) < (n : Int) := by omega
      have F1 := Lib.hid (show oneW u d now p n cap = .agg zeroWork by unfold oneW; rw [if_pos (.inr hN')])
      have F2 := Lib.hid (show oneE u d now R n = 2 by unfold oneE; rw [if_neg (by simpa using hE'), if_pos hN'])
      clear hN
      go_wp2_with (refine list_store10 rfl rfl rfl rfl rfl B3.out ?_; intro W6 h6 hc6)
      obtain ⟨⟨g0, g1, g2, g3, g4, g5, g6, g7, g8, g9⟩, _⟩ := cells10 h6
      have HB6 := Lib.hid (BB.out.trans (hc6.below (by omega)))
      refine bodyPost_ret (v := .tuple #[.agg zeroWork, .int .i64 (2)]) ?_ rfl ⟨by rw [F1.out, F2.out], HB6.out⟩
      simp [results, Tryd.results93, go_sem, g0, g1, g2, g3, g4, g5, g6, g7, g8, g9]
    | false =>
      have hN' : ¬ 12 < n := of_decide_eq_false hN
      have hN2 : ¬ (12 : Int) < (n : Int) := by omega
      have F1 := Lib.hid (show oneW u d now p n cap = .agg (workA u d now (.slice p n cap)) by unfold oneW; rw [if_neg (by simp [hE']; omega)])
      have F2 := Lib.hid (show oneE u d now R n = fwE (errF R now (astB R)) n by unfold oneE; rw [if_neg (by simpa using hE'), if_neg hN'])
      have hm := cell_of_block B2.out
      have m0 := (hm 0).trans rfl
      have m1 := (hm 1).trans rfl
      have m2 := (hm 2).trans rfl
      have m3 := (hm 3).trans rfl
      have m4 := (hm 4).trans rfl
      have m5 := (hm 5).trans rfl
      have m6 := (hm 6).trans rfl
      have m7 := (hm 7).trans rfl
      clear hN hm
      go_wp2_with fail
      have K0 := block_new W2 (.cells (workA u d now (.slice p n cap)) 139)
      have KB := (Below.refl W2.heap.size W2).alloc (Nat.le_refl _) (.cells (workA u d now (.slice p n cap)) 139)
      have K1 := Lib.hid ((KB.block _ (by omega)).trans B1.out)
      have K3 := Lib.hid ((KB.block _ (by omega)).trans B3.out)
      have KK := Lib.hid K0
      have KA := Lib.hid (BB.out.trans (KB.mono BB.out.size))
      have zk : W2.heap.size < (W2.alloc (.cells (workA u d now (.slice p n cap)) 139)).heap.size := by simp
      clear K0 KB B1 B2 B3 BB m0 m1 m2 m3 m4 m5 m6 m7 s0
      generalize W2.alloc (.cells (workA u d now (.slice p n cap)) 139) = V3 at *
      refine wp_region_state 4 [28, 29, 30, 31] (fun i => ([.agg (workA u d now (.slice p n cap)), .agg (workA u d now (.slice p n cap)), .func (.func 121) #[] #[.pointer (some ⟨w.heap.size, 0, none⟩)], .int .i64 (fwE (errF R now (astB R)) n)] : List Value).getD i undef)
        (fun _ X => Below V3.heap.size V3 X) (by kernel_rfl) (by kernel_rfl) (fun s hs => by simp at hs ⊢; omega) ⟨rfl, rfl, rfl, Nat.le_refl _, fun _ _ => rfl⟩ ?val ?fin
      case val =>
        intro i
        match i with
        | 0 => intro o L hlt ho hLi a' X hX hfr hdp; obtain rfl := Option.some.inj ho; exact Oper.wp_mono (fun a'' W' ⟨h1, h2⟩ => ⟨h1, h2 ▸ hX⟩) (op_load139 rfl (hfr 9 (by decide)) ((hX.block _ zk).trans KK.out))
        | 1 => intro o L hlt ho hLi a' X hX hfr hdp; obtain rfl := Option.some.inj ho; exact Oper.wp_mono (fun a'' W' ⟨h1, h2⟩ => ⟨h1, h2 ▸ hX⟩) (op_load139 rfl (hfr 9 (by decide)) ((hX.block _ zk).trans KK.out))
        | 2 => intro o L hlt ho hLi a' X hX hfr hdp; obtain rfl := Option.some.inj ho; exact Oper.wp_mono (fun a'' W' ⟨h1, h2⟩ => ⟨h1, h2 ▸ hX⟩) (op_makeFunc1 rfl (hfr 3 (by decide)))
        | 3 =>
          intro o L hlt ho hLi a' X hX hfr hdp; obtain rfl := Option.some.inj ho
          refine Oper.wp_mono (fun a'' W' ⟨h1, h2⟩ => ⟨h1, hX.trans (h2.mono hX.size)⟩) (op_call2 rfl (hdp 1 29 (by decide) rfl (by kernel_rfl)) (hdp 2 30 (by decide) rfl (by kernel_rfl)) eg87 ?_)
          have hwX := KA.out.trans (hX.mono KA.out.size)
          refine check_any u d now p n cap hn R (astB R) 121 _ eg121 X (HL.out.below hpos hwX) (HR.out.later hwX) ?_
          intro k hk W hW
          exact astray1 (R k) w.heap.size p n cap (by omega) R W (HR.out.later (hwX.trans (hW.mono hwX.size))) ((hW.block _ (by have := hX.size; omega)).trans ((hX.block _ (by omega)).trans K1.out))
        | m + 4 => intro o L hlt; omega
      case fin =>
        intro X L hall hX
        have J3 := Lib.hid ((hX.block _ (by omega)).trans K3.out)
        have JB := Lib.hid (KA.out.trans (hX.mono KA.out.size))
        simp only [List.drop_succ_cons, List.drop_zero, fill, Act.put, List.setIfInBounds_toArray, List.set_cons_zero, List.set_cons_succ, Nat.reduceAdd, List.getD_cons_zero, List.getD_cons_succ]
        clear hX hall KA K1 K3 KK
        go_wp2_with (refine list_store10 rfl rfl rfl rfl rfl J3.out ?_; intro W6 h6 hc6)
        obtain ⟨⟨g0, g1, g2, g3, g4, g5, g6, g7, g8, g9⟩, _⟩ := cells10 h6
        have HB6 := Lib.hid (JB.out.trans (hc6.below (by omega)))
        refine bodyPost_ret (v := .tuple #[.agg (workA u d now (.slice p n cap)), .int .i64 (fwE (errF R now (astB R)) n)]) ?_ rfl ⟨by rw [F1.out, F2.out], HB6.out⟩
        simp [results, Tryd.results93, go_sem, g0, g1, g2, g3, g4, g5, g6, g7, g8, g9]
end Go.Proofs.YtdcpmdigihbdpaaDoor
