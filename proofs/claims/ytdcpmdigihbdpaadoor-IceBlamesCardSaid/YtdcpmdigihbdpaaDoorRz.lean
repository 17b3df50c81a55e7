/- The contract of ice.Trust: reports without an error. The table of limits holds 100, 400, 100, 3. -/
import Derived.Test.YtdcpmdigihbdpaaDoorRw
import Derived.Test.YtdcpmdigihbdpaaDoorRu
import Derived.Test.YtdcpmdigihbdpaaDoorRy
namespace Go.Proofs.YtdcpmdigihbdpaaDoor
open Go.RowKit
set_option maxRecDepth 100000
section
variable {Q : Exit → Act → World → Prop} {o : Oper} {a : Act} {W : World} {R : Value → World → Prop}
theorem opx_move {s : Nat} {v : Value} (hop : o.op = Op.move (.tmp s)) (he : a.eval (.tmp s) = v) (hR : R v W) : o.wp Tryd.prog a W (fun a'' W'' => ∃ x, a'' = a.put o.dst x ∧ R x W'') Q := by
  refine op_val ?_ hR
  unfold execOp
  rw [hop]
  simp [he]
theorem opx_assign {s : Nat} {v : Value} (hop : o.op = Op.assign (.tmp s)) (he : a.eval (.tmp s) = v) (hR : R v W) : o.wp Tryd.prog a W (fun a'' W'' => ∃ x, a'' = a.put o.dst x ∧ R x W'') Q := by
  refine op_val ?_ hR
  unfold execOp
  rw [hop]
  simp [he]
theorem opx_assignc {v : Value} (hop : o.op = Op.assign (.const v)) (hR : R v W) : o.wp Tryd.prog a W (fun a'' W'' => ∃ x, a'' = a.put o.dst x ∧ R x W'') Q := by
  refine op_val ?_ hR
  unfold execOp
  rw [hop]
  simp [Act.eval]
theorem opx_len {s n cap : Nat} {p : Option Addr} {t : TypeId} {e : TypeId} (ht : Tryd.prog.underlying t = some (.slice e)) (hop : o.op = Op.call { callee := .builtin .len, args := #[.tmp s], argTypes := #[t] }) (he : a.eval (.tmp s) = .slice p n cap) (hR : R (.int .i64 n) W) : o.wp Tryd.prog a W (fun a'' W'' => ∃ x, a'' = a.put o.dst x ∧ R x W'') Q := by
  have he' : a.tmps[s]?.getD undef = .slice p n cap := by simpa [Act.eval] using he
  refine op_val ?_ hR
  unfold execOp
  rw [hop]
  simp [go_sem, he', ht]
theorem opx_slice152 {s t b n : Nat} (hn : n ≤ 12) (hop : o.op = Op.slice 152 (.tmp s) none (some (.tmp t)) none) (he : a.eval (.tmp s) = .pointer (some ⟨b, 0, none⟩)) (ht : a.eval (.tmp t) = .int .i64 n) (hR : R (.slice (some ⟨b, 0, none⟩) n 12) W) : o.wp Tryd.prog a W (fun a'' W'' => ∃ x, a'' = a.put o.dst x ∧ R x W'') Q := by
  have he' : a.tmps[s]?.getD undef = .pointer (some ⟨b, 0, none⟩) := by simpa [Act.eval] using he
  have ht' : a.tmps[t]?.getD undef = .int .i64 n := by simpa [Act.eval] using ht
  have hn0 : (0 : Int) ≤ (n : Int) := by omega
  have hn12 : (n : Int) ≤ 12 := by omega
  refine op_val ?_ hR
  unfold execOp
  rw [hop]
  simp [go_sem, he', ht', hn0, hn12]
theorem opx_call1 {f s : Nat} {v : Value} {ts : Array TypeId} (hop : o.op = Op.call { callee := .value (.func f), args := #[.tmp s], argTypes := ts })
    (he : a.eval (.tmp s) = v) (eg : ∀ args w, (callFunc f args).run Tryd.prog w = .ok (.enter f args) w) (hc : Calls Tryd.prog f #[v] W fun e w' => ∃ x, e = .returned x ∧ R x w') :
    o.wp Tryd.prog a W (fun a'' W'' => ∃ x, a'' = a.put o.dst x ∧ R x W'') Q := by
  have he' : a.tmps[s]?.getD undef = v := by simpa [Act.eval] using he
  unfold Oper.wp execOp
  rw [hop]
  simp [go_sem, he', eg]
  refine hc.mono ?_
  rintro e w' ⟨x, rfl, hb⟩
  exact ⟨x, rfl, hb⟩
theorem opx_call2 {f s t : Nat} {v u : Value} {ts : Array TypeId} (hop : o.op = Op.call { callee := .value (.func f), args := #[.tmp s, .tmp t], argTypes := ts })
    (he : a.eval (.tmp s) = v) (hu : a.eval (.tmp t) = u) (eg : ∀ args w, (callFunc f args).run Tryd.prog w = .ok (.enter f args) w) (hc : Calls Tryd.prog f #[v, u] W fun e w' => ∃ x, e = .returned x ∧ R x w') :
    o.wp Tryd.prog a W (fun a'' W'' => ∃ x, a'' = a.put o.dst x ∧ R x W'') Q := by
  have he' : a.tmps[s]?.getD undef = v := by simpa [Act.eval] using he
  have hu' : a.tmps[t]?.getD undef = u := by simpa [Act.eval] using hu
  unfold Oper.wp execOp
  rw [hop]
  simp [go_sem, he', hu', eg]
  refine hc.mono ?_
  rintro e w' ⟨x, rfl, hb⟩
  exact ⟨x, rfl, hb⟩
theorem opx_of {v : Value} (h : o.wp Tryd.prog a W (fun a'' W' => a'' = a.put o.dst v ∧ R v W') Q) : o.wp Tryd.prog a W (fun a'' W'' => ∃ x, a'' = a.put o.dst x ∧ R x W'') Q :=
  Oper.wp_mono (fun _ _ ⟨h1, h2⟩ => ⟨v, h1, h2⟩) h
theorem op_store8 {k r b : Nat} {ty : TypeId} {x0 x1 x2 x3 x4 x5 x6 x7 y0 y1 y2 y3 y4 y5 y6 y7 : Int} (hop : o.op = Op.store 32 (.tmp k) (.tmp r))
    (he : a.eval (.tmp k) = .pointer (some ⟨b, 0, none⟩)) (hv : a.eval (.tmp r) = .agg #[.int .i64 y0, .int .i64 y1, .int .i64 y2, .int .i64 y3, .int .i64 y4, .int .i64 y5, .int .i64 y6, .int .i64 y7])
    (hb : W.heap[b]? = some (.cells #[.int .i64 x0, .int .i64 x1, .int .i64 x2, .int .i64 x3, .int .i64 x4, .int .i64 x5, .int .i64 x6, .int .i64 x7] ty (0, 0)))
    (hR : ∀ W', W'.heap[b]? = some (.cells #[.int .i64 y0, .int .i64 y1, .int .i64 y2, .int .i64 y3, .int .i64 y4, .int .i64 y5, .int .i64 y6, .int .i64 y7] ty (0, 0)) → Chg b W W' → R undef W') :
    o.wp Tryd.prog a W (fun a'' W'' => ∃ x, a'' = a.put o.dst x ∧ R x W'') Q := by
  obtain ⟨⟨c0, c1, c2, c3, c4, c5, c6, c7⟩, f0, f1, f2, f3, f4, f5, f6, f7⟩ := cells8 hb
  have he' : a.tmps[k]?.getD undef = .pointer (some ⟨b, 0, none⟩) := by simpa [Act.eval] using he
  have hv' : a.tmps[r]?.getD undef = .agg #[.int .i64 y0, .int .i64 y1, .int .i64 y2, .int .i64 y3, .int .i64 y4, .int .i64 y5, .int .i64 y6, .int .i64 y7] := by simpa [Act.eval] using hv
  have hR' := hR (World.store8 W b (.int .i64 y0) (.int .i64 y1) (.int .i64 y2) (.int .i64 y3) (.int .i64 y4) (.int .i64 y5) (.int .i64 y6) (.int .i64 y7)) (store8_block hb _ _ _ _ _ _ _ _) (chg_store8 _ _ _ _ _ _ _ _ _ _)
  refine op_skip (W' := World.store8 W b (.int .i64 y0) (.int .i64 y1) (.int .i64 y2) (.int .i64 y3) (.int .i64 y4) (.int .i64 y5) (.int .i64 y6) (.int .i64 y7)) ?_ hR'
  unfold execOp World.store8
  rw [hop]
  simp [go_sem, he', hv', c0, c1, c2, c3, c4, c5, c6, c7, f0, f1, f2, f3, f4, f5, f6, f7]
end
theorem But.of_chg {b : Nat} {W W' : World} (h : Chg b W W') : But b W W' := ⟨h.2.2.1, h.2.2.2.1, h.2.2.2.2, Nat.le_of_eq h.1.symm, fun k _ hk => h.2.1 k hk⟩
/-- What a slice owns it owns while another block turns. -/
theorem row_but {W W' : World} {b base size n : Nat} {e t : TypeId} {v : Value} {xs : List Value} {cs : Array Value} (h : W.ownsRow base e size v n xs) (hb : W.heap[b]? = some (.cells cs t (0, 0))) (hte : t ≠ e) (hB : But b W W') : W'.ownsRow base e size v n xs := by
  refine h.kept (row := some b) ⟨hB.1, hB.2.1, hB.2.2.1, hB.2.2.2.1, fun k hk hne => hB.2.2.2.2 k hk (fun e => hne (by rw [e]))⟩ ?_
  rcases h.2 with ⟨rfl, _⟩ | ⟨g, cap, cur, rfl, _, hg, _⟩
  · exact .inl rfl
  · refine .inr fun e' => ?_
    obtain rfl : g = b := by simpa [Value.ownBlock] using e'
    rw [hg] at hb
    simp at hb
    exact hte hb.2.symm
/-- Reports that have no error, as one cell's. -/
def Fine (u d : Nat → Int) (now : Int) (R : Nat → Rep) (n : Nat) : Prop := inE u d now = 0 ∧ n ≤ 12 ∧ fwE (errF R now (astB R)) n = 0
theorem Fine.one {u d : Nat → Int} {now : Int} {R : Nat → Rep} {n : Nat} (h : Fine u d now R n) : oneE u d now R n = 0 := by
  unfold oneE
  rw [if_neg (by simp [h.1]), if_neg (by have := h.2.1; omega)]
  exact h.2.2
theorem Fine.work {u d : Nat → Int} {now : Int} {R : Nat → Rep} {n : Nat} (h : Fine u d now R n) (p : Option Addr) (cap : Nat) : oneW u d now p n cap = .agg (workA u d now (.slice p n cap)) := by
  unfold oneW
  rw [if_neg (by simp [h.1]; exact h.2.1)]
theorem inE_ok {u d : Nat → Int} {now : Int} (h : inE u d now = 0) : okRates u d = true ∧ 0 ≤ now ∧ now ≤ 10000 := by
  unfold inE orL errB hourE at h
  by_cases h1 : okRates u d = true
  · by_cases h2 : 0 ≤ now ∧ now ≤ 10000
    · exact ⟨h1, h2⟩
    · rw [if_pos h1, if_neg h2] at h; simp at h
  · rw [if_neg h1] at h; simp at h
theorem rates_bd {u d : Nat → Int} (h : okRates u d = true) (q : Nat) (hq : q < 4) : (0 ≤ u q ∧ u q ≤ 1000) ∧ 0 ≤ d q ∧ d q ≤ 1000 := by
  unfold okRates allB inB at h
  simp only [Bool.and_eq_true, decide_eq_true_eq] at h
  obtain ⟨⟨⟨h0, h1⟩, h2⟩, h3⟩ := h
  match q, hq with
  | 0, _ => exact h0
  | 1, _ => exact h1
  | 2, _ => exact h2
  | 3, _ => exact h3
theorem okRep_bd {r : Rep} (h : okRep r = true) : (0 ≤ r.id ∧ r.id ≤ 1000000) ∧ (1 ≤ r.src ∧ r.src ≤ 3) ∧ (0 ≤ r.hour ∧ r.hour ≤ 10000) ∧ (0 ≤ r.x ∧ r.x ≤ 63) ∧ (0 ≤ r.y ∧ r.y ≤ 63) ∧ (1 ≤ r.has ∧ r.has ≤ 15) ∧ ∀ q, q < 4 → repB r q = true := by
  unfold okRep at h
  simp only [Bool.and_eq_true, inB, decide_eq_true_eq] at h
  obtain ⟨⟨⟨⟨⟨⟨r0, r1⟩, r2⟩, r3⟩, r4⟩, r5⟩, r6⟩ := h
  refine ⟨r0, r1, r2, r3, r4, r5, fun q hq => ?_⟩
  unfold allB at r6
  simp only [Bool.and_eq_true] at r6
  obtain ⟨⟨⟨h0, h1⟩, h2⟩, h3⟩ := r6
  match q, hq with
  | 0, _ => exact h0
  | 1, _ => exact h1
  | 2, _ => exact h2
  | 3, _ => exact h3
theorem told_bd {r : Rep} (h : okRep r = true) (q : Nat) (hq : q < 4) : 0 ≤ tLo r q ∧ tLo r q ≤ tHi r q ∧ tHi r q ≤ lim q := by
  have := (okRep_bd h).2.2.2.2.2.2 q hq
  unfold repB okSpan at this
  have hb := lim_bd q
  unfold tLo tHi
  cases ha : aboutB r.has q with
  | true => rw [ha] at this; simpa using this
  | false => simp; omega
theorem errF_zero {R : Nat → Rep} {now : Int} {ast : Rep → Bool} {k : Nat} (h : errF R now ast k = 0) : okRep (R k) = true ∧ seenF R k (R k).id = false ∧ ast (R k) = false ∧ (R k).hour ≤ now := by
  unfold errF errC at h
  by_cases h1 : okRep (R k) = false
  · rw [if_pos h1] at h; cases h
  · rw [if_neg h1] at h
    by_cases h2 : seenF R k (R k).id = true
    · rw [if_pos h2] at h; cases h
    · rw [if_neg h2] at h
      by_cases h3 : ast (R k) = true
      · rw [if_pos h3] at h; cases h
      · rw [if_neg h3] at h
        by_cases h4 : now < (R k).hour
        · rw [if_pos h4] at h; cases h
        · exact ⟨by simpa using h1, by simpa using h2, by simpa using h3, by omega⟩
theorem tellable_of {u d : Nat → Int} {now : Int} {r : Rep} (hr : okRates u d = true) (h0 : now ≤ 10000) (ho : okRep r = true) (hh : r.hour ≤ now) : Tellable u d now r := by
  obtain ⟨_, _, h2, _, _, h5, _⟩ := okRep_bd ho
  refine ⟨⟨by omega, h5.2⟩, fun q hq => ?_, by omega, by omega⟩
  have ht := told_bd ho q hq
  have hb := lim_bd q
  obtain ⟨⟨a1, a2⟩, a3, a4⟩ := rates_bd hr q hq
  refine ⟨⟨by omega, by omega, by omega, by omega⟩, a1, a2, a3, a4⟩
theorem Fine.tell {u d : Nat → Int} {now : Int} {R : Nat → Rep} {n : Nat} (h : Fine u d now R n) : ∀ i, i < n → Tellable u d now (R i) := fun i hi => by
  obtain ⟨h1, h2, h3⟩ := inE_ok h.1
  obtain ⟨e1, _, _, e4⟩ := errF_zero (fwE_zero' h.2.2 i hi)
  exact tellable_of h1 h3 e1 e4
abbrev zero8 : Array Value := #[.int .i64 0, .int .i64 0, .int .i64 0, .int .i64 0, .int .i64 0, .int .i64 0, .int .i64 0, .int .i64 0]
abbrev ratesA (u d : Nat → Int) : Array Value := #[.int .i64 (u 0), .int .i64 (u 1), .int .i64 (u 2), .int .i64 (u 3), .int .i64 (d 0), .int .i64 (d 1), .int .i64 (d 2), .int .i64 (d 3)]
set_option maxHeartbeats 2000000 in
theorem Trust_fine (u d : Nat → Int) (now : Int) (p : Option Addr) (n cap : Nat) (R : Nat → Rep) (hf : Fine u d now R n) (w : World) (hl : Lim w) (hR : Reps w p n R) :
    Calls Tryd.prog 40 #[.slice p n cap, .agg (ratesA u d), .int .i64 now] w fun e w' => ∃ v, e = .returned (.tuple #[v, .agg (cellA (cmLo (headS (tdLo R d now) (tdHi R u now) n) (tdLo R d now) n) (cmHi (headS (tdLo R d now) (tdHi R u now) n) (tdHi R u now) n)), .int .i64 0]) ∧
      w'.ownsRow w.heap.size 4 1 v n (boolL (headS (tdLo R d now) (tdHi R u now) n) n) ∧ Below w.heap.size w w' := by
  have hpos := hl.pos
  have hn := hf.2.1
  have HL := Lib.hid hl
  have HR := Lib.hid hR
  have HF := Lib.hid hf
  clear hl hR hf
  have hof := ofOneCell_any u d now p n cap (by omega) R
  rw [HF.out.one, HF.out.work] at hof
  have HO := Lib.hid hof
  clear hof
  go_enter Tryd.func40, Tryd.ntmps40
  obtain ⟨a1, a2, a3, a4⟩ := two_allocs w (.cells (ratesA u d) 41) (.cells zero8 32)
  have A2 := Lib.hid a2
  have AB := Lib.hid a4
  obtain ⟨⟨c0, c1, c2, c3, c4, c5, c6, c7⟩, _⟩ := cells8 a1
  clear a1 a2 a4
  go_wp2_with fail
  generalize (w.alloc (.cells (ratesA u d) 41)).alloc (.cells zero8 32) = V at *
  refine (HO.out V (HL.out.below hpos AB.out) (HR.out.later AB.out)).mono ?_
  rintro e W1 ⟨rfl, hb1⟩
  have z1 := hb1.size
  have B2 := Lib.hid ((hb1.block _ (by omega)).trans A2.out)
  have BB := Lib.hid (AB.out.trans (hb1.mono AB.out.size))
  clear hb1 A2 AB c0 c1 c2 c3 c4 c5 c6 c7
  have C0 := block_new W1 (.cells (workA u d now (.slice p n cap)) 139)
  obtain ⟨⟨c0, c1, c2, c3, c4, c5, c6, c7, c8, c9⟩, _⟩ := cells10 C0
  have CBb := (Below.refl W1.heap.size W1).alloc (Nat.le_refl _) (.cells (workA u d now (.slice p n cap)) 139)
  have C2 := Lib.hid ((CBb.block _ (by omega)).trans B2.out)
  have CB := Lib.hid (BB.out.trans (CBb.mono BB.out.size))
  have zc : W1.heap.size ≤ (W1.alloc (.cells (workA u d now (.slice p n cap)) 139)).heap.size := by simp
  clear C0 CBb B2 BB
  go_wp2_with fail
  clear c0 c1 c2 c3 c4 c5 c6 c7 c8 c9
  generalize W1.alloc (.cells (workA u d now (.slice p n cap)) 139) = V2 at *
  refine (trusted_any u d now p n cap R hn V2 (HL.out.below hpos CB.out) (HR.out.later CB.out) HF.out.tell).mono ?_
  rintro e W3 ⟨rfl, hb3⟩
  have z3 := hb3.size
  have D2 := Lib.hid ((hb3.block _ (by omega)).trans C2.out)
  have DB := Lib.hid (CB.out.trans (hb3.mono CB.out.size))
  clear hb3 C2 CB
  go_wp2_with fail
  obtain ⟨m1, m2, m3, m4⟩ := two_allocs W3 (.cells (setA (headS (tdLo R d now) (tdHi R u now) n)) 152) (.cells (cellA (cmLo (headS (tdLo R d now) (tdHi R u now) n) (tdLo R d now) n) (cmHi (headS (tdLo R d now) (tdHi R u now) n) (tdHi R u now) n)) 32)
  have E1 := Lib.hid m1
  have E2 := Lib.hid m2
  have E7 := Lib.hid ((m4.block _ (by omega)).trans D2.out)
  have EB := Lib.hid (DB.out.trans (m4.mono DB.out.size))
  clear m1 m2 m4 D2 DB
  generalize (W3.alloc (.cells (setA (headS (tdLo R d now) (tdHi R u now) n)) 152)).alloc (.cells (cellA (cmLo (headS (tdLo R d now) (tdHi R u now) n) (tdLo R d now) n) (cmHi (headS (tdLo R d now) (tdHi R u now) n) (tdHi R u now) n)) 32) = V4 at *
  refine wp_region_vals [29, 30, 31, 32, 33, 6, 1000, 8]
    (fun L X => But (w.heap.size + 1) V4 X ∧ X.heap[w.heap.size + 1]? = some (.cells (if L 6 = true then (cellA (cmLo (headS (tdLo R d now) (tdHi R u now) n) (tdLo R d now) n) (cmHi (headS (tdLo R d now) (tdHi R u now) n) (tdHi R u now) n)) else zero8) 32 (0, 0)))
    (fun i v X => match i with | 0 => v = .slice p n cap | 1 => v = .int .i64 n | 2 => v = .slice (some ⟨W3.heap.size, 0, none⟩) n 12 | 3 => X.ownsRow w.heap.size 4 1 v n (boolL (headS (tdLo R d now) (tdHi R u now) n) n) | 4 => v = .agg (cellA (cmLo (headS (tdLo R d now) (tdHi R u now) n) (tdLo R d now) n) (cmHi (headS (tdLo R d now) (tdHi R u now) n) (tdHi R u now) n)) | 5 => X.ownsRow w.heap.size 4 1 v n (boolL (headS (tdLo R d now) (tdHi R u now) n) n) | 6 => True | _ => v = .int .i64 0)
    (by kernel_rfl) (by kernel_rfl) (fun s hs h => by simp at hs ⊢; omega) (by simp) ⟨⟨rfl, rfl, rfl, Nat.le_refl _, fun _ _ _ => rfl⟩, by simpa using E7.out⟩ ?val ?fin
  case val =>
    intro i
    match i with
    | 0 => intro o L ho hLi hd a' X hX hfr hdp; obtain rfl := Option.some.inj ho; exact opx_move rfl (hfr 0 (by decide)) ⟨by simpa using hX, rfl, fun _ _ h => h⟩
    | 1 => intro o L ho hLi hd a' X hX hfr hdp; obtain rfl := Option.some.inj ho; exact opx_len und63 rfl (hdp 0 29 (by decide) rfl (by kernel_rfl)) ⟨by simpa using hX, rfl, fun _ _ h => h⟩
    | 2 => intro o L ho hLi hd a' X hX hfr hdp; obtain rfl := Option.some.inj ho; exact opx_slice152 hn rfl (hfr 11 (by decide)) (hdp 1 30 (by decide) rfl (by kernel_rfl)) ⟨by simpa using hX, rfl, fun _ _ h => h⟩
    | 3 =>
      intro o L ho hLi hd a' X hX hfr hdp; obtain rfl := Option.some.inj ho
      refine opx_call1 rfl (hdp 2 31 (by decide) rfl (by kernel_rfl)) eg98 ((Clone_any (headS (tdLo R d now) (tdHi R u now) n) W3.heap.size n 12 hn X (fun i hi => (cell_of_block ((hX.1.2.2.2.2 _ (by omega) (by omega)).trans E1.out) i).trans (set_get (headS (tdLo R d now) (tdHi R u now) n) i (by omega)))).mono ?_)
      rintro e W' ⟨v, rfl, hrow, hb⟩
      have hzX := hX.1.2.2.2.1
      refine ⟨v, rfl, ⟨hX.1.trans (But.of_below hb), by rw [hb.block _ (lt_of_block hX.2)]; simpa using hX.2⟩, ?_, ?_⟩
      · obtain ⟨h1, h2⟩ := hrow
        refine ⟨h1, ?_⟩
        rcases h2 with h | ⟨g, c, cur, e1, e2, e3⟩
        · exact .inl h
        · exact .inr ⟨g, c, cur, e1, by omega, e3⟩
      · intro j v' h
        match j with
        | 0 => exact h
        | 1 => exact h
        | 2 => exact h
        | 3 => exact row_later h hb
        | 4 => exact h
        | 5 => exact row_later h hb
        | 6 => trivial
        | j + 7 => exact h
    | 4 => intro o L ho hLi hd a' X hX hfr hdp; obtain rfl := Option.some.inj ho; exact opx_of (Oper.wp_mono (fun a'' W' ⟨h1, h2⟩ => ⟨h1, ⟨hX.1.trans (But.of_below h2), by rw [h2.block _ (lt_of_block hX.2)]; simpa using hX.2⟩, rfl, fun j v' h => by
        match j with
        | 0 => exact h
        | 1 => exact h
        | 2 => exact h
        | 3 => exact row_later h h2
        | 4 => exact h
        | 5 => exact row_later h h2
        | 6 => trivial
        | j + 7 => exact h⟩) (op_load8 rfl (hfr 12 (by decide)) ((hX.1.2.2.2.2 _ (by omega) (by omega)).trans E2.out)))
    | 5 => intro o L ho hLi hd a' X hX hfr hdp; obtain rfl := Option.some.inj ho; exact opx_assign rfl rfl ⟨by simpa using hX, hdp 3 32 (by decide) rfl (by kernel_rfl), fun _ _ h => h⟩
    | 6 =>
      intro o L ho hLi hd a' X hX hfr hdp; obtain rfl := Option.some.inj ho
      rw [if_neg (by simp [hLi])] at hX
      refine op_store8 rfl (hfr 7 (by decide)) (hdp 4 33 (by decide) rfl (by kernel_rfl)) hX.2 ?_
      intro W' h1 h2
      refine ⟨⟨hX.1.trans (But.of_chg h2), by simpa using h1⟩, trivial, fun j v' h => ?_⟩
      match j with
      | 0 => exact h
      | 1 => exact h
      | 2 => exact h
      | 3 => exact row_but h hX.2 (by decide) (But.of_chg h2)
      | 4 => exact h
      | 5 => exact row_but h hX.2 (by decide) (But.of_chg h2)
      | 6 => trivial
      | j + 7 => exact h
    | 7 => intro o L ho hLi hd a' X hX hfr hdp; obtain rfl := Option.some.inj ho; exact opx_assignc rfl ⟨by simpa using hX, rfl, fun _ _ h => h⟩
    | m + 8 => intro o L ho; simp at ho
  case fin =>
    intro X L V hL hX hV
    have J7 := Lib.hid (show X.heap[w.heap.size + 1]? = some (.cells (cellA (cmLo (headS (tdLo R d now) (tdHi R u now) n) (tdLo R d now) n) (cmHi (headS (tdLo R d now) (tdHi R u now) n) (tdHi R u now) n)) 32 (0, 0)) by have := hX.2; rwa [if_pos (hL 6 (by decide))] at this)
    have JR := Lib.hid (show X.ownsRow w.heap.size 4 1 (V 5) n (boolL (headS (tdLo R d now) (tdHi R u now) n) n) from hV 5 (by decide))
    have JB := Lib.hid (EB.out.trans (hX.1.below (by omega) EB.out.size))
    have v8 : V 7 = .int .i64 0 := hV 7 (by decide)
    simp only [fill, Act.put, List.setIfInBounds_toArray, List.set_cons_zero, List.set_cons_succ, Nat.reduceAdd, v8]
    generalize V 5 = v5 at *
    clear hX hL hV E1 E2 E7 EB v8
    go_wp2_with fail
    obtain ⟨⟨g0, g1, g2, g3, g4, g5, g6, g7⟩, _⟩ := cells8 J7.out
    refine bodyPost_ret (v := .tuple #[v5, .agg (cellA (cmLo (headS (tdLo R d now) (tdHi R u now) n) (tdLo R d now) n) (cmHi (headS (tdLo R d now) (tdHi R u now) n) (tdHi R u now) n)), .int .i64 0]) ?_ rfl ⟨_, rfl, JR.out, JB.out⟩
    simp [results, Tryd.results40, go_sem, g0, g1, g2, g3, g4, g5, g6, g7]
end Go.Proofs.YtdcpmdigihbdpaaDoor
