/- The contract of ice.Age. The table of limits holds 100, 400, 100, 3. -/
import Derived.Test.YtdcpmdigihbdpaaDoorSb
namespace Go.Proofs.YtdcpmdigihbdpaaDoor
open Go.RowKit
set_option maxRecDepth 100000
section
variable {Q : Exit → Act → World → Prop} {o : Oper} {a : Act} {W : World} {R : Value → World → Prop}
theorem opx_load41 {s b : Nat} {t : TypeId} {x0 x1 x2 x3 x4 x5 x6 x7 : Value} (hop : o.op = Op.load 41 (.tmp s)) (he : a.eval (.tmp s) = .pointer (some ⟨b, 0, none⟩)) (hb : W.heap[b]? = some (.cells #[x0, x1, x2, x3, x4, x5, x6, x7] t (0, 0)))
    (hR : R (.agg #[x0, x1, x2, x3, x4, x5, x6, x7]) W) : o.wp Tryd.prog a W (fun a'' W'' => ∃ x, a'' = a.put o.dst x ∧ R x W'') Q := by
  obtain ⟨⟨c0, c1, c2, c3, c4, c5, c6, c7⟩, _⟩ := cells8 hb
  have he' : a.tmps[s]?.getD undef = .pointer (some ⟨b, 0, none⟩) := by simpa [Act.eval] using he
  refine op_val ?_ hR
  unfold execOp
  rw [hop]
  simp [go_sem, he', c0, c1, c2, c3, c4, c5, c6, c7]
theorem opx_build3 {s t r : Nat} {x y z : Int} (hop : o.op = Op.buildSlice 169 3 #[(0, .tmp s), (1, .tmp t), (2, .tmp r)]) (he : a.eval (.tmp s) = .int .i64 x) (ht : a.eval (.tmp t) = .int .i64 y) (hr : a.eval (.tmp r) = .int .i64 z)
    (hR : R (.slice (some ⟨W.heap.size, 0, none⟩) 3 3) (W.alloc (.cells #[.int .i64 x, .int .i64 y, .int .i64 z] 33))) : o.wp Tryd.prog a W (fun a'' W'' => ∃ x, a'' = a.put o.dst x ∧ R x W'') Q := by
  have he' : a.tmps[s]?.getD undef = .int .i64 x := by simpa [Act.eval] using he
  have ht' : a.tmps[t]?.getD undef = .int .i64 y := by simpa [Act.eval] using ht
  have hr' : a.tmps[r]?.getD undef = .int .i64 z := by simpa [Act.eval] using hr
  refine op_val (W' := W.alloc (.cells #[.int .i64 x, .int .i64 y, .int .i64 z] 33)) ?_ hR
  unfold execOp
  rw [hop]
  simp [go_sem, he', ht', hr']
end
theorem eg11 : ∀ args w, (callFunc 11 args).run Tryd.prog w = .ok (.enter 11 args) w := Go.Proofs.enters_of Tryd.func11 (by kernel_rfl) rfl
theorem eg15 : ∀ args w, (callFunc 15 args).run Tryd.prog w = .ok (.enter 15 args) w := Go.Proofs.enters_of Tryd.func15 (by kernel_rfl) rfl
theorem eg81 : ∀ args w, (callFunc 81 args).run Tryd.prog w = .ok (.enter 81 args) w := Go.Proofs.enters_of Tryd.func81 (by kernel_rfl) rfl
theorem eg69 : ∀ args w, (callFunc 69 args).run Tryd.prog w = .ok (.enter 69 args) w := Go.Proofs.enters_of Tryd.func69 (by kernel_rfl) rfl
def ageE (lo hi u d : Nat → Int) (hours : Int) : Int := orL [errB (okCell lo hi) 20, errB (okRates u d) 6, hourE hours]
theorem okCell_bd {lo hi : Nat → Int} (h : okCell lo hi = true) (q : Nat) (hq : q < 4) : 0 ≤ lo q ∧ lo q ≤ hi q ∧ hi q ≤ lim q := by
  unfold okCell allB okSpan at h
  simp only [Bool.and_eq_true, decide_eq_true_eq] at h
  obtain ⟨⟨⟨h0, h1⟩, h2⟩, h3⟩ := h
  match q, hq with
  | 0, _ => exact h0
  | 1, _ => exact h1
  | 2, _ => exact h2
  | 3, _ => exact h3
theorem ageE_ok {lo hi u d : Nat → Int} {hours : Int} (h : ageE lo hi u d hours = 0) : okCell lo hi = true ∧ okRates u d = true ∧ 0 ≤ hours ∧ hours ≤ 10000 := by
  unfold ageE orL errB hourE at h
  by_cases h0 : okCell lo hi = true
  · by_cases h1 : okRates u d = true
    · by_cases h2 : 0 ≤ hours ∧ hours ≤ 10000
      · exact ⟨h0, h1, h2⟩
      · rw [if_pos h0, if_pos h1, if_neg h2] at h; simp at h
    · rw [if_pos h0, if_neg h1] at h; simp at h
  · rw [if_neg h0] at h; simp at h
theorem ageOK_of {lo hi u d : Nat → Int} (h0 : okCell lo hi = true) (h1 : okRates u d = true) : ageOK lo hi u d := fun q hq => by
  have a := okCell_bd h0 q hq
  have b := lim_bd q
  obtain ⟨⟨a1, a2⟩, a3, a4⟩ := rates_bd h1 q hq
  exact ⟨⟨by omega, by omega, by omega, by omega⟩, a1, a2, a3, a4⟩
def ageRes (lo hi u d : Nat → Int) (hours : Int) : Value := if ageE lo hi u d hours = 0 then .tuple #[.agg (cellA (agLo lo d hours) (agHi hi u hours)), .int .i64 0] else .tuple #[.agg zero8, .int .i64 (ageE lo hi u d hours)]
def agPv (lo hi u d : Nat → Int) (hours : Int) (j : Nat) (v : Value) (X : World) : Prop :=
  match j with
  | 0 => v = .agg (cellA lo hi)
  | 1 => v = .int .i64 (errB (okCell lo hi) 20)
  | 2 => v = .agg (ratesA u d)
  | 3 => v = .int .i64 (errB (okRates u d) 6)
  | 4 => v = .int .i64 hours
  | 5 => v = .int .i64 (hourE hours)
  | 6 => ∃ B, v = .slice (some ⟨B, 0, none⟩) 3 3 ∧ X.heap[B]? = some (.cells #[.int .i64 (errB (okCell lo hi) 20), .int .i64 (errB (okRates u d) 6), .int .i64 (hourE hours)] 33 (0, 0))
  | _ => v = .int .i64 (ageE lo hi u d hours)
theorem agPv_later {lo hi u d : Nat → Int} {hours : Int} {j : Nat} {v : Value} {X X' : World} (h : agPv lo hi u d hours j v X) (hb : Below X.heap.size X X') : agPv lo hi u d hours j v X' := by
  match j with
  | 0 | 1 | 2 | 3 | 4 | 5 => exact h
  | 6 => obtain ⟨B, e1, e2⟩ := h; exact ⟨B, e1, (hb.block B (lt_of_block e2)).trans e2⟩
  | j + 7 => exact h
set_option maxHeartbeats 2000000 in
theorem Age_any (lo hi u d : Nat → Int) (hours : Int) (w : World) (hl : Lim w) :
    Calls Tryd.prog 28 #[.agg (cellA lo hi), .agg (ratesA u d), .int .i64 hours] w fun e w' => e = .returned (ageRes lo hi u d hours) ∧ Below w.heap.size w w' := by
  have hpos := hl.pos
  have HL := Lib.hid hl
  clear hl
  go_enter Tryd.func28, Tryd.ntmps28
  go_wp2_with fail
  obtain ⟨a1, a2, a3, a4, a5⟩ := three_allocs w (.cells (cellA lo hi) 32) (.cells (ratesA u d) 41) (.cells zero8 32)
  have A1 := Lib.hid a1
  have A2 := Lib.hid a2
  have A3 := Lib.hid a3
  have AB := Lib.hid a5
  clear a1 a2 a3 a5
  generalize ((w.alloc (.cells (cellA lo hi) 32)).alloc (.cells (ratesA u d) 41)).alloc (.cells zero8 32) = V at *
  refine wp_region_vals [9, 10, 11, 12, 13, 14, 15, 16, 8] (fun _ X => Below V.heap.size V X)
    (agPv lo hi u d hours)
    (by kernel_rfl) (by kernel_rfl) (fun s hs h => by simp at hs ⊢; omega) (by simp) ⟨rfl, rfl, rfl, Nat.le_refl _, fun _ _ => rfl⟩ ?val ?fin
  case val =>
    have stb : ∀ X X', Below X.heap.size X X' → ∀ j v, agPv lo hi u d hours j v X → agPv lo hi u d hours j v X' := fun X X' hb j v h => agPv_later h hb
    intro j
    match j with
    | 0 => intro o L ho hLi hd a' X hX hfr hdp; obtain rfl := Option.some.inj ho; exact opx_of (Oper.wp_mono (fun a'' W' ⟨h1, h2⟩ => ⟨h1, hX.trans (h2.mono hX.size), rfl, stb X W' h2⟩) (op_load8 rfl (hfr 3 (by decide)) ((hX.block _ (by omega)).trans A1.out)))
    | 1 =>
      intro o L ho hLi hd a' X hX hfr hdp; obtain rfl := Option.some.inj ho
      refine opx_call1 rfl (hdp 0 9 (by decide) rfl (by kernel_rfl)) eg11 ((CheckCell_any lo hi X (HL.out.below hpos (AB.out.trans (hX.mono AB.out.size)))).mono ?_)
      rintro e W' ⟨rfl, hb⟩
      exact ⟨_, rfl, hX.trans (hb.mono hX.size), rfl, stb X W' hb⟩
    | 2 => intro o L ho hLi hd a' X hX hfr hdp; obtain rfl := Option.some.inj ho; exact opx_load41 rfl (hfr 4 (by decide)) ((hX.block _ (by omega)).trans A2.out) ⟨hX, rfl, fun _ _ h => h⟩
    | 3 =>
      intro o L ho hLi hd a' X hX hfr hdp; obtain rfl := Option.some.inj ho
      refine opx_call1 rfl (hdp 2 11 (by decide) rfl (by kernel_rfl)) eg15 ((CheckRates_any u d X).mono ?_)
      rintro e W' ⟨rfl, hb⟩
      exact ⟨_, rfl, hX.trans (hb.mono hX.size), rfl, stb X W' hb⟩
    | 4 => intro o L ho hLi hd a' X hX hfr hdp; obtain rfl := Option.some.inj ho; exact opx_move rfl (hfr 2 (by decide)) ⟨hX, rfl, fun _ _ h => h⟩
    | 5 =>
      intro o L ho hLi hd a' X hX hfr hdp; obtain rfl := Option.some.inj ho
      refine opx_call1 rfl (hdp 4 13 (by decide) rfl (by kernel_rfl)) eg81 ((checkHour_h hours X).mono ?_)
      rintro e W' ⟨rfl, rfl⟩
      exact ⟨_, rfl, hX, rfl, fun _ _ h => h⟩
    | 6 =>
      intro o L ho hLi hd a' X hX hfr hdp; obtain rfl := Option.some.inj ho
      have hb : Below X.heap.size X (X.alloc (.cells #[.int .i64 (errB (okCell lo hi) 20), .int .i64 (errB (okRates u d) 6), .int .i64 (hourE hours)] 33)) := (Below.refl _ _).alloc (Nat.le_refl _) _
      exact opx_build3 rfl (hdp 1 10 (by decide) rfl (by kernel_rfl)) (hdp 3 12 (by decide) rfl (by kernel_rfl)) (hdp 5 14 (by decide) rfl (by kernel_rfl)) ⟨hX.trans (hb.mono hX.size), ⟨_, rfl, block_new X _⟩, stb X _ hb⟩
    | 7 =>
      intro o L ho hLi hd a' X hX hfr hdp; obtain rfl := Option.some.inj ho
      obtain ⟨B, e1, e2⟩ := hdp 6 15 (by decide) rfl (by kernel_rfl)
      have hn2 := cell_of_block e2
      refine opx_call1 rfl e1 eg69 ((or_any B [errB (okCell lo hi) 20, errB (okRates u d) 6, hourE hours] X (fun i hi => ?_) (by simp)).mono ?_)
      · match i, hi with
        | 0, _ => exact (hn2 0).trans rfl
        | 1, _ => exact (hn2 1).trans rfl
        | 2, _ => exact (hn2 2).trans rfl
      rintro e W' ⟨rfl, rfl⟩
      exact ⟨_, rfl, hX, rfl, fun _ _ h => h⟩
    | 8 => intro o L ho hLi hd a' X hX hfr hdp; obtain rfl := Option.some.inj ho; exact opx_assign rfl rfl ⟨hX, hdp 7 16 (by decide) rfl (by kernel_rfl), fun _ _ h => h⟩
    | j + 9 => intro o L ho; simp at ho
  case fin =>
    intro X L Vv hLL hX hV
    have v8 : Vv 8 = .int .i64 (ageE lo hi u d hours) := hV 8 (by decide)
    have hz := hX.size
    have B1 := Lib.hid ((hX.block w.heap.size (by omega)).trans A1.out)
    have B2 := Lib.hid ((hX.block (w.heap.size + 1) (by omega)).trans A2.out)
    have B3 := Lib.hid ((hX.block (w.heap.size + 1 + 1) (by omega)).trans A3.out)
    have BB := Lib.hid (AB.out.trans (hX.mono AB.out.size))
    simp only [fill, Act.put, List.setIfInBounds_toArray, List.set_cons_zero, List.set_cons_succ, Nat.reduceAdd, v8]
    clear hX hLL hV A1 A2 A3 AB v8
    by_cases hE : ageE lo hi u d hours = 0
    · have HR := Lib.hid (show ageRes lo hi u d hours = .tuple #[.agg (cellA (agLo lo d hours) (agHi hi u hours)), .int .i64 0] by unfold ageRes; rw [if_pos hE])
      obtain ⟨h1, h2, h3, h4⟩ := ageE_ok hE
      obtain ⟨⟨c0, c1, c2, c3, c4, c5, c6, c7⟩, _⟩ := cells8 B1.out
      obtain ⟨⟨d0, d1, d2, d3, d4, d5, d6, d7⟩, _⟩ := cells8 B2.out
      go_wp2_with fail
      refine (aged_any lo hi u d hours X (HL.out.below hpos BB.out) (ageOK_of h1 h2) h3 h4).mono ?_
      rintro e W1 ⟨rfl, hb1⟩
      have C3 := Lib.hid ((hb1.block (w.heap.size + 1 + 1) (by omega)).trans B3.out)
      have CB := Lib.hid (BB.out.trans (hb1.mono BB.out.size))
      clear hb1 c0 c1 c2 c3 c4 c5 c6 c7 d0 d1 d2 d3 d4 d5 d6 d7 B1 B2 B3 BB
      go_wp2_with (refine list_store8 rfl rfl rfl (.inl rfl) rfl rfl C3.out ?_; intro W6 h6 hc6)
      obtain ⟨⟨g0, g1, g2, g3, g4, g5, g6, g7⟩, _⟩ := cells8 h6
      refine bodyPost_ret (v := .tuple #[.agg (cellA (agLo lo d hours) (agHi hi u hours)), .int .i64 0]) ?_ rfl ⟨by rw [HR.out], CB.out.trans (hc6.below (by omega))⟩
      simp [results, Tryd.results28, go_sem, g0, g1, g2, g3, g4, g5, g6, g7]
    · have HR := Lib.hid (show ageRes lo hi u d hours = .tuple #[.agg zero8, .int .i64 (ageE lo hi u d hours)] by unfold ageRes; rw [if_neg hE])
      go_wp2_with (refine list_store8 rfl rfl rfl (.inl rfl) rfl rfl B3.out ?_; intro W6 h6 hc6)
      obtain ⟨⟨g0, g1, g2, g3, g4, g5, g6, g7⟩, _⟩ := cells8 h6
      refine bodyPost_ret (v := .tuple #[.agg zero8, .int .i64 (ageE lo hi u d hours)]) ?_ rfl ⟨by rw [HR.out], BB.out.trans (hc6.below (by omega))⟩
      simp [results, Tryd.results28, go_sem, g0, g1, g2, g3, g4, g5, g6, g7]
end Go.Proofs.YtdcpmdigihbdpaaDoor
