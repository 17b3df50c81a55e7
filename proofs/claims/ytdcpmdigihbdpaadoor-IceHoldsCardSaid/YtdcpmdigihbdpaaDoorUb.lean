/- Contracts of ice.Allowed, of the reference's Allowed, of the law's Field; the law IceCells over memory. The table of limits holds 100, 400, 100, 3. (Four texts joined.) -/
import Derived.Test.YtdcpmdigihbdpaaDoorUa
import Derived.Deep.AppendLies
namespace Go.Proofs.YtdcpmdigihbdpaaDoor
open Go.RowKit
set_option maxRecDepth 100000
/- The contract of ice.Allowed: any course, any rates. The table of limits holds 100, 400, 100, 3. -/
/-- Ice in a slice. -/
def Ices (W : World) (p : Option Addr) (n : Nat) (X : Nat → Nat → Int) : Prop := ∀ i, i < n → ∃ b o, p = some ⟨b, o, none⟩ ∧ b < W.heap.size ∧ W.cell? ⟨b, o + i * 4, none⟩ = some (.int .i64 (X i 0)) ∧ W.cell? ⟨b, o + i * 4 + 1, none⟩ = some (.int .i64 (X i 1)) ∧ W.cell? ⟨b, o + i * 4 + 2, none⟩ = some (.int .i64 (X i 2)) ∧ W.cell? ⟨b, o + i * 4 + 3, none⟩ = some (.int .i64 (X i 3))
theorem Ices.later {w W : World} {p : Option Addr} {n : Nat} {X : Nat → Nat → Int} (h : Ices w p n X) (hb : Below w.heap.size w W) : Ices W p n X := fun i hi => by
  obtain ⟨b, o, e, l, c0, c1, c2, c3⟩ := h i hi
  exact ⟨b, o, e, Nat.lt_of_lt_of_le l hb.size, (hb.cell (p := ⟨b, o + i * 4, none⟩) l).trans c0, (hb.cell (p := ⟨b, o + i * 4 + 1, none⟩) l).trans c1, (hb.cell (p := ⟨b, o + i * 4 + 2, none⟩) l).trans c2, (hb.cell (p := ⟨b, o + i * 4 + 3, none⟩) l).trans c3⟩
theorem fw84_any (p : Option Addr) (n cap : Nat) (X : Nat → Nat → Int) (w : World) (hl : Lim w) (hX : Ices w p n X) (hn : n ≤ 400) :
    Calls Tryd.prog 84 #[.slice p n cap, .func (.func 13) #[] #[]] w fun e w' => e = .returned (.int .i64 (fwE (fun k => errB (okIce (X k)) 20) n)) ∧ Below w.heap.size w w' := by
  have hpos := hl.pos
  have HL := Lib.hid hl
  have HC := Lib.hid hX
  clear hl hX
  go_enter Tryd.func84, Tryd.ntmps84
  go_wp2_with fail
  go_loopw [10] (fun i wr => ∃ k : Nat, k ≤ n ∧ i = .int .i64 k ∧ Hid (Zer (fun k => errB (okIce (X k)) 20) k) ∧ Hid (Below w.heap.size w wr)) (fun i _ => n - (intOf i).toNat)
  case atStart => exact ⟨0, by omega, rfl, fun j hj => by omega, Lib.hid (Below.refl _ _)⟩
  case round =>
    obtain ⟨k, hk, rfl, hz, hB⟩ := hrel
    by_cases hlt : k < n
    · obtain ⟨b, o, rfl, hb, c0, c1, c2, c3⟩ := (HC.out.later hB.out) k hlt
      have hkn : (k : Int) < (n : Int) := by omega
      have hk0 : (0 : Int) ≤ (k : Int) := by omega
      have KB := Lib.hid (hB.out.alloc hB.out.size (.cells (iceA (X k)) 37))
      go_wp2_with fail
      clear c0 c1 c2 c3
      refine (CheckIce_any (X k) _ (HL.out.below hpos KB.out)).mono ?_
      rintro e W' ⟨rfl, hb'⟩
      have LB := Lib.hid (KB.out.trans (hb'.mono KB.out.size))
      clear hb' KB
      cases hE : okIce (X k) with
      | true =>
        have HE := Lib.hid (show errB (okIce (X k)) 20 = 0 by rw [hE]; rfl)
        clear hE
        simp only [errB, if_true]
        go_wp2_with fail
        go_roundw
        case rel => exact ⟨k + 1, by omega, by go_num, fun j hj => by by_cases e : j = k; (· rw [e]; exact HE.out); (· exact hz.out j (by omega)), LB⟩
        case measure => simp [intOf]; omega
      | false =>
        have HE := Lib.hid (show errB (okIce (X k)) 20 = 20 by rw [hE]; rfl)
        clear hE
        have HF := Lib.hid ((fwE_at (k := k) hz.out (by show errB (okIce (X k)) 20 ≠ 0; rw [HE.out]; decide) n hlt).trans HE.out)
        simp only [errB, Bool.false_eq_true, if_false]
        go_wp2_with fail
        go_ret
        exact ⟨by rw [HF.out]; rfl, LB.out⟩
    · obtain rfl : k = n := by omega
      have HF := Lib.hid (fwE_zero hz.out)
      go_wp2_with fail
      go_ret
      exact ⟨by rw [HF.out]; rfl, hB.out⟩
/-- Whether each pair of hours allows it. -/
def allowB (X : Nat → Nat → Int) (u d : Nat → Int) (n : Nat) : Bool := (List.range n).all fun s => (List.range n).all fun t => !decide (s < t) || canB (X s) (X t) u d ((t : Int) - (s : Int))
theorem allowB_iff (X : Nat → Nat → Int) (u d : Nat → Int) (n : Nat) : allowB X u d n = true ↔ ∀ s t, s < t → t < n → canB (X s) (X t) u d ((t : Int) - (s : Int)) = true := by
  unfold allowB
  rw [List.all_eq_true]
  constructor
  · intro h s t hst htn
    have := List.all_eq_true.1 (h s (List.mem_range.2 (by omega))) t (List.mem_range.2 htn)
    simpa [hst] using this
  · intro h s hs
    rw [List.all_eq_true]
    intro t ht
    by_cases e : s < t
    · simp [e, h s t e (List.mem_range.1 ht)]
    · simp [e]
theorem allowB_false {X : Nat → Nat → Int} {u d : Nat → Int} {n s t : Nat} (hst : s < t) (htn : t < n) (h : canB (X s) (X t) u d ((t : Int) - (s : Int)) = false) : allowB X u d n = false := by
  cases e : allowB X u d n with
  | false => rfl
  | true => rw [(allowB_iff X u d n).1 e s t hst htn] at h; cases h
def alE (X : Nat → Nat → Int) (u d : Nat → Int) (n : Nat) : Int := if 400 < n then 2 else orL [fwE (fun k => errB (okIce (X k)) 20) n, errB (okRates u d) 6]
def alRes (X : Nat → Nat → Int) (u d : Nat → Int) (n : Nat) : Value := if alE X u d n = 0 then .tuple #[.bool (allowB X u d n), .int .i64 0] else .tuple #[.bool false, .int .i64 (alE X u d n)]
theorem alE_ok {X : Nat → Nat → Int} {u d : Nat → Int} {n : Nat} (h : alE X u d n = 0) : (∀ k, k < n → okIce (X k) = true) ∧ okRates u d = true := by
  unfold alE at h
  by_cases h4 : 400 < n
  · rw [if_pos h4] at h; cases h
  · rw [if_neg h4] at h
    unfold orL at h
    by_cases h0 : fwE (fun k => errB (okIce (X k)) 20) n = 0
    · refine ⟨fun k hk => ?_, ?_⟩
      · have := fwE_zero' h0 k hk
        unfold errB at this
        cases e : okIce (X k) with
        | true => rfl
        | false => rw [e] at this; simp at this
      · cases e : okRates u d with
        | true => rfl
        | false => rw [e, h0] at h; simp [errB] at h
    · have hb : (fwE (fun k => errB (okIce (X k)) 20) n != 0) = true := by simpa using h0
      simp [List.find?, hb] at h
      exact absurd h h0
section
variable {Q : Exit → Act → World → Prop} {o : Oper} {a : Act} {W : World} {R : Value → World → Prop}
theorem opx_callfn {f s g : Nat} {v : Value} {ts : Array TypeId} (hop : o.op = Op.call { callee := .value (.func f), args := #[.tmp s, .func g], argTypes := ts })
    (he : a.eval (.tmp s) = v) (eg : ∀ args w, (callFunc f args).run Tryd.prog w = .ok (.enter f args) w) (hc : Calls Tryd.prog f #[v, .func (.func g) #[] #[]] W fun e w' => ∃ x, e = .returned x ∧ R x w') :
    o.wp Tryd.prog a W (fun a'' W'' => ∃ x, a'' = a.put o.dst x ∧ R x W'') Q := by
  have he' : a.tmps[s]?.getD undef = v := by simpa [Act.eval] using he
  unfold Oper.wp execOp
  rw [hop]
  simp [go_sem, he', eg]
  refine hc.mono ?_
  rintro e w' ⟨x, rfl, hb⟩
  exact ⟨x, rfl, hb⟩
end
theorem eg84 : ∀ args w, (callFunc 84 args).run Tryd.prog w = .ok (.enter 84 args) w := Go.Proofs.enters_of Tryd.func84 (by kernel_rfl) rfl
def alPv (p : Option Addr) (n cap : Nat) (E1 E2 : Int) (u d : Nat → Int) (j : Nat) (v : Value) (X : World) : Prop :=
  match j with
  | 0 => v = .slice p n cap
  | 1 => v = .int .i64 E1
  | 2 => v = .agg (ratesA u d)
  | 3 => v = .int .i64 E2
  | 4 => ∃ B, v = .slice (some ⟨B, 0, none⟩) 2 2 ∧ X.heap[B]? = some (.cells #[.int .i64 E1, .int .i64 E2] 33 (0, 0))
  | _ => v = .int .i64 (orL [E1, E2])
theorem alPv_later {p : Option Addr} {n cap : Nat} {E1 E2 : Int} {u d : Nat → Int} {j : Nat} {v : Value} {X X' : World} (h : alPv p n cap E1 E2 u d j v X) (hb : Below X.heap.size X X') : alPv p n cap E1 E2 u d j v X' := by
  match j with
  | 0 | 1 | 2 | 3 => exact h
  | 4 => obtain ⟨B, e1, e2⟩ := h; exact ⟨B, e1, (hb.block B (lt_of_block e2)).trans e2⟩
  | j + 5 => exact h
set_option maxHeartbeats 8000000 in
theorem Allowed_any (p : Option Addr) (n cap : Nat) (X : Nat → Nat → Int) (u d : Nat → Int) (w : World) (hl : Lim w) (hX : Ices w p n X) (hn : n ≤ 100000) :
    Calls Tryd.prog 31 #[.slice p n cap, .agg (ratesA u d)] w fun e w' => e = .returned (alRes X u d n) ∧ Below w.heap.size w w' := by
  have hpos := hl.pos
  have HL := Lib.hid hl
  have HC := Lib.hid hX
  clear hl hX
  by_cases h4 : 400 < n
  · have HR := Lib.hid (show alRes X u d n = .tuple #[.bool false, .int .i64 2] by have e0 : alE X u d n = 2 := (by unfold alE; rw [if_pos h4]); unfold alRes; rw [e0]; rfl)
    have hgt : (400 : Int) < (n : Int) := by omega
    have KB := Lib.hid ((Below.refl w.heap.size w).alloc (Nat.le_refl _) (.cells (ratesA u d) 41))
    go_enter Tryd.func31, Tryd.ntmps31
    go_wp2_with fail
    refine bodyPost_ret (v := .tuple #[.bool false, .int .i64 2]) ?_ rfl ⟨by rw [HR.out], KB.out⟩
    simp [results, Tryd.results31, go_sem]
  · have hgt : ¬ (400 : Int) < (n : Int) := by omega
    have KM := Lib.hid (block_new w (.cells (ratesA u d) 41))
    have KB := Lib.hid ((Below.refl w.heap.size w).alloc (Nat.le_refl _) (.cells (ratesA u d) 41))
    go_enter Tryd.func31, Tryd.ntmps31
    go_wp2_with fail
    generalize w.alloc (.cells (ratesA u d) 41) = V at *
    have HE := Lib.hid (show alE X u d n = orL [fwE (fun k => errB (okIce (X k)) 20) n, errB (okRates u d) 6] by unfold alE; rw [if_neg h4])
    obtain ⟨E1, hE1⟩ : ∃ E1, E1 = fwE (fun k => errB (okIce (X k)) 20) n := ⟨_, rfl⟩
    obtain ⟨E2, hE2⟩ : ∃ E2, E2 = errB (okRates u d) 6 := ⟨_, rfl⟩
    rw [← hE1, ← hE2] at HE
    refine wp_region_vals [12, 13, 14, 15, 16, 17, 6] (fun _ Y => Below V.heap.size V Y) (alPv p n cap E1 E2 u d)
      (by kernel_rfl) (by kernel_rfl) (fun s hs h => by simp at hs ⊢; omega) (by simp) ⟨rfl, rfl, rfl, Nat.le_refl _, fun _ _ => rfl⟩ ?val ?fin
    case val =>
      have stb : ∀ Y Y', Below Y.heap.size Y Y' → ∀ j v, alPv p n cap E1 E2 u d j v Y → alPv p n cap E1 E2 u d j v Y' := fun Y Y' hb j v h => alPv_later h hb
      intro j
      match j with
      | 0 => intro o L ho hLi hd a' Y hY hfr hdp; obtain rfl := Option.some.inj ho; exact opx_move rfl (hfr 0 (by decide)) ⟨hY, rfl, fun _ _ h => h⟩
      | 1 =>
        intro o L ho hLi hd a' Y hY hfr hdp; obtain rfl := Option.some.inj ho
        refine opx_callfn rfl (hdp 0 12 (by decide) rfl (by kernel_rfl)) eg84 ((fw84_any p n cap X Y (HL.out.below hpos (keep_bl1 KB.out hY)) (HC.out.later (keep_bl1 KB.out hY)) (by omega)).mono ?_)
        rintro e W' ⟨rfl, hb⟩
        exact ⟨_, rfl, hY.trans (hb.mono hY.size), by rw [hE1]; rfl, stb Y W' hb⟩
      | 2 =>
        intro o L ho hLi hd a' Y hY hfr hdp; obtain rfl := Option.some.inj ho
        exact opx_load41 rfl (hfr 3 (by decide)) (keep_blk1 KM.out hY) ⟨hY, rfl, fun _ _ h => h⟩
      | 3 =>
        intro o L ho hLi hd a' Y hY hfr hdp; obtain rfl := Option.some.inj ho
        refine opx_call1 rfl (hdp 2 14 (by decide) rfl (by kernel_rfl)) eg15 ((CheckRates_any u d Y).mono ?_)
        rintro e W' ⟨rfl, hb⟩
        exact ⟨_, rfl, hY.trans (hb.mono hY.size), by rw [hE2]; rfl, stb Y W' hb⟩
      | 4 =>
        intro o L ho hLi hd a' Y hY hfr hdp; obtain rfl := Option.some.inj ho
        have hb : Below Y.heap.size Y (Y.alloc (.cells #[.int .i64 E1, .int .i64 E2] 33)) := (Below.refl _ _).alloc (Nat.le_refl _) _
        exact opx_build2 rfl (hdp 1 13 (by decide) rfl (by kernel_rfl)) (hdp 3 15 (by decide) rfl (by kernel_rfl)) ⟨hY.trans (hb.mono hY.size), ⟨_, rfl, block_new Y _⟩, stb Y _ hb⟩
      | 5 =>
        intro o L ho hLi hd a' Y hY hfr hdp; obtain rfl := Option.some.inj ho
        obtain ⟨B, e1, e2⟩ := hdp 4 16 (by decide) rfl (by kernel_rfl)
        have hn2 := cell_of_block e2
        refine opx_call1 rfl e1 eg69 ((or_any B [E1, E2] Y (fun i hi => ?_) (by simp)).mono ?_)
        · match i, hi with
          | 0, _ => exact (hn2 0).trans rfl
          | 1, _ => exact (hn2 1).trans rfl
        rintro e W' ⟨rfl, rfl⟩
        exact ⟨_, rfl, hY, rfl, fun _ _ h => h⟩
      | 6 => intro o L ho hLi hd a' Y hY hfr hdp; obtain rfl := Option.some.inj ho; exact opx_assign rfl rfl ⟨hY, hdp 5 17 (by decide) rfl (by kernel_rfl), fun _ _ h => h⟩
      | j + 7 => intro o L ho; simp at ho
    case fin =>
      intro Y L Vv hLL hY hV
      have v6 : Vv 6 = .int .i64 (alE X u d n) := by rw [HE.out]; exact hV 6 (by decide)
      simp only [fill, Act.put, List.setIfInBounds_toArray, List.set_cons_zero, List.set_cons_succ, Nat.reduceAdd, v6]
      replace KM := Lib.hid (keep_blk1 KM.out hY)
      replace KB := Lib.hid (keep_bl1 KB.out hY)
      clear hY hLL hV v6 HE hE1 hE2
      by_cases hE : alE X u d n = 0
      · have HR := Lib.hid (show alRes X u d n = .tuple #[.bool (allowB X u d n), .int .i64 0] by unfold alRes; rw [if_pos hE])
        obtain ⟨hI, hok⟩ := alE_ok hE
        have HI := Lib.hid hI
        have HK := Lib.hid hok
        rw [hE]
        clear hI hok hE
        go_wp2_with fail
        go_loopw [23] (fun i wr => ∃ s : Nat, s ≤ n ∧ i = .int .i64 s ∧ Hid (∀ a b, a < s → a < b → b < n → canB (X a) (X b) u d ((b : Int) - (a : Int)) = true) ∧ Hid (wr.heap[w.heap.size]? = some (.cells (ratesA u d) 41 (0, 0))) ∧ Hid (Below w.heap.size w wr)) (fun i _ => n - (intOf i).toNat)
        case atStart => exact ⟨0, by omega, rfl, Lib.hid (fun a b h => absurd h (Nat.not_lt_zero a)), KM, KB⟩
        case round =>
          clear KM KB
          obtain ⟨s, hs, rfl, hz, KM, KB⟩ := hrel
          by_cases hlt : s < n
          · have hs4 : (s : Int) < (n : Int) := by omega
            have hs0 : (0 : Int) ≤ (s : Int) := by omega
            go_wp2_with fail
            go_loopw [8] (fun i wr => ∃ t : Nat, s < t ∧ t ≤ n ∧ i = .int .i64 t ∧ Hid (∀ b, s < b → b < t → canB (X s) (X b) u d ((b : Int) - (s : Int)) = true) ∧ Hid (wr.heap[w.heap.size]? = some (.cells (ratesA u d) 41 (0, 0))) ∧ Hid (Below w.heap.size w wr)) (fun i _ => n - (intOf i).toNat)
            case atStart => exact ⟨s + 1, by omega, by omega, by go_num, Lib.hid (fun b h1 h2 => by omega), KM, KB⟩
            case round =>
              clear KM KB
              obtain ⟨t, hst, ht, rfl, hy, KM, KB⟩ := hrel
              by_cases hlt2 : t < n
              · have ht4 : (t : Int) < (n : Int) := by omega
                have ht0 : (0 : Int) ≤ (t : Int) := by omega
                have hwr : IntKind.i64.wrap ((t : Int) - (s : Int)) = (t : Int) - (s : Int) := by rw [IntKind.wrap_i64]; omega
                obtain ⟨b, o, rfl, hb, c0, c1, c2, c3⟩ := (HC.out.later KB.out) s hlt
                obtain ⟨b', o', e', hb', d0, d1, d2, d3⟩ := (HC.out.later KB.out) t hlt2
                obtain ⟨rfl, rfl⟩ : b = b' ∧ o = o' := by simpa using e'
                have hlM := lt_of_block KM.out
                have cM := (cells8 KM.out).1
                obtain ⟨m0, m1, m2, m3, m4, m5, m6, m7⟩ := cM
                cases hc : canB (X s) (X t) u d ((t : Int) - (s : Int)) with
                | true =>
                  go_wp2_with fail
                  replace c0 := later_cell hb c0
                  replace c1 := later_cell hb c1
                  replace c2 := later_cell hb c2
                  replace c3 := later_cell hb c3
                  replace d0 := later_cell hb d0
                  replace d1 := later_cell hb d1
                  replace d2 := later_cell hb d2
                  replace d3 := later_cell hb d3
                  replace m0 := later_cell hlM m0
                  replace m1 := later_cell hlM m1
                  replace m2 := later_cell hlM m2
                  replace m3 := later_cell hlM m3
                  replace m4 := later_cell hlM m4
                  replace m5 := later_cell hlM m5
                  replace m6 := later_cell hlM m6
                  replace m7 := later_cell hlM m7
                  have HQ := Lib.hid (fun (Y : Later wr) => show Calls Tryd.prog 85 #[.agg (iceA (X s)), .agg (iceA (X t)), .agg (ratesA u d), .int .i64 ((t : Int) - (s : Int))] Y.world (fun e w' => e = .returned (.bool true) ∧ Below Y.world.heap.size Y.world w') by have hcon := canBecome_any (X s) (X t) u d ((t : Int) - (s : Int)) Y.world (HI.out s hlt) (HI.out t hlt2) HK.out (by omega) (by omega); rwa [hc] at hcon)
                  haveI : Nonempty (Later wr) := ⟨⟨wr, Below.refl _ _⟩⟩
                  refine wp_region_later (by kernel_rfl) (by kernel_rfl) ?_
                  repeat (go_big_quiet_step ((go_at_call 85; exact later_call (HQ.out _))))
                  refine wpQuiet_nil ?_
                  intro Y1 hw'
                  obtain ⟨⟨Xq, hX0⟩, hXe⟩ := hw'
                  change Y1 = Xq at hXe
                  rw [← hXe] at hX0
                  clear hXe Xq c0 c1 c2 c3 d0 d1 d2 d3 m0 m1 m2 m3 m4 m5 m6 m7 HQ
                  replace KM := Lib.hid (keep_blk1 KM.out hX0)
                  replace KB := Lib.hid (keep_bl1 KB.out hX0)
                  clear hX0
                  have HB := Lib.hid hc
                  clear hc
                  go_wp2_with fail
                  go_roundw
                  case rel => exact ⟨t + 1, by omega, by omega, by go_num, Lib.hid (fun b h1 h2 => by by_cases e : b = t; (· rw [e]; exact HB.out); (· exact hy.out b h1 (by omega))), KM, KB⟩
                  case measure => simp [intOf]; omega
                | false =>
                  go_wp2_with fail
                  replace c0 := later_cell hb c0
                  replace c1 := later_cell hb c1
                  replace c2 := later_cell hb c2
                  replace c3 := later_cell hb c3
                  replace d0 := later_cell hb d0
                  replace d1 := later_cell hb d1
                  replace d2 := later_cell hb d2
                  replace d3 := later_cell hb d3
                  replace m0 := later_cell hlM m0
                  replace m1 := later_cell hlM m1
                  replace m2 := later_cell hlM m2
                  replace m3 := later_cell hlM m3
                  replace m4 := later_cell hlM m4
                  replace m5 := later_cell hlM m5
                  replace m6 := later_cell hlM m6
                  replace m7 := later_cell hlM m7
                  have HQ := Lib.hid (fun (Y : Later wr) => show Calls Tryd.prog 85 #[.agg (iceA (X s)), .agg (iceA (X t)), .agg (ratesA u d), .int .i64 ((t : Int) - (s : Int))] Y.world (fun e w' => e = .returned (.bool false) ∧ Below Y.world.heap.size Y.world w') by have hcon := canBecome_any (X s) (X t) u d ((t : Int) - (s : Int)) Y.world (HI.out s hlt) (HI.out t hlt2) HK.out (by omega) (by omega); rwa [hc] at hcon)
                  haveI : Nonempty (Later wr) := ⟨⟨wr, Below.refl _ _⟩⟩
                  refine wp_region_later (by kernel_rfl) (by kernel_rfl) ?_
                  repeat (go_big_quiet_step ((go_at_call 85; exact later_call (HQ.out _))))
                  refine wpQuiet_nil ?_
                  intro Y1 hw'
                  obtain ⟨⟨Xq, hX0⟩, hXe⟩ := hw'
                  change Y1 = Xq at hXe
                  rw [← hXe] at hX0
                  clear hXe Xq c0 c1 c2 c3 d0 d1 d2 d3 m0 m1 m2 m3 m4 m5 m6 m7 HQ
                  replace KM := Lib.hid (keep_blk1 KM.out hX0)
                  replace KB := Lib.hid (keep_bl1 KB.out hX0)
                  clear hX0
                  have HF := Lib.hid (show alRes X u d n = .tuple #[.bool false, .int .i64 0] by rw [HR.out, allowB_false hst hlt2 hc])
                  clear hc
                  go_wp2_with fail
                  refine bodyPost_ret (v := .tuple #[.bool false, .int .i64 0]) ?_ rfl ⟨by rw [HF.out], KB.out⟩
                  simp [results, Tryd.results31, go_sem]
              · have ht5 : (t : Int) = (n : Int) := by omega
                have hz2 := Lib.hid (show ∀ a b, a < s + 1 → a < b → b < n → canB (X a) (X b) u d ((b : Int) - (a : Int)) = true from fun a b h1 h2 h3 => by
                  by_cases e : a = s
                  · subst e; exact hy.out b h2 (by omega)
                  · exact hz.out a b (by omega) h2 h3)
                go_wp2_with fail
                go_roundw
                case rel => exact ⟨s + 1, by omega, by go_num, hz2, KM, KB⟩
                case measure => simp [intOf]; omega
          · have hs5 : (s : Int) = (n : Int) := by omega
            have HF := Lib.hid (show alRes X u d n = .tuple #[.bool true, .int .i64 0] by rw [HR.out, (allowB_iff X u d n).2 (fun a b h1 h2 => hz.out a b (by omega) h1 h2)])
            go_wp2_with fail
            refine bodyPost_ret (v := .tuple #[.bool true, .int .i64 0]) ?_ rfl ⟨by rw [HF.out], KB.out⟩
            simp [results, Tryd.results31, go_sem]
      · have HR := Lib.hid (show alRes X u d n = .tuple #[.bool false, .int .i64 (alE X u d n)] by unfold alRes; rw [if_neg hE])
        go_wp2_with fail
        refine bodyPost_ret (v := .tuple #[.bool false, .int .i64 (alE X u d n)]) ?_ rfl ⟨by rw [HR.out], KB.out⟩
        simp [results, Tryd.results31, go_sem]
/- The contract of the reference's Allowed: any course, any rates. -/
theorem canB_false {x y u d : Nat → Int} {h : Int} {k : Nat} (hk : k < 4) (hc : canQ x y u d h k = false) : canB x y u d h = false := all_false (b := canQ x y u d h) hk hc
set_option maxHeartbeats 8000000 in
theorem Allowed_ref (p : Option Addr) (n cap : Nat) (X : Nat → Nat → Int) (u d : Nat → Int) (w : World) (hX : Ices w p n X) (hn : n ≤ 100000) :
    Calls Tryd.prog 32 #[.slice p n cap, .agg (ratesA u d)] w fun e w' => e = .returned (alRes X u d n) ∧ Below w.heap.size w w' := by
  have HC := Lib.hid hX
  clear hX
  by_cases h4 : 400 < n
  · have HR := Lib.hid (show alRes X u d n = .tuple #[.bool false, .int .i64 2] by have e0 : alE X u d n = 2 := (by unfold alE; rw [if_pos h4]); unfold alRes; rw [e0]; rfl)
    have hgt : (400 : Int) < (n : Int) := by omega
    have KB := Lib.hid ((Below.refl w.heap.size w).alloc (Nat.le_refl _) (.cells (ratesA u d) 29))
    go_enter Tryd.func32, Tryd.ntmps32
    go_wp2_with fail
    refine bodyPost_ret (v := .tuple #[.bool false, .int .i64 2]) ?_ rfl ⟨by rw [HR.out], KB.out⟩
    simp [results, Tryd.results32, go_sem]
  · have hgt : ¬ (400 : Int) < (n : Int) := by omega
    have KM := Lib.hid (block_new w (.cells (ratesA u d) 29))
    have KB := Lib.hid ((Below.refl w.heap.size w).alloc (Nat.le_refl _) (.cells (ratesA u d) 29))
    have HE := Lib.hid (show alE X u d n = orL [fwE (fun k => errB (okIce (X k)) 20) n, errB (okRates u d) 6] by unfold alE; rw [if_neg h4])
    go_enter Tryd.func32, Tryd.ntmps32
    go_wp2_with fail
    generalize w.alloc (.cells (ratesA u d) 29) = V at *
    go_loopw [6] (fun i wr => ∃ k : Nat, k ≤ n ∧ i = .int .i64 k ∧ Hid (Zer (fun k => errB (okIce (X k)) 20) k) ∧ Hid (wr.heap[w.heap.size]? = some (.cells (ratesA u d) 29 (0, 0))) ∧ Hid (Below w.heap.size w wr)) (fun i _ => n - (intOf i).toNat)
    case atStart => exact ⟨0, by omega, rfl, fun j hj => by omega, KM, KB⟩
    case round =>
      clear KM KB
      obtain ⟨k, hk, rfl, hz, KM, KB⟩ := hrel
      by_cases hlt : k < n
      · obtain ⟨b, o, rfl, hb, c0, c1, c2, c3⟩ := (HC.out.later KB.out) k hlt
        have hkn : (k : Int) < (n : Int) := by omega
        have hk0 : (0 : Int) ≤ (k : Int) := by omega
        go_wp2_with fail
        clear c0 c1 c2 c3
        refine (CheckIce_ref (X k) wr).mono ?_
        rintro e W' ⟨rfl, hb'⟩
        replace KM := Lib.hid (keep_blk1 KM.out hb')
        replace KB := Lib.hid (keep_bl1 KB.out hb')
        clear hb'
        cases hI : okIce (X k) with
        | true =>
          have HI := Lib.hid (show errB (okIce (X k)) 20 = 0 by rw [hI]; rfl)
          clear hI
          simp only [errB, if_true]
          go_wp2_with fail
          go_roundw
          case rel => exact ⟨k + 1, by omega, by go_num, fun j hj => by by_cases e : j = k; (· rw [e]; exact HI.out); (· exact hz.out j (by omega)), KM, KB⟩
          case measure => simp [intOf]; omega
        | false =>
          have HI := Lib.hid (show errB (okIce (X k)) 20 = 20 by rw [hI]; rfl)
          clear hI
          have HR := Lib.hid (show alRes X u d n = .tuple #[.bool false, .int .i64 20] by
            have e1 : fwE (fun k => errB (okIce (X k)) 20) n = 20 := (fwE_at (k := k) hz.out (by show errB (okIce (X k)) 20 ≠ 0; rw [HI.out]; decide) n hlt).trans HI.out
            have e0 : alE X u d n = 20 := by rw [HE.out, e1]; rfl
            unfold alRes; rw [e0]; rfl)
          simp only [errB, Bool.false_eq_true, if_false]
          go_wp2_with fail
          refine bodyPost_ret (v := .tuple #[.bool false, .int .i64 20]) ?_ rfl ⟨by rw [HR.out], KB.out⟩
          simp [results, Tryd.results32, go_sem]
      · have hk5 : (k : Int) = (n : Int) := by omega
        obtain rfl : k = n := by omega
        have HZ := Lib.hid (fwE_zero hz.out)
        have cM := (cells8 KM.out).1
        obtain ⟨m0, m1, m2, m3, m4, m5, m6, m7⟩ := cM
        go_wp2_with fail
        clear m0 m1 m2 m3 m4 m5 m6 m7
        refine (CheckRates_ref u d wr).mono ?_
        rintro e W' ⟨rfl, hb'⟩
        replace KM := Lib.hid (keep_blk1 KM.out hb')
        replace KB := Lib.hid (keep_bl1 KB.out hb')
        clear hb'
        cases hok : okRates u d with
        | false =>
          have HR := Lib.hid (show alRes X u d k = .tuple #[.bool false, .int .i64 6] by
            have e0 : alE X u d k = 6 := by rw [HE.out, HZ.out, hok]; rfl
            unfold alRes; rw [e0]; rfl)
          clear hok
          simp only [errB, Bool.false_eq_true, if_false]
          go_wp2_with fail
          refine bodyPost_ret (v := .tuple #[.bool false, .int .i64 6]) ?_ rfl ⟨by rw [HR.out], KB.out⟩
          simp [results, Tryd.results32, go_sem]
        | true =>
          have hE : alE X u d k = 0 := by rw [HE.out, HZ.out, hok]; rfl
          have HR := Lib.hid (show alRes X u d k = .tuple #[.bool (allowB X u d k), .int .i64 0] by unfold alRes; rw [if_pos hE])
          have HI := Lib.hid (alE_ok hE).1
          have HK := Lib.hid (fun q hq => rates_bd hok q hq)
          clear hE hok HE HZ hz
          simp only [errB, if_true]
          go_wp2_with fail
          go_loopw [9] (fun i wr => ∃ s : Nat, s ≤ k ∧ i = .int .i64 s ∧ Hid (∀ a b, a < s → a < b → b < k → canB (X a) (X b) u d ((b : Int) - (a : Int)) = true) ∧ Hid (wr.heap[w.heap.size]? = some (.cells (ratesA u d) 29 (0, 0))) ∧ Hid (Below w.heap.size w wr)) (fun i _ => k - (intOf i).toNat)
          case atStart => exact ⟨0, by omega, rfl, Lib.hid (fun a b h => absurd h (Nat.not_lt_zero a)), KM, KB⟩
          case round =>
            clear KM KB
            obtain ⟨s, hs, rfl, hz, KM, KB⟩ := hrel
            by_cases hlt1 : s < k
            · have hs4 : (s : Int) < (k : Int) := by omega
              have hs0 : (0 : Int) ≤ (s : Int) := by omega
              go_wp2_with fail
              go_loopw [10] (fun i wr => ∃ t : Nat, s < t ∧ t ≤ k ∧ i = .int .i64 t ∧ Hid (∀ b, s < b → b < t → canB (X s) (X b) u d ((b : Int) - (s : Int)) = true) ∧ Hid (wr.heap[w.heap.size]? = some (.cells (ratesA u d) 29 (0, 0))) ∧ Hid (Below w.heap.size w wr)) (fun i _ => k - (intOf i).toNat)
              case atStart => exact ⟨s + 1, by omega, by omega, by go_num, Lib.hid (fun b h1 h2 => by omega), KM, KB⟩
              case round =>
                clear KM KB
                obtain ⟨t, hst, ht, rfl, hy, KM, KB⟩ := hrel
                by_cases hlt2 : t < k
                · have ht4 : (t : Int) < (k : Int) := by omega
                  have ht0 : (0 : Int) ≤ (t : Int) := by omega
                  have hwr : IntKind.i64.wrap ((t : Int) - (s : Int)) = (t : Int) - (s : Int) := by rw [IntKind.wrap_i64]; omega
                  go_wp2_with fail
                  go_loopw [11] (fun i wr => ∃ q : Nat, q ≤ 4 ∧ i = .int .i64 q ∧ Hid (∀ j, j < q → canQ (X s) (X t) u d ((t : Int) - (s : Int)) j = true) ∧ Hid (wr.heap[w.heap.size]? = some (.cells (ratesA u d) 29 (0, 0))) ∧ Hid (Below w.heap.size w wr)) (fun i _ => 4 - (intOf i).toNat)
                  case atStart => exact ⟨0, by omega, rfl, Lib.hid (fun j h => absurd h (Nat.not_lt_zero j)), KM, KB⟩
                  case round =>
                    clear KM KB
                    obtain ⟨q, hq4, rfl, hj, KM, KB⟩ := hrel
                    by_cases hltq : q < 4
                    · have hq5 : (q : Int) < 4 := by omega
                      have hq0 : (0 : Int) ≤ (q : Int) := by omega
                      have bs := (allB_iff _).1 (HI.out s hlt1) q hltq
                      have bt := (allB_iff _).1 (HI.out t hlt2) q hltq
                      have bl := lim_bd q
                      have br := HK.out q hltq
                      unfold inB at bs bt
                      rw [decide_eq_true_eq] at bs bt
                      have hw1 : IntKind.i64.wrap (X t q - X s q) = X t q - X s q := by rw [IntKind.wrap_i64]; omega
                      have hw2 : IntKind.i64.wrap (-(X t q - X s q)) = -(X t q - X s q) := by rw [IntKind.wrap_i64]; omega
                      obtain ⟨b, o, rfl, hb, c0, c1, c2, c3⟩ := (HC.out.later KB.out) s hlt1
                      obtain ⟨b', o', e', hb', d0, d1, d2, d3⟩ := (HC.out.later KB.out) t hlt2
                      obtain ⟨rfl, rfl⟩ : b = b' ∧ o = o' := by simpa using e'
                      have HBD := Lib.hid (show (0 ≤ u q ∧ u q ≤ 1000 ∧ 0 ≤ d q ∧ d q ≤ 1000) ∧ 0 ≤ (t : Int) - (s : Int) ∧ (t : Int) - (s : Int) ≤ 10000 by omega)
                      clear bs bt bl br e'
                      go_wp2_with fail
                      replace c0 := later_cell hb c0
                      replace c1 := later_cell hb c1
                      replace c2 := later_cell hb c2
                      replace c3 := later_cell hb c3
                      replace d0 := later_cell hb d0
                      replace d1 := later_cell hb d1
                      replace d2 := later_cell hb d2
                      replace d3 := later_cell hb d3
                      have HN := Lib.hid (fun (m : Nat → Int) (x : Later wr) => Number_any m q hltq x.world)
                      haveI : Nonempty (Later wr) := ⟨⟨wr, Below.refl _ _⟩⟩
                      refine wp_region_later (by kernel_rfl) (by kernel_rfl) ?_
                      repeat (go_big_quiet_step ((go_at_call 64; exact later_call (HN.out _ _))))
                      refine wpQuiet_nil ?_
                      intro Y1 hw'
                      obtain ⟨⟨Xq, hX0⟩, hXe⟩ := hw'
                      change Y1 = Xq at hXe
                      rw [← hXe] at hX0
                      clear hXe Xq c0 c1 c2 c3 d0 d1 d2 d3 HN
                      replace KM := Lib.hid (keep_blk1 KM.out hX0)
                      replace KB := Lib.hid (keep_bl1 KB.out hX0)
                      clear hX0
                      have cM := (cells8 KM.out).1
                      obtain ⟨m0, m1, m2, m3, m4, m5, m6, m7⟩ := cM
                      go_wp2_with fail
                      clear m0 m1 m2 m3 m4 m5 m6 m7
                      refine (Number_any u q hltq Y1).mono ?_
                      rintro e Y2 ⟨rfl, hb2⟩
                      replace KM := Lib.hid (keep_blk1 KM.out hb2)
                      replace KB := Lib.hid (keep_bl1 KB.out hb2)
                      clear hb2
                      go_wp2_with fail
                      refine (change_ref (u q) ((t : Int) - (s : Int)) Y2 HBD.out.1.1 HBD.out.1.2.1 HBD.out.2.1 HBD.out.2.2).mono ?_
                      rintro e Y3 ⟨rfl, hb2⟩
                      replace KM := Lib.hid (keep_blk1 KM.out hb2)
                      replace KB := Lib.hid (keep_bl1 KB.out hb2)
                      clear hb2
                      by_cases g1 : chg (u q) ((t : Int) - (s : Int)) < X t q - X s q
                      · have HF := Lib.hid (show alRes X u d k = .tuple #[.bool false, .int .i64 0] by rw [HR.out, allowB_false hst hlt2 (canB_false hltq (by unfold canQ inB; exact decide_eq_false (by omega)))])
                        go_wp2_with fail
                        refine bodyPost_ret (v := .tuple #[.bool false, .int .i64 0]) ?_ rfl ⟨by rw [HF.out], KB.out⟩
                        simp [results, Tryd.results32, go_sem]
                      · have gd1 : decide (chg (u q) ((t : Int) - (s : Int)) < X t q - X s q) = false := decide_eq_false g1
                        have cM := (cells8 KM.out).1
                        obtain ⟨m0, m1, m2, m3, m4, m5, m6, m7⟩ := cM
                        go_wp2_with fail
                        clear m0 m1 m2 m3 m4 m5 m6 m7
                        refine (Number_any d q hltq Y3).mono ?_
                        rintro e Y4 ⟨rfl, hb2⟩
                        replace KM := Lib.hid (keep_blk1 KM.out hb2)
                        replace KB := Lib.hid (keep_bl1 KB.out hb2)
                        clear hb2
                        go_wp2_with fail
                        refine (change_ref (d q) ((t : Int) - (s : Int)) Y4 HBD.out.1.2.2.1 HBD.out.1.2.2.2 HBD.out.2.1 HBD.out.2.2).mono ?_
                        rintro e Y5 ⟨rfl, hb2⟩
                        replace KM := Lib.hid (keep_blk1 KM.out hb2)
                        replace KB := Lib.hid (keep_bl1 KB.out hb2)
                        clear hb2
                        by_cases g2 : chg (d q) ((t : Int) - (s : Int)) < -(X t q - X s q)
                        · have HF := Lib.hid (show alRes X u d k = .tuple #[.bool false, .int .i64 0] by rw [HR.out, allowB_false hst hlt2 (canB_false hltq (by unfold canQ inB; exact decide_eq_false (by omega)))])
                          go_wp2_with fail
                          refine bodyPost_ret (v := .tuple #[.bool false, .int .i64 0]) ?_ rfl ⟨by rw [HF.out], KB.out⟩
                          simp [results, Tryd.results32, go_sem]
                        · have gd2 : decide (chg (d q) ((t : Int) - (s : Int)) < -(X t q - X s q)) = false := decide_eq_false g2
                          have HJ := Lib.hid (show canQ (X s) (X t) u d ((t : Int) - (s : Int)) q = true by unfold canQ inB; exact decide_eq_true (by omega))
                          go_wp2_with fail
                          go_roundw
                          case rel => exact ⟨q + 1, by omega, by go_num, Lib.hid (fun j h => by by_cases e : j = q; (· rw [e]; exact HJ.out); (· exact hj.out j (by omega))), KM, KB⟩
                          case measure => simp [intOf]; omega
                    · obtain rfl : q = 4 := by omega
                      have HB := Lib.hid (show canB (X s) (X t) u d ((t : Int) - (s : Int)) = true from (allB_iff _).2 hj.out)
                      go_wp2_with fail
                      go_roundw
                      case rel => exact ⟨t + 1, by omega, by omega, by go_num, Lib.hid (fun b h1 h2 => by by_cases e : b = t; (· rw [e]; exact HB.out); (· exact hy.out b h1 (by omega))), KM, KB⟩
                      case measure => simp [intOf]; omega
                · have ht5 : (t : Int) = (k : Int) := by omega
                  have hz2 := Lib.hid (show ∀ a b, a < s + 1 → a < b → b < k → canB (X a) (X b) u d ((b : Int) - (a : Int)) = true from fun a b h1 h2 h3 => by
                    by_cases e : a = s
                    · subst e; exact hy.out b h2 (by omega)
                    · exact hz.out a b (by omega) h2 h3)
                  go_wp2_with fail
                  go_roundw
                  case rel => exact ⟨s + 1, by omega, by go_num, hz2, KM, KB⟩
                  case measure => simp [intOf]; omega
            · have hs5 : (s : Int) = (k : Int) := by omega
              have HF := Lib.hid (show alRes X u d k = .tuple #[.bool true, .int .i64 0] by rw [HR.out, (allowB_iff X u d k).2 (fun a b h1 h2 => hz.out a b (by omega) h1 h2)])
              go_wp2_with fail
              refine bodyPost_ret (v := .tuple #[.bool true, .int .i64 0]) ?_ rfl ⟨by rw [HF.out], KB.out⟩
              simp [results, Tryd.results32, go_sem]
/- The contract of the law's Field: at most 1000 hours. -/
theorem info37 : (Tryd.prog.info? 37).map (fun i => (i.zero, i.size, i.bytes)) = some (some (.agg #[.int .i64 0, .int .i64 0, .int .i64 0, .int .i64 0]), 4, 32) := by kernel_rfl
theorem und57 : Tryd.prog.underlying 57 = some (.slice 37) := by kernel_rfl
def iceRow (X : Nat → Nat → Int) : Nat → List Value
  | 0 => []
  | k + 1 => iceRow X k ++ (iceA (X k)).toList
theorem iceRow_len (X : Nat → Nat → Int) : ∀ k, (iceRow X k).length = k * 4
  | 0 => rfl
  | k + 1 => by simp [iceRow, iceRow_len X k]; omega
theorem iceRow_get (X : Nat → Nat → Int) : ∀ k i, i < k → ∀ c v, (iceA (X i))[c]? = some v → (iceRow X k)[i * 4 + c]? = some v
  | 0, i, h, _, _, _ => by omega
  | k + 1, i, h, c, v, hv => by
    have hc : c < 4 := by
      have := (Array.getElem?_eq_some_iff.1 hv).1
      simpa using this
    unfold iceRow
    by_cases e : i = k
    · subst e
      rw [List.getElem?_append_right (by rw [iceRow_len]; omega), iceRow_len]
      have : i * 4 + c - i * 4 = c := by omega
      rw [this]
      simpa using hv
    · rw [List.getElem?_append_left (by rw [iceRow_len]; omega)]
      exact iceRow_get X k i (by omega) c v hv
theorem ices_of_row {W : World} {base n : Nat} {p : Option Addr} {m c : Nat} {X : Nat → Nat → Int} (h : W.ownsRow base 37 4 (.slice p m c) n (iceRow X n)) : Ices W p n X := fun i hi => by
  have hr := h
  rcases h.2 with ⟨e1, e2⟩ | ⟨g, cap, cur, e1, _, hg, _⟩
  · omega
  · cases e1
    have hcl : ∀ c v, (iceA (X i))[c]? = some v → W.cell? ⟨g, 0 + i * 4 + c, none⟩ = some v := fun c v hv => by
      have := hr.cells (g := g) rfl (i * 4 + c) v (iceRow_get X n i hi c v hv)
      have hadd : (⟨g, 0, none⟩ : Addr).add (i * 4 + c) = ⟨g, 0 + i * 4 + c, none⟩ := by unfold Addr.add; split <;> simp_all
      rwa [hadd] at this
    exact ⟨g, 0, rfl, lt_of_block hg, hcl 0 _ rfl, hcl 1 _ rfl, hcl 2 _ rfl, hcl 3 _ rfl⟩
set_option maxHeartbeats 4000000 in
theorem Field_any (p : Option Addr) (n cap : Nat) (X : Nat → Nat → Int) (w : World) (hX : Ices w p n X) (hn : n ≤ 1000) :
    Calls Tryd.prog 30 #[.slice p n cap] w fun e w' => ∃ p' c', e = .returned (.slice p' n c') ∧ Ices w' p' n X ∧ Below w.heap.size w w' := by
  obtain ⟨i0, hi, hz0, hz1, hz2⟩ := info_parts info37
  have HC := Lib.hid hX
  clear hX
  go_enter Tryd.func30, Tryd.ntmps30
  go_wp2_with fail
  go_loopw [3, 4] (fun v i wr => ∃ (k : Nat) (p : Option Addr) (c : Nat), k ≤ n ∧ i = .int .i64 k ∧ v = .slice p k c ∧ Hid (wr.ownsRow w.heap.size 37 4 (.slice p k c) k (iceRow X k)) ∧ Hid (Below w.heap.size w wr)) (fun _ i _ => n - (intOf i).toNat)
  case atStart => exact ⟨0, none, 0, by omega, rfl, rfl, World.ownsRow_nil _ _ _ _, Lib.hid (Below.refl _ _)⟩
  case round =>
    obtain ⟨k, p1, c, hk, rfl, rfl, hO, hB⟩ := hrel
    by_cases hlt : k < n
    · have hk3 : (k : Int) < (n : Int) := by omega
      have hk0 : (0 : Int) ≤ (k : Int) := by omega
      obtain ⟨b, o, rfl, hb, c0, c1, c2, c3⟩ := (HC.out.later hB.out) k hlt
      have hz := hB.out.size
      have hmx : k + 1 ≤ maxLen := by simp only [maxLen]; omega
      have hnb := block_new wr (.cells (iceA (X k)) 37)
      have hbs : w.heap.size ≤ (wr.alloc (.cells (iceA (X k)) 37)).heap.size := by simp; omega
      go_wp2_with (at_builtin; refine wpList_append_own _ rfl (.tmp 11) (.tmp 16) 57 rfl w.heap.size 37 i0 (.agg #[.int .i64 0, .int .i64 0, .int .i64 0, .int .i64 0]) 4 32 und57 hi hz0 hz1 hz2 rfl (by decide) (.slice p1 k c) k (iceRow X k) rfl (hO.out.alloc _) ⟨wr.heap.size, 0, none⟩ 1 1 [.int .i64 (X k 0), .int .i64 (X k 1), .int .i64 (X k 2), .int .i64 (X k 3)] rfl rfl (World.news_of_block hnb) (by simp [Value.oneCell']) hmx (by omega) hbs ?_; refine Hid.out ?_)
      refine Lib.hid ?_
      intro v' w1 hown' hgrow _
      obtain ⟨g', cap', rfl⟩ := ownsRow_succ hown'
      have HO1 := Lib.hid (show w1.ownsRow w.heap.size 37 4 (.slice (some ⟨g', 0, none⟩) (k + 1) cap') (k + 1) (iceRow X (k + 1)) from hown')
      have HB1 := Lib.hid (show Below w.heap.size w w1 from (hB.out.alloc hz _).grown hgrow hbs (fun j e => by
        rcases hO.out.2 with ⟨h, _⟩ | ⟨gg, cp, cur, h, hb, hg, _⟩
        · rw [h] at e; simp [Value.ownBlock] at e
        · rw [h] at e
          obtain rfl : gg = j := by simpa [Value.ownBlock] using e
          exact hb))
      clear hown' hgrow c0 c1 c2 c3 hnb
      go_wp2_with fail
      go_roundw
      case rel => exact ⟨k + 1, some ⟨g', 0, none⟩, cap', by omega, by go_num, rfl, HO1, HB1⟩
      case measure => simp [intOf]; omega
    · have hk5 : (k : Int) = (n : Int) := by omega
      obtain rfl : k = n := by omega
      have HR := Lib.hid (ices_of_row hO.out)
      go_wp2_with fail
      go_ret
      exact ⟨p1, ⟨c, rfl⟩, HR.out, hB.out⟩
/- The law IceCells over memory. The table of limits holds 100, 400, 100, 3. -/
def hasV (lo hi n : Nat → Int) : Bool := decide (hasE lo hi n = 0) && hasB lo hi n
theorem hasRes_eq (lo hi n : Nat → Int) : hasRes lo hi n = .tuple #[.bool (hasV lo hi n), .int .i64 (hasE lo hi n)] := by
  unfold hasRes hasV
  by_cases h : hasE lo hi n = 0
  · rw [if_pos h, h]; simp
  · rw [if_neg h]; simp [h]
def inV (lo hi lo' hi' : Nat → Int) : Bool := decide (twoE lo hi lo' hi' = 0) && insideB lo hi lo' hi'
theorem insideRes_eq (lo hi lo' hi' : Nat → Int) : insideRes lo hi lo' hi' = .tuple #[.bool (inV lo hi lo' hi'), .int .i64 (twoE lo hi lo' hi')] := by
  unfold insideRes inV
  by_cases h : twoE lo hi lo' hi' = 0
  · rw [if_pos h, h]; simp
  · rw [if_neg h]; simp [h]
def onlyF (b : Bool) (f : Nat → Int) (q : Nat) : Int := if b = true then f q else 0
theorem onlyF_true (f : Nat → Int) : onlyF true f = f := rfl
theorem cellA_false (f g : Nat → Int) : cellA (onlyF false f) (onlyF false g) = zero8 := rfl
def meE (lo hi lo' hi' : Nat → Int) : Int := if twoE lo hi lo' hi' = 0 then (if meetB lo hi lo' hi' = true then 0 else 21) else twoE lo hi lo' hi'
def meL (lo hi lo' hi' : Nat → Int) : Nat → Int := onlyF (decide (twoE lo hi lo' hi' = 0) && meetB lo hi lo' hi') (mxF lo lo')
def meH (lo hi lo' hi' : Nat → Int) : Nat → Int := onlyF (decide (twoE lo hi lo' hi' = 0) && meetB lo hi lo' hi') (mnF hi hi')
theorem meetRes_eq (lo hi lo' hi' : Nat → Int) : meetRes lo hi lo' hi' = .tuple #[.agg (cellA (meL lo hi lo' hi') (meH lo hi lo' hi')), .int .i64 (meE lo hi lo' hi')] := by
  unfold meetRes meL meH meE
  by_cases h : twoE lo hi lo' hi' = 0
  · cases hm : meetB lo hi lo' hi' with
    | true => simp [h, onlyF_true]
    | false => simp [h, onlyF]
  · simp [h, onlyF]
def huL (lo hi lo' hi' : Nat → Int) : Nat → Int := onlyF (decide (twoE lo hi lo' hi' = 0)) (mnF lo lo')
def huH (lo hi lo' hi' : Nat → Int) : Nat → Int := onlyF (decide (twoE lo hi lo' hi' = 0)) (mxF hi hi')
theorem hullRes_eq (lo hi lo' hi' : Nat → Int) : hullRes lo hi lo' hi' = .tuple #[.agg (cellA (huL lo hi lo' hi') (huH lo hi lo' hi')), .int .i64 (twoE lo hi lo' hi')] := by
  unfold hullRes huL huH
  by_cases h : twoE lo hi lo' hi' = 0
  · simp [h, onlyF_true]
  · simp [h, onlyF]
def aeL (lo hi u d : Nat → Int) (hours : Int) : Nat → Int := onlyF (decide (ageE lo hi u d hours = 0)) (agLo lo d hours)
def aeH (lo hi u d : Nat → Int) (hours : Int) : Nat → Int := onlyF (decide (ageE lo hi u d hours = 0)) (agHi hi u hours)
theorem ageRes_eq (lo hi u d : Nat → Int) (hours : Int) : ageRes lo hi u d hours = .tuple #[.agg (cellA (aeL lo hi u d hours) (aeH lo hi u d hours)), .int .i64 (ageE lo hi u d hours)] := by
  unfold ageRes aeL aeH
  by_cases h : ageE lo hi u d hours = 0
  · simp [h, onlyF_true]
  · simp [h, onlyF]
def alV (X : Nat → Nat → Int) (u d : Nat → Int) (n : Nat) : Bool := decide (alE X u d n = 0) && allowB X u d n
theorem alRes_eq (X : Nat → Nat → Int) (u d : Nat → Int) (n : Nat) : alRes X u d n = .tuple #[.bool (alV X u d n), .int .i64 (alE X u d n)] := by
  unfold alRes alV
  by_cases h : alE X u d n = 0
  · rw [if_pos h, h]; simp
  · rw [if_neg h]; simp [h]
/-- What is known while two cells are copied. -/
structure CtW (V0 : World) (CL CH : Nat → Nat → Int) (L : Nat → Bool) (V : Nat → Value) (X : World) : Prop where
  below : Below V0.heap.size V0 X
  v0 : ∀ q, q < 2 → L q = true → V q = .agg (cellA (CL q) (CH q))
  v2 : ∀ q, q < 2 → L (2 + q) = true → ∃ B, V (2 + q) = .pointer (some ⟨B, 0, none⟩) ∧ V0.heap.size ≤ B ∧ X.heap[B]? = some (.cells (if L (4 + q) = true then cellA (CL q) (CH q) else zero8) 32 (0, 0))
  ne : ∀ q r, q < 2 → r < 2 → q ≠ r → L (2 + q) = true → L (2 + r) = true → V (2 + q) ≠ V (2 + r)
  o4 : ∀ q, q < 2 → L (4 + q) = true → L (2 + q) = true
theorem CtW.set {V0 : World} {CL CH : Nat → Nat → Int} {L : Nat → Bool} {V : Nat → Value} {X : World} (h : CtW V0 CL CH L V X) {i : Nat} {x : Value} (hi : i < 2) (hx : x = .agg (cellA (CL i) (CH i))) :
    CtW V0 CL CH (fun j => if j = i then true else L j) (fun j => if j = i then x else V j) X := by
  refine ⟨h.below, fun q hq hL => ?_, fun q hq hL => ?_, fun q r hq hr hne h1 h2 => ?_, fun q hq hL => ?_⟩
  · by_cases e : q = i
    · subst e; simp only [if_true]; exact hx
    · simp only [if_neg e] at hL ⊢; exact h.v0 q hq hL
  · simp only [if_neg (show ¬ 2 + q = i by omega), if_neg (show ¬ 4 + q = i by omega)] at hL ⊢; exact h.v2 q hq hL
  · simp only [if_neg (show ¬ 2 + q = i by omega), if_neg (show ¬ 2 + r = i by omega)] at h1 h2 ⊢; exact h.ne q r hq hr hne h1 h2
  · simp only [if_neg (show ¬ 2 + q = i by omega), if_neg (show ¬ 4 + q = i by omega)] at hL ⊢; exact h.o4 q hq hL
theorem CtW.made {V0 : World} {CL CH : Nat → Nat → Int} {L : Nat → Bool} {V : Nat → Value} {X : World} (h : CtW V0 CL CH L V X) {r : Nat} (hr : r < 2) (hLr : L (2 + r) = false) :
    CtW V0 CL CH (fun j => if j = 2 + r then true else L j) (fun j => if j = 2 + r then .pointer (some ⟨X.heap.size, 0, none⟩) else V j) (X.alloc (.cells zero8 32)) := by
  have h4 : L (4 + r) = false := by
    cases e : L (4 + r) with
    | false => rfl
    | true => have := h.o4 r hr e; rw [hLr] at this; cases this
  have hz := h.below.size
  refine ⟨h.below.alloc hz _, fun q hq hL => ?_, fun q hq hL => ?_, fun q r' hq hr' hne h1 h2 => ?_, fun q hq hL => ?_⟩
  · simp only [if_neg (show ¬ q = 2 + r by omega)] at hL ⊢; exact h.v0 q hq hL
  · by_cases e : q = r
    · subst e
      simp only [if_true, if_neg (show ¬ 4 + q = 2 + q by omega), h4]
      exact ⟨_, rfl, hz, block_new X _⟩
    · simp only [if_neg (show ¬ 2 + q = 2 + r by omega), if_neg (show ¬ 4 + q = 2 + r by omega)] at hL ⊢
      obtain ⟨B, e1, e2, e3⟩ := h.v2 q hq hL
      exact ⟨B, e1, e2, (Below.heap_alloc X _ B (lt_of_block e3)).trans e3⟩
  · by_cases e : q = r
    · subst e
      simp only [if_true, if_neg (show ¬ 2 + r' = 2 + q by omega)] at h2 ⊢
      obtain ⟨B, e1, e2, e3⟩ := h.v2 r' hr' h2
      have := lt_of_block e3
      rw [e1]
      intro e
      simp at e <;> omega
    · by_cases e' : r' = r
      · subst e'
        simp only [if_true, if_neg (show ¬ 2 + q = 2 + r' by omega)] at h1 ⊢
        obtain ⟨B, e1, e2, e3⟩ := h.v2 q hq h1
        have := lt_of_block e3
        rw [e1]
        intro e
        simp at e <;> omega
      · omega
  · by_cases e : q = r
    · subst e; simp
    · simp only [if_neg (show ¬ 2 + q = 2 + r by omega), if_neg (show ¬ 4 + q = 2 + r by omega)] at hL ⊢; exact h.o4 q hq hL
theorem CtW.stored {V0 : World} {CL CH : Nat → Nat → Int} {L : Nat → Bool} {V : Nat → Value} {X X' : World} (h : CtW V0 CL CH L V X) {r B : Nat} {x : Value} (hr : r < 2) (hLr : L (2 + r) = true) (hB : V (2 + r) = .pointer (some ⟨B, 0, none⟩)) (hz : V0.heap.size ≤ B)
    (hX : X'.heap[B]? = some (.cells (cellA (CL r) (CH r)) 32 (0, 0))) (hc : Chg B X X') :
    CtW V0 CL CH (fun j => if j = 4 + r then true else L j) (fun j => if j = 4 + r then x else V j) X' := by
  refine ⟨h.below.trans (hc.below hz), fun q hq hL => ?_, fun q hq hL => ?_, fun q r' hq hr' hne h1 h2 => ?_, fun q hq hL => ?_⟩
  · simp only [if_neg (show ¬ q = 4 + r by omega)] at hL ⊢; exact h.v0 q hq hL
  · simp only [if_neg (show ¬ 2 + q = 4 + r by omega)] at hL ⊢
    by_cases e : q = r
    · subst e
      simp only [if_true]
      exact ⟨B, hB, hz, hX⟩
    · simp only [if_neg (show ¬ 4 + q = 4 + r by omega)]
      obtain ⟨B', e1, e2, e3⟩ := h.v2 q hq hL
      refine ⟨B', e1, e2, (hc.2.1 B' fun e' => ?_).trans e3⟩
      exact h.ne q r hq hr e hL hLr (by rw [e1, hB, e'])
  · simp only [if_neg (show ¬ 2 + q = 4 + r by omega), if_neg (show ¬ 2 + r' = 4 + r by omega)] at h1 h2 ⊢
    exact h.ne q r' hq hr' hne h1 h2
  · simp only [if_neg (show ¬ 2 + q = 4 + r by omega)]
    by_cases e : q = r
    · subst e; exact hLr
    · simp only [if_neg (show ¬ 4 + q = 4 + r by omega)] at hL
      exact h.o4 q hq hL
theorem opx_load25 {Q : Exit → Act → World → Prop} {o : Oper} {a : Act} {W : World} {R : Value → World → Prop} {s g off : Nat} {x0 x1 x2 x3 x4 x5 x6 x7 : Value} (hop : o.op = Op.load 25 (.tmp s)) (he : a.eval (.tmp s) = .pointer (some ⟨g, off, none⟩))
    (c0 : W.cell? ⟨g, off, none⟩ = some x0) (c1 : W.cell? ⟨g, off + 1, none⟩ = some x1) (c2 : W.cell? ⟨g, off + 2, none⟩ = some x2) (c3 : W.cell? ⟨g, off + 3, none⟩ = some x3) (c4 : W.cell? ⟨g, off + 4, none⟩ = some x4) (c5 : W.cell? ⟨g, off + 5, none⟩ = some x5) (c6 : W.cell? ⟨g, off + 6, none⟩ = some x6) (c7 : W.cell? ⟨g, off + 7, none⟩ = some x7)
    (hR : R (.agg #[x0, x1, x2, x3, x4, x5, x6, x7]) W) : o.wp Tryd.prog a W (fun a'' W'' => ∃ x, a'' = a.put o.dst x ∧ R x W'') Q := by
  have he' : a.tmps[s]?.getD undef = .pointer (some ⟨g, off, none⟩) := by simpa [Act.eval] using he
  refine op_val ?_ hR
  unfold execOp
  rw [hop]
  simp [go_sem, he', c0, c1, c2, c3, c4, c5, c6, c7]
structure ClWd (w : World) (B0 BY BZ : Nat) (cA cM cT cZ s t : Array Value) (L : Nat → Bool) (X : World) : Prop where
  below : Below w.heap.size w X
  a : X.heap[w.heap.size]? = some (.cells cA 25 (0, 0))
  m : X.heap[w.heap.size + 1 + 1 + 1]? = some (.cells cM 29 (0, 0))
  tt : X.heap[B0]? = some (.cells cT 32 (0, 0))
  z : X.heap[BZ]? = some (.cells cZ 25 (0, 0))
  y : X.heap[BY]? = some (.cells (if L 8 = true then t else s) 32 (0, 0))
theorem ClWd.next {w : World} {B0 BY BZ : Nat} {cA cM cT cZ s t : Array Value} {L : Nat → Bool} {X X' : World} (h : ClWd w B0 BY BZ cA cM cT cZ s t L X) (hb : Below X.heap.size X X') {i : Nat} (n8 : 8 ≠ i) : ClWd w B0 BY BZ cA cM cT cZ s t (fun j => if j = i then true else L j) X' := by
  refine ⟨keep_bl1 h.below hb, keep_blk1 h.a hb, keep_blk1 h.m hb, keep_blk1 h.tt hb, keep_blk1 h.z hb, ?_⟩
  simp only [if_neg n8]
  exact keep_blk1 h.y hb
def clPv (lo hi u d : Nat → Int) (hours : Int) (j : Nat) (v : Value) : Prop :=
  match j with
  | 0 => v = .agg (cellA lo hi)
  | 1 | 2 => v = .agg (ratesA u d)
  | 3 => v = .int .i64 hours
  | 4 | 5 => v = .tuple #[.agg (cellA (aeL lo hi u d hours) (aeH lo hi u d hours)), .int .i64 (ageE lo hi u d hours)]
  | 6 => v = .agg (cellA (aeL lo hi u d hours) (aeH lo hi u d hours))
  | 7 | 9 => v = .int .i64 (ageE lo hi u d hours)
  | _ => True
theorem eg16 : ∀ args w, (callFunc 16 args).run Tryd.prog w = .ok (.enter 16 args) w := Go.Proofs.enters_of Tryd.func16 (by kernel_rfl) rfl
theorem eg28 : ∀ args w, (callFunc 28 args).run Tryd.prog w = .ok (.enter 28 args) w := Go.Proofs.enters_of Tryd.func28 (by kernel_rfl) rfl
theorem opx_call3 {Q : Exit → Act → World → Prop} {o : Oper} {a : Act} {W : World} {R : Value → World → Prop} {f s t r : Nat} {v u z : Value} {ts : Array TypeId} (hop : o.op = Op.call { callee := .value (.func f), args := #[.tmp s, .tmp t, .tmp r], argTypes := ts })
    (he : a.eval (.tmp s) = v) (hu : a.eval (.tmp t) = u) (hz : a.eval (.tmp r) = z) (eg : ∀ args w, (callFunc f args).run Tryd.prog w = .ok (.enter f args) w) (hc : Calls Tryd.prog f #[v, u, z] W fun e w' => ∃ x, e = .returned x ∧ R x w') :
    o.wp Tryd.prog a W (fun a'' W'' => ∃ x, a'' = a.put o.dst x ∧ R x W'') Q := by
  have he' : a.tmps[s]?.getD undef = v := by simpa [Act.eval] using he
  have hu' : a.tmps[t]?.getD undef = u := by simpa [Act.eval] using hu
  have hz' : a.tmps[r]?.getD undef = z := by simpa [Act.eval] using hz
  unfold Oper.wp execOp
  rw [hop]
  simp [go_sem, he', hu', hz', eg]
  refine hc.mono ?_
  rintro e w' ⟨x, rfl, hb⟩
  exact ⟨x, rfl, hb⟩
theorem opx_load29 {Q : Exit → Act → World → Prop} {o : Oper} {a : Act} {W : World} {R : Value → World → Prop} {s g off : Nat} {x0 x1 x2 x3 x4 x5 x6 x7 : Value} (hop : o.op = Op.load 29 (.tmp s)) (he : a.eval (.tmp s) = .pointer (some ⟨g, off, none⟩))
    (c0 : W.cell? ⟨g, off, none⟩ = some x0) (c1 : W.cell? ⟨g, off + 1, none⟩ = some x1) (c2 : W.cell? ⟨g, off + 2, none⟩ = some x2) (c3 : W.cell? ⟨g, off + 3, none⟩ = some x3) (c4 : W.cell? ⟨g, off + 4, none⟩ = some x4) (c5 : W.cell? ⟨g, off + 5, none⟩ = some x5) (c6 : W.cell? ⟨g, off + 6, none⟩ = some x6) (c7 : W.cell? ⟨g, off + 7, none⟩ = some x7)
    (hR : R (.agg #[x0, x1, x2, x3, x4, x5, x6, x7]) W) : o.wp Tryd.prog a W (fun a'' W'' => ∃ x, a'' = a.put o.dst x ∧ R x W'') Q := by
  have he' : a.tmps[s]?.getD undef = .pointer (some ⟨g, off, none⟩) := by simpa [Act.eval] using he
  refine op_val ?_ hR
  unfold execOp
  rw [hop]
  simp [go_sem, he', c0, c1, c2, c3, c4, c5, c6, c7]
set_option maxHeartbeats 40000000 in
theorem Cells_any (lo hi lo' hi' x u d : Nat → Int) (hours : Int) (p : Option Addr) (n cap : Nat) (X : Nat → Nat → Int) (w : World) (hl : Lim w) (hX : Ices w p n X) (hn : n ≤ 60 ∨ 400 < n ∧ n ≤ 500) :
    Calls Tryd.prog 3 #[.agg (cellA lo hi), .agg (cellA lo' hi'), .agg (iceA x), .agg (ratesA u d), .int .i64 hours, .slice p n cap] w fun e w' => e = .returned (.bool true) ∧ Below w.heap.size w w' := by
  have hpos := hl.pos
  have HL := Lib.hid hl
  have HC := Lib.hid hX
  clear hl hX
  have hn0 : n ≤ 1000 := by omega
  have hg1 : (60 < (n : Int) ∧ (n : Int) ≤ 400) = False := by simp; omega
  have hg2 : ¬ (500 : Int) < (n : Int) := by omega
  obtain ⟨a1, a2, a3, a4, a5, a6⟩ := four_allocs w (.cells (cellA lo hi) 25) (.cells (cellA lo' hi') 25) (.cells (iceA x) 27) (.cells (ratesA u d) 29)
  have KA := Lib.hid a1
  have KC := Lib.hid a2
  have KN := Lib.hid a3
  have KM := Lib.hid a4
  have KB := Lib.hid a6
  clear a1 a2 a3 a4 a6
  go_enter Tryd.func3, Tryd.ntmps3
  rcases hn with hn | ⟨hn, hn'⟩
  · skip
    have gd : decide ((60 : Int) < (n : Int)) = false := decide_eq_false (by omega)
    go_wp2_with fail
    clear gd
    generalize (((w.alloc (.cells (cellA lo hi) 25)).alloc (.cells (cellA lo' hi') 25)).alloc (.cells (iceA x) 27)).alloc (.cells (ratesA u d) 29) = V at *
    refine wp_region_all [37, 38, 13, 14, 1000, 1001] (CtW V (two lo lo') (two hi hi'))
      (by kernel_rfl) (by kernel_rfl) (fun s hs h => by simp at hs ⊢; omega) (by simp) ⟨⟨rfl, rfl, rfl, Nat.le_refl _, fun _ _ => rfl⟩, (fun _ _ h => by cases h), (fun _ _ h => by cases h), (fun _ _ _ _ _ h => by cases h), (fun _ _ h => by cases h)⟩ ?val ?fin
    case val =>
      intro j
      match j with
      | 0 =>
        intro o L Vv ho hLi hd a' Y hY hfr hdp; obtain rfl := Option.some.inj ho
        have c := (cells8 (keep_blk1 KA.out hY.below)).1
        obtain ⟨c0, c1, c2, c3, c4, c5, c6, c7⟩ := c
        exact opx_load25 rfl (hfr 6 (by decide)) c0 c1 c2 c3 c4 c5 c6 c7 (hY.set (by decide) rfl)
      | 1 =>
        intro o L Vv ho hLi hd a' Y hY hfr hdp; obtain rfl := Option.some.inj ho
        have c := (cells8 (keep_blk1 KC.out hY.below)).1
        obtain ⟨c0, c1, c2, c3, c4, c5, c6, c7⟩ := c
        exact opx_load25 rfl (hfr 7 (by decide)) c0 c1 c2 c3 c4 c5 c6 c7 (hY.set (by decide) rfl)
      | 2 => intro o L Vv ho hLi hd a' Y hY hfr hdp; obtain rfl := Option.some.inj ho; exact opx_alloc32 rfl (hY.made (r := 0) (by decide) hLi)
      | 3 => intro o L Vv ho hLi hd a' Y hY hfr hdp; obtain rfl := Option.some.inj ho; exact opx_alloc32 rfl (hY.made (r := 1) (by decide) hLi)
      | 4 =>
        intro o L Vv ho hLi hd a' Y hY hfr hdp; obtain rfl := Option.some.inj ho
        obtain ⟨B, e1, e2, e3⟩ := hY.v2 0 (by decide) (hd 2 (by kernel_rfl))
        simp only [hLi, Bool.false_eq_true, if_false] at e3
        exact op_store8 rfl ((hdp 2 13 (by decide) rfl (by kernel_rfl)).trans e1) ((hdp 0 37 (by decide) rfl (by kernel_rfl)).trans (hY.v0 0 (by decide) (hd 0 (by kernel_rfl)))) e3 (fun W' h1 h2 => hY.stored (r := 0) (by decide) (hd 2 (by kernel_rfl)) e1 e2 h1 h2)
      | 5 =>
        intro o L Vv ho hLi hd a' Y hY hfr hdp; obtain rfl := Option.some.inj ho
        obtain ⟨B, e1, e2, e3⟩ := hY.v2 1 (by decide) (hd 3 (by kernel_rfl))
        simp only [hLi, Bool.false_eq_true, if_false] at e3
        exact op_store8 rfl ((hdp 3 14 (by decide) rfl (by kernel_rfl)).trans e1) ((hdp 1 38 (by decide) rfl (by kernel_rfl)).trans (hY.v0 1 (by decide) (hd 1 (by kernel_rfl)))) e3 (fun W' h1 h2 => hY.stored (r := 1) (by decide) (hd 3 (by kernel_rfl)) e1 e2 h1 h2)
      | j + 6 => intro o L Vv ho; simp at ho
    case fin =>
      intro V0 L Vv hLL hY
      obtain ⟨B0, e0, l0, k0⟩ := hY.v2 0 (by decide) (hLL 2 (by decide))
      obtain ⟨B1, e1, l1, k1⟩ := hY.v2 1 (by decide) (hLL 3 (by decide))
      have a4 := hLL 4 (by decide)
      have a5 := hLL 5 (by decide)
      simp only [Nat.reduceAdd, a4, a5, if_true] at e0 e1 k0 k1
      simp only [fill, Act.put, List.setIfInBounds_toArray, List.set_cons_zero, List.set_cons_succ, List.set_nil, Nat.reduceAdd, e0, e1]
      replace KA := Lib.hid (keep_blk1 KA.out hY.below)
      replace KC := Lib.hid (keep_blk1 KC.out hY.below)
      replace KN := Lib.hid (keep_blk1 KN.out hY.below)
      replace KM := Lib.hid (keep_blk1 KM.out hY.below)
      replace KB := Lib.hid (keep_bl1 KB.out hY.below)
      have KT := Lib.hid (show V0.heap[B0]? = some (.cells (cellA lo hi) 32 (0, 0)) from k0)
      have KU := Lib.hid (show V0.heap[B1]? = some (.cells (cellA lo' hi') 32 (0, 0)) from k1)
      clear hY hLL e0 e1 a4 a5 k0 k1 l0 l1
      go_wp2_with fail
      have H11 := Lib.hid (fun (Y : Later V0) => CheckCell_any lo hi Y.world (HL.out.below hpos (keep_bl1 KB.out Y.below)))
      have H12 := Lib.hid (fun (Y : Later V0) => CheckCell_ref lo hi Y.world)
      have H13 := Lib.hid (fun (Y : Later V0) => CheckIce_any x Y.world (HL.out.below hpos (keep_bl1 KB.out Y.below)))
      have H14 := Lib.hid (fun (Y : Later V0) => CheckIce_ref x Y.world)
      have H16 := Lib.hid (fun (Y : Later V0) => Rates_any u d Y.world)
      have H15 := Lib.hid (fun (Y : Later V0) => CheckRates_any u d Y.world)
      have H17 := Lib.hid (fun (Y : Later V0) => CheckRates_ref u d Y.world)
      have H18 := Lib.hid (fun (Y : Later V0) => Whole_any Y.world (HL.out.below hpos (keep_bl1 KB.out Y.below)))
      have H19 := Lib.hid (fun (Y : Later V0) => Whole_ref Y.world)
      have hlA := lt_of_block KA.out
      have cA := (cells8 KA.out).1
      obtain ⟨a0, a1, a2, a3, a4, a5, a6, a7⟩ := cA
      replace a0 := later_cell hlA a0
      replace a1 := later_cell hlA a1
      replace a2 := later_cell hlA a2
      replace a3 := later_cell hlA a3
      replace a4 := later_cell hlA a4
      replace a5 := later_cell hlA a5
      replace a6 := later_cell hlA a6
      replace a7 := later_cell hlA a7
      have hlN := lt_of_block KN.out
      have cN := (cells4 KN.out).1
      obtain ⟨n0, n1, n2, n3⟩ := cN
      replace n0 := later_cell hlN n0
      replace n1 := later_cell hlN n1
      replace n2 := later_cell hlN n2
      replace n3 := later_cell hlN n3
      have hlM := lt_of_block KM.out
      have cM := (cells8 KM.out).1
      obtain ⟨m0, m1, m2, m3, m4, m5, m6, m7⟩ := cM
      replace m0 := later_cell hlM m0
      replace m1 := later_cell hlM m1
      replace m2 := later_cell hlM m2
      replace m3 := later_cell hlM m3
      replace m4 := later_cell hlM m4
      replace m5 := later_cell hlM m5
      replace m6 := later_cell hlM m6
      replace m7 := later_cell hlM m7
      have hlT := lt_of_block KT.out
      have cT := (cells8 KT.out).1
      obtain ⟨t0, t1, t2, t3, t4, t5, t6, t7⟩ := cT
      replace t0 := later_cell hlT t0
      replace t1 := later_cell hlT t1
      replace t2 := later_cell hlT t2
      replace t3 := later_cell hlT t3
      replace t4 := later_cell hlT t4
      replace t5 := later_cell hlT t5
      replace t6 := later_cell hlT t6
      replace t7 := later_cell hlT t7
      haveI : Nonempty (Later V0) := ⟨⟨V0, Below.refl _ _⟩⟩
      refine wp_region_later (by kernel_rfl) (by kernel_rfl) ?_
      repeat (go_big_quiet_step (first | (go_at_call 11; exact later_call (H11.out _)) | (go_at_call 12; exact later_call (H12.out _)) | (go_at_call 13; exact later_call (H13.out _)) | (go_at_call 14; exact later_call (H14.out _)) | (go_at_call 16; exact later_call (H16.out _)) | (go_at_call 15; exact later_call (H15.out _)) | (go_at_call 17; exact later_call (H17.out _)) | (go_at_call 18; exact later_call (H18.out _)) | (go_at_call 19; exact later_call (H19.out _))))
      refine wpQuiet_nil ?_
      intro V1 hw'
      obtain ⟨⟨Xq, hX0⟩, hXe⟩ := hw'
      change V1 = Xq at hXe
      rw [← hXe] at hX0
      clear hXe Xq a0 a1 a2 a3 a4 a5 a6 a7 n0 n1 n2 n3 m0 m1 m2 m3 m4 m5 m6 m7 t0 t1 t2 t3 t4 t5 t6 t7 H11 H12 H13 H14 H16 H15 H17 H18 H19 hlA hlN hlM hlT
      replace KA := Lib.hid (keep_blk1 KA.out hX0)
      replace KC := Lib.hid (keep_blk1 KC.out hX0)
      replace KN := Lib.hid (keep_blk1 KN.out hX0)
      replace KM := Lib.hid (keep_blk1 KM.out hX0)
      replace KT := Lib.hid (keep_blk1 KT.out hX0)
      replace KU := Lib.hid (keep_blk1 KU.out hX0)
      replace KB := Lib.hid (keep_bl1 KB.out hX0)
      clear hX0
      have cN := (cells4 KN.out).1
      obtain ⟨n0, n1, n2, n3⟩ := cN
      have cT := (cells8 KT.out).1
      obtain ⟨t0, t1, t2, t3, t4, t5, t6, t7⟩ := cT
      go_wp2_with fail
      clear n0 n1 n2 n3 t0 t1 t2 t3 t4 t5 t6 t7
      have hcon := Has_any lo hi x V1 (HL.out.below hpos KB.out)
      rw [hasRes_eq] at hcon
      refine hcon.mono ?_
      clear hcon
      rintro e W2 ⟨rfl, hb⟩
      replace KA := Lib.hid (keep_blk1 KA.out hb)
      replace KC := Lib.hid (keep_blk1 KC.out hb)
      replace KN := Lib.hid (keep_blk1 KN.out hb)
      replace KM := Lib.hid (keep_blk1 KM.out hb)
      replace KT := Lib.hid (keep_blk1 KT.out hb)
      replace KU := Lib.hid (keep_blk1 KU.out hb)
      replace KB := Lib.hid (keep_bl1 KB.out hb)
      clear hb
      have cA := (cells8 KA.out).1
      obtain ⟨a0, a1, a2, a3, a4, a5, a6, a7⟩ := cA
      have cN := (cells4 KN.out).1
      obtain ⟨n0, n1, n2, n3⟩ := cN
      go_wp2_with fail
      clear a0 a1 a2 a3 a4 a5 a6 a7 n0 n1 n2 n3
      have hcon := Has_ref lo hi x W2
      rw [hasRes_eq] at hcon
      refine hcon.mono ?_
      clear hcon
      rintro e W3 ⟨rfl, hb⟩
      replace KA := Lib.hid (keep_blk1 KA.out hb)
      replace KC := Lib.hid (keep_blk1 KC.out hb)
      replace KN := Lib.hid (keep_blk1 KN.out hb)
      replace KM := Lib.hid (keep_blk1 KM.out hb)
      replace KT := Lib.hid (keep_blk1 KT.out hb)
      replace KU := Lib.hid (keep_blk1 KU.out hb)
      replace KB := Lib.hid (keep_bl1 KB.out hb)
      clear hb
      have cT := (cells8 KT.out).1
      obtain ⟨t0, t1, t2, t3, t4, t5, t6, t7⟩ := cT
      have cU := (cells8 KU.out).1
      obtain ⟨u0, u1, u2, u3, u4, u5, u6, u7⟩ := cU
      go_wp2_with fail
      clear t0 t1 t2 t3 t4 t5 t6 t7 u0 u1 u2 u3 u4 u5 u6 u7
      have hcon := Inside_any lo hi lo' hi' W3 (HL.out.below hpos KB.out)
      rw [insideRes_eq] at hcon
      refine hcon.mono ?_
      clear hcon
      rintro e W4 ⟨rfl, hb⟩
      replace KA := Lib.hid (keep_blk1 KA.out hb)
      replace KC := Lib.hid (keep_blk1 KC.out hb)
      replace KN := Lib.hid (keep_blk1 KN.out hb)
      replace KM := Lib.hid (keep_blk1 KM.out hb)
      replace KT := Lib.hid (keep_blk1 KT.out hb)
      replace KU := Lib.hid (keep_blk1 KU.out hb)
      replace KB := Lib.hid (keep_bl1 KB.out hb)
      clear hb
      have cA := (cells8 KA.out).1
      obtain ⟨a0, a1, a2, a3, a4, a5, a6, a7⟩ := cA
      have cC := (cells8 KC.out).1
      obtain ⟨c0, c1, c2, c3, c4, c5, c6, c7⟩ := cC
      go_wp2_with fail
      clear a0 a1 a2 a3 a4 a5 a6 a7 c0 c1 c2 c3 c4 c5 c6 c7
      have hcon := Inside_ref lo hi lo' hi' W4
      rw [insideRes_eq] at hcon
      refine hcon.mono ?_
      clear hcon
      rintro e W5 ⟨rfl, hb⟩
      replace KA := Lib.hid (keep_blk1 KA.out hb)
      replace KC := Lib.hid (keep_blk1 KC.out hb)
      replace KN := Lib.hid (keep_blk1 KN.out hb)
      replace KM := Lib.hid (keep_blk1 KM.out hb)
      replace KT := Lib.hid (keep_blk1 KT.out hb)
      replace KU := Lib.hid (keep_blk1 KU.out hb)
      replace KB := Lib.hid (keep_bl1 KB.out hb)
      clear hb
      have cT := (cells8 KT.out).1
      obtain ⟨t0, t1, t2, t3, t4, t5, t6, t7⟩ := cT
      have cU := (cells8 KU.out).1
      obtain ⟨u0, u1, u2, u3, u4, u5, u6, u7⟩ := cU
      go_wp2_with fail
      clear t0 t1 t2 t3 t4 t5 t6 t7 u0 u1 u2 u3 u4 u5 u6 u7
      have hcon := Meet_any lo hi lo' hi' W5 (HL.out.below hpos KB.out)
      rw [meetRes_eq] at hcon
      refine hcon.mono ?_
      clear hcon
      rintro e W6 ⟨rfl, hb⟩
      have LEY := Lib.hid (keep_bl1 KB.out hb).size
      have NEYA := Lib.hid (Nat.ne_of_lt (lt_of_block (keep_blk1 KA.out hb)))
      have NEYC := Lib.hid (Nat.ne_of_lt (lt_of_block (keep_blk1 KC.out hb)))
      have NEYN := Lib.hid (Nat.ne_of_lt (lt_of_block (keep_blk1 KN.out hb)))
      have NEYM := Lib.hid (Nat.ne_of_lt (lt_of_block (keep_blk1 KM.out hb)))
      have NEYT := Lib.hid (Nat.ne_of_lt (lt_of_block (keep_blk1 KT.out hb)))
      have NEYU := Lib.hid (Nat.ne_of_lt (lt_of_block (keep_blk1 KU.out hb)))
      replace KA := Lib.hid (keep_blk (o' := .cells (cellA (meL lo hi lo' hi') (meH lo hi lo' hi')) 32) KA.out hb)
      replace KC := Lib.hid (keep_blk (o' := .cells (cellA (meL lo hi lo' hi') (meH lo hi lo' hi')) 32) KC.out hb)
      replace KN := Lib.hid (keep_blk (o' := .cells (cellA (meL lo hi lo' hi') (meH lo hi lo' hi')) 32) KN.out hb)
      replace KM := Lib.hid (keep_blk (o' := .cells (cellA (meL lo hi lo' hi') (meH lo hi lo' hi')) 32) KM.out hb)
      replace KT := Lib.hid (keep_blk (o' := .cells (cellA (meL lo hi lo' hi') (meH lo hi lo' hi')) 32) KT.out hb)
      replace KU := Lib.hid (keep_blk (o' := .cells (cellA (meL lo hi lo' hi') (meH lo hi lo' hi')) 32) KU.out hb)
      replace KB := Lib.hid (keep_bl (o' := .cells (cellA (meL lo hi lo' hi') (meH lo hi lo' hi')) 32) KB.out hb)
      have KY := Lib.hid (block_new W6 (.cells (cellA (meL lo hi lo' hi') (meH lo hi lo' hi')) 32))
      clear hb
      have cA := (cells8 KA.out).1
      obtain ⟨a0, a1, a2, a3, a4, a5, a6, a7⟩ := cA
      have cC := (cells8 KC.out).1
      obtain ⟨c0, c1, c2, c3, c4, c5, c6, c7⟩ := cC
      go_wp2_with fail
      clear a0 a1 a2 a3 a4 a5 a6 a7 c0 c1 c2 c3 c4 c5 c6 c7
      generalize W6.alloc (.cells (cellA (meL lo hi lo' hi') (meH lo hi lo' hi')) 32) = V6 at *
      have hcon := Meet_ref lo hi lo' hi' V6
      rw [meetRes_eq] at hcon
      refine hcon.mono ?_
      clear hcon
      rintro e W7 ⟨rfl, hb⟩
      have LEZ := Lib.hid (keep_bl1 KB.out hb).size
      have NEZA := Lib.hid (Nat.ne_of_lt (lt_of_block (keep_blk1 KA.out hb)))
      have NEZC := Lib.hid (Nat.ne_of_lt (lt_of_block (keep_blk1 KC.out hb)))
      have NEZN := Lib.hid (Nat.ne_of_lt (lt_of_block (keep_blk1 KN.out hb)))
      have NEZM := Lib.hid (Nat.ne_of_lt (lt_of_block (keep_blk1 KM.out hb)))
      have NEZT := Lib.hid (Nat.ne_of_lt (lt_of_block (keep_blk1 KT.out hb)))
      have NEZU := Lib.hid (Nat.ne_of_lt (lt_of_block (keep_blk1 KU.out hb)))
      have NEZY := Lib.hid (Nat.ne_of_lt (lt_of_block (keep_blk1 KY.out hb)))
      replace KA := Lib.hid (keep_blk (o' := .cells (cellA (meL lo hi lo' hi') (meH lo hi lo' hi')) 25) KA.out hb)
      replace KC := Lib.hid (keep_blk (o' := .cells (cellA (meL lo hi lo' hi') (meH lo hi lo' hi')) 25) KC.out hb)
      replace KN := Lib.hid (keep_blk (o' := .cells (cellA (meL lo hi lo' hi') (meH lo hi lo' hi')) 25) KN.out hb)
      replace KM := Lib.hid (keep_blk (o' := .cells (cellA (meL lo hi lo' hi') (meH lo hi lo' hi')) 25) KM.out hb)
      replace KT := Lib.hid (keep_blk (o' := .cells (cellA (meL lo hi lo' hi') (meH lo hi lo' hi')) 25) KT.out hb)
      replace KU := Lib.hid (keep_blk (o' := .cells (cellA (meL lo hi lo' hi') (meH lo hi lo' hi')) 25) KU.out hb)
      replace KY := Lib.hid (keep_blk (o' := .cells (cellA (meL lo hi lo' hi') (meH lo hi lo' hi')) 25) KY.out hb)
      replace KB := Lib.hid (keep_bl (o' := .cells (cellA (meL lo hi lo' hi') (meH lo hi lo' hi')) 25) KB.out hb)
      have KZ := Lib.hid (block_new W7 (.cells (cellA (meL lo hi lo' hi') (meH lo hi lo' hi')) 25))
      clear hb
      have cT := (cells8 KT.out).1
      obtain ⟨t0, t1, t2, t3, t4, t5, t6, t7⟩ := cT
      have cU := (cells8 KU.out).1
      obtain ⟨u0, u1, u2, u3, u4, u5, u6, u7⟩ := cU
      have cY := (cells8 KY.out).1
      obtain ⟨y0, y1, y2, y3, y4, y5, y6, y7⟩ := cY
      have cZ := (cells8 KZ.out).1
      obtain ⟨z0, z1, z2, z3, z4, z5, z6, z7⟩ := cZ
      go_wp2_with fail
      clear t0 t1 t2 t3 t4 t5 t6 t7 u0 u1 u2 u3 u4 u5 u6 u7 y0 y1 y2 y3 y4 y5 y6 y7 z0 z1 z2 z3 z4 z5 z6 z7
      generalize W7.alloc (.cells (cellA (meL lo hi lo' hi') (meH lo hi lo' hi')) 25) = V7 at *
      clear KN
      have hcon := Hull_any lo hi lo' hi' V7 (HL.out.below hpos KB.out)
      rw [hullRes_eq] at hcon
      refine hcon.mono ?_
      clear hcon
      rintro e W8 ⟨rfl, hb⟩
      replace KA := Lib.hid (keep_blk1 KA.out hb)
      replace KC := Lib.hid (keep_blk1 KC.out hb)
      replace KM := Lib.hid (keep_blk1 KM.out hb)
      replace KT := Lib.hid (keep_blk1 KT.out hb)
      replace KU := Lib.hid (keep_blk1 KU.out hb)
      replace KY := Lib.hid (keep_blk1 KY.out hb)
      replace KZ := Lib.hid (keep_blk1 KZ.out hb)
      replace KB := Lib.hid (keep_bl1 KB.out hb)
      clear hb
      go_wp2_with (refine list_store8 (y0 := (huL lo hi lo' hi') 0) (y1 := (huH lo hi lo' hi') 0) (y2 := (huL lo hi lo' hi') 1) (y3 := (huH lo hi lo' hi') 1) (y4 := (huL lo hi lo' hi') 2) (y5 := (huH lo hi lo' hi') 2) (y6 := (huL lo hi lo' hi') 3) (y7 := (huH lo hi lo' hi') 3) rfl rfl rfl (.inl rfl) rfl rfl KY.out ?_; intro Zw1 hz hc; replace KB := Lib.hid (KB.out.trans (hc.below LEY.out)); replace KA := Lib.hid ((hc.2.1 _ NEYA.out).trans KA.out); replace KC := Lib.hid ((hc.2.1 _ NEYC.out).trans KC.out); replace KM := Lib.hid ((hc.2.1 _ NEYM.out).trans KM.out); replace KT := Lib.hid ((hc.2.1 _ NEYT.out).trans KT.out); replace KU := Lib.hid ((hc.2.1 _ NEYU.out).trans KU.out); replace KZ := Lib.hid ((hc.2.1 _ (Ne.symm NEZY.out)).trans KZ.out); replace KY := Lib.hid hz; clear hz hc; have cA := (cells8 KA.out).1; obtain ⟨a0, a1, a2, a3, a4, a5, a6, a7⟩ := cA; have cC := (cells8 KC.out).1; obtain ⟨c0, c1, c2, c3, c4, c5, c6, c7⟩ := cC)
      clear a0 a1 a2 a3 a4 a5 a6 a7 c0 c1 c2 c3 c4 c5 c6 c7
      clear KC
      have hcon := Hull_ref lo hi lo' hi' Zw1
      rw [hullRes_eq] at hcon
      refine hcon.mono ?_
      clear hcon
      rintro e W9 ⟨rfl, hb⟩
      replace KA := Lib.hid (keep_blk1 KA.out hb)
      replace KM := Lib.hid (keep_blk1 KM.out hb)
      replace KT := Lib.hid (keep_blk1 KT.out hb)
      replace KU := Lib.hid (keep_blk1 KU.out hb)
      replace KY := Lib.hid (keep_blk1 KY.out hb)
      replace KZ := Lib.hid (keep_blk1 KZ.out hb)
      replace KB := Lib.hid (keep_bl1 KB.out hb)
      clear hb
      clear KU
      go_wp2_with (refine list_store25 (y0 := (huL lo hi lo' hi') 0) (y1 := (huH lo hi lo' hi') 0) (y2 := (huL lo hi lo' hi') 1) (y3 := (huH lo hi lo' hi') 1) (y4 := (huL lo hi lo' hi') 2) (y5 := (huH lo hi lo' hi') 2) (y6 := (huL lo hi lo' hi') 3) (y7 := (huH lo hi lo' hi') 3) rfl rfl rfl rfl rfl KZ.out ?_; intro Zw2 hz hc; replace KB := Lib.hid (KB.out.trans (hc.below LEZ.out)); replace KA := Lib.hid ((hc.2.1 _ NEZA.out).trans KA.out); replace KM := Lib.hid ((hc.2.1 _ NEZM.out).trans KM.out); replace KT := Lib.hid ((hc.2.1 _ NEZT.out).trans KT.out); replace KY := Lib.hid ((hc.2.1 _ NEZY.out).trans KY.out); replace KZ := Lib.hid hz; clear hz hc; have cY := (cells8 KY.out).1; obtain ⟨y0, y1, y2, y3, y4, y5, y6, y7⟩ := cY; have cZ := (cells8 KZ.out).1; obtain ⟨z0, z1, z2, z3, z4, z5, z6, z7⟩ := cZ)
      clear y0 y1 y2 y3 y4 y5 y6 y7 z0 z1 z2 z3 z4 z5 z6 z7
      have NYA := NEYA.out
      have NYM := NEYM.out
      have NYT := NEYT.out
      have NZY := NEZY.out
      have LYE := LEY.out
      generalize eBY : W6.heap.size = BY at *
      clear eBY
      generalize eBZ : W7.heap.size = BZ at *
      clear eBZ
      refine wp_region_valsL [145, 146, 147, 148, 149, 144, 150, 151, 1000, 16] (ClWd w B0 BY BZ (cellA lo hi) (ratesA u d) (cellA lo hi) (cellA (huL lo hi lo' hi') (huH lo hi lo' hi')) (cellA (huL lo hi lo' hi') (huH lo hi lo' hi')) (cellA (aeL lo hi u d hours) (aeH lo hi u d hours))) (fun j v _ => clPv lo hi u d hours j v)
        (by kernel_rfl) (by kernel_rfl) (fun s hs h => by simp at hs ⊢; omega) (by simp) ⟨⟨KB.out.os, KB.out.tape, KB.out.output, KB.out.size, KB.out.block⟩, KA.out, KM.out, KT.out, KZ.out, KY.out⟩ ?val2 ?fin2
      case val2 =>
        intro j
        match j with
        | 0 =>
          intro o L ho hLi hd a' Y hY hfr hdp; obtain rfl := Option.some.inj ho
          have c := (cells8 hY.tt).1
          obtain ⟨c0, c1, c2, c3, c4, c5, c6, c7⟩ := c
          exact opx_load32 rfl (hfr 13 (by decide)) c0 c1 c2 c3 c4 c5 c6 c7 ⟨hY.next (Below.refl _ _) (by decide), rfl, fun _ _ _ h => h⟩
        | 1 =>
          intro o L ho hLi hd a' Y hY hfr hdp; obtain rfl := Option.some.inj ho
          have c := (cells8 hY.m).1
          obtain ⟨c0, c1, c2, c3, c4, c5, c6, c7⟩ := c
          exact opx_load29 rfl (hfr 9 (by decide)) c0 c1 c2 c3 c4 c5 c6 c7 ⟨hY.next (Below.refl _ _) (by decide), rfl, fun _ _ _ h => h⟩
        | 2 =>
          intro o L ho hLi hd a' Y hY hfr hdp; obtain rfl := Option.some.inj ho
          refine opx_call1 rfl (hdp 1 146 (by decide) rfl (by kernel_rfl)) eg16 ((Rates_any u d Y).mono ?_)
          rintro e W' ⟨rfl, hb⟩
          exact ⟨_, rfl, hY.next hb (by decide), rfl, fun _ _ _ h => h⟩
        | 3 => intro o L ho hLi hd a' Y hY hfr hdp; obtain rfl := Option.some.inj ho; exact opx_move rfl (hfr 4 (by decide)) ⟨hY.next (Below.refl _ _) (by decide), rfl, fun _ _ _ h => h⟩
        | 4 =>
          intro o L ho hLi hd a' Y hY hfr hdp; obtain rfl := Option.some.inj ho
          have hcon := Age_any lo hi u d hours Y (HL.out.below hpos hY.below)
          rw [ageRes_eq] at hcon
          refine opx_call3 rfl (hdp 0 145 (by decide) rfl (by kernel_rfl)) (hdp 2 147 (by decide) rfl (by kernel_rfl)) (hdp 3 148 (by decide) rfl (by kernel_rfl)) eg28 (hcon.mono ?_)
          rintro e W' ⟨rfl, hb⟩
          exact ⟨_, rfl, hY.next hb (by decide), rfl, fun _ _ _ h => h⟩
        | 5 => intro o L ho hLi hd a' Y hY hfr hdp; obtain rfl := Option.some.inj ho; exact opx_move rfl (hdp 4 149 (by decide) rfl (by kernel_rfl)) ⟨hY.next (Below.refl _ _) (by decide), rfl, fun _ _ _ h => h⟩
        | 6 => intro o L ho hLi hd a' Y hY hfr hdp; obtain rfl := Option.some.inj ho; exact opx_extract0 rfl (hdp 5 144 (by decide) rfl (by kernel_rfl)) ⟨hY.next (Below.refl _ _) (by decide), rfl, fun _ _ _ h => h⟩
        | 7 => intro o L ho hLi hd a' Y hY hfr hdp; obtain rfl := Option.some.inj ho; exact opx_extract1 rfl (hdp 5 144 (by decide) rfl (by kernel_rfl)) ⟨hY.next (Below.refl _ _) (by decide), rfl, fun _ _ _ h => h⟩
        | 8 =>
          intro o L ho hLi hd a' Y hY hfr hdp; obtain rfl := Option.some.inj ho
          have hs := hY.y
          rw [if_neg (by rw [hLi]; decide)] at hs
          refine op_store8 rfl (hfr 19 (by decide)) (hdp 6 150 (by decide) rfl (by kernel_rfl)) hs ?_
          intro X' hz hc
          refine ⟨⟨hY.below.trans (hc.below LYE), (hc.2.1 _ NYA).trans hY.a, (hc.2.1 _ NYM).trans hY.m, (hc.2.1 _ NYT).trans hY.tt, (hc.2.1 _ (Ne.symm NZY)).trans hY.z, ?_⟩, trivial, fun _ _ _ h => h⟩
          simp only [if_true]
          exact hz
        | 9 => intro o L ho hLi hd a' Y hY hfr hdp; obtain rfl := Option.some.inj ho; exact opx_assign rfl rfl ⟨hY.next (Below.refl _ _) (by decide), (hdp 7 151 (by decide) rfl (by kernel_rfl)), fun _ _ _ h => h⟩
        | j + 10 => intro o L ho; simp at ho
      case fin2 =>
        intro X1 L2 Vv2 hLL hY hV
        have hs := hY.y
        rw [if_pos (hLL 8 (by decide))] at hs
        have v9 : Vv2 9 = .int .i64 (ageE lo hi u d hours) := hV 9 (by decide)
        replace KA := Lib.hid hY.a
        replace KM := Lib.hid hY.m
        replace KZ := Lib.hid hY.z
        replace KB := Lib.hid hY.below
        replace KY := Lib.hid hs
        clear hY hLL hV hs KT
        simp only [fill, Act.put, List.setIfInBounds_toArray, List.set_cons_zero, List.set_cons_succ, List.set_nil, Nat.reduceAdd, v9]
        have cA := (cells8 KA.out).1
        obtain ⟨a0, a1, a2, a3, a4, a5, a6, a7⟩ := cA
        have cM := (cells8 KM.out).1
        obtain ⟨m0, m1, m2, m3, m4, m5, m6, m7⟩ := cM
        go_wp2_with fail
        clear a0 a1 a2 a3 a4 a5 a6 a7 m0 m1 m2 m3 m4 m5 m6 m7
        have hcon := Age_ref lo hi u d hours X1
        rw [ageRes_eq] at hcon
        refine hcon.mono ?_
        clear hcon
        rintro e W10 ⟨rfl, hb⟩
        replace KA := Lib.hid (keep_blk1 KA.out hb)
        replace KM := Lib.hid (keep_blk1 KM.out hb)
        replace KY := Lib.hid (keep_blk1 KY.out hb)
        replace KZ := Lib.hid (keep_blk1 KZ.out hb)
        replace KB := Lib.hid (keep_bl1 KB.out hb)
        clear hb
        clear KA
        go_wp2_with (refine list_store25 (y0 := (aeL lo hi u d hours) 0) (y1 := (aeH lo hi u d hours) 0) (y2 := (aeL lo hi u d hours) 1) (y3 := (aeH lo hi u d hours) 1) (y4 := (aeL lo hi u d hours) 2) (y5 := (aeH lo hi u d hours) 2) (y6 := (aeL lo hi u d hours) 3) (y7 := (aeH lo hi u d hours) 3) rfl rfl rfl rfl rfl KZ.out ?_; intro Zw3 hz hc; replace KB := Lib.hid (KB.out.trans (hc.below LEZ.out)); replace KM := Lib.hid ((hc.2.1 _ NEZM.out).trans KM.out); replace KY := Lib.hid ((hc.2.1 _ NEZY.out).trans KY.out); replace KZ := Lib.hid hz; clear hz hc; have cY := (cells8 KY.out).1; obtain ⟨y0, y1, y2, y3, y4, y5, y6, y7⟩ := cY; have cZ := (cells8 KZ.out).1; obtain ⟨z0, z1, z2, z3, z4, z5, z6, z7⟩ := cZ)
        clear y0 y1 y2 y3 y4 y5 y6 y7 z0 z1 z2 z3 z4 z5 z6 z7
        clear KY KZ
        refine (Field_any p n cap X Zw3 (HC.out.later KB.out) hn0).mono ?_
        rintro e W11 ⟨p', c', rfl, hI, hb⟩
        have HI := Lib.hid hI
        replace KM := Lib.hid (keep_blk1 KM.out hb)
        replace KB := Lib.hid (keep_bl1 KB.out hb)
        clear hb hI
        have cM := (cells8 KM.out).1
        obtain ⟨m0, m1, m2, m3, m4, m5, m6, m7⟩ := cM
        go_wp2_with fail
        clear m0 m1 m2 m3 m4 m5 m6 m7
        refine (Rates_any u d W11).mono ?_
        rintro e W12 ⟨rfl, hb⟩
        replace HI := Lib.hid (HI.out.later hb)
        replace KM := Lib.hid (keep_blk1 KM.out hb)
        replace KB := Lib.hid (keep_bl1 KB.out hb)
        clear hb
        go_wp2_with fail
        have hcon := Allowed_any p' n c' X u d W12 (HL.out.below hpos KB.out) HI.out (by omega)
        rw [alRes_eq] at hcon
        refine hcon.mono ?_
        clear hcon
        rintro e W13 ⟨rfl, hb⟩
        replace HI := Lib.hid (HI.out.later hb)
        replace KM := Lib.hid (keep_blk1 KM.out hb)
        replace KB := Lib.hid (keep_bl1 KB.out hb)
        clear hb
        have cM := (cells8 KM.out).1
        obtain ⟨m0, m1, m2, m3, m4, m5, m6, m7⟩ := cM
        go_wp2_with fail
        clear m0 m1 m2 m3 m4 m5 m6 m7
        have hcon := Allowed_ref p n cap X u d W13 (HC.out.later KB.out) (by omega)
        rw [alRes_eq] at hcon
        refine hcon.mono ?_
        clear hcon
        rintro e W14 ⟨rfl, hb⟩
        replace HI := Lib.hid (HI.out.later hb)
        replace KM := Lib.hid (keep_blk1 KM.out hb)
        replace KB := Lib.hid (keep_bl1 KB.out hb)
        clear hb KM
        go_wp2_with fail
        go_loopw [22] (fun i wr => ∃ k : Nat, k ≤ n ∧ i = .int .i64 k ∧ Hid (Ices wr p' n X) ∧ Hid (Below w.heap.size w wr)) (fun i _ => n - (intOf i).toNat)
        case atStart => exact ⟨0, by omega, rfl, HI, KB⟩
        case round =>
          clear HI KB
          obtain ⟨k, hk, rfl, HI, KB⟩ := hrel
          by_cases hlt : k < n
          · have hk4 : (k : Int) < (n : Int) := by omega
            have hk0 : (0 : Int) ≤ (k : Int) := by omega
            obtain ⟨b1, o1, rfl, hb1, c0, c1, c2, c3⟩ := (HC.out.later KB.out) k hlt
            obtain ⟨b2, o2, rfl, hb2, d0, d1, d2, d3⟩ := HI.out k hlt
            go_wp2_with fail
            replace c0 := later_cell hb1 c0
            replace d0 := later_cell hb2 d0
            replace c1 := later_cell hb1 c1
            replace d1 := later_cell hb2 d1
            replace c2 := later_cell hb1 c2
            replace d2 := later_cell hb2 d2
            replace c3 := later_cell hb1 c3
            replace d3 := later_cell hb2 d3
            haveI : Nonempty (Later wr) := ⟨⟨wr, Below.refl _ _⟩⟩
            refine wp_region_later (by kernel_rfl) (by kernel_rfl) ?_
            repeat (go_big_quiet_step (fail))
            refine wpQuiet_nil ?_
            intro Y1 hw'
            obtain ⟨⟨Xq, hX0⟩, hXe⟩ := hw'
            change Y1 = Xq at hXe
            rw [← hXe] at hX0
            clear hXe Xq   
            clear c0 c1 c2 c3 d0 d1 d2 d3
            replace HI := Lib.hid (HI.out.later hX0)
            replace KB := Lib.hid (keep_bl1 KB.out hX0)
            clear hX0
            go_wp2_with fail
            go_roundw
            case rel => exact ⟨k + 1, by omega, by go_num, HI, KB⟩
            case measure => simp [intOf]; omega
          · have hk5 : (k : Int) = (n : Int) := by omega
            go_wp2_with fail
            refine (awake_any wr (HL.out.below hpos KB.out)).mono ?_
            rintro e We ⟨rfl, hb⟩
            replace KB := Lib.hid (keep_bl1 KB.out hb)
            clear hb
            go_wp2_with fail
            go_ret
            exact ⟨rfl, KB.out⟩
  · skip
    have gd : decide ((60 : Int) < (n : Int)) = true := decide_eq_true (by omega)
    have gd2 : decide ((n : Int) ≤ 400) = false := decide_eq_false (by omega)
    go_wp2_with fail
    clear gd gd2
    generalize (((w.alloc (.cells (cellA lo hi) 25)).alloc (.cells (cellA lo' hi') 25)).alloc (.cells (iceA x) 27)).alloc (.cells (ratesA u d) 29) = V at *
    refine wp_region_all [37, 38, 13, 14, 1000, 1001] (CtW V (two lo lo') (two hi hi'))
      (by kernel_rfl) (by kernel_rfl) (fun s hs h => by simp at hs ⊢; omega) (by simp) ⟨⟨rfl, rfl, rfl, Nat.le_refl _, fun _ _ => rfl⟩, (fun _ _ h => by cases h), (fun _ _ h => by cases h), (fun _ _ _ _ _ h => by cases h), (fun _ _ h => by cases h)⟩ ?val ?fin
    case val =>
      intro j
      match j with
      | 0 =>
        intro o L Vv ho hLi hd a' Y hY hfr hdp; obtain rfl := Option.some.inj ho
        have c := (cells8 (keep_blk1 KA.out hY.below)).1
        obtain ⟨c0, c1, c2, c3, c4, c5, c6, c7⟩ := c
        exact opx_load25 rfl (hfr 6 (by decide)) c0 c1 c2 c3 c4 c5 c6 c7 (hY.set (by decide) rfl)
      | 1 =>
        intro o L Vv ho hLi hd a' Y hY hfr hdp; obtain rfl := Option.some.inj ho
        have c := (cells8 (keep_blk1 KC.out hY.below)).1
        obtain ⟨c0, c1, c2, c3, c4, c5, c6, c7⟩ := c
        exact opx_load25 rfl (hfr 7 (by decide)) c0 c1 c2 c3 c4 c5 c6 c7 (hY.set (by decide) rfl)
      | 2 => intro o L Vv ho hLi hd a' Y hY hfr hdp; obtain rfl := Option.some.inj ho; exact opx_alloc32 rfl (hY.made (r := 0) (by decide) hLi)
      | 3 => intro o L Vv ho hLi hd a' Y hY hfr hdp; obtain rfl := Option.some.inj ho; exact opx_alloc32 rfl (hY.made (r := 1) (by decide) hLi)
      | 4 =>
        intro o L Vv ho hLi hd a' Y hY hfr hdp; obtain rfl := Option.some.inj ho
        obtain ⟨B, e1, e2, e3⟩ := hY.v2 0 (by decide) (hd 2 (by kernel_rfl))
        simp only [hLi, Bool.false_eq_true, if_false] at e3
        exact op_store8 rfl ((hdp 2 13 (by decide) rfl (by kernel_rfl)).trans e1) ((hdp 0 37 (by decide) rfl (by kernel_rfl)).trans (hY.v0 0 (by decide) (hd 0 (by kernel_rfl)))) e3 (fun W' h1 h2 => hY.stored (r := 0) (by decide) (hd 2 (by kernel_rfl)) e1 e2 h1 h2)
      | 5 =>
        intro o L Vv ho hLi hd a' Y hY hfr hdp; obtain rfl := Option.some.inj ho
        obtain ⟨B, e1, e2, e3⟩ := hY.v2 1 (by decide) (hd 3 (by kernel_rfl))
        simp only [hLi, Bool.false_eq_true, if_false] at e3
        exact op_store8 rfl ((hdp 3 14 (by decide) rfl (by kernel_rfl)).trans e1) ((hdp 1 38 (by decide) rfl (by kernel_rfl)).trans (hY.v0 1 (by decide) (hd 1 (by kernel_rfl)))) e3 (fun W' h1 h2 => hY.stored (r := 1) (by decide) (hd 3 (by kernel_rfl)) e1 e2 h1 h2)
      | j + 6 => intro o L Vv ho; simp at ho
    case fin =>
      intro V0 L Vv hLL hY
      obtain ⟨B0, e0, l0, k0⟩ := hY.v2 0 (by decide) (hLL 2 (by decide))
      obtain ⟨B1, e1, l1, k1⟩ := hY.v2 1 (by decide) (hLL 3 (by decide))
      have a4 := hLL 4 (by decide)
      have a5 := hLL 5 (by decide)
      simp only [Nat.reduceAdd, a4, a5, if_true] at e0 e1 k0 k1
      simp only [fill, Act.put, List.setIfInBounds_toArray, List.set_cons_zero, List.set_cons_succ, List.set_nil, Nat.reduceAdd, e0, e1]
      replace KA := Lib.hid (keep_blk1 KA.out hY.below)
      replace KC := Lib.hid (keep_blk1 KC.out hY.below)
      replace KN := Lib.hid (keep_blk1 KN.out hY.below)
      replace KM := Lib.hid (keep_blk1 KM.out hY.below)
      replace KB := Lib.hid (keep_bl1 KB.out hY.below)
      have KT := Lib.hid (show V0.heap[B0]? = some (.cells (cellA lo hi) 32 (0, 0)) from k0)
      have KU := Lib.hid (show V0.heap[B1]? = some (.cells (cellA lo' hi') 32 (0, 0)) from k1)
      clear hY hLL e0 e1 a4 a5 k0 k1 l0 l1
      go_wp2_with fail
      have H11 := Lib.hid (fun (Y : Later V0) => CheckCell_any lo hi Y.world (HL.out.below hpos (keep_bl1 KB.out Y.below)))
      have H12 := Lib.hid (fun (Y : Later V0) => CheckCell_ref lo hi Y.world)
      have H13 := Lib.hid (fun (Y : Later V0) => CheckIce_any x Y.world (HL.out.below hpos (keep_bl1 KB.out Y.below)))
      have H14 := Lib.hid (fun (Y : Later V0) => CheckIce_ref x Y.world)
      have H16 := Lib.hid (fun (Y : Later V0) => Rates_any u d Y.world)
      have H15 := Lib.hid (fun (Y : Later V0) => CheckRates_any u d Y.world)
      have H17 := Lib.hid (fun (Y : Later V0) => CheckRates_ref u d Y.world)
      have H18 := Lib.hid (fun (Y : Later V0) => Whole_any Y.world (HL.out.below hpos (keep_bl1 KB.out Y.below)))
      have H19 := Lib.hid (fun (Y : Later V0) => Whole_ref Y.world)
      have hlA := lt_of_block KA.out
      have cA := (cells8 KA.out).1
      obtain ⟨a0, a1, a2, a3, a4, a5, a6, a7⟩ := cA
      replace a0 := later_cell hlA a0
      replace a1 := later_cell hlA a1
      replace a2 := later_cell hlA a2
      replace a3 := later_cell hlA a3
      replace a4 := later_cell hlA a4
      replace a5 := later_cell hlA a5
      replace a6 := later_cell hlA a6
      replace a7 := later_cell hlA a7
      have hlN := lt_of_block KN.out
      have cN := (cells4 KN.out).1
      obtain ⟨n0, n1, n2, n3⟩ := cN
      replace n0 := later_cell hlN n0
      replace n1 := later_cell hlN n1
      replace n2 := later_cell hlN n2
      replace n3 := later_cell hlN n3
      have hlM := lt_of_block KM.out
      have cM := (cells8 KM.out).1
      obtain ⟨m0, m1, m2, m3, m4, m5, m6, m7⟩ := cM
      replace m0 := later_cell hlM m0
      replace m1 := later_cell hlM m1
      replace m2 := later_cell hlM m2
      replace m3 := later_cell hlM m3
      replace m4 := later_cell hlM m4
      replace m5 := later_cell hlM m5
      replace m6 := later_cell hlM m6
      replace m7 := later_cell hlM m7
      have hlT := lt_of_block KT.out
      have cT := (cells8 KT.out).1
      obtain ⟨t0, t1, t2, t3, t4, t5, t6, t7⟩ := cT
      replace t0 := later_cell hlT t0
      replace t1 := later_cell hlT t1
      replace t2 := later_cell hlT t2
      replace t3 := later_cell hlT t3
      replace t4 := later_cell hlT t4
      replace t5 := later_cell hlT t5
      replace t6 := later_cell hlT t6
      replace t7 := later_cell hlT t7
      haveI : Nonempty (Later V0) := ⟨⟨V0, Below.refl _ _⟩⟩
      refine wp_region_later (by kernel_rfl) (by kernel_rfl) ?_
      repeat (go_big_quiet_step (first | (go_at_call 11; exact later_call (H11.out _)) | (go_at_call 12; exact later_call (H12.out _)) | (go_at_call 13; exact later_call (H13.out _)) | (go_at_call 14; exact later_call (H14.out _)) | (go_at_call 16; exact later_call (H16.out _)) | (go_at_call 15; exact later_call (H15.out _)) | (go_at_call 17; exact later_call (H17.out _)) | (go_at_call 18; exact later_call (H18.out _)) | (go_at_call 19; exact later_call (H19.out _))))
      refine wpQuiet_nil ?_
      intro V1 hw'
      obtain ⟨⟨Xq, hX0⟩, hXe⟩ := hw'
      change V1 = Xq at hXe
      rw [← hXe] at hX0
      clear hXe Xq a0 a1 a2 a3 a4 a5 a6 a7 n0 n1 n2 n3 m0 m1 m2 m3 m4 m5 m6 m7 t0 t1 t2 t3 t4 t5 t6 t7 H11 H12 H13 H14 H16 H15 H17 H18 H19 hlA hlN hlM hlT
      replace KA := Lib.hid (keep_blk1 KA.out hX0)
      replace KC := Lib.hid (keep_blk1 KC.out hX0)
      replace KN := Lib.hid (keep_blk1 KN.out hX0)
      replace KM := Lib.hid (keep_blk1 KM.out hX0)
      replace KT := Lib.hid (keep_blk1 KT.out hX0)
      replace KU := Lib.hid (keep_blk1 KU.out hX0)
      replace KB := Lib.hid (keep_bl1 KB.out hX0)
      clear hX0
      have cN := (cells4 KN.out).1
      obtain ⟨n0, n1, n2, n3⟩ := cN
      have cT := (cells8 KT.out).1
      obtain ⟨t0, t1, t2, t3, t4, t5, t6, t7⟩ := cT
      go_wp2_with fail
      clear n0 n1 n2 n3 t0 t1 t2 t3 t4 t5 t6 t7
      have hcon := Has_any lo hi x V1 (HL.out.below hpos KB.out)
      rw [hasRes_eq] at hcon
      refine hcon.mono ?_
      clear hcon
      rintro e W2 ⟨rfl, hb⟩
      replace KA := Lib.hid (keep_blk1 KA.out hb)
      replace KC := Lib.hid (keep_blk1 KC.out hb)
      replace KN := Lib.hid (keep_blk1 KN.out hb)
      replace KM := Lib.hid (keep_blk1 KM.out hb)
      replace KT := Lib.hid (keep_blk1 KT.out hb)
      replace KU := Lib.hid (keep_blk1 KU.out hb)
      replace KB := Lib.hid (keep_bl1 KB.out hb)
      clear hb
      have cA := (cells8 KA.out).1
      obtain ⟨a0, a1, a2, a3, a4, a5, a6, a7⟩ := cA
      have cN := (cells4 KN.out).1
      obtain ⟨n0, n1, n2, n3⟩ := cN
      go_wp2_with fail
      clear a0 a1 a2 a3 a4 a5 a6 a7 n0 n1 n2 n3
      have hcon := Has_ref lo hi x W2
      rw [hasRes_eq] at hcon
      refine hcon.mono ?_
      clear hcon
      rintro e W3 ⟨rfl, hb⟩
      replace KA := Lib.hid (keep_blk1 KA.out hb)
      replace KC := Lib.hid (keep_blk1 KC.out hb)
      replace KN := Lib.hid (keep_blk1 KN.out hb)
      replace KM := Lib.hid (keep_blk1 KM.out hb)
      replace KT := Lib.hid (keep_blk1 KT.out hb)
      replace KU := Lib.hid (keep_blk1 KU.out hb)
      replace KB := Lib.hid (keep_bl1 KB.out hb)
      clear hb
      have cT := (cells8 KT.out).1
      obtain ⟨t0, t1, t2, t3, t4, t5, t6, t7⟩ := cT
      have cU := (cells8 KU.out).1
      obtain ⟨u0, u1, u2, u3, u4, u5, u6, u7⟩ := cU
      go_wp2_with fail
      clear t0 t1 t2 t3 t4 t5 t6 t7 u0 u1 u2 u3 u4 u5 u6 u7
      have hcon := Inside_any lo hi lo' hi' W3 (HL.out.below hpos KB.out)
      rw [insideRes_eq] at hcon
      refine hcon.mono ?_
      clear hcon
      rintro e W4 ⟨rfl, hb⟩
      replace KA := Lib.hid (keep_blk1 KA.out hb)
      replace KC := Lib.hid (keep_blk1 KC.out hb)
      replace KN := Lib.hid (keep_blk1 KN.out hb)
      replace KM := Lib.hid (keep_blk1 KM.out hb)
      replace KT := Lib.hid (keep_blk1 KT.out hb)
      replace KU := Lib.hid (keep_blk1 KU.out hb)
      replace KB := Lib.hid (keep_bl1 KB.out hb)
      clear hb
      have cA := (cells8 KA.out).1
      obtain ⟨a0, a1, a2, a3, a4, a5, a6, a7⟩ := cA
      have cC := (cells8 KC.out).1
      obtain ⟨c0, c1, c2, c3, c4, c5, c6, c7⟩ := cC
      go_wp2_with fail
      clear a0 a1 a2 a3 a4 a5 a6 a7 c0 c1 c2 c3 c4 c5 c6 c7
      have hcon := Inside_ref lo hi lo' hi' W4
      rw [insideRes_eq] at hcon
      refine hcon.mono ?_
      clear hcon
      rintro e W5 ⟨rfl, hb⟩
      replace KA := Lib.hid (keep_blk1 KA.out hb)
      replace KC := Lib.hid (keep_blk1 KC.out hb)
      replace KN := Lib.hid (keep_blk1 KN.out hb)
      replace KM := Lib.hid (keep_blk1 KM.out hb)
      replace KT := Lib.hid (keep_blk1 KT.out hb)
      replace KU := Lib.hid (keep_blk1 KU.out hb)
      replace KB := Lib.hid (keep_bl1 KB.out hb)
      clear hb
      have cT := (cells8 KT.out).1
      obtain ⟨t0, t1, t2, t3, t4, t5, t6, t7⟩ := cT
      have cU := (cells8 KU.out).1
      obtain ⟨u0, u1, u2, u3, u4, u5, u6, u7⟩ := cU
      go_wp2_with fail
      clear t0 t1 t2 t3 t4 t5 t6 t7 u0 u1 u2 u3 u4 u5 u6 u7
      have hcon := Meet_any lo hi lo' hi' W5 (HL.out.below hpos KB.out)
      rw [meetRes_eq] at hcon
      refine hcon.mono ?_
      clear hcon
      rintro e W6 ⟨rfl, hb⟩
      have LEY := Lib.hid (keep_bl1 KB.out hb).size
      have NEYA := Lib.hid (Nat.ne_of_lt (lt_of_block (keep_blk1 KA.out hb)))
      have NEYC := Lib.hid (Nat.ne_of_lt (lt_of_block (keep_blk1 KC.out hb)))
      have NEYN := Lib.hid (Nat.ne_of_lt (lt_of_block (keep_blk1 KN.out hb)))
      have NEYM := Lib.hid (Nat.ne_of_lt (lt_of_block (keep_blk1 KM.out hb)))
      have NEYT := Lib.hid (Nat.ne_of_lt (lt_of_block (keep_blk1 KT.out hb)))
      have NEYU := Lib.hid (Nat.ne_of_lt (lt_of_block (keep_blk1 KU.out hb)))
      replace KA := Lib.hid (keep_blk (o' := .cells (cellA (meL lo hi lo' hi') (meH lo hi lo' hi')) 32) KA.out hb)
      replace KC := Lib.hid (keep_blk (o' := .cells (cellA (meL lo hi lo' hi') (meH lo hi lo' hi')) 32) KC.out hb)
      replace KN := Lib.hid (keep_blk (o' := .cells (cellA (meL lo hi lo' hi') (meH lo hi lo' hi')) 32) KN.out hb)
      replace KM := Lib.hid (keep_blk (o' := .cells (cellA (meL lo hi lo' hi') (meH lo hi lo' hi')) 32) KM.out hb)
      replace KT := Lib.hid (keep_blk (o' := .cells (cellA (meL lo hi lo' hi') (meH lo hi lo' hi')) 32) KT.out hb)
      replace KU := Lib.hid (keep_blk (o' := .cells (cellA (meL lo hi lo' hi') (meH lo hi lo' hi')) 32) KU.out hb)
      replace KB := Lib.hid (keep_bl (o' := .cells (cellA (meL lo hi lo' hi') (meH lo hi lo' hi')) 32) KB.out hb)
      have KY := Lib.hid (block_new W6 (.cells (cellA (meL lo hi lo' hi') (meH lo hi lo' hi')) 32))
      clear hb
      have cA := (cells8 KA.out).1
      obtain ⟨a0, a1, a2, a3, a4, a5, a6, a7⟩ := cA
      have cC := (cells8 KC.out).1
      obtain ⟨c0, c1, c2, c3, c4, c5, c6, c7⟩ := cC
      go_wp2_with fail
      clear a0 a1 a2 a3 a4 a5 a6 a7 c0 c1 c2 c3 c4 c5 c6 c7
      generalize W6.alloc (.cells (cellA (meL lo hi lo' hi') (meH lo hi lo' hi')) 32) = V6 at *
      have hcon := Meet_ref lo hi lo' hi' V6
      rw [meetRes_eq] at hcon
      refine hcon.mono ?_
      clear hcon
      rintro e W7 ⟨rfl, hb⟩
      have LEZ := Lib.hid (keep_bl1 KB.out hb).size
      have NEZA := Lib.hid (Nat.ne_of_lt (lt_of_block (keep_blk1 KA.out hb)))
      have NEZC := Lib.hid (Nat.ne_of_lt (lt_of_block (keep_blk1 KC.out hb)))
      have NEZN := Lib.hid (Nat.ne_of_lt (lt_of_block (keep_blk1 KN.out hb)))
      have NEZM := Lib.hid (Nat.ne_of_lt (lt_of_block (keep_blk1 KM.out hb)))
      have NEZT := Lib.hid (Nat.ne_of_lt (lt_of_block (keep_blk1 KT.out hb)))
      have NEZU := Lib.hid (Nat.ne_of_lt (lt_of_block (keep_blk1 KU.out hb)))
      have NEZY := Lib.hid (Nat.ne_of_lt (lt_of_block (keep_blk1 KY.out hb)))
      replace KA := Lib.hid (keep_blk (o' := .cells (cellA (meL lo hi lo' hi') (meH lo hi lo' hi')) 25) KA.out hb)
      replace KC := Lib.hid (keep_blk (o' := .cells (cellA (meL lo hi lo' hi') (meH lo hi lo' hi')) 25) KC.out hb)
      replace KN := Lib.hid (keep_blk (o' := .cells (cellA (meL lo hi lo' hi') (meH lo hi lo' hi')) 25) KN.out hb)
      replace KM := Lib.hid (keep_blk (o' := .cells (cellA (meL lo hi lo' hi') (meH lo hi lo' hi')) 25) KM.out hb)
      replace KT := Lib.hid (keep_blk (o' := .cells (cellA (meL lo hi lo' hi') (meH lo hi lo' hi')) 25) KT.out hb)
      replace KU := Lib.hid (keep_blk (o' := .cells (cellA (meL lo hi lo' hi') (meH lo hi lo' hi')) 25) KU.out hb)
      replace KY := Lib.hid (keep_blk (o' := .cells (cellA (meL lo hi lo' hi') (meH lo hi lo' hi')) 25) KY.out hb)
      replace KB := Lib.hid (keep_bl (o' := .cells (cellA (meL lo hi lo' hi') (meH lo hi lo' hi')) 25) KB.out hb)
      have KZ := Lib.hid (block_new W7 (.cells (cellA (meL lo hi lo' hi') (meH lo hi lo' hi')) 25))
      clear hb
      have cT := (cells8 KT.out).1
      obtain ⟨t0, t1, t2, t3, t4, t5, t6, t7⟩ := cT
      have cU := (cells8 KU.out).1
      obtain ⟨u0, u1, u2, u3, u4, u5, u6, u7⟩ := cU
      have cY := (cells8 KY.out).1
      obtain ⟨y0, y1, y2, y3, y4, y5, y6, y7⟩ := cY
      have cZ := (cells8 KZ.out).1
      obtain ⟨z0, z1, z2, z3, z4, z5, z6, z7⟩ := cZ
      go_wp2_with fail
      clear t0 t1 t2 t3 t4 t5 t6 t7 u0 u1 u2 u3 u4 u5 u6 u7 y0 y1 y2 y3 y4 y5 y6 y7 z0 z1 z2 z3 z4 z5 z6 z7
      generalize W7.alloc (.cells (cellA (meL lo hi lo' hi') (meH lo hi lo' hi')) 25) = V7 at *
      clear KN
      have hcon := Hull_any lo hi lo' hi' V7 (HL.out.below hpos KB.out)
      rw [hullRes_eq] at hcon
      refine hcon.mono ?_
      clear hcon
      rintro e W8 ⟨rfl, hb⟩
      replace KA := Lib.hid (keep_blk1 KA.out hb)
      replace KC := Lib.hid (keep_blk1 KC.out hb)
      replace KM := Lib.hid (keep_blk1 KM.out hb)
      replace KT := Lib.hid (keep_blk1 KT.out hb)
      replace KU := Lib.hid (keep_blk1 KU.out hb)
      replace KY := Lib.hid (keep_blk1 KY.out hb)
      replace KZ := Lib.hid (keep_blk1 KZ.out hb)
      replace KB := Lib.hid (keep_bl1 KB.out hb)
      clear hb
      go_wp2_with (refine list_store8 (y0 := (huL lo hi lo' hi') 0) (y1 := (huH lo hi lo' hi') 0) (y2 := (huL lo hi lo' hi') 1) (y3 := (huH lo hi lo' hi') 1) (y4 := (huL lo hi lo' hi') 2) (y5 := (huH lo hi lo' hi') 2) (y6 := (huL lo hi lo' hi') 3) (y7 := (huH lo hi lo' hi') 3) rfl rfl rfl (.inl rfl) rfl rfl KY.out ?_; intro Zw1 hz hc; replace KB := Lib.hid (KB.out.trans (hc.below LEY.out)); replace KA := Lib.hid ((hc.2.1 _ NEYA.out).trans KA.out); replace KC := Lib.hid ((hc.2.1 _ NEYC.out).trans KC.out); replace KM := Lib.hid ((hc.2.1 _ NEYM.out).trans KM.out); replace KT := Lib.hid ((hc.2.1 _ NEYT.out).trans KT.out); replace KU := Lib.hid ((hc.2.1 _ NEYU.out).trans KU.out); replace KZ := Lib.hid ((hc.2.1 _ (Ne.symm NEZY.out)).trans KZ.out); replace KY := Lib.hid hz; clear hz hc; have cA := (cells8 KA.out).1; obtain ⟨a0, a1, a2, a3, a4, a5, a6, a7⟩ := cA; have cC := (cells8 KC.out).1; obtain ⟨c0, c1, c2, c3, c4, c5, c6, c7⟩ := cC)
      clear a0 a1 a2 a3 a4 a5 a6 a7 c0 c1 c2 c3 c4 c5 c6 c7
      clear KC
      have hcon := Hull_ref lo hi lo' hi' Zw1
      rw [hullRes_eq] at hcon
      refine hcon.mono ?_
      clear hcon
      rintro e W9 ⟨rfl, hb⟩
      replace KA := Lib.hid (keep_blk1 KA.out hb)
      replace KM := Lib.hid (keep_blk1 KM.out hb)
      replace KT := Lib.hid (keep_blk1 KT.out hb)
      replace KU := Lib.hid (keep_blk1 KU.out hb)
      replace KY := Lib.hid (keep_blk1 KY.out hb)
      replace KZ := Lib.hid (keep_blk1 KZ.out hb)
      replace KB := Lib.hid (keep_bl1 KB.out hb)
      clear hb
      clear KU
      go_wp2_with (refine list_store25 (y0 := (huL lo hi lo' hi') 0) (y1 := (huH lo hi lo' hi') 0) (y2 := (huL lo hi lo' hi') 1) (y3 := (huH lo hi lo' hi') 1) (y4 := (huL lo hi lo' hi') 2) (y5 := (huH lo hi lo' hi') 2) (y6 := (huL lo hi lo' hi') 3) (y7 := (huH lo hi lo' hi') 3) rfl rfl rfl rfl rfl KZ.out ?_; intro Zw2 hz hc; replace KB := Lib.hid (KB.out.trans (hc.below LEZ.out)); replace KA := Lib.hid ((hc.2.1 _ NEZA.out).trans KA.out); replace KM := Lib.hid ((hc.2.1 _ NEZM.out).trans KM.out); replace KT := Lib.hid ((hc.2.1 _ NEZT.out).trans KT.out); replace KY := Lib.hid ((hc.2.1 _ NEZY.out).trans KY.out); replace KZ := Lib.hid hz; clear hz hc; have cY := (cells8 KY.out).1; obtain ⟨y0, y1, y2, y3, y4, y5, y6, y7⟩ := cY; have cZ := (cells8 KZ.out).1; obtain ⟨z0, z1, z2, z3, z4, z5, z6, z7⟩ := cZ)
      clear y0 y1 y2 y3 y4 y5 y6 y7 z0 z1 z2 z3 z4 z5 z6 z7
      have NYA := NEYA.out
      have NYM := NEYM.out
      have NYT := NEYT.out
      have NZY := NEZY.out
      have LYE := LEY.out
      generalize eBY : W6.heap.size = BY at *
      clear eBY
      generalize eBZ : W7.heap.size = BZ at *
      clear eBZ
      refine wp_region_valsL [145, 146, 147, 148, 149, 144, 150, 151, 1000, 16] (ClWd w B0 BY BZ (cellA lo hi) (ratesA u d) (cellA lo hi) (cellA (huL lo hi lo' hi') (huH lo hi lo' hi')) (cellA (huL lo hi lo' hi') (huH lo hi lo' hi')) (cellA (aeL lo hi u d hours) (aeH lo hi u d hours))) (fun j v _ => clPv lo hi u d hours j v)
        (by kernel_rfl) (by kernel_rfl) (fun s hs h => by simp at hs ⊢; omega) (by simp) ⟨⟨KB.out.os, KB.out.tape, KB.out.output, KB.out.size, KB.out.block⟩, KA.out, KM.out, KT.out, KZ.out, KY.out⟩ ?val2 ?fin2
      case val2 =>
        intro j
        match j with
        | 0 =>
          intro o L ho hLi hd a' Y hY hfr hdp; obtain rfl := Option.some.inj ho
          have c := (cells8 hY.tt).1
          obtain ⟨c0, c1, c2, c3, c4, c5, c6, c7⟩ := c
          exact opx_load32 rfl (hfr 13 (by decide)) c0 c1 c2 c3 c4 c5 c6 c7 ⟨hY.next (Below.refl _ _) (by decide), rfl, fun _ _ _ h => h⟩
        | 1 =>
          intro o L ho hLi hd a' Y hY hfr hdp; obtain rfl := Option.some.inj ho
          have c := (cells8 hY.m).1
          obtain ⟨c0, c1, c2, c3, c4, c5, c6, c7⟩ := c
          exact opx_load29 rfl (hfr 9 (by decide)) c0 c1 c2 c3 c4 c5 c6 c7 ⟨hY.next (Below.refl _ _) (by decide), rfl, fun _ _ _ h => h⟩
        | 2 =>
          intro o L ho hLi hd a' Y hY hfr hdp; obtain rfl := Option.some.inj ho
          refine opx_call1 rfl (hdp 1 146 (by decide) rfl (by kernel_rfl)) eg16 ((Rates_any u d Y).mono ?_)
          rintro e W' ⟨rfl, hb⟩
          exact ⟨_, rfl, hY.next hb (by decide), rfl, fun _ _ _ h => h⟩
        | 3 => intro o L ho hLi hd a' Y hY hfr hdp; obtain rfl := Option.some.inj ho; exact opx_move rfl (hfr 4 (by decide)) ⟨hY.next (Below.refl _ _) (by decide), rfl, fun _ _ _ h => h⟩
        | 4 =>
          intro o L ho hLi hd a' Y hY hfr hdp; obtain rfl := Option.some.inj ho
          have hcon := Age_any lo hi u d hours Y (HL.out.below hpos hY.below)
          rw [ageRes_eq] at hcon
          refine opx_call3 rfl (hdp 0 145 (by decide) rfl (by kernel_rfl)) (hdp 2 147 (by decide) rfl (by kernel_rfl)) (hdp 3 148 (by decide) rfl (by kernel_rfl)) eg28 (hcon.mono ?_)
          rintro e W' ⟨rfl, hb⟩
          exact ⟨_, rfl, hY.next hb (by decide), rfl, fun _ _ _ h => h⟩
        | 5 => intro o L ho hLi hd a' Y hY hfr hdp; obtain rfl := Option.some.inj ho; exact opx_move rfl (hdp 4 149 (by decide) rfl (by kernel_rfl)) ⟨hY.next (Below.refl _ _) (by decide), rfl, fun _ _ _ h => h⟩
        | 6 => intro o L ho hLi hd a' Y hY hfr hdp; obtain rfl := Option.some.inj ho; exact opx_extract0 rfl (hdp 5 144 (by decide) rfl (by kernel_rfl)) ⟨hY.next (Below.refl _ _) (by decide), rfl, fun _ _ _ h => h⟩
        | 7 => intro o L ho hLi hd a' Y hY hfr hdp; obtain rfl := Option.some.inj ho; exact opx_extract1 rfl (hdp 5 144 (by decide) rfl (by kernel_rfl)) ⟨hY.next (Below.refl _ _) (by decide), rfl, fun _ _ _ h => h⟩
        | 8 =>
          intro o L ho hLi hd a' Y hY hfr hdp; obtain rfl := Option.some.inj ho
          have hs := hY.y
          rw [if_neg (by rw [hLi]; decide)] at hs
          refine op_store8 rfl (hfr 19 (by decide)) (hdp 6 150 (by decide) rfl (by kernel_rfl)) hs ?_
          intro X' hz hc
          refine ⟨⟨hY.below.trans (hc.below LYE), (hc.2.1 _ NYA).trans hY.a, (hc.2.1 _ NYM).trans hY.m, (hc.2.1 _ NYT).trans hY.tt, (hc.2.1 _ (Ne.symm NZY)).trans hY.z, ?_⟩, trivial, fun _ _ _ h => h⟩
          simp only [if_true]
          exact hz
        | 9 => intro o L ho hLi hd a' Y hY hfr hdp; obtain rfl := Option.some.inj ho; exact opx_assign rfl rfl ⟨hY.next (Below.refl _ _) (by decide), (hdp 7 151 (by decide) rfl (by kernel_rfl)), fun _ _ _ h => h⟩
        | j + 10 => intro o L ho; simp at ho
      case fin2 =>
        intro X1 L2 Vv2 hLL hY hV
        have hs := hY.y
        rw [if_pos (hLL 8 (by decide))] at hs
        have v9 : Vv2 9 = .int .i64 (ageE lo hi u d hours) := hV 9 (by decide)
        replace KA := Lib.hid hY.a
        replace KM := Lib.hid hY.m
        replace KZ := Lib.hid hY.z
        replace KB := Lib.hid hY.below
        replace KY := Lib.hid hs
        clear hY hLL hV hs KT
        simp only [fill, Act.put, List.setIfInBounds_toArray, List.set_cons_zero, List.set_cons_succ, List.set_nil, Nat.reduceAdd, v9]
        have cA := (cells8 KA.out).1
        obtain ⟨a0, a1, a2, a3, a4, a5, a6, a7⟩ := cA
        have cM := (cells8 KM.out).1
        obtain ⟨m0, m1, m2, m3, m4, m5, m6, m7⟩ := cM
        go_wp2_with fail
        clear a0 a1 a2 a3 a4 a5 a6 a7 m0 m1 m2 m3 m4 m5 m6 m7
        have hcon := Age_ref lo hi u d hours X1
        rw [ageRes_eq] at hcon
        refine hcon.mono ?_
        clear hcon
        rintro e W10 ⟨rfl, hb⟩
        replace KA := Lib.hid (keep_blk1 KA.out hb)
        replace KM := Lib.hid (keep_blk1 KM.out hb)
        replace KY := Lib.hid (keep_blk1 KY.out hb)
        replace KZ := Lib.hid (keep_blk1 KZ.out hb)
        replace KB := Lib.hid (keep_bl1 KB.out hb)
        clear hb
        clear KA
        go_wp2_with (refine list_store25 (y0 := (aeL lo hi u d hours) 0) (y1 := (aeH lo hi u d hours) 0) (y2 := (aeL lo hi u d hours) 1) (y3 := (aeH lo hi u d hours) 1) (y4 := (aeL lo hi u d hours) 2) (y5 := (aeH lo hi u d hours) 2) (y6 := (aeL lo hi u d hours) 3) (y7 := (aeH lo hi u d hours) 3) rfl rfl rfl rfl rfl KZ.out ?_; intro Zw3 hz hc; replace KB := Lib.hid (KB.out.trans (hc.below LEZ.out)); replace KM := Lib.hid ((hc.2.1 _ NEZM.out).trans KM.out); replace KY := Lib.hid ((hc.2.1 _ NEZY.out).trans KY.out); replace KZ := Lib.hid hz; clear hz hc; have cY := (cells8 KY.out).1; obtain ⟨y0, y1, y2, y3, y4, y5, y6, y7⟩ := cY; have cZ := (cells8 KZ.out).1; obtain ⟨z0, z1, z2, z3, z4, z5, z6, z7⟩ := cZ)
        clear y0 y1 y2 y3 y4 y5 y6 y7 z0 z1 z2 z3 z4 z5 z6 z7
        clear KY KZ
        refine (Field_any p n cap X Zw3 (HC.out.later KB.out) hn0).mono ?_
        rintro e W11 ⟨p', c', rfl, hI, hb⟩
        have HI := Lib.hid hI
        replace KM := Lib.hid (keep_blk1 KM.out hb)
        replace KB := Lib.hid (keep_bl1 KB.out hb)
        clear hb hI
        have cM := (cells8 KM.out).1
        obtain ⟨m0, m1, m2, m3, m4, m5, m6, m7⟩ := cM
        go_wp2_with fail
        clear m0 m1 m2 m3 m4 m5 m6 m7
        refine (Rates_any u d W11).mono ?_
        rintro e W12 ⟨rfl, hb⟩
        replace HI := Lib.hid (HI.out.later hb)
        replace KM := Lib.hid (keep_blk1 KM.out hb)
        replace KB := Lib.hid (keep_bl1 KB.out hb)
        clear hb
        go_wp2_with fail
        have hcon := Allowed_any p' n c' X u d W12 (HL.out.below hpos KB.out) HI.out (by omega)
        rw [alRes_eq] at hcon
        refine hcon.mono ?_
        clear hcon
        rintro e W13 ⟨rfl, hb⟩
        replace HI := Lib.hid (HI.out.later hb)
        replace KM := Lib.hid (keep_blk1 KM.out hb)
        replace KB := Lib.hid (keep_bl1 KB.out hb)
        clear hb
        have cM := (cells8 KM.out).1
        obtain ⟨m0, m1, m2, m3, m4, m5, m6, m7⟩ := cM
        go_wp2_with fail
        clear m0 m1 m2 m3 m4 m5 m6 m7
        have hcon := Allowed_ref p n cap X u d W13 (HC.out.later KB.out) (by omega)
        rw [alRes_eq] at hcon
        refine hcon.mono ?_
        clear hcon
        rintro e W14 ⟨rfl, hb⟩
        replace HI := Lib.hid (HI.out.later hb)
        replace KM := Lib.hid (keep_blk1 KM.out hb)
        replace KB := Lib.hid (keep_bl1 KB.out hb)
        clear hb KM
        go_wp2_with fail
        go_loopw [22] (fun i wr => ∃ k : Nat, k ≤ n ∧ i = .int .i64 k ∧ Hid (Ices wr p' n X) ∧ Hid (Below w.heap.size w wr)) (fun i _ => n - (intOf i).toNat)
        case atStart => exact ⟨0, by omega, rfl, HI, KB⟩
        case round =>
          clear HI KB
          obtain ⟨k, hk, rfl, HI, KB⟩ := hrel
          by_cases hlt : k < n
          · have hk4 : (k : Int) < (n : Int) := by omega
            have hk0 : (0 : Int) ≤ (k : Int) := by omega
            obtain ⟨b1, o1, rfl, hb1, c0, c1, c2, c3⟩ := (HC.out.later KB.out) k hlt
            obtain ⟨b2, o2, rfl, hb2, d0, d1, d2, d3⟩ := HI.out k hlt
            go_wp2_with fail
            replace c0 := later_cell hb1 c0
            replace d0 := later_cell hb2 d0
            replace c1 := later_cell hb1 c1
            replace d1 := later_cell hb2 d1
            replace c2 := later_cell hb1 c2
            replace d2 := later_cell hb2 d2
            replace c3 := later_cell hb1 c3
            replace d3 := later_cell hb2 d3
            haveI : Nonempty (Later wr) := ⟨⟨wr, Below.refl _ _⟩⟩
            refine wp_region_later (by kernel_rfl) (by kernel_rfl) ?_
            repeat (go_big_quiet_step (fail))
            refine wpQuiet_nil ?_
            intro Y1 hw'
            obtain ⟨⟨Xq, hX0⟩, hXe⟩ := hw'
            change Y1 = Xq at hXe
            rw [← hXe] at hX0
            clear hXe Xq   
            clear c0 c1 c2 c3 d0 d1 d2 d3
            replace HI := Lib.hid (HI.out.later hX0)
            replace KB := Lib.hid (keep_bl1 KB.out hX0)
            clear hX0
            go_wp2_with fail
            go_roundw
            case rel => exact ⟨k + 1, by omega, by go_num, HI, KB⟩
            case measure => simp [intOf]; omega
          · have hk5 : (k : Int) = (n : Int) := by omega
            go_wp2_with fail
            refine (awake_any wr (HL.out.below hpos KB.out)).mono ?_
            rintro e We ⟨rfl, hb⟩
            replace KB := Lib.hid (keep_bl1 KB.out hb)
            clear hb
            go_wp2_with fail
            go_ret
            exact ⟨rfl, KB.out⟩
end Go.Proofs.YtdcpmdigihbdpaaDoor
