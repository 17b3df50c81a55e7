/- The contracts of ice.Has, of the law's ranged and Rates. The table of limits holds 100, 400, 100, 3. -/
import Derived.Test.YtdcpmdigihbdpaaDoorSg
import Derived.Test.YtdcpmdigihbdpaaDoorSm
import Derived.Test.YtdcpmdigihbdpaaDoorSn
namespace Go.Proofs.YtdcpmdigihbdpaaDoor
open Go.RowKit
set_option maxRecDepth 100000
section
variable {Q : Exit → Act → World → Prop} {o : Oper} {a : Act} {W : World} {R : Value → World → Prop}
theorem opx_load37 {s b : Nat} {t : TypeId} {x0 x1 x2 x3 : Value} (hop : o.op = Op.load 37 (.tmp s)) (he : a.eval (.tmp s) = .pointer (some ⟨b, 0, none⟩)) (hb : W.heap[b]? = some (.cells #[x0, x1, x2, x3] t (0, 0)))
    (hR : R (.agg #[x0, x1, x2, x3]) W) : o.wp Tryd.prog a W (fun a'' W'' => ∃ x, a'' = a.put o.dst x ∧ R x W'') Q := by
  obtain ⟨⟨c0, c1, c2, c3⟩, _⟩ := cells4 hb
  have he' : a.tmps[s]?.getD undef = .pointer (some ⟨b, 0, none⟩) := by simpa [Act.eval] using he
  refine op_val ?_ hR
  unfold execOp
  rw [hop]
  simp [go_sem, he', c0, c1, c2, c3]
theorem opx_build2 {s t : Nat} {x y : Int} (hop : o.op = Op.buildSlice 169 2 #[(0, .tmp s), (1, .tmp t)]) (he : a.eval (.tmp s) = .int .i64 x) (ht : a.eval (.tmp t) = .int .i64 y)
    (hR : R (.slice (some ⟨W.heap.size, 0, none⟩) 2 2) (W.alloc (.cells #[.int .i64 x, .int .i64 y] 33))) : o.wp Tryd.prog a W (fun a'' W'' => ∃ x, a'' = a.put o.dst x ∧ R x W'') Q := by
  have he' : a.tmps[s]?.getD undef = .int .i64 x := by simpa [Act.eval] using he
  have ht' : a.tmps[t]?.getD undef = .int .i64 y := by simpa [Act.eval] using ht
  refine op_val (W' := W.alloc (.cells #[.int .i64 x, .int .i64 y] 33)) ?_ hR
  unfold execOp
  rw [hop]
  simp [go_sem, he', ht']
end
theorem eg13 : ∀ args w, (callFunc 13 args).run Tryd.prog w = .ok (.enter 13 args) w := Go.Proofs.enters_of Tryd.func13 (by kernel_rfl) rfl
abbrev iceA (n : Nat → Int) : Array Value := #[.int .i64 (n 0), .int .i64 (n 1), .int .i64 (n 2), .int .i64 (n 3)]
def hasE (lo hi n : Nat → Int) : Int := orL [errB (okCell lo hi) 20, errB (okIce n) 20]
def hasRes (lo hi n : Nat → Int) : Value := if hasE lo hi n = 0 then .tuple #[.bool (hasB lo hi n), .int .i64 0] else .tuple #[.bool false, .int .i64 (hasE lo hi n)]
def haPv (lo hi n : Nat → Int) (j : Nat) (v : Value) (X : World) : Prop :=
  match j with
  | 0 => v = .agg (cellA lo hi)
  | 1 => v = .int .i64 (errB (okCell lo hi) 20)
  | 2 => v = .agg (iceA n)
  | 3 => v = .int .i64 (errB (okIce n) 20)
  | 4 => ∃ B, v = .slice (some ⟨B, 0, none⟩) 2 2 ∧ X.heap[B]? = some (.cells #[.int .i64 (errB (okCell lo hi) 20), .int .i64 (errB (okIce n) 20)] 33 (0, 0))
  | _ => v = .int .i64 (hasE lo hi n)
theorem haPv_later {lo hi n : Nat → Int} {j : Nat} {v : Value} {X X' : World} (h : haPv lo hi n j v X) (hb : Below X.heap.size X X') : haPv lo hi n j v X' := by
  match j with
  | 0 | 1 | 2 | 3 => exact h
  | 4 => obtain ⟨B, e1, e2⟩ := h; exact ⟨B, e1, (hb.block B (lt_of_block e2)).trans e2⟩
  | j + 5 => exact h
set_option maxHeartbeats 2000000 in
theorem Has_any (lo hi n : Nat → Int) (w : World) (hl : Lim w) :
    Calls Tryd.prog 20 #[.agg (cellA lo hi), .agg (iceA n)] w fun e w' => e = .returned (hasRes lo hi n) ∧ Below w.heap.size w w' := by
  have hpos := hl.pos
  have HL := Lib.hid hl
  clear hl
  go_enter Tryd.func20, Tryd.ntmps20
  go_wp2_with fail
  obtain ⟨a1, a2, a4, a5⟩ := two_allocs w (.cells (cellA lo hi) 32) (.cells (iceA n) 37)
  have A1 := Lib.hid a1
  have A2 := Lib.hid a2
  have AB := Lib.hid a5
  clear a1 a2 a5
  generalize (w.alloc (.cells (cellA lo hi) 32)).alloc (.cells (iceA n) 37) = V at *
  refine wp_region_vals [7, 8, 9, 10, 11, 12, 6] (fun _ X => Below V.heap.size V X) (haPv lo hi n)
    (by kernel_rfl) (by kernel_rfl) (fun s hs h => by simp at hs ⊢; omega) (by simp) ⟨rfl, rfl, rfl, Nat.le_refl _, fun _ _ => rfl⟩ ?val ?fin
  case val =>
    have stb : ∀ X X', Below X.heap.size X X' → ∀ j v, haPv lo hi n j v X → haPv lo hi n j v X' := fun X X' hb j v h => haPv_later h hb
    intro j
    match j with
    | 0 => intro o L ho hLi hd a' X hX hfr hdp; obtain rfl := Option.some.inj ho; exact opx_of (Oper.wp_mono (fun a'' W' ⟨h1, h2⟩ => ⟨h1, hX.trans (h2.mono hX.size), rfl, stb X W' h2⟩) (op_load8 rfl (hfr 2 (by decide)) ((hX.block _ (by omega)).trans A1.out)))
    | 1 =>
      intro o L ho hLi hd a' X hX hfr hdp; obtain rfl := Option.some.inj ho
      refine opx_call1 rfl (hdp 0 7 (by decide) rfl (by kernel_rfl)) eg11 ((CheckCell_any lo hi X (HL.out.below hpos (AB.out.trans (hX.mono AB.out.size)))).mono ?_)
      rintro e W' ⟨rfl, hb⟩
      exact ⟨_, rfl, hX.trans (hb.mono hX.size), rfl, stb X W' hb⟩
    | 2 => intro o L ho hLi hd a' X hX hfr hdp; obtain rfl := Option.some.inj ho; exact opx_load37 rfl (hfr 3 (by decide)) ((hX.block _ (by omega)).trans A2.out) ⟨hX, rfl, fun _ _ h => h⟩
    | 3 =>
      intro o L ho hLi hd a' X hX hfr hdp; obtain rfl := Option.some.inj ho
      refine opx_call1 rfl (hdp 2 9 (by decide) rfl (by kernel_rfl)) eg13 ((CheckIce_any n X (HL.out.below hpos (AB.out.trans (hX.mono AB.out.size)))).mono ?_)
      rintro e W' ⟨rfl, hb⟩
      exact ⟨_, rfl, hX.trans (hb.mono hX.size), rfl, stb X W' hb⟩
    | 4 =>
      intro o L ho hLi hd a' X hX hfr hdp; obtain rfl := Option.some.inj ho
      have hb : Below X.heap.size X (X.alloc (.cells #[.int .i64 (errB (okCell lo hi) 20), .int .i64 (errB (okIce n) 20)] 33)) := (Below.refl _ _).alloc (Nat.le_refl _) _
      exact opx_build2 rfl (hdp 1 8 (by decide) rfl (by kernel_rfl)) (hdp 3 10 (by decide) rfl (by kernel_rfl)) ⟨hX.trans (hb.mono hX.size), ⟨_, rfl, block_new X _⟩, stb X _ hb⟩
    | 5 =>
      intro o L ho hLi hd a' X hX hfr hdp; obtain rfl := Option.some.inj ho
      obtain ⟨B, e1, e2⟩ := hdp 4 11 (by decide) rfl (by kernel_rfl)
      have hn2 := cell_of_block e2
      refine opx_call1 rfl e1 eg69 ((or_any B [errB (okCell lo hi) 20, errB (okIce n) 20] X (fun i hi => ?_) (by simp)).mono ?_)
      · match i, hi with
        | 0, _ => exact (hn2 0).trans rfl
        | 1, _ => exact (hn2 1).trans rfl
      rintro e W' ⟨rfl, rfl⟩
      exact ⟨_, rfl, hX, rfl, fun _ _ h => h⟩
    | 6 => intro o L ho hLi hd a' X hX hfr hdp; obtain rfl := Option.some.inj ho; exact opx_assign rfl rfl ⟨hX, hdp 5 12 (by decide) rfl (by kernel_rfl), fun _ _ h => h⟩
    | j + 7 => intro o L ho; simp at ho
  case fin =>
    intro X L Vv hLL hX hV
    have v6 : Vv 6 = .int .i64 (hasE lo hi n) := hV 6 (by decide)
    have hz := hX.size
    have b1 := (hX.block w.heap.size (by omega)).trans A1.out
    have b2 := (hX.block (w.heap.size + 1) (by omega)).trans A2.out
    have BB := Lib.hid (AB.out.trans (hX.mono AB.out.size))
    simp only [fill, Act.put, List.setIfInBounds_toArray, List.set_cons_zero, List.set_cons_succ, Nat.reduceAdd, v6]
    clear hX hLL hV A1 A2 AB v6
    by_cases hE : hasE lo hi n = 0
    · have HR := Lib.hid (show hasRes lo hi n = .tuple #[.bool (hasB lo hi n), .int .i64 0] by unfold hasRes; rw [if_pos hE])
      have c := (cells8 b1).1
      have d := (cells4 b2).1
      obtain ⟨c0, c1, c2, c3, c4, c5, c6, c7⟩ := c
      obtain ⟨d0, d1, d2, d3⟩ := d
      clear b1 b2
      go_wp2_with fail
      refine (has_any lo hi n X).mono ?_
      rintro e W1 ⟨rfl, hb1⟩
      have CB := Lib.hid (BB.out.trans (hb1.mono BB.out.size))
      clear hb1 c0 c1 c2 c3 c4 c5 c6 c7 d0 d1 d2 d3 BB
      go_wp2_with fail
      refine bodyPost_ret (v := .tuple #[.bool (hasB lo hi n), .int .i64 0]) ?_ rfl ⟨by rw [HR.out], CB.out⟩
      simp [results, Tryd.results20, go_sem]
    · have HR := Lib.hid (show hasRes lo hi n = .tuple #[.bool false, .int .i64 (hasE lo hi n)] by unfold hasRes; rw [if_neg hE])
      clear b1 b2
      go_wp2_with fail
      refine bodyPost_ret (v := .tuple #[.bool false, .int .i64 (hasE lo hi n)]) ?_ rfl ⟨by rw [HR.out], BB.out⟩
      simp [results, Tryd.results20, go_sem]
def rgN (a b c d : Int) (q : Nat) : Int := if q = 0 then a % 101 else if q = 1 then b % 401 else if q = 2 then c % 101 else d % 4
theorem rgN_ok (a b c d : Int) : okIce (rgN a b c d) = true := by
  unfold okIce
  rw [allB_iff]
  intro q hq
  unfold inB
  rw [decide_eq_true_eq]
  match q, hq with
  | 0, _ => exact (show 0 ≤ a % 101 ∧ a % 101 ≤ 100 by omega)
  | 1, _ => exact (show 0 ≤ b % 401 ∧ b % 401 ≤ 400 by omega)
  | 2, _ => exact (show 0 ≤ c % 101 ∧ c % 101 ≤ 100 by omega)
  | 3, _ => exact (show 0 ≤ d % 4 ∧ d % 4 ≤ 3 by omega)
set_option maxHeartbeats 2000000 in
theorem ranged_any (a b c d : Int) (w : World) : Calls Tryd.prog 50 #[.int .i64 a, .int .i64 b, .int .i64 c, .int .i64 d] w fun e w' => e = .returned (.agg (iceA (rgN a b c d))) ∧ Below w.heap.size w w' := by
  go_enter Tryd.func50, Tryd.ntmps50
  have A1 := Lib.hid (block_new w (.cells #[.int .i64 0, .int .i64 0, .int .i64 0, .int .i64 0] 37))
  have AB := Lib.hid ((Below.refl w.heap.size w).alloc (Nat.le_refl _) (.cells #[.int .i64 0, .int .i64 0, .int .i64 0, .int .i64 0] 37))
  go_wp2_with fail
  generalize w.alloc (.cells #[.int .i64 0, .int .i64 0, .int .i64 0, .int .i64 0] 37) = V at *
  refine (Pick_any a 101 (by decide) (by decide) V).mono ?_
  rintro e V1 ⟨rfl, rfl⟩
  go_wp2_with fail
  refine (Pick_any b 401 (by decide) (by decide) V).mono ?_
  rintro e V1 ⟨rfl, rfl⟩
  go_wp2_with fail
  refine (Pick_any c 101 (by decide) (by decide) V).mono ?_
  rintro e V1 ⟨rfl, rfl⟩
  go_wp2_with fail
  refine (Pick_any d 4 (by decide) (by decide) V).mono ?_
  rintro e V1 ⟨rfl, rfl⟩
  go_wp2_with (refine list_store4 rfl rfl rfl (.inl rfl) rfl rfl A1.out ?_; intro W6 h6 hc6)
  obtain ⟨⟨g0, g1, g2, g3⟩, _⟩ := cells4 h6
  refine bodyPost_ret (v := .agg (iceA (rgN a b c d))) ?_ rfl ⟨rfl, AB.out.trans (hc6.below (Nat.le_refl _))⟩
  simp [results, Tryd.results50, go_sem, g0, g1, g2, g3, rgN]
set_option maxHeartbeats 2000000 in
theorem Rates_any (u d : Nat → Int) (w : World) : Calls Tryd.prog 16 #[.agg (ratesA u d)] w fun e w' => e = .returned (.agg (ratesA u d)) ∧ Below w.heap.size w w' := by
  go_enter Tryd.func16, Tryd.ntmps16
  have AB := Lib.hid (((Below.refl w.heap.size w).alloc (Nat.le_refl _) (.cells (ratesA u d) 29)).alloc (by simp) (.cells (ratesA u d) 41))
  go_wp2_with fail
  refine bodyPost_ret (v := .agg (ratesA u d)) ?_ rfl ⟨rfl, AB.out⟩
  simp [results, Tryd.results16, go_sem]
end Go.Proofs.YtdcpmdigihbdpaaDoor
