/- The contract of hull.slowestAndFastest: for whatever function value whose calls answer numbers at the two ends. -/
import Derived.Test.YtcoiklolgilhaaaGreatDoorPo
namespace Go.Proofs.YtcoiklolgilhaaaGreatDoor
open Go.RowKit Go.Shelf
attribute [local go_sem] Oper.semAt_some
set_option maxRecDepth 100000
def mnL (sp : Ic → Int) (lo hi : Ic) (l : List (EndI lo hi)) : Int := l.foldl (fun a x => mn a (sp x.1)) 250
def mxL (sp : Ic → Int) (lo hi : Ic) (l : List (EndI lo hi)) : Int := l.foldl (fun a x => mx a (sp x.1)) 0
theorem mnL_snoc (sp : Ic → Int) (lo hi : Ic) (l : List (EndI lo hi)) (x : EndI lo hi) : mnL sp lo hi (l ++ [x]) = mn (mnL sp lo hi l) (sp x.1) := by simp [mnL]
theorem mxL_snoc (sp : Ic → Int) (lo hi : Ic) (l : List (EndI lo hi)) (x : EndI lo hi) : mxL sp lo hi (l ++ [x]) = mx (mxL sp lo hi l) (sp x.1) := by simp [mxL]
theorem mnL_ends (sp : Ic → Int) (lo hi : Ic) : mnL sp lo hi (endsL lo hi) = mn (mn 250 (sp hi)) (sp lo) := by
  unfold mnL endsL
  split
  · rename_i h
    obtain rfl := sameI_iff.1 h
    simp only [List.foldl_cons, List.foldl_nil, mn]
    omega
  · rfl
theorem mxL_ends (sp : Ic → Int) (lo hi : Ic) : mxL sp lo hi (endsL lo hi) = mx (mx 0 (sp hi)) (sp lo) := by
  unfold mxL endsL
  split
  · rename_i h
    obtain rfl := sameI_iff.1 h
    simp only [List.foldl_cons, List.foldl_nil, mx]
    omega
  · rfl
set_option maxHeartbeats 4000000 in
theorem slowFast_any (g : Nat) (lb : Array Value) (eg : ∀ args w, (callFunc g args).run Tryz.prog w = .ok (.enter g args) w) (sp : Ic → Int) (lo hi : Ic) (w : World)
    (hstep : ∀ (x : EndI lo hi) (W : World), Below w.heap.size w W → Calls Tryz.prog g (#[.agg (iceV x.1)] ++ lb) W fun e W' => e = .returned (.int .i64 (sp x.1)) ∧ Below W.heap.size W W') :
    Calls Tryz.prog 83 #[.agg (cellV lo hi), .func (.func g) #[] lb] w fun e w' => e = .returned (.agg #[.int .i64 (mn (mn 250 (sp hi)) (sp lo)), .int .i64 (mx (mx 0 (sp hi)) (sp lo))]) ∧ Below w.heap.size w w' := by
  refine (callsIn_wide (n := 6)).1 ?_
  refine callsIn_of_wp_marks Tryz.func83 rfl trivial ?_ rfl
  simp only [Tryz.ntmps83, List.size_toArray, List.length_cons, List.length_nil, Nat.reduceAdd, Nat.reduceSub, Array.replicate_succ, Array.replicate_zero, List.push_toArray, List.append_toArray, List.nil_append, List.cons_append]
  gi_wp2_with (refine ⟨trivial, ?_⟩; gi_at_call 138; refine (callsIn_wide.2 (ends_any lo hi _)).mono ?_; rintro e w' ⟨rfl, rfl⟩)
  have b3 := (((Boxed.new (w.alloc (.cells (cellV lo hi) 30)) 141 (.func (.func g) #[] lb)).alloc (.cells #[.int .i64 0, .int .i64 0] 28)).alloc (.cells #[.int .i64 250, .int .i64 0] 28)).alloc (.cells (cellV lo hi) 30)
  have b8 := block_new ((((w.alloc (.cells (cellV lo hi) 30)).alloc (.cells #[.func (.func g) #[] lb] 141)).alloc (.cells #[.int .i64 0, .int .i64 0] 28)).alloc (.cells #[.int .i64 250, .int .i64 0] 28)) (.cells (cellV lo hi) 30)
  have b5 := (Below.heap_alloc ((((w.alloc (.cells (cellV lo hi) 30)).alloc (.cells #[.func (.func g) #[] lb] 141)).alloc (.cells #[.int .i64 0, .int .i64 0] 28)).alloc (.cells #[.int .i64 250, .int .i64 0] 28)) (.cells (cellV lo hi) 30) (w.heap.size + 1 + 1 + 1) (by simp)).trans (by have := block_new (((w.alloc (.cells (cellV lo hi) 30)).alloc (.cells #[.func (.func g) #[] lb] 141)).alloc (.cells #[.int .i64 0, .int .i64 0] 28)) (.cells #[.int .i64 250, .int .i64 0] 28); simp only [World.size_alloc] at this; exact this)
  have b4 := (Below.heap_alloc ((((w.alloc (.cells (cellV lo hi) 30)).alloc (.cells #[.func (.func g) #[] lb] 141)).alloc (.cells #[.int .i64 0, .int .i64 0] 28)).alloc (.cells #[.int .i64 250, .int .i64 0] 28)) (.cells (cellV lo hi) 30) (w.heap.size + 1 + 1) (by simp)).trans ((Below.heap_alloc _ _ _ (by simp)).trans (by have := block_new ((w.alloc (.cells (cellV lo hi) 30)).alloc (.cells #[.func (.func g) #[] lb] 141)) (.cells #[.int .i64 0, .int .i64 0] 28); simp only [World.size_alloc] at this; exact this))
  simp only [World.size_alloc] at b3 b8
  have hB0 : Below w.heap.size w (((((w.alloc (.cells (cellV lo hi) 30)).alloc (.cells #[.func (.func g) #[] lb] 141)).alloc (.cells #[.int .i64 0, .int .i64 0] 28)).alloc (.cells #[.int .i64 250, .int .i64 0] 28)).alloc (.cells (cellV lo hi) 30)) :=
    (((((Below.refl _ w).alloc (Nat.le_refl _) _).alloc (by simp) _).alloc (by simp; omega) _).alloc (by simp; omega) _).alloc (by simp; omega) _
  have hsz : (((((w.alloc (.cells (cellV lo hi) 30)).alloc (.cells #[.func (.func g) #[] lb] 141)).alloc (.cells #[.int .i64 0, .int .i64 0] 28)).alloc (.cells #[.int .i64 250, .int .i64 0] 28)).alloc (.cells (cellV lo hi) 30)).heap.size = w.heap.size + 5 := by simp
  obtain ⟨W0, hW0⟩ : ∃ W0, ((((w.alloc (.cells (cellV lo hi) 30)).alloc (.cells #[.func (.func g) #[] lb] 141)).alloc (.cells #[.int .i64 0, .int .i64 0] 28)).alloc (.cells #[.int .i64 250, .int .i64 0] 28)).alloc (.cells (cellV lo hi) 30) = W0 := ⟨_, rfl⟩
  rw [hW0] at b3 b4 b5 b8 hB0 hsz ⊢
  clear hW0
  refine wpIn_rangeFunc_ownH rfl (by decide) (gf := 177) (lb := #[.pointer (some ⟨w.heap.size + 1 + 1 + 1 + 1, 0, none⟩)]) rfl trivial (enters_of Tryz.func177 (by kernel_rfl) rfl)
    (ends_stops 5 (by decide) lo hi (w.heap.size + 1 + 1 + 1 + 1) w.heap.size (w.heap.size + 5) W0 (by omega) b8) KpB.trans (KpB.put (by omega)) (Below.refl _ _) (fun _ => rfl)
    (fun pre W => (W.heap[w.heap.size + 1 + 1 + 1]? = some (.cells #[.int .i64 (mnL sp lo hi pre), .int .i64 (mxL sp lo hi pre)] 28 (0, 0)) ∧ W.heap[w.heap.size + 1 + 1]? = some (.cells #[.int .i64 0, .int .i64 0] 28 (0, 0)) ∧ Boxed W (w.heap.size + 1) 141 (.func (.func g) #[] lb)) ∧ (Below w.heap.size w W ∧ w.heap.size + 5 ≤ W.heap.size))
    (fun _ _ _ => False)
    (OwnFrom.and (OwnFrom.and (fun s A B row hs hg hr => cells_own _ _ _ s A B row hs hg (fun r e => (hr r e).2)) (OwnFrom.and (Own.from (cells_own _ _ _) _) (Own.from (boxed_own _ _ _) _))) (OwnFrom.and (ownFrom_below (Nat.le_refl _) (by omega)) (fun _ _ _ _ hs hg _ => Nat.le_trans hs hg.size)))
    (fun _ _ _ _ _ hs _ _ => hs)
    ⟨⟨b5, b4, b3⟩, hB0, by omega⟩
    (fun x a' W => ∃ Bx, w.heap.size + 5 ≤ Bx ∧ W.heap[Bx]? = some (.cells (iceV x.1) 26 (0, 0)) ∧ a' = { tmps := #[.agg (cellV lo hi), .func (.func g) #[] lb, .pointer (some ⟨w.heap.size, 0, none⟩), .pointer (some ⟨w.heap.size + 1, 0, none⟩), .pointer (some ⟨w.heap.size + 1 + 1, 0, none⟩), .pointer (some ⟨w.heap.size + 1 + 1 + 1, 0, none⟩), .pointer (some ⟨Bx, 0, none⟩), undef, .agg #[.int .i64 250, .int .i64 0], .agg (cellV lo hi), .func (.func 177) #[] #[.pointer (some ⟨w.heap.size + 1 + 1 + 1 + 1, 0, none⟩)], .agg (iceV x.1), undef, undef, undef, undef, undef, undef, undef, undef, undef, undef, undef, undef, undef], defers := [] })
    (fun x a' _ X Y row hs hg hr => by obtain ⟨Bx, h1, h2, h3⟩ := hs; exact ⟨Bx, h1, cells_own Bx 26 (iceV x.1) () X Y row h2 hg (fun r e => (hr r e).2), h3⟩)
    ?assign ?body ?done ?stop
  case assign =>
    rintro l pre x W K ⟨⟨bS1, bS2, bS3⟩, hB1, hz1⟩ hK
    gi_wp2
    have hba := (Below.refl W.heap.size W).alloc (Nat.le_refl _) (.cells (iceV x.1) 26)
    exact hK _ _ ((KeepsOthers.alloc _ _).from _) (KpB.of_below hB1.size hba) ⟨⟨(hba.block _ (by omega)).trans bS1, (hba.block _ (by omega)).trans bS2, bS3.alloc _⟩, hB1.alloc hB1.size _, by simp; omega⟩ ⟨W.heap.size, hz1, block_new W _, rfl⟩
  case body =>
    rintro l pre x a' W hl ⟨r, hr⟩ ⟨⟨bS1, bS2, bS3⟩, hB1, hz1⟩ ⟨Bx, hBx, bX, rfl⟩ hlt
    have h1' : 1 ≤ 6 - 1 - 1 := by decide
    have c3 := bS3.cell
    obtain ⟨⟨x0, x1, x2, x3⟩, _⟩ := cells4 bX
    have HC := Lib.hid (hstep x W hB1)
    have HB1 := Lib.hid hB1
    have HS1 := Lib.hid bS1
    have HS2 := Lib.hid bS2
    have HS3 := Lib.hid bS3
    have HM1 := Lib.hid (mnL_snoc sp lo hi pre x)
    have HM2 := Lib.hid (mxL_snoc sp lo hi pre x)
    clear bX hB1 bS1 bS2 bS3 hstep hr
    generalize mnL sp lo hi pre = p1 at *
    generalize mxL sp lo hi pre = p2 at *
    generalize sp x.1 = y at *
    gi_wp2_with (refine ⟨trivial, ?_⟩; refine (CallsIn.inRound l (callsIn_wide.2 HC.out)).mono ?_; rintro e W1 ⟨rfl, hb1⟩; have HT1 := Lib.hid ((hb1.block _ (by omega)).trans HS1.out); have HT2 := Lib.hid ((hb1.block _ (by omega)).trans HS2.out); have HT3 := Lib.hid (boxed_below HS3.out hb1); obtain ⟨⟨d0, d1⟩, g0, g1⟩ := cells2 HT1.out; have HB2 := Lib.hid (HB1.out.trans (hb1.mono HB1.out.size)); have HKF := Lib.hid (keepsFrom_below (B := w.heap.size + 5) hb1); have HKP := Lib.hid (KpB.of_below (M := w.heap.size + 5) HB1.out.size hb1); have hz2 := hb1.size; clear hb1)
    all_goals
      refine ⟨HKF.out.trans (((KeepsOthers.setCell _ _ _).from _).trans ((KeepsOthers.setCell _ _ _).from _)), HKP.out.trans (KpB.trans (KpB.setCell _ _ _ _ (by omega) (by omega)) (KpB.setCell _ _ _ _ (by omega) (by omega))), ⟨?_, ?_, ?_⟩, ?_, ?_⟩
      · refine (store2_block HT1.out _ _).trans ?_
        rw [HM1.out, HM2.out]
        simp only [mn, mx, Option.some.injEq, Obj.cells.injEq, Array.mk.injEq, List.cons.injEq, Value.int.injEq, true_and, and_true]
        omega
      · exact (Below.heap_setCell _ _ _ _ (by show w.heap.size + 1 + 1 ≠ w.heap.size + 1 + 1 + 1; omega)).trans ((Below.heap_setCell _ _ _ _ (by show w.heap.size + 1 + 1 ≠ w.heap.size + 1 + 1 + 1; omega)).trans HT2.out)
      · exact (Below.heap_setCell _ _ _ _ (by show w.heap.size + 1 ≠ w.heap.size + 1 + 1 + 1; omega)).trans ((Below.heap_setCell _ _ _ _ (by show w.heap.size + 1 ≠ w.heap.size + 1 + 1 + 1; omega)).trans HT3.out)
      · exact (HB2.out.setCell (p := ⟨w.heap.size + 1 + 1 + 1, 0, none⟩) (by simp; omega) _).setCell (p := ⟨w.heap.size + 1 + 1 + 1, 1, none⟩) (by simp; omega) _
      · simp [World.setCell]; omega
  case done =>
    rintro D xs W hD rfl ⟨⟨bS1, bS2, bS3⟩, hB1, hz1⟩ hK
    obtain ⟨⟨c0, c1⟩, _⟩ := cells2 bS1
    obtain ⟨_, f0, f1⟩ := cells2 bS2
    obtain ⟨⟨e0, e1⟩, _⟩ := cells2 bS2
    gi_wp2
    have hblk := store2_block bS2 (.int .i64 (mnL sp lo hi (endsL lo hi))) (.int .i64 (mxL sp lo hi (endsL lo hi)))
    have k2 : (World.store2 W (w.heap.size + 1 + 1) (.int .i64 (mnL sp lo hi (endsL lo hi))) (.int .i64 (mxL sp lo hi (endsL lo hi)))).heap[D]? = some (.deferred (some [])) := ((chg_store2 W (w.heap.size + 1 + 1) _ _).2.1 D (by omega)).trans hK
    have hB2 := hB1.trans ((chg_store2 W (w.heap.size + 1 + 1) (.int .i64 (mnL sp lo hi (endsL lo hi))) (.int .i64 (mxL sp lo hi (endsL lo hi)))).below (n := w.heap.size) (by omega))
    unfold World.store2 at hblk k2 hB2
    generalize (W.setCell ⟨w.heap.size + 1 + 1, 0, none⟩ _).setCell ⟨w.heap.size + 1 + 1, 1, none⟩ _ = W2 at *
    refine ⟨by simp, .inl ⟨_, _, rfl, run_takeDeferred k2, ?_⟩⟩
    have h9 : (W2.putObj D (.deferred none)).heap[w.heap.size + 1 + 1]? = some (.cells #[.int .i64 (mnL sp lo hi (endsL lo hi)), .int .i64 (mxL sp lo hi (endsL lo hi))] 28 (0, 0)) := (World.putObj_heap_other (by omega)).trans hblk
    obtain ⟨⟨q0, q1⟩, _⟩ := cells2 h9
    refine ⟨.agg #[.int .i64 (mnL sp lo hi (endsL lo hi)), .int .i64 (mxL sp lo hi (endsL lo hi))], by simp [results, Tryz.results83, go_sem, q0, q1], by rw [mnL_ends, mxL_ends], hB2.trans (belowK_b (w := w) (Nat.le_refl _) W2 D _ _ (by omega) k2 rfl rfl)⟩
  case stop =>
    rintro D c pre W _ _ h _
    exact h.elim
end Go.Proofs.YtcoiklolgilhaaaGreatDoor
