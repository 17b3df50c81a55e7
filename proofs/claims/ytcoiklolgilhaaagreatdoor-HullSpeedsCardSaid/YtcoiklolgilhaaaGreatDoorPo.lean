/- The contract of hull.oneAndAll: for whatever function value whose calls answer truths at the two ends. -/
import Derived.Test.YtcoiklolgilhaaaGreatDoorPn
namespace Go.Proofs.YtcoiklolgilhaaaGreatDoor
open Go.RowKit Go.Shelf
attribute [local go_sem] Oper.semAt_some
set_option maxRecDepth 100000
theorem keepsFrom_below {B : Nat} {W W' : World} (h : Below W.heap.size W W') : KeepsFrom B W W' := ⟨h.size, fun k _o _ hk _ => (h.block k (Array.getElem?_eq_some_iff.1 hk).1).trans hk⟩
theorem KpB.of_below {n₀ M : Nat} {W W' : World} (hn : n₀ ≤ W.heap.size) (h : Below W.heap.size W W') : KpB n₀ M W W' := ⟨h.mono hn, fun k _ _ _ hk => (h.block k (Array.getElem?_eq_some_iff.1 hk).1).trans hk⟩
theorem KpB.setCell {n₀ M : Nat} (W : World) (b : Nat) (o : Nat) (v : Value) (hn : n₀ ≤ b) (hM : b < M) : KpB n₀ M W (W.setCell ⟨b, o, none⟩ v) :=
  ⟨(Below.refl n₀ W).setCell (p := ⟨b, o, none⟩) hn _, fun k vs t hk he => (Below.heap_setCell _ _ _ _ (by show k ≠ b; omega)).trans he⟩
theorem boxed_below {W W' : World} {B : Nat} {t : TypeId} {v : Value} (h : Boxed W B t v) (hb : Below W.heap.size W W') : Boxed W' B t v := (hb.block B h.lt).trans h
theorem cells_own {β : Type} (B : Nat) (t : TypeId) (vs : Array Value) : Own (fun (_ : β) W => W.heap[B]? = some (.cells vs t (0, 0))) := fun s X Y row hs hg hrow =>
  (hg.block B (Array.getElem?_eq_some_iff.1 hs).1 (fun e' => by obtain ⟨o, ho, hc⟩ := hrow B e'.symm; rw [show X.heap[B]? = _ from hs] at ho; cases ho; cases hc)).trans hs
theorem ends_any_eq (lo hi : Ic) (f : Ic → Bool) : ((endsL lo hi).any fun x => f x.1) = (f hi || f lo) := by
  unfold endsL
  split
  · rename_i h
    obtain rfl := sameI_iff.1 h
    simp
  · simp
theorem ends_all_eq (lo hi : Ic) (f : Ic → Bool) : ((endsL lo hi).all fun x => f x.1) = (f hi && f lo) := by
  unfold endsL
  split
  · rename_i h
    obtain rfl := sameI_iff.1 h
    simp
  · simp
set_option maxHeartbeats 4000000 in
theorem oneAndAll_any (g : Nat) (lb : Array Value) (eg : ∀ args w, (callFunc g args).run Tryz.prog w = .ok (.enter g args) w) (f : Ic → Bool) (lo hi : Ic) (w : World)
    (hstep : ∀ (x : EndI lo hi) (W : World), Below w.heap.size w W → Calls Tryz.prog g (#[.agg (iceV x.1)] ++ lb) W fun e W' => e = .returned (.bool (f x.1)) ∧ Below W.heap.size W W') :
    Calls Tryz.prog 139 #[.agg (cellV lo hi), .func (.func g) #[] lb] w fun e w' => e = .returned (.tuple #[.bool (f hi || f lo), .bool (f hi && f lo)]) ∧ Below w.heap.size w w' := by
  refine (callsIn_wide (n := 6)).1 ?_
  refine callsIn_of_wp_marks Tryz.func139 rfl trivial ?_ rfl
  simp only [Tryz.ntmps139, List.size_toArray, List.length_cons, List.length_nil, Nat.reduceAdd, Nat.reduceSub, Array.replicate_succ, Array.replicate_zero, List.push_toArray, List.append_toArray, List.nil_append, List.cons_append]
  gi_wp2_with (refine ⟨trivial, ?_⟩; gi_at_call 138; refine (callsIn_wide.2 (ends_any lo hi _)).mono ?_; rintro e w' ⟨rfl, rfl⟩)
  have b3 := (((Boxed.new (w.alloc (.cells (cellV lo hi) 30)) 204 (.func (.func g) #[] lb)).alloc (.cells #[.bool false] 4)).alloc (.cells #[.bool true] 4)).alloc (.cells (cellV lo hi) 30)
  have b6 := ((Boxed.new ((w.alloc (.cells (cellV lo hi) 30)).alloc (.cells #[.func (.func g) #[] lb] 204)) 4 (.bool false)).alloc (.cells #[.bool true] 4)).alloc (.cells (cellV lo hi) 30)
  have b7 := (Boxed.new (((w.alloc (.cells (cellV lo hi) 30)).alloc (.cells #[.func (.func g) #[] lb] 204)).alloc (.cells #[.bool false] 4)) 4 (.bool true)).alloc (.cells (cellV lo hi) 30)
  have b8 := block_new ((((w.alloc (.cells (cellV lo hi) 30)).alloc (.cells #[.func (.func g) #[] lb] 204)).alloc (.cells #[.bool false] 4)).alloc (.cells #[.bool true] 4)) (.cells (cellV lo hi) 30)
  simp only [World.size_alloc] at b3 b6 b7 b8
  have hB0 : Below w.heap.size w (((((w.alloc (.cells (cellV lo hi) 30)).alloc (.cells #[.func (.func g) #[] lb] 204)).alloc (.cells #[.bool false] 4)).alloc (.cells #[.bool true] 4)).alloc (.cells (cellV lo hi) 30)) :=
    (((((Below.refl _ w).alloc (Nat.le_refl _) _).alloc (by simp) _).alloc (by simp; omega) _).alloc (by simp; omega) _).alloc (by simp; omega) _
  have hsz : (((((w.alloc (.cells (cellV lo hi) 30)).alloc (.cells #[.func (.func g) #[] lb] 204)).alloc (.cells #[.bool false] 4)).alloc (.cells #[.bool true] 4)).alloc (.cells (cellV lo hi) 30)).heap.size = w.heap.size + 5 := by simp
  obtain ⟨W0, hW0⟩ : ∃ W0, ((((w.alloc (.cells (cellV lo hi) 30)).alloc (.cells #[.func (.func g) #[] lb] 204)).alloc (.cells #[.bool false] 4)).alloc (.cells #[.bool true] 4)).alloc (.cells (cellV lo hi) 30) = W0 := ⟨_, rfl⟩
  rw [hW0] at b3 b6 b7 b8 hB0 hsz ⊢
  clear hW0
  refine wpIn_rangeFunc_ownH rfl (by decide) (gf := 177) (lb := #[.pointer (some ⟨w.heap.size + 1 + 1 + 1 + 1, 0, none⟩)]) rfl trivial (enters_of Tryz.func177 (by kernel_rfl) rfl)
    (ends_stops 5 (by decide) lo hi (w.heap.size + 1 + 1 + 1 + 1) w.heap.size (w.heap.size + 5) W0 (by omega) b8) KpB.trans (KpB.put (by omega)) (Below.refl _ _) (fun _ => rfl)
    (fun pre W => (Boxed W (w.heap.size + 1 + 1) 4 (.bool (pre.any fun x => f x.1)) ∧ Boxed W (w.heap.size + 1 + 1 + 1) 4 (.bool (pre.all fun x => f x.1)) ∧ Boxed W (w.heap.size + 1) 204 (.func (.func g) #[] lb)) ∧ (Below w.heap.size w W ∧ w.heap.size + 5 ≤ W.heap.size))
    (fun _ _ _ => False)
    (OwnFrom.and (OwnFrom.and (Own.from (boxed_own _ _ _) _) (OwnFrom.and (Own.from (boxed_own _ _ _) _) (Own.from (boxed_own _ _ _) _))) (OwnFrom.and (ownFrom_below (Nat.le_refl _) (by omega)) (fun _ _ _ _ hs hg _ => Nat.le_trans hs hg.size)))
    (fun _ _ _ _ _ hs _ _ => hs)
    ⟨⟨b6, b7, b3⟩, hB0, by omega⟩
    (fun x a' W => ∃ Bx, w.heap.size + 5 ≤ Bx ∧ W.heap[Bx]? = some (.cells (iceV x.1) 26 (0, 0)) ∧ a' = { tmps := #[.agg (cellV lo hi), .func (.func g) #[] lb, .pointer (some ⟨w.heap.size, 0, none⟩), .pointer (some ⟨w.heap.size + 1, 0, none⟩), .bool false, .bool false, .pointer (some ⟨w.heap.size + 1 + 1, 0, none⟩), .pointer (some ⟨w.heap.size + 1 + 1 + 1, 0, none⟩), .pointer (some ⟨Bx, 0, none⟩), undef, .agg (cellV lo hi), .func (.func 177) #[] #[.pointer (some ⟨w.heap.size + 1 + 1 + 1 + 1, 0, none⟩)], .agg (iceV x.1), undef, undef, undef, undef, undef, undef, undef, undef, undef, undef, undef, undef, undef], defers := [] })
    (fun x a' _ X Y row hs hg hr => by obtain ⟨Bx, h1, h2, h3⟩ := hs; exact ⟨Bx, h1, cells_own Bx 26 (iceV x.1) () X Y row h2 hg (fun r e => (hr r e).2), h3⟩)
    ?assign ?body ?done ?stop
  case assign =>
    rintro l pre x W K ⟨⟨bS1, bS2, bS3⟩, hB1, hz1⟩ hK
    gi_wp2
    exact hK _ _ ((KeepsOthers.alloc _ _).from _) (KpB.of_below hB1.size ((Below.refl _ W).alloc (Nat.le_refl _) _)) ⟨⟨bS1.alloc _, bS2.alloc _, bS3.alloc _⟩, hB1.alloc hB1.size _, by simp; omega⟩ ⟨W.heap.size, hz1, block_new W _, rfl⟩
  case body =>
    rintro l pre x a' W hl ⟨r, hr⟩ ⟨⟨bS1, bS2, bS3⟩, hB1, hz1⟩ ⟨Bx, hBx, bX, rfl⟩ hlt
    have h1' : 1 ≤ 6 - 1 - 1 := by decide
    have c3 := bS3.cell
    obtain ⟨⟨x0, x1, x2, x3⟩, _⟩ := cells4 bX
    have HC := Lib.hid (hstep x W hB1)
    have HBX := Lib.hid bX
    have HB1 := Lib.hid hB1
    have HS1 := Lib.hid bS1
    have HS2 := Lib.hid bS2
    have HS3 := Lib.hid bS3
    clear bX hB1 bS1 bS2 bS3 hstep hr
    rcases Bool.eq_false_or_eq_true (pre.any fun x => f x.1) with h1 | h1 <;> rcases Bool.eq_false_or_eq_true (pre.all fun x => f x.1) with h2 | h2
    · have HANY := Lib.hid (show (pre ++ [x]).any (fun x => f x.1) = true by rw [List.any_append, h1]; simp)
      have HALL := Lib.hid (show (pre ++ [x]).all (fun x => f x.1) = f x.1 by rw [List.all_append, h2]; simp)
      rw [h1] at HS1
      rw [h2] at HS2
      clear h1 h2
      generalize f x.1 = y at *
      gi_wp2_with (refine ⟨trivial, ?_⟩; refine (CallsIn.inRound l (callsIn_wide.2 HC.out)).mono ?_; rintro e W1 ⟨rfl, hb1⟩; have HT1 := Lib.hid (boxed_below HS1.out hb1); have HT2 := Lib.hid (boxed_below HS2.out hb1); have HT3 := Lib.hid (boxed_below HS3.out hb1); have d6 := HT1.out.cell; have d7 := HT2.out.cell; have g6 := HT1.out.frozen; have g7 := HT2.out.frozen; have HB2 := Lib.hid (HB1.out.trans (hb1.mono HB1.out.size)); have HKF := Lib.hid (keepsFrom_below (B := W0.heap.size) hb1); have HKP := Lib.hid (KpB.of_below (M := w.heap.size + 5) HB1.out.size hb1); have hz2 := hb1.size; clear hb1)
      refine ⟨HKF.out.trans (((KeepsOthers.setCell _ _ _).from _).trans ((KeepsOthers.setCell _ _ _).from _)), HKP.out.trans (KpB.trans (KpB.setCell _ _ _ _ (by omega) (by omega)) (KpB.setCell _ _ _ _ (by omega) (by omega))), ⟨?_, ?_, ?_⟩, ?_, ?_⟩
      · exact by rw [HANY.out]; exact (HT1.out.set _).other (by omega) _
      · exact by rw [HALL.out]; exact (HT2.out.other (by omega) _).set _
      · exact (HT3.out.other (by omega) _).other (by omega) _
      · exact (HB2.out.setCell (p := ⟨w.heap.size + 1 + 1, 0, none⟩) (by simp; omega) _).setCell (p := ⟨w.heap.size + 1 + 1 + 1, 0, none⟩) (by simp; omega) _
      · simp [World.setCell]; omega
    · have HANY := Lib.hid (show (pre ++ [x]).any (fun x => f x.1) = true by rw [List.any_append, h1]; simp)
      have HALL := Lib.hid (show (pre ++ [x]).all (fun x => f x.1) = false by rw [List.all_append, h2]; simp)
      rw [h1] at HS1
      rw [h2] at HS2
      clear h1 h2
      generalize f x.1 = y at *
      gi_wp2_with (refine ⟨trivial, ?_⟩; refine (CallsIn.inRound l (callsIn_wide.2 HC.out)).mono ?_; rintro e W1 ⟨rfl, hb1⟩; have HT1 := Lib.hid (boxed_below HS1.out hb1); have HT2 := Lib.hid (boxed_below HS2.out hb1); have HT3 := Lib.hid (boxed_below HS3.out hb1); have d6 := HT1.out.cell; have d7 := HT2.out.cell; have g6 := HT1.out.frozen; have g7 := HT2.out.frozen; have HB2 := Lib.hid (HB1.out.trans (hb1.mono HB1.out.size)); have HKF := Lib.hid (keepsFrom_below (B := W0.heap.size) hb1); have HKP := Lib.hid (KpB.of_below (M := w.heap.size + 5) HB1.out.size hb1); have hz2 := hb1.size; clear hb1)
      refine ⟨HKF.out.trans (((KeepsOthers.setCell _ _ _).from _).trans ((KeepsOthers.setCell _ _ _).from _)), HKP.out.trans (KpB.trans (KpB.setCell _ _ _ _ (by omega) (by omega)) (KpB.setCell _ _ _ _ (by omega) (by omega))), ⟨?_, ?_, ?_⟩, ?_, ?_⟩
      · exact by rw [HANY.out]; exact (HT1.out.set _).other (by omega) _
      · exact by rw [HALL.out]; exact (HT2.out.other (by omega) _).set _
      · exact (HT3.out.other (by omega) _).other (by omega) _
      · exact (HB2.out.setCell (p := ⟨w.heap.size + 1 + 1, 0, none⟩) (by simp; omega) _).setCell (p := ⟨w.heap.size + 1 + 1 + 1, 0, none⟩) (by simp; omega) _
      · simp [World.setCell]; omega
    · have HANY := Lib.hid (show (pre ++ [x]).any (fun x => f x.1) = f x.1 by rw [List.any_append, h1]; simp)
      have HALL := Lib.hid (show (pre ++ [x]).all (fun x => f x.1) = f x.1 by rw [List.all_append, h2]; simp)
      rw [h1] at HS1
      rw [h2] at HS2
      clear h1 h2
      generalize f x.1 = y at *
      gi_wp2_with (refine ⟨trivial, ?_⟩; refine (CallsIn.inRound l (callsIn_wide.2 HC.out)).mono ?_; rintro e W1 ⟨rfl, hb1⟩; have HT1 := Lib.hid (boxed_below HS1.out hb1); have HT2 := Lib.hid (boxed_below HS2.out hb1); have HT3 := Lib.hid (boxed_below HS3.out hb1); have d6 := HT1.out.cell; have d7 := HT2.out.cell; have g6 := HT1.out.frozen; have g7 := HT2.out.frozen; have HB2 := Lib.hid (HB1.out.trans (hb1.mono HB1.out.size)); have HKF := Lib.hid (keepsFrom_below (B := W0.heap.size) hb1); have HKP := Lib.hid (KpB.of_below (M := w.heap.size + 5) HB1.out.size hb1); have hz2 := hb1.size; clear hb1)
      refine ⟨HKF.out.trans (((KeepsOthers.setCell _ _ _).from _).trans ((KeepsOthers.setCell _ _ _).from _)), HKP.out.trans (KpB.trans (KpB.setCell _ _ _ _ (by omega) (by omega)) (KpB.setCell _ _ _ _ (by omega) (by omega))), ⟨?_, ?_, ?_⟩, ?_, ?_⟩
      · exact by rw [HANY.out]; exact (HT1.out.set _).other (by omega) _
      · exact by rw [HALL.out]; exact (HT2.out.other (by omega) _).set _
      · exact (HT3.out.other (by omega) _).other (by omega) _
      · exact (HB2.out.setCell (p := ⟨w.heap.size + 1 + 1, 0, none⟩) (by simp; omega) _).setCell (p := ⟨w.heap.size + 1 + 1 + 1, 0, none⟩) (by simp; omega) _
      · simp [World.setCell]; omega
    · have HANY := Lib.hid (show (pre ++ [x]).any (fun x => f x.1) = f x.1 by rw [List.any_append, h1]; simp)
      have HALL := Lib.hid (show (pre ++ [x]).all (fun x => f x.1) = false by rw [List.all_append, h2]; simp)
      rw [h1] at HS1
      rw [h2] at HS2
      clear h1 h2
      generalize f x.1 = y at *
      gi_wp2_with (refine ⟨trivial, ?_⟩; refine (CallsIn.inRound l (callsIn_wide.2 HC.out)).mono ?_; rintro e W1 ⟨rfl, hb1⟩; have HT1 := Lib.hid (boxed_below HS1.out hb1); have HT2 := Lib.hid (boxed_below HS2.out hb1); have HT3 := Lib.hid (boxed_below HS3.out hb1); have d6 := HT1.out.cell; have d7 := HT2.out.cell; have g6 := HT1.out.frozen; have g7 := HT2.out.frozen; have HB2 := Lib.hid (HB1.out.trans (hb1.mono HB1.out.size)); have HKF := Lib.hid (keepsFrom_below (B := W0.heap.size) hb1); have HKP := Lib.hid (KpB.of_below (M := w.heap.size + 5) HB1.out.size hb1); have hz2 := hb1.size; clear hb1)
      refine ⟨HKF.out.trans (((KeepsOthers.setCell _ _ _).from _).trans ((KeepsOthers.setCell _ _ _).from _)), HKP.out.trans (KpB.trans (KpB.setCell _ _ _ _ (by omega) (by omega)) (KpB.setCell _ _ _ _ (by omega) (by omega))), ⟨?_, ?_, ?_⟩, ?_, ?_⟩
      · exact by rw [HANY.out]; exact (HT1.out.set _).other (by omega) _
      · exact by rw [HALL.out]; exact (HT2.out.other (by omega) _).set _
      · exact (HT3.out.other (by omega) _).other (by omega) _
      · exact (HB2.out.setCell (p := ⟨w.heap.size + 1 + 1, 0, none⟩) (by simp; omega) _).setCell (p := ⟨w.heap.size + 1 + 1 + 1, 0, none⟩) (by simp; omega) _
      · simp [World.setCell]; omega
  case done =>
    rintro D xs W hD rfl ⟨⟨bS1, bS2, bS3⟩, hB1, hz1⟩ hK
    have c6 := bS1.cell
    have c7 := bS2.cell
    gi_wp2
    refine wpIn_wide.2 ?_
    go_quiet (fail)
    gi_wp2
    refine ⟨by simp, .inl ⟨_, _, rfl, run_takeDeferred (show (W.drewN nq).heap[D]? = some (.deferred (some [])) from hK), ?_⟩⟩
    refine ⟨.tuple #[.bool ((endsL lo hi).any fun x => f x.1), .bool ((endsL lo hi).all fun x => f x.1)], by simp [results, Tryz.results139, go_sem], ?_, (below_drewN hB1 nq).trans (belowK_b (w := w) (Nat.le_refl _) (W.drewN nq) D _ _ (by omega) hK rfl rfl)⟩
    rw [ends_any_eq, ends_all_eq]
  case stop =>
    rintro D c pre W _ _ h _
    exact h.elim
end Go.Proofs.YtcoiklolgilhaaaGreatDoor
