/- The contract of the law's ends: the least and the most ice of a cell. -/
import Derived.Test.YtcoiklolgilhaaaDoorQo
namespace Go.Proofs.YtcoiklolgilhaaaDoor
open Go.RowKit
set_option maxRecDepth 100000
section
variable {Q : Exit → Act → World → Prop} {o : Oper} {a' : Act} {W : World}
theorem op_fa59 {s b k : Nat} (hop : o.op = Op.fieldAddr 59 (.tmp s) k) (he : a'.eval (.tmp s) = .pointer (some ⟨b, 0, none⟩)) (hk : k < 4) :
    o.wp Tryd.prog a' W (fun a'' W' => a'' = a'.put o.dst (.pointer (some ⟨b, 2 * k, none⟩)) ∧ Below W.heap.size W W') Q := by
  have hr := Below.refl W.heap.size W
  have he' : a'.tmps[s]?.getD undef = .pointer (some ⟨b, 0, none⟩) := by simpa [Act.eval] using he
  unfold Oper.wp execOp
  rw [hop]
  have : k = 0 ∨ k = 1 ∨ k = 2 ∨ k = 3 := by omega
  rcases this with rfl | rfl | rfl | rfl <;> simp [go_sem, he', hr]
theorem op_fa57o {s b k off : Nat} (hop : o.op = Op.fieldAddr 57 (.tmp s) k) (he : a'.eval (.tmp s) = .pointer (some ⟨b, off, none⟩)) (hk : k < 2) :
    o.wp Tryd.prog a' W (fun a'' W' => a'' = a'.put o.dst (.pointer (some ⟨b, off + k, none⟩)) ∧ Below W.heap.size W W') Q := by
  have hr := Below.refl W.heap.size W
  have he' : a'.tmps[s]?.getD undef = .pointer (some ⟨b, off, none⟩) := by simpa [Act.eval] using he
  unfold Oper.wp execOp
  rw [hop]
  have : k = 0 ∨ k = 1 := by omega
  rcases this with rfl | rfl <;> simp [go_sem, he', hr]
theorem op_b53 {s0 s1 s2 s3 : Nat} {x0 x1 x2 x3 : Int} (hop : o.op = Op.build 53 #[(0, .tmp s0), (1, .tmp s1), (2, .tmp s2), (3, .tmp s3)]) (h0 : a'.eval (.tmp s0) = .int .i64 x0) (h1 : a'.eval (.tmp s1) = .int .i64 x1) (h2 : a'.eval (.tmp s2) = .int .i64 x2) (h3 : a'.eval (.tmp s3) = .int .i64 x3) :
    o.wp Tryd.prog a' W (fun a'' W' => a'' = a'.put o.dst (.agg #[.int .i64 x0, .int .i64 x1, .int .i64 x2, .int .i64 x3]) ∧ Below W.heap.size W W') Q := by
  have hr := Below.refl W.heap.size W
  have h0' : a'.tmps[s0]?.getD undef = .int .i64 x0 := by simpa [Act.eval] using h0
  have h1' : a'.tmps[s1]?.getD undef = .int .i64 x1 := by simpa [Act.eval] using h1
  have h2' : a'.tmps[s2]?.getD undef = .int .i64 x2 := by simpa [Act.eval] using h2
  have h3' : a'.tmps[s3]?.getD undef = .int .i64 x3 := by simpa [Act.eval] using h3
  unfold Oper.wp execOp
  rw [hop]
  simp [go_sem, h0', h1', h2', h3', hr]
theorem opx_store53 {s r b : Nat} {t : TypeId} {x0 x1 x2 x3 y0 y1 y2 y3 : Int} {Rq : Value → World → Prop} (hd : o.dst = none) (hop : o.op = Op.store 53 (.tmp s) (.tmp r))
    (he : a'.eval (.tmp s) = .pointer (some ⟨b, 0, none⟩)) (hv : a'.eval (.tmp r) = .agg #[.int .i64 y0, .int .i64 y1, .int .i64 y2, .int .i64 y3]) (hb : W.heap[b]? = some (.cells #[.int .i64 x0, .int .i64 x1, .int .i64 x2, .int .i64 x3] t (0, 0)))
    (hR : ∀ W', W'.heap[b]? = some (.cells #[.int .i64 y0, .int .i64 y1, .int .i64 y2, .int .i64 y3] t (0, 0)) → Chg b W W' → Rq undef W') :
    o.wp Tryd.prog a' W (fun a'' W' => ∃ x, a'' = a'.put o.dst x ∧ Rq x W') Q := by
  obtain ⟨⟨c0, c1, c2, c3⟩, f0, f1, f2, f3⟩ := cells4 hb
  have he' : a'.tmps[s]?.getD undef = .pointer (some ⟨b, 0, none⟩) := by simpa [Act.eval] using he
  have hv' : a'.tmps[r]?.getD undef = .agg #[.int .i64 y0, .int .i64 y1, .int .i64 y2, .int .i64 y3] := by simpa [Act.eval] using hv
  have hfin := hR (World.store4 W b (.int .i64 y0) (.int .i64 y1) (.int .i64 y2) (.int .i64 y3)) (store4_block hb _ _ _ _) (chg_store4 _ _ _ _ _ _)
  unfold World.store4 at hfin
  unfold Oper.wp execOp
  rw [hop]
  simp [go_sem, he', hv', c0, c1, c2, c3, f0, f1, f2, f3, hd]
  exact ⟨_, hfin⟩
end
abbrev Z53 : Obj := .cells #[.int .i64 0, .int .i64 0, .int .i64 0, .int .i64 0] 53 (0, 0)
structure En (w : World) (lo hi : Ic) (b1 b2 b3 : Nat) (L : Nat → Bool) (W : World) : Prop where
  low : Below w.heap.size w W
  c : W.heap[b1]? = some (.cells (cellV lo hi) 59 (0, 0))
  x : W.heap[b2]? = some (if L 26 = true then .cells (iceV lo) 53 (0, 0) else Z53)
  y : W.heap[b3]? = some (if L 27 = true then .cells (iceV hi) 53 (0, 0) else Z53)
theorem En.later {w W W' : World} {lo hi : Ic} {b1 b2 b3 : Nat} {L : Nat → Bool} (h : En w lo hi b1 b2 b3 L W) (hb : Below W.heap.size W W') : En w lo hi b1 b2 b3 L W' :=
  ⟨h.low.trans (hb.mono h.low.size), (hb.block _ (lt_of_block h.c)).trans h.c, (hb.block _ (lt_of_block h.x)).trans h.x, (hb.block _ (lt_of_block h.y)).trans h.y⟩
theorem En.set {w W : World} {lo hi : Ic} {b1 b2 b3 : Nat} {L : Nat → Bool} (h : En w lo hi b1 b2 b3 L W) (i : Nat) (h1 : i ≠ 26) (h2 : i ≠ 27) : En w lo hi b1 b2 b3 (fun j => if j = i then true else L j) W := by
  refine ⟨h.low, h.c, ?_, ?_⟩
  · simp only [if_neg (Ne.symm h1)]; exact h.x
  · simp only [if_neg (Ne.symm h2)]; exact h.y
def enF (lo hi : Ic) (b1 : Nat) : Nat → Value → Prop
  | 0, v => v = .pointer (some ⟨b1, 0, none⟩)
  | 1, v => v = .pointer (some ⟨b1, 0 + 0, none⟩)
  | 2, v => v = .int .i64 lo.conc
  | 3, v => v = .pointer (some ⟨b1, 2, none⟩)
  | 4, v => v = .pointer (some ⟨b1, 2 + 0, none⟩)
  | 5, v => v = .int .i64 lo.thick
  | 6, v => v = .pointer (some ⟨b1, 4, none⟩)
  | 7, v => v = .pointer (some ⟨b1, 4 + 0, none⟩)
  | 8, v => v = .int .i64 lo.ridge
  | 9, v => v = .pointer (some ⟨b1, 6, none⟩)
  | 10, v => v = .pointer (some ⟨b1, 6 + 0, none⟩)
  | 11, v => v = .int .i64 lo.press
  | 12, v => v = .agg (iceV lo)
  | 13, v => v = .pointer (some ⟨b1, 0, none⟩)
  | 14, v => v = .pointer (some ⟨b1, 0 + 1, none⟩)
  | 15, v => v = .int .i64 hi.conc
  | 16, v => v = .pointer (some ⟨b1, 2, none⟩)
  | 17, v => v = .pointer (some ⟨b1, 2 + 1, none⟩)
  | 18, v => v = .int .i64 hi.thick
  | 19, v => v = .pointer (some ⟨b1, 4, none⟩)
  | 20, v => v = .pointer (some ⟨b1, 4 + 1, none⟩)
  | 21, v => v = .int .i64 hi.ridge
  | 22, v => v = .pointer (some ⟨b1, 6, none⟩)
  | 23, v => v = .pointer (some ⟨b1, 6 + 1, none⟩)
  | 24, v => v = .int .i64 hi.press
  | 25, v => v = .agg (iceV hi)
  | 26, _ => True
  | 27, _ => True
  | _, _ => True
set_option maxHeartbeats 4000000 in
theorem ends25_any (lo hi : Ic) (w : World) :
    Calls Tryd.prog 25 #[.agg (cellV lo hi)] w fun e w' => e = .returned (.tuple #[.agg (iceV lo), .agg (iceV hi)]) ∧ Below w.heap.size w w' := by
  obtain ⟨t1, t2, t3, tz, tb⟩ := three_allocs w (.cells (cellV lo hi) 59) Z53 Z53
  have H1 := Lib.hid t1
  have H2 := Lib.hid t2
  have H3 := Lib.hid t3
  have HB := Lib.hid tb
  clear t1 t2 t3 tb
  go_enter Tryd.func25, Tryd.ntmps25
  go_wp2_with fail
  generalize ((w.alloc (.cells (cellV lo hi) 59)).alloc Z53).alloc Z53 = X at *
  refine wp_region_fi [4, 5, 6, 7, 8, 9, 10, 11, 12, 13, 14, 15, 16, 17, 18, 19, 20, 21, 22, 23, 24, 25, 26, 27, 28, 29, 1000, 1001] (enF lo hi w.heap.size) (fun L _ W' => En w lo hi w.heap.size (w.heap.size + 1) (w.heap.size + 1 + 1) L W') (by kernel_rfl) (by kernel_rfl) ?sz ?ts ?z ?val ?fin
  case sz => intro s hs h; simp at hs ⊢; omega
  case ts => simp
  case z => exact En.later ⟨HB.out, H1.out, by simp only [if_neg (show ¬ false = true by simp)]; exact H2.out, by simp only [if_neg (show ¬ false = true by simp)]; exact H3.out⟩ (below_drawn X)
  case val =>
    intro i
    match i with
    | 0 => intro o L V ho hL hd a' W hX hfr hdp; obtain rfl := Option.some.inj ho; exact opx_of (op_fa59 rfl (hfr 1 (by decide)) (by decide)) fun W' hb => ⟨rfl, (hX.later hb).set 0 (by decide) (by decide)⟩
    | 1 => intro o L V ho hL hd a' W hX hfr hdp; obtain rfl := Option.some.inj ho; exact opx_of (op_fa57o rfl (Dp (hdp 0 4 (by decide) rfl (by kernel_rfl)) id) (by decide)) fun W' hb => ⟨rfl, (hX.later hb).set 1 (by decide) (by decide)⟩
    | 2 => intro o L V ho hL hd a' W hX hfr hdp; obtain rfl := Option.some.inj ho; exact opx_of (op_load3o rfl (Dp (hdp 1 5 (by decide) rfl (by kernel_rfl)) id) ((cell_of_block hX.c (0 + 0)).trans rfl)) fun W' hb => ⟨rfl, (hX.later hb).set 2 (by decide) (by decide)⟩
    | 3 => intro o L V ho hL hd a' W hX hfr hdp; obtain rfl := Option.some.inj ho; exact opx_of (op_fa59 rfl (hfr 1 (by decide)) (by decide)) fun W' hb => ⟨rfl, (hX.later hb).set 3 (by decide) (by decide)⟩
    | 4 => intro o L V ho hL hd a' W hX hfr hdp; obtain rfl := Option.some.inj ho; exact opx_of (op_fa57o rfl (Dp (hdp 3 7 (by decide) rfl (by kernel_rfl)) id) (by decide)) fun W' hb => ⟨rfl, (hX.later hb).set 4 (by decide) (by decide)⟩
    | 5 => intro o L V ho hL hd a' W hX hfr hdp; obtain rfl := Option.some.inj ho; exact opx_of (op_load3o rfl (Dp (hdp 4 8 (by decide) rfl (by kernel_rfl)) id) ((cell_of_block hX.c (2 + 0)).trans rfl)) fun W' hb => ⟨rfl, (hX.later hb).set 5 (by decide) (by decide)⟩
    | 6 => intro o L V ho hL hd a' W hX hfr hdp; obtain rfl := Option.some.inj ho; exact opx_of (op_fa59 rfl (hfr 1 (by decide)) (by decide)) fun W' hb => ⟨rfl, (hX.later hb).set 6 (by decide) (by decide)⟩
    | 7 => intro o L V ho hL hd a' W hX hfr hdp; obtain rfl := Option.some.inj ho; exact opx_of (op_fa57o rfl (Dp (hdp 6 10 (by decide) rfl (by kernel_rfl)) id) (by decide)) fun W' hb => ⟨rfl, (hX.later hb).set 7 (by decide) (by decide)⟩
    | 8 => intro o L V ho hL hd a' W hX hfr hdp; obtain rfl := Option.some.inj ho; exact opx_of (op_load3o rfl (Dp (hdp 7 11 (by decide) rfl (by kernel_rfl)) id) ((cell_of_block hX.c (4 + 0)).trans rfl)) fun W' hb => ⟨rfl, (hX.later hb).set 8 (by decide) (by decide)⟩
    | 9 => intro o L V ho hL hd a' W hX hfr hdp; obtain rfl := Option.some.inj ho; exact opx_of (op_fa59 rfl (hfr 1 (by decide)) (by decide)) fun W' hb => ⟨rfl, (hX.later hb).set 9 (by decide) (by decide)⟩
    | 10 => intro o L V ho hL hd a' W hX hfr hdp; obtain rfl := Option.some.inj ho; exact opx_of (op_fa57o rfl (Dp (hdp 9 13 (by decide) rfl (by kernel_rfl)) id) (by decide)) fun W' hb => ⟨rfl, (hX.later hb).set 10 (by decide) (by decide)⟩
    | 11 => intro o L V ho hL hd a' W hX hfr hdp; obtain rfl := Option.some.inj ho; exact opx_of (op_load3o rfl (Dp (hdp 10 14 (by decide) rfl (by kernel_rfl)) id) ((cell_of_block hX.c (6 + 0)).trans rfl)) fun W' hb => ⟨rfl, (hX.later hb).set 11 (by decide) (by decide)⟩
    | 12 => intro o L V ho hL hd a' W hX hfr hdp; obtain rfl := Option.some.inj ho; exact opx_of (op_b53 rfl (Dp (hdp 2 6 (by decide) rfl (by kernel_rfl)) id) (Dp (hdp 5 9 (by decide) rfl (by kernel_rfl)) id) (Dp (hdp 8 12 (by decide) rfl (by kernel_rfl)) id) (Dp (hdp 11 15 (by decide) rfl (by kernel_rfl)) id)) fun W' hb => ⟨rfl, (hX.later hb).set 12 (by decide) (by decide)⟩
    | 13 => intro o L V ho hL hd a' W hX hfr hdp; obtain rfl := Option.some.inj ho; exact opx_of (op_fa59 rfl (hfr 1 (by decide)) (by decide)) fun W' hb => ⟨rfl, (hX.later hb).set 13 (by decide) (by decide)⟩
    | 14 => intro o L V ho hL hd a' W hX hfr hdp; obtain rfl := Option.some.inj ho; exact opx_of (op_fa57o rfl (Dp (hdp 13 17 (by decide) rfl (by kernel_rfl)) id) (by decide)) fun W' hb => ⟨rfl, (hX.later hb).set 14 (by decide) (by decide)⟩
    | 15 => intro o L V ho hL hd a' W hX hfr hdp; obtain rfl := Option.some.inj ho; exact opx_of (op_load3o rfl (Dp (hdp 14 18 (by decide) rfl (by kernel_rfl)) id) ((cell_of_block hX.c (0 + 1)).trans rfl)) fun W' hb => ⟨rfl, (hX.later hb).set 15 (by decide) (by decide)⟩
    | 16 => intro o L V ho hL hd a' W hX hfr hdp; obtain rfl := Option.some.inj ho; exact opx_of (op_fa59 rfl (hfr 1 (by decide)) (by decide)) fun W' hb => ⟨rfl, (hX.later hb).set 16 (by decide) (by decide)⟩
    | 17 => intro o L V ho hL hd a' W hX hfr hdp; obtain rfl := Option.some.inj ho; exact opx_of (op_fa57o rfl (Dp (hdp 16 20 (by decide) rfl (by kernel_rfl)) id) (by decide)) fun W' hb => ⟨rfl, (hX.later hb).set 17 (by decide) (by decide)⟩
    | 18 => intro o L V ho hL hd a' W hX hfr hdp; obtain rfl := Option.some.inj ho; exact opx_of (op_load3o rfl (Dp (hdp 17 21 (by decide) rfl (by kernel_rfl)) id) ((cell_of_block hX.c (2 + 1)).trans rfl)) fun W' hb => ⟨rfl, (hX.later hb).set 18 (by decide) (by decide)⟩
    | 19 => intro o L V ho hL hd a' W hX hfr hdp; obtain rfl := Option.some.inj ho; exact opx_of (op_fa59 rfl (hfr 1 (by decide)) (by decide)) fun W' hb => ⟨rfl, (hX.later hb).set 19 (by decide) (by decide)⟩
    | 20 => intro o L V ho hL hd a' W hX hfr hdp; obtain rfl := Option.some.inj ho; exact opx_of (op_fa57o rfl (Dp (hdp 19 23 (by decide) rfl (by kernel_rfl)) id) (by decide)) fun W' hb => ⟨rfl, (hX.later hb).set 20 (by decide) (by decide)⟩
    | 21 => intro o L V ho hL hd a' W hX hfr hdp; obtain rfl := Option.some.inj ho; exact opx_of (op_load3o rfl (Dp (hdp 20 24 (by decide) rfl (by kernel_rfl)) id) ((cell_of_block hX.c (4 + 1)).trans rfl)) fun W' hb => ⟨rfl, (hX.later hb).set 21 (by decide) (by decide)⟩
    | 22 => intro o L V ho hL hd a' W hX hfr hdp; obtain rfl := Option.some.inj ho; exact opx_of (op_fa59 rfl (hfr 1 (by decide)) (by decide)) fun W' hb => ⟨rfl, (hX.later hb).set 22 (by decide) (by decide)⟩
    | 23 => intro o L V ho hL hd a' W hX hfr hdp; obtain rfl := Option.some.inj ho; exact opx_of (op_fa57o rfl (Dp (hdp 22 26 (by decide) rfl (by kernel_rfl)) id) (by decide)) fun W' hb => ⟨rfl, (hX.later hb).set 23 (by decide) (by decide)⟩
    | 24 => intro o L V ho hL hd a' W hX hfr hdp; obtain rfl := Option.some.inj ho; exact opx_of (op_load3o rfl (Dp (hdp 23 27 (by decide) rfl (by kernel_rfl)) id) ((cell_of_block hX.c (6 + 1)).trans rfl)) fun W' hb => ⟨rfl, (hX.later hb).set 24 (by decide) (by decide)⟩
    | 25 => intro o L V ho hL hd a' W hX hfr hdp; obtain rfl := Option.some.inj ho; exact opx_of (op_b53 rfl (Dp (hdp 15 19 (by decide) rfl (by kernel_rfl)) id) (Dp (hdp 18 22 (by decide) rfl (by kernel_rfl)) id) (Dp (hdp 21 25 (by decide) rfl (by kernel_rfl)) id) (Dp (hdp 24 28 (by decide) rfl (by kernel_rfl)) id)) fun W' hb => ⟨rfl, (hX.later hb).set 25 (by decide) (by decide)⟩
    | 26 =>
      intro o L V ho hL hd a' W hX hfr hdp; obtain rfl := Option.some.inj ho
      have hz := hX.x
      rw [hL, if_neg (by simp)] at hz
      exact opx_store53 rfl rfl (hfr 2 (by decide)) (Dp (hdp 12 16 (by decide) rfl (by kernel_rfl)) id) hz fun W' hb hc => ⟨trivial, hX.low.trans (hc.below (by omega)), (hc.2.1 _ (by omega)).trans hX.c, by simp only [if_true]; exact hb, by simpa using (hc.2.1 _ (by omega)).trans hX.y⟩
    | 27 =>
      intro o L V ho hL hd a' W hX hfr hdp; obtain rfl := Option.some.inj ho
      have hz := hX.y
      rw [hL, if_neg (by simp)] at hz
      exact opx_store53 rfl rfl (hfr 3 (by decide)) (Dp (hdp 25 29 (by decide) rfl (by kernel_rfl)) id) hz fun W' hb hc => ⟨trivial, hX.low.trans (hc.below (by omega)), (hc.2.1 _ (by omega)).trans hX.c, by simpa using (hc.2.1 _ (by omega)).trans hX.x, by simp only [if_true]; exact hb⟩
    | j + 28 => intro o L V ho; simp at ho
  case fin =>
    intro W1 L V hL hF hI
    have h1 := hI.x
    have h2 := hI.y
    rw [hL 26 (by decide), if_pos rfl] at h1
    rw [hL 27 (by decide), if_pos rfl] at h2
    have HBE := Lib.hid hI.low
    clear hI hF hL H1 H2 H3 HB
    simp only [fill, Act.put, List.setIfInBounds_toArray, List.set_cons_zero, List.set_cons_succ, List.set_nil, Nat.reduceAdd]
    generalize V 0 = v0, V 1 = v1, V 2 = v2, V 3 = v3, V 4 = v4, V 5 = v5, V 6 = v6, V 7 = v7, V 8 = v8, V 9 = v9, V 10 = v10, V 11 = v11, V 12 = v12, V 13 = v13, V 14 = v14, V 15 = v15, V 16 = v16, V 17 = v17, V 18 = v18, V 19 = v19, V 20 = v20, V 21 = v21, V 22 = v22, V 23 = v23, V 24 = v24, V 25 = v25, V 26 = v26, V 27 = v27
    clear V
    obtain ⟨⟨c0, c1, c2, c3⟩, _⟩ := cells4 h1
    obtain ⟨⟨d0, d1, d2, d3⟩, _⟩ := cells4 h2
    clear h1 h2
    go_wp2_with fail
    refine bodyPost_ret (v := .tuple #[.agg (iceV lo), .agg (iceV hi)]) (by simp [results, Tryd.results25, go_sem, c0, c1, c2, c3, d0, d1, d2, d3, iceV]) rfl ⟨rfl, HBE.out⟩
end Go.Proofs.YtcoiklolgilhaaaDoor
