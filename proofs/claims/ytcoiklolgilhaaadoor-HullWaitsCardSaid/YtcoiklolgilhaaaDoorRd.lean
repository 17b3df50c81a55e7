/- The contracts of the law's Some, of its closure, and of Just: an ice of a right cell, whatever the bytes are. Contracts with their answers named, for the law HullCells. -/
import Derived.Test.YtcoiklolgilhaaaDoorRb
import Derived.Test.YtcoiklolgilhaaaDoorRc
namespace Go.Proofs.YtcoiklolgilhaaaDoor
open Go.RowKit
set_option maxRecDepth 100000
/-- All blocks that were there are as they were, but one. -/
def Kep (b : Nat) (W W' : World) : Prop := W.heap.size ≤ W'.heap.size ∧ ∀ k, k < W.heap.size → k ≠ b → W'.heap[k]? = W.heap[k]?
theorem Kep.refl (b : Nat) (W : World) : Kep b W W := ⟨Nat.le_refl _, fun _ _ _ => rfl⟩
theorem Kep.trans {b : Nat} {A B C : World} (h : Kep b A B) (k : Kep b B C) : Kep b A C := ⟨Nat.le_trans h.1 k.1, fun i hi hb => (k.2 i (Nat.lt_of_lt_of_le hi h.1) hb).trans (h.2 i hi hb)⟩
theorem Kep.of {b : Nat} {W W' : World} (h : Below W.heap.size W W') : Kep b W W' := ⟨h.size, fun i hi _ => h.block i hi⟩
theorem Kep.chg {b : Nat} {W W' : World} (h : Chg b W W') : Kep b W W' := ⟨Nat.le_of_eq h.1.symm, fun i _ hb => h.2.1 i hb⟩
theorem Kep.at {b c : Nat} {W W' : World} (h : Kep b W W') {o : Obj} (hc : c ≠ b) (hb : W.heap[c]? = some o) : W'.heap[c]? = some o := (h.2 c (lt_of_block hb) hc).trans hb
section
variable {Q : Exit → Act → World → Prop} {o : Oper} {a' : Act} {W : World}
theorem op_remt {s t : Nat} {x y : Int} (hop : o.op = Op.binOp .rem 3 (.tmp s) (.tmp t) 3) (he : a'.eval (.tmp s) = .int .i64 x) (ht : a'.eval (.tmp t) = .int .i64 y) (hx : 0 ≤ x) (hy : 0 < y) (hy' : y ≤ 9223372036854775807) :
    o.wp Tryd.prog a' W (fun a'' W' => a'' = a'.put o.dst (.int .i64 (x % y)) ∧ Below W.heap.size W W') Q := by
  have hr := Below.refl W.heap.size W
  have he' : a'.tmps[s]?.getD undef = .int .i64 x := by simpa [Act.eval] using he
  have ht' : a'.tmps[t]?.getD undef = .int .i64 y := by simpa [Act.eval] using ht
  have m0 := Int.emod_nonneg x (show y ≠ 0 by omega)
  have m1 := Int.emod_lt_of_pos x hy
  have hz : y ≠ 0 := by omega
  have ht2 : x.tmod y = x % y := Int.tmod_eq_emod_of_nonneg hx
  unfold Oper.wp execOp
  rw [hop]
  simp [go_sem, he', ht', hz, ht2, hr]
theorem op_load2o {s b off : Nat} {x y : Value} (hop : o.op = Op.load 57 (.tmp s)) (he : a'.eval (.tmp s) = .pointer (some ⟨b, off, none⟩)) (hx : W.cell? ⟨b, off, none⟩ = some x) (hy : W.cell? ⟨b, off + 1, none⟩ = some y) :
    o.wp Tryd.prog a' W (fun a'' W' => a'' = a'.put o.dst (.agg #[x, y]) ∧ Below W.heap.size W W') Q := by
  have hr := Below.refl W.heap.size W
  have he' : a'.tmps[s]?.getD undef = .pointer (some ⟨b, off, none⟩) := by simpa [Act.eval] using he
  unfold Oper.wp execOp
  rw [hop]
  simp [go_sem, he', hx, hy, hr]
end
def so1F (lo hi : Int) (fv : Value) (B : Nat) : Nat → Value → Prop
  | 0, v => v = .pointer (some ⟨B, 0 + 0, none⟩)
  | 1, v => v = .int .i64 lo
  | 2, v => v = fv
  | 3, v => ∃ r : Int, v = .int .i64 r ∧ 0 ≤ r ∧ r < 256
  | 4, v => v = fv
  | 5, v => ∃ r : Int, v = .int .i64 r ∧ 0 ≤ r ∧ r < 2
  | 6, v => ∃ r : Int, v = .int .i64 r ∧ 0 ≤ r ∧ r ≤ 256
  | 7, v => ∃ r : Int, v = .int .i64 r ∧ 0 ≤ r ∧ r ≤ 511
  | 8, v => v = .pointer (some ⟨B, 0 + 1, none⟩)
  | 9, v => v = .int .i64 hi
  | 10, v => v = .pointer (some ⟨B, 0 + 0, none⟩)
  | 11, v => v = .int .i64 lo
  | 12, v => v = .int .i64 (hi - lo)
  | 13, v => v = .int .i64 (hi - lo + 1)
  | 14, v => ∃ r : Int, v = .int .i64 r ∧ 0 ≤ r ∧ r ≤ hi - lo
  | 15, v => ∃ r : Int, v = .int .i64 r ∧ lo ≤ r ∧ r ≤ hi
  | 16, v => ∃ r : Int, v = .int .i64 r ∧ lo ≤ r ∧ r ≤ hi
  | _, _ => True
set_option maxHeartbeats 4000000 in
theorem Some1_any (w0 : World) (p : Option Addr) (k cap : Nat) (hk : k ≤ 9223372036854775807) (hB : BytesIn w0 p k) (Bi Bl Bn : Nat) (hBi : w0.heap.size ≤ Bi) (h1 : Bn ≠ Bi) (lo hi : Int) (hl : 0 ≤ lo) (hlh : lo ≤ hi) (hh : hi ≤ 400) (W : World) (h : NxIn w0 p k cap Bi Bl W) (hn : W.heap[Bn]? = some (.cells #[.func (.func 73) #[] #[.pointer (some ⟨Bi, 0, none⟩), .pointer (some ⟨Bl, 0, none⟩)]] 80 (0, 0))) :
    Calls Tryd.prog 62 #[.agg #[.int .i64 lo, .int .i64 hi], .pointer (some ⟨Bn, 0, none⟩)] W fun e W' => ∃ r : Int, e = .returned (.int .i64 r) ∧ lo ≤ r ∧ r ≤ hi ∧ NxIn w0 p k cap Bi Bl W' ∧ Kep Bi W W' := by
  have HNEXT := Lib.hid (fun (n : Int) (hn : 1 ≤ n) (hn' : n ≤ 1000000) (W : World) (hW : NxIn w0 p k cap Bi Bl W) => next_any w0 p k cap hk hB Bi Bl hBi n hn hn' W hW)
  have hba := (Below.refl W.heap.size W).alloc (Nat.le_refl _) (.cells #[.int .i64 lo, .int .i64 hi] 57)
  have HF := Lib.hid (h.later hba)
  have H9 := Lib.hid (block_new W (.cells #[.int .i64 lo, .int .i64 hi] 57))
  have HN := Lib.hid ((hba.block _ (lt_of_block hn)).trans hn)
  have HK := Lib.hid (Kep.of (b := Bi) hba)
  obtain ⟨i0, _, hi0⟩ := h.i
  have hlt := lt_of_block hi0
  clear h hn hba hi0
  go_enter Tryd.func62, Tryd.ntmps62
  go_wp2_with fail
  generalize W.alloc (.cells #[.int .i64 lo, .int .i64 hi] 57) = X at *
  refine wp_region_fi [4, 5, 6, 7, 8, 9, 10, 11, 12, 13, 14, 15, 16, 17, 18, 19, 3] (so1F lo hi (.func (.func 73) #[] #[.pointer (some ⟨Bi, 0, none⟩), .pointer (some ⟨Bl, 0, none⟩)]) W.heap.size) (fun _ _ W' => NxIn w0 p k cap Bi Bl W' ∧ Kep Bi X W') (by kernel_rfl) (by kernel_rfl) ?sz ?ts ?z ?val ?fin
  case sz => intro s hs h; simp at hs ⊢; omega
  case ts => simp
  case z => exact ⟨HF.out.later (below_drawn X), Kep.of (below_drawn X)⟩
  case val =>
    intro i
    match i with
    | 0 => intro o L V ho hL hd a' W hX hfr hdp; obtain rfl := Option.some.inj ho; exact opx_of (op_fa57o rfl (hfr 2 (by decide)) (by decide)) fun W' hb => ⟨rfl, ⟨hX.1.later hb, hX.2.trans (Kep.of hb)⟩⟩
    | 1 => intro o L V ho hL hd a' W hX hfr hdp; obtain rfl := Option.some.inj ho; exact opx_of (op_load3o rfl (Dp (hdp 0 4 (by decide) rfl (by kernel_rfl)) id) ((cell_of_block (hX.2.at (by omega) H9.out) 0).trans rfl)) fun W' hb => ⟨rfl, ⟨hX.1.later hb, hX.2.trans (Kep.of hb)⟩⟩
    | 2 => intro o L V ho hL hd a' W hX hfr hdp; obtain rfl := Option.some.inj ho; exact opx_of (op_load80 rfl (hfr 1 (by decide)) ((cell_of_block (hX.2.at h1 HN.out) 0).trans rfl)) fun W' hb => ⟨rfl, ⟨hX.1.later hb, hX.2.trans (Kep.of hb)⟩⟩
    | 3 =>
      intro o L V ho hL hd a' W hX hfr hdp; obtain rfl := Option.some.inj ho
      refine opx_callk rfl (Dp (hdp 2 6 (by decide) rfl (by kernel_rfl)) id) eg73 ((HNEXT.out 256 (by omega) (by omega) _ hX.1).mono ?_)
      rintro e W' ⟨r, rfl, h0, h1, hN, hC⟩
      exact ⟨_, rfl, ⟨r, rfl, h0, h1⟩, hN, hX.2.trans (Kep.chg hC)⟩
    | 4 => intro o L V ho hL hd a' W hX hfr hdp; obtain rfl := Option.some.inj ho; exact opx_of (op_load80 rfl (hfr 1 (by decide)) ((cell_of_block (hX.2.at h1 HN.out) 0).trans rfl)) fun W' hb => ⟨rfl, ⟨hX.1.later hb, hX.2.trans (Kep.of hb)⟩⟩
    | 5 =>
      intro o L V ho hL hd a' W hX hfr hdp; obtain rfl := Option.some.inj ho
      refine opx_callk rfl (Dp (hdp 4 8 (by decide) rfl (by kernel_rfl)) id) eg73 ((HNEXT.out 2 (by omega) (by omega) _ hX.1).mono ?_)
      rintro e W' ⟨r, rfl, h0, h1, hN, hC⟩
      exact ⟨_, rfl, ⟨r, rfl, h0, h1⟩, hN, hX.2.trans (Kep.chg hC)⟩
    | 6 =>
      intro o L V ho hL hd a' W hX hfr hdp; obtain rfl := Option.some.inj ho
      obtain ⟨e, r, e', h0, h1⟩ := hdp 5 9 (by decide) rfl (by kernel_rfl)
      exact opx_of (op_mulc rfl (e.trans e') (by omega)) fun W' hb => ⟨⟨_, rfl, by omega, by omega⟩, ⟨hX.1.later hb, hX.2.trans (Kep.of hb)⟩⟩
    | 7 =>
      intro o L V ho hL hd a' W hX hfr hdp; obtain rfl := Option.some.inj ho
      obtain ⟨e, r, e', h0, h1⟩ := hdp 3 7 (by decide) rfl (by kernel_rfl)
      obtain ⟨f, u, f', g0, g1⟩ := hdp 6 10 (by decide) rfl (by kernel_rfl)
      exact opx_of (op_addt rfl (e.trans e') (f.trans f') (by omega)) fun W' hb => ⟨⟨_, rfl, by omega, by omega⟩, ⟨hX.1.later hb, hX.2.trans (Kep.of hb)⟩⟩
    | 8 => intro o L V ho hL hd a' W hX hfr hdp; obtain rfl := Option.some.inj ho; exact opx_of (op_fa57o rfl (hfr 2 (by decide)) (by decide)) fun W' hb => ⟨rfl, ⟨hX.1.later hb, hX.2.trans (Kep.of hb)⟩⟩
    | 9 => intro o L V ho hL hd a' W hX hfr hdp; obtain rfl := Option.some.inj ho; exact opx_of (op_load3o rfl (Dp (hdp 8 12 (by decide) rfl (by kernel_rfl)) id) ((cell_of_block (hX.2.at (by omega) H9.out) 1).trans rfl)) fun W' hb => ⟨rfl, ⟨hX.1.later hb, hX.2.trans (Kep.of hb)⟩⟩
    | 10 => intro o L V ho hL hd a' W hX hfr hdp; obtain rfl := Option.some.inj ho; exact opx_of (op_fa57o rfl (hfr 2 (by decide)) (by decide)) fun W' hb => ⟨rfl, ⟨hX.1.later hb, hX.2.trans (Kep.of hb)⟩⟩
    | 11 => intro o L V ho hL hd a' W hX hfr hdp; obtain rfl := Option.some.inj ho; exact opx_of (op_load3o rfl (Dp (hdp 10 14 (by decide) rfl (by kernel_rfl)) id) ((cell_of_block (hX.2.at (by omega) H9.out) 0).trans rfl)) fun W' hb => ⟨rfl, ⟨hX.1.later hb, hX.2.trans (Kep.of hb)⟩⟩
    | 12 => intro o L V ho hL hd a' W hX hfr hdp; obtain rfl := Option.some.inj ho; exact opx_of (op_subt rfl (Dp (hdp 9 13 (by decide) rfl (by kernel_rfl)) id) (Dp (hdp 11 15 (by decide) rfl (by kernel_rfl)) id) (by omega)) fun W' hb => ⟨rfl, ⟨hX.1.later hb, hX.2.trans (Kep.of hb)⟩⟩
    | 13 => intro o L V ho hL hd a' W hX hfr hdp; obtain rfl := Option.some.inj ho; exact opx_of (op_addc rfl (Dp (hdp 12 16 (by decide) rfl (by kernel_rfl)) id) (by omega)) fun W' hb => ⟨rfl, ⟨hX.1.later hb, hX.2.trans (Kep.of hb)⟩⟩
    | 14 =>
      intro o L V ho hL hd a' W hX hfr hdp; obtain rfl := Option.some.inj ho
      obtain ⟨e, r, e', h0, h1⟩ := hdp 7 11 (by decide) rfl (by kernel_rfl)
      have m0 := Int.emod_nonneg r (show hi - lo + 1 ≠ 0 by omega)
      have m1 := Int.emod_lt_of_pos r (show 0 < hi - lo + 1 by omega)
      exact opx_of (op_remt rfl (e.trans e') (Dp (hdp 13 17 (by decide) rfl (by kernel_rfl)) id) h0 (by omega) (by omega)) fun W' hb => ⟨⟨_, rfl, m0, by omega⟩, ⟨hX.1.later hb, hX.2.trans (Kep.of hb)⟩⟩
    | 15 =>
      intro o L V ho hL hd a' W hX hfr hdp; obtain rfl := Option.some.inj ho
      obtain ⟨e, r, e', h0, h1⟩ := hdp 14 18 (by decide) rfl (by kernel_rfl)
      exact opx_of (op_addt rfl (Dp (hdp 1 5 (by decide) rfl (by kernel_rfl)) id) (e.trans e') (by omega)) fun W' hb => ⟨⟨_, rfl, by omega, by omega⟩, ⟨hX.1.later hb, hX.2.trans (Kep.of hb)⟩⟩
    | 16 =>
      intro o L V ho hL hd a' W hX hfr hdp; obtain rfl := Option.some.inj ho
      obtain ⟨e, r, e', h0, h1⟩ := hdp 15 19 (by decide) rfl (by kernel_rfl)
      exact opx_of (op_assign rfl (e.trans e')) fun W' hb => ⟨⟨_, rfl, h0, h1⟩, ⟨hX.1.later hb, hX.2.trans (Kep.of hb)⟩⟩
    | j + 17 => intro o L V ho; simp at ho
  case fin =>
    intro W1 L V hL hF hI
    obtain ⟨r, e16, hr0, hr1⟩ := hF 16 (by decide)
    have HN1 := Lib.hid hI.1
    have HK1 := Lib.hid (HK.out.trans hI.2)
    clear hI hF hL
    simp only [fill, Act.put, List.setIfInBounds_toArray, List.set_cons_zero, List.set_cons_succ, Nat.reduceAdd, e16]
    clear e16
    generalize V 0 = v0, V 1 = v1, V 2 = v2, V 3 = v3, V 4 = v4, V 5 = v5, V 6 = v6, V 7 = v7, V 8 = v8, V 9 = v9, V 10 = v10, V 11 = v11, V 12 = v12, V 13 = v13, V 14 = v14, V 15 = v15
    clear V
    go_wp2_with fail
    refine bodyPost_ret (v := .int .i64 r) (by simp [results, Tryd.results62, go_sem]) rfl ⟨r, rfl, hr0, hr1, HN1.out, HK1.out⟩
theorem egf62 : ∀ args w, (callFunc 62 args).run Tryd.prog w = .ok (.enter 62 args) w := Go.Proofs.enters_of Tryd.func62 (by kernel_rfl) rfl
structure InC (lo hi x : Ic) : Prop where
  l : LeI lo x
  h : LeI x hi
theorem InC.good {lo hi x : Ic} (h : InC lo hi x) (g : GoodC lo hi) : GoodI x :=
  ⟨⟨Int.le_trans g.gl.conc.1 h.l.conc, Int.le_trans h.h.conc g.gh.conc.2⟩, ⟨Int.le_trans g.gl.thick.1 h.l.thick, Int.le_trans h.h.thick g.gh.thick.2⟩, ⟨Int.le_trans g.gl.ridge.1 h.l.ridge, Int.le_trans h.h.ridge g.gh.ridge.2⟩, ⟨Int.le_trans g.gl.press.1 h.l.press, Int.le_trans h.h.press g.gh.press.2⟩⟩
structure So3 (w0 : World) (p : Option Addr) (k cap Bi Bl Bn B2 B4 : Nat) (lo hi : Ic) (L : Nat → Bool) (W : World) : Prop where
  nx : NxIn w0 p k cap Bi Bl W
  n : W.heap[Bn]? = some (.cells #[.func (.func 73) #[] #[.pointer (some ⟨Bi, 0, none⟩), .pointer (some ⟨Bl, 0, none⟩)]] 80 (0, 0))
  c : W.heap[B2]? = some (.cells (cellV lo hi) 59 (0, 0))
  r : ∃ x : Ic, W.heap[B4]? = some (.cells (iceV x) 53 (0, 0)) ∧ (L 17 = true → InC lo hi x)
theorem So3.later {w0 W W' : World} {p : Option Addr} {k cap Bi Bl Bn B2 B4 : Nat} {lo hi : Ic} {L : Nat → Bool} (h : So3 w0 p k cap Bi Bl Bn B2 B4 lo hi L W) (hb : Below W.heap.size W W') : So3 w0 p k cap Bi Bl Bn B2 B4 lo hi L W' := by
  obtain ⟨x, hx, hy⟩ := h.r
  exact ⟨h.nx.later hb, (hb.block _ (lt_of_block h.n)).trans h.n, (hb.block _ (lt_of_block h.c)).trans h.c, x, (hb.block _ (lt_of_block hx)).trans hx, hy⟩
theorem So3.keep {w0 W W' : World} {p : Option Addr} {k cap Bi Bl Bn B2 B4 : Nat} {lo hi : Ic} {L : Nat → Bool} (h : So3 w0 p k cap Bi Bl Bn B2 B4 lo hi L W) (hn : NxIn w0 p k cap Bi Bl W') (hk : Kep Bi W W') (h1 : Bn ≠ Bi) (h2 : B2 ≠ Bi) (h3 : B4 ≠ Bi) : So3 w0 p k cap Bi Bl Bn B2 B4 lo hi L W' := by
  obtain ⟨x, hx, hy⟩ := h.r
  exact ⟨hn, hk.at h1 h.n, hk.at h2 h.c, x, hk.at h3 hx, hy⟩
theorem So3.set {w0 W : World} {p : Option Addr} {k cap Bi Bl Bn B2 B4 : Nat} {lo hi : Ic} {L : Nat → Bool} (h : So3 w0 p k cap Bi Bl Bn B2 B4 lo hi L W) (i : Nat) (hi' : i ≠ 17) : So3 w0 p k cap Bi Bl Bn B2 B4 lo hi (fun j => if j = i then true else L j) W := by
  refine ⟨h.nx, h.n, h.c, ?_⟩
  simp only [if_neg (Ne.symm hi')]
  exact h.r
def so3F (lo hi : Ic) (B2 : Nat) (cv : Value) : Nat → Value → Prop
  | 0, v => v = cv
  | 1, v => v = .pointer (some ⟨B2, 2 * 0, none⟩)
  | 2, v => v = .agg #[.int .i64 lo.conc, .int .i64 hi.conc]
  | 3, v => ∃ r : Int, v = .int .i64 r ∧ lo.conc ≤ r ∧ r ≤ hi.conc
  | 4, v => v = cv
  | 5, v => v = .pointer (some ⟨B2, 2 * 1, none⟩)
  | 6, v => v = .agg #[.int .i64 lo.thick, .int .i64 hi.thick]
  | 7, v => ∃ r : Int, v = .int .i64 r ∧ lo.thick ≤ r ∧ r ≤ hi.thick
  | 8, v => v = cv
  | 9, v => v = .pointer (some ⟨B2, 2 * 2, none⟩)
  | 10, v => v = .agg #[.int .i64 lo.ridge, .int .i64 hi.ridge]
  | 11, v => ∃ r : Int, v = .int .i64 r ∧ lo.ridge ≤ r ∧ r ≤ hi.ridge
  | 12, v => v = cv
  | 13, v => v = .pointer (some ⟨B2, 2 * 3, none⟩)
  | 14, v => v = .agg #[.int .i64 lo.press, .int .i64 hi.press]
  | 15, v => ∃ r : Int, v = .int .i64 r ∧ lo.press ≤ r ∧ r ≤ hi.press
  | 16, v => ∃ x : Ic, v = .agg (iceV x) ∧ InC lo hi x
  | _, _ => True
set_option maxHeartbeats 4000000 in
theorem Some_any (lo hi : Ic) (gc : GoodC lo hi) (p : Option Addr) (k cap : Nat) (hk : k ≤ 9223372036854775807) (w0 : World) (hB : BytesIn w0 p k) :
    Calls Tryd.prog 30 #[.agg (cellV lo hi), .slice p k cap] w0 fun e w' => ∃ x : Ic, e = .returned (.agg (iceV x)) ∧ InC lo hi x ∧ Below w0.heap.size w0 w' := by
  obtain ⟨t1, t2, t3, t4, t5, tz, tb⟩ := five_allocs w0 (.cells (cellV lo hi) 59) Z53 (.cells #[.slice p k cap] 50) (.cells #[.int .i64 0] 3) (.cells #[.nilFunc] 80)
  have H1 := Lib.hid t1
  have H2 := Lib.hid t2
  have H3 := Lib.hid t3
  have H4 := Lib.hid t4
  have H5 := Lib.hid t5
  have HB := Lib.hid tb
  clear t1 t2 t3 t4 t5 tb
  go_enter Tryd.func30, Tryd.ntmps30
  go_wp2_with fail
  refine (Drawn_any p k cap _).mono ?_
  rintro e w' ⟨rfl, rfl⟩
  rename_i K hK
  go_wp2_with (refine list_store80 rfl rfl rfl rfl rfl H5.out ?_; intro V hz hc; have HF := Lib.hid (show So3 w0 p k cap (w0.heap.size + 1 + 1 + 1) (w0.heap.size + 1 + 1) (w0.heap.size + 1 + 1 + 1 + 1) w0.heap.size (w0.heap.size + 1) lo hi (fun _ => false) V from ⟨⟨HB.out.trans (hc.below (by omega)), ⟨0, Nat.zero_le _, (hc.2.1 _ (by omega)).trans H4.out⟩, (hc.2.1 _ (by omega)).trans H3.out⟩, hz, (hc.2.1 _ (by omega)).trans H1.out, ⟨0, 0, 0, 0⟩, (hc.2.1 _ (by omega)).trans H2.out, fun e => by cases e⟩); clear hz hc H1 H2 H3 H4 H5 HB)
  refine wp_region_fi [10, 11, 12, 13, 14, 15, 16, 17, 18, 19, 20, 21, 22, 23, 24, 25, 26, 1000] (so3F lo hi w0.heap.size (.func (.func 62) #[] #[.pointer (some ⟨w0.heap.size + 1 + 1 + 1 + 1, 0, none⟩)])) (fun L _ W' => So3 w0 p k cap (w0.heap.size + 1 + 1 + 1) (w0.heap.size + 1 + 1) (w0.heap.size + 1 + 1 + 1 + 1) w0.heap.size (w0.heap.size + 1) lo hi L W') (by kernel_rfl) (by kernel_rfl) ?sz ?ts ?z ?val ?fin
  case sz => intro s hs h; simp at hs ⊢; omega
  case ts => simp
  case z => exact HF.out.later (below_drawn V)
  case val =>
    intro i
    match i with
    | 0 => intro o L V ho hL hd a' W hX hfr hdp; obtain rfl := Option.some.inj ho; exact opx_of (op_move rfl (hfr 6 (by decide))) fun W' hb => ⟨rfl, (hX.later hb).set 0 (by decide)⟩
    | 1 => intro o L V ho hL hd a' W hX hfr hdp; obtain rfl := Option.some.inj ho; exact opx_of (op_fa59 rfl (hfr 2 (by decide)) (by decide)) fun W' hb => ⟨rfl, (hX.later hb).set 1 (by decide)⟩
    | 2 => intro o L V ho hL hd a' W hX hfr hdp; obtain rfl := Option.some.inj ho; exact opx_of (op_load2o rfl (Dp (hdp 1 11 (by decide) rfl (by kernel_rfl)) id) ((cell_of_block hX.c (2 * 0)).trans rfl) ((cell_of_block hX.c (2 * 0 + 1)).trans rfl)) fun W' hb => ⟨rfl, (hX.later hb).set 2 (by decide)⟩
    | 3 =>
      intro o L V ho hL hd a' W hX hfr hdp; obtain rfl := Option.some.inj ho
      refine opx_callt rfl (Dp (hdp 0 10 (by decide) rfl (by kernel_rfl)) id) (Dp (hdp 2 12 (by decide) rfl (by kernel_rfl)) id) egf62 ((Some1_any w0 p k cap hk hB _ _ _ (by omega) (by omega) lo.conc hi.conc gc.gl.conc.1 gc.le.conc (by have := gc.gh.conc.2; omega) _ hX.nx hX.n).mono ?_)
      rintro e W' ⟨r, rfl, h0, h1, hN, hK⟩
      exact ⟨_, rfl, ⟨r, rfl, h0, h1⟩, (hX.keep hN hK (by omega) (by omega) (by omega)).set 3 (by decide)⟩
    | 4 => intro o L V ho hL hd a' W hX hfr hdp; obtain rfl := Option.some.inj ho; exact opx_of (op_move rfl (hfr 6 (by decide))) fun W' hb => ⟨rfl, (hX.later hb).set 4 (by decide)⟩
    | 5 => intro o L V ho hL hd a' W hX hfr hdp; obtain rfl := Option.some.inj ho; exact opx_of (op_fa59 rfl (hfr 2 (by decide)) (by decide)) fun W' hb => ⟨rfl, (hX.later hb).set 5 (by decide)⟩
    | 6 => intro o L V ho hL hd a' W hX hfr hdp; obtain rfl := Option.some.inj ho; exact opx_of (op_load2o rfl (Dp (hdp 5 15 (by decide) rfl (by kernel_rfl)) id) ((cell_of_block hX.c (2 * 1)).trans rfl) ((cell_of_block hX.c (2 * 1 + 1)).trans rfl)) fun W' hb => ⟨rfl, (hX.later hb).set 6 (by decide)⟩
    | 7 =>
      intro o L V ho hL hd a' W hX hfr hdp; obtain rfl := Option.some.inj ho
      refine opx_callt rfl (Dp (hdp 4 14 (by decide) rfl (by kernel_rfl)) id) (Dp (hdp 6 16 (by decide) rfl (by kernel_rfl)) id) egf62 ((Some1_any w0 p k cap hk hB _ _ _ (by omega) (by omega) lo.thick hi.thick gc.gl.thick.1 gc.le.thick (by have := gc.gh.thick.2; omega) _ hX.nx hX.n).mono ?_)
      rintro e W' ⟨r, rfl, h0, h1, hN, hK⟩
      exact ⟨_, rfl, ⟨r, rfl, h0, h1⟩, (hX.keep hN hK (by omega) (by omega) (by omega)).set 7 (by decide)⟩
    | 8 => intro o L V ho hL hd a' W hX hfr hdp; obtain rfl := Option.some.inj ho; exact opx_of (op_move rfl (hfr 6 (by decide))) fun W' hb => ⟨rfl, (hX.later hb).set 8 (by decide)⟩
    | 9 => intro o L V ho hL hd a' W hX hfr hdp; obtain rfl := Option.some.inj ho; exact opx_of (op_fa59 rfl (hfr 2 (by decide)) (by decide)) fun W' hb => ⟨rfl, (hX.later hb).set 9 (by decide)⟩
    | 10 => intro o L V ho hL hd a' W hX hfr hdp; obtain rfl := Option.some.inj ho; exact opx_of (op_load2o rfl (Dp (hdp 9 19 (by decide) rfl (by kernel_rfl)) id) ((cell_of_block hX.c (2 * 2)).trans rfl) ((cell_of_block hX.c (2 * 2 + 1)).trans rfl)) fun W' hb => ⟨rfl, (hX.later hb).set 10 (by decide)⟩
    | 11 =>
      intro o L V ho hL hd a' W hX hfr hdp; obtain rfl := Option.some.inj ho
      refine opx_callt rfl (Dp (hdp 8 18 (by decide) rfl (by kernel_rfl)) id) (Dp (hdp 10 20 (by decide) rfl (by kernel_rfl)) id) egf62 ((Some1_any w0 p k cap hk hB _ _ _ (by omega) (by omega) lo.ridge hi.ridge gc.gl.ridge.1 gc.le.ridge (by have := gc.gh.ridge.2; omega) _ hX.nx hX.n).mono ?_)
      rintro e W' ⟨r, rfl, h0, h1, hN, hK⟩
      exact ⟨_, rfl, ⟨r, rfl, h0, h1⟩, (hX.keep hN hK (by omega) (by omega) (by omega)).set 11 (by decide)⟩
    | 12 => intro o L V ho hL hd a' W hX hfr hdp; obtain rfl := Option.some.inj ho; exact opx_of (op_move rfl (hfr 6 (by decide))) fun W' hb => ⟨rfl, (hX.later hb).set 12 (by decide)⟩
    | 13 => intro o L V ho hL hd a' W hX hfr hdp; obtain rfl := Option.some.inj ho; exact opx_of (op_fa59 rfl (hfr 2 (by decide)) (by decide)) fun W' hb => ⟨rfl, (hX.later hb).set 13 (by decide)⟩
    | 14 => intro o L V ho hL hd a' W hX hfr hdp; obtain rfl := Option.some.inj ho; exact opx_of (op_load2o rfl (Dp (hdp 13 23 (by decide) rfl (by kernel_rfl)) id) ((cell_of_block hX.c (2 * 3)).trans rfl) ((cell_of_block hX.c (2 * 3 + 1)).trans rfl)) fun W' hb => ⟨rfl, (hX.later hb).set 14 (by decide)⟩
    | 15 =>
      intro o L V ho hL hd a' W hX hfr hdp; obtain rfl := Option.some.inj ho
      refine opx_callt rfl (Dp (hdp 12 22 (by decide) rfl (by kernel_rfl)) id) (Dp (hdp 14 24 (by decide) rfl (by kernel_rfl)) id) egf62 ((Some1_any w0 p k cap hk hB _ _ _ (by omega) (by omega) lo.press hi.press gc.gl.press.1 gc.le.press (by have := gc.gh.press.2; omega) _ hX.nx hX.n).mono ?_)
      rintro e W' ⟨r, rfl, h0, h1, hN, hK⟩
      exact ⟨_, rfl, ⟨r, rfl, h0, h1⟩, (hX.keep hN hK (by omega) (by omega) (by omega)).set 15 (by decide)⟩
    | 16 =>
      intro o L V ho hL hd a' W hX hfr hdp; obtain rfl := Option.some.inj ho
      obtain ⟨ea, ra, fa, a0, a1⟩ := hdp 3 13 (by decide) rfl (by kernel_rfl)
      obtain ⟨eb, rb, fb, b0, b1⟩ := hdp 7 17 (by decide) rfl (by kernel_rfl)
      obtain ⟨ec, rc, fc, c0, c1⟩ := hdp 11 21 (by decide) rfl (by kernel_rfl)
      obtain ⟨ed, rd, fd, d0, d1⟩ := hdp 15 25 (by decide) rfl (by kernel_rfl)
      exact opx_of (op_b53 rfl (ea.trans fa) (eb.trans fb) (ec.trans fc) (ed.trans fd)) fun W' hb => ⟨⟨⟨ra, rb, rc, rd⟩, rfl, ⟨a0, b0, c0, d0⟩, ⟨a1, b1, c1, d1⟩⟩, (hX.later hb).set 16 (by decide)⟩
    | 17 =>
      intro o L V ho hL hd a' W hX hfr hdp; obtain rfl := Option.some.inj ho
      obtain ⟨e, x, e', hx⟩ := hdp 16 26 (by decide) rfl (by kernel_rfl)
      obtain ⟨y, hy, _⟩ := hX.r
      exact opx_store53 rfl rfl (hfr 4 (by decide)) (e.trans e') hy fun W' hb hc => ⟨trivial, hX.nx.keep (hX.nx.low.trans (hc.below (by omega))) (hc.2.1 _ (by omega)) (hc.2.1 _ (by omega)), (hc.2.1 _ (by omega)).trans hX.n, (hc.2.1 _ (by omega)).trans hX.c, x, hb, fun _ => hx⟩
    | j + 18 => intro o L V ho; simp at ho
  case fin =>
    intro W1 L V hL hF hI
    obtain ⟨x, hx, hy⟩ := hI.r
    have hin := hy (hL 17 (by decide))
    have HBE := Lib.hid hI.nx.low
    clear hI hF hL hy HF
    simp only [fill, Act.put, List.setIfInBounds_toArray, List.set_cons_zero, List.set_cons_succ, List.set_nil, Nat.reduceAdd]
    generalize V 0 = v0, V 1 = v1, V 2 = v2, V 3 = v3, V 4 = v4, V 5 = v5, V 6 = v6, V 7 = v7, V 8 = v8, V 9 = v9, V 10 = v10, V 11 = v11, V 12 = v12, V 13 = v13, V 14 = v14, V 15 = v15, V 16 = v16, V 17 = v17
    clear V
    obtain ⟨⟨c0, c1, c2, c3⟩, _⟩ := cells4 hx
    clear hx
    go_wp2_with fail
    refine bodyPost_ret (v := .agg (iceV x)) (by simp [results, Tryd.results30, go_sem, c0, c1, c2, c3, iceV]) rfl ⟨x, rfl, hin, HBE.out⟩
set_option maxHeartbeats 2000000 in
theorem Just_any (x : Ic) (w : World) : Calls Tryd.prog 34 #[.agg (iceV x)] w fun e w' => e = .returned (.agg (cellV x x)) ∧ Below w.heap.size w w' := by
  obtain ⟨t1, t2, tz, tb⟩ := two_allocs w (.cells (iceV x) 53) (.cells #[.int .i64 0, .int .i64 0, .int .i64 0, .int .i64 0, .int .i64 0, .int .i64 0, .int .i64 0, .int .i64 0] 59)
  have H2 := Lib.hid t2
  have HB := Lib.hid tb
  obtain ⟨⟨d0, d1, d2, d3⟩, _⟩ := cells4 t1
  clear t1 t2 tb
  go_enter Tryd.func34, Tryd.ntmps34
  go_wp2_with (refine list_store8 rfl rfl rfl (.inl rfl) rfl rfl H2.out ?_; intro V hz hc; have HBE := Lib.hid (HB.out.trans (hc.below (by omega))); obtain ⟨⟨g0, g1, g2, g3, g4, g5, g6, g7⟩, _⟩ := cells8 hz; clear hz hc)
  refine bodyPost_ret (v := .agg (cellV x x)) (by simp [results, Tryd.results34, go_sem, g0, g1, g2, g3, g4, g5, g6, g7, cellV]) rfl ⟨rfl, HBE.out⟩
end Go.Proofs.YtcoiklolgilhaaaDoor
namespace Go.Proofs.YtcoiklolgilhaaaDoor
open Go.RowKit
set_option maxRecDepth 100000
section
variable (s : Sh) (ms : Mem3) (lo hi : Ic) (ch : Bool) (w : World)
theorem Safe_ex (hs : ShipIn w s ms) (hl : Lim w) (hst : Str w) (hc : chkP s = 0) (gc : GoodC lo hi) :
    Calls Tryd.prog 35 #[.agg (shipA s ms), .agg (cellV lo hi), .bool ch] w fun e w' => ∃ L E : Int, e = .returned (.tuple #[.int .i64 L, .int .i64 E]) ∧ L = ssLo s lo hi ch ∧ E = ssE s lo hi ch ∧ Below w.heap.size w w' := by
  refine (Safe_ok s ms lo hi ch w hs hl hst hc gc).mono ?_
  rintro e w' ⟨rfl, hb⟩
  exact ⟨_, _, rfl, rfl, rfl, hb⟩
theorem Beyond_ex (v : Int) (hs : ShipIn w s ms) (hl : Lim w) (hst : Str w) (hc : chkP s = 0) (gc : GoodC lo hi) (h0 : 0 ≤ v) (h1 : v ≤ 250) :
    Calls Tryd.prog 33 #[.agg (shipA s ms), .agg (cellV lo hi), .int .i64 v, .bool ch] w fun e w' => ∃ a b : Bool, e = .returned (.tuple #[.bool a, .bool b, .int .i64 0]) ∧ a = beyP s hi ch v ∧ b = beyP s lo ch v ∧ Below w.heap.size w w' := by
  refine (Beyond_ok s ms lo hi ch w v hs hl hst hc gc h0 h1).mono ?_
  rintro e w' ⟨rfl, hb⟩
  exact ⟨_, _, rfl, rfl, rfl, hb⟩
theorem Makes_na (x : Ic) (v : Int) (hs : ShipIn w s ms) (hl : Lim w) (hc : chkP s = 0) (gi : GoodI x) (h0 : 0 ≤ v) (h1 : v ≤ 250) :
    Calls Tryd.prog 36 #[.agg (shipA s ms), .agg (iceV x), .int .i64 v, .bool ch] w fun e w' => ∃ a : Bool, e = .returned (.tuple #[.bool a, .int .i64 0]) ∧ a = makesP s x ch v ∧ Below w.heap.size w w' := by
  refine (Makes_ok s ms ch w x v hs hl hc gi h0 h1).mono ?_
  rintro e w' ⟨rfl, hb⟩
  exact ⟨_, rfl, rfl, hb⟩
theorem Beset_ex (hs : ShipIn w s ms) (hl : Lim w) (hc : chkP s = 0) (gc : GoodC lo hi) :
    Calls Tryd.prog 32 #[.agg (shipA s ms), .agg (cellV lo hi), .bool ch] w fun e w' => ∃ a b : Bool, e = .returned (.tuple #[.bool a, .bool b, .int .i64 0]) ∧ a = decide ((speedP s hi ch : Int) < 10) ∧ b = decide ((speedP s lo ch : Int) < 10) ∧ Below w.heap.size w w' := by
  refine (Beset_ok s ms lo hi ch w hs hl hc gc).mono ?_
  rintro e w' ⟨rfl, hb⟩
  exact ⟨_, _, rfl, rfl, rfl, hb⟩
theorem Speeds_ex (hs : ShipIn w s ms) (hl : Lim w) (hc : chkP s = 0) (gc : GoodC lo hi) :
    Calls Tryd.prog 31 #[.agg (shipA s ms), .agg (cellV lo hi), .bool ch] w fun e w' => ∃ a b : Int, e = .returned (.tuple #[.agg #[.int .i64 a, .int .i64 b], .int .i64 0]) ∧ a = (speedP s hi ch : Int) ∧ b = (speedP s lo ch : Int) ∧ Below w.heap.size w w' := by
  refine (Speeds_ok s ms lo hi ch w hs hl hc gc).mono ?_
  rintro e w' ⟨rfl, hb⟩
  exact ⟨_, _, rfl, rfl, rfl, hb⟩
end
section
variable {Q : Exit → Act → World → Prop} {o : Oper} {a' : Act} {W : World}
theorem opx_call4g {f s t r0 r1 : Nat} {v u z y : Value} {ts : Array TypeId} {Rq : Value → World → Prop} (hop : o.op = Op.call { callee := .value (.func f), args := #[.tmp s, .tmp t, .tmp r0, .tmp r1], argTypes := ts })
    (he : a'.eval (.tmp s) = v) (ht : a'.eval (.tmp t) = u) (hz : a'.eval (.tmp r0) = z) (hy : a'.eval (.tmp r1) = y) (eg : ∀ args w, (callFunc f args).run Tryd.prog w = .ok (.enter f args) w) (hc : Calls Tryd.prog f #[v, u, z, y] W fun e W' => ∃ r, e = .returned r ∧ Rq r W') :
    o.wp Tryd.prog a' W (fun a'' W' => ∃ x, a'' = a'.put o.dst x ∧ Rq x W') Q := by
  have he' : a'.tmps[s]?.getD undef = v := by simpa [Act.eval] using he
  have ht' : a'.tmps[t]?.getD undef = u := by simpa [Act.eval] using ht
  have hz' : a'.tmps[r0]?.getD undef = z := by simpa [Act.eval] using hz
  have hy' : a'.tmps[r1]?.getD undef = y := by simpa [Act.eval] using hy
  unfold Oper.wp execOp
  rw [hop]
  simp [go_sem, he', ht', hz', hy', eg]
  refine hc.mono ?_
  rintro e w' ⟨r, rfl, hb⟩
  exact ⟨r, rfl, hb⟩
end
theorem egf33 : ∀ args w, (callFunc 33 args).run Tryd.prog w = .ok (.enter 33 args) w := Go.Proofs.enters_of Tryd.func33 (by kernel_rfl) rfl
theorem egf34 : ∀ args w, (callFunc 34 args).run Tryd.prog w = .ok (.enter 34 args) w := Go.Proofs.enters_of Tryd.func34 (by kernel_rfl) rfl
end Go.Proofs.YtcoiklolgilhaaaDoor
