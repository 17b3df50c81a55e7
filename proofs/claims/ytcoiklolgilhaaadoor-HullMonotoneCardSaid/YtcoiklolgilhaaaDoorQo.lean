/- The contracts of the law's Frozen and of its closure: the spans of a right cell, whatever the bytes are. -/
import Derived.Test.YtcoiklolgilhaaaDoorQn
import Derived.Test.YtcoiklolgilhaaaDoorPs
namespace Go.Proofs.YtcoiklolgilhaaaDoor
open Go.RowKit
set_option maxRecDepth 100000
theorem below_drawn (W : World) : Below W.heap.size W { W with drawn := W.drawn + 1 } := ⟨rfl, rfl, rfl, Nat.le_refl _, fun _ _ => rfl⟩
structure FzIn (w0 : World) (p : Option Addr) (k cap b0 : Nat) (zb : Obj) (Bi Bl Bn : Nat) (W : World) : Prop where
  nx : NxIn w0 p k cap Bi Bl W
  n : W.heap[Bn]? = some (.cells #[.func (.func 73) #[] #[.pointer (some ⟨Bi, 0, none⟩), .pointer (some ⟨Bl, 0, none⟩)]] 80 (0, 0))
  z : W.heap[b0]? = some zb
section
variable {w0 W W' : World} {p : Option Addr} {k cap b0 Bi Bl Bn : Nat} {zb : Obj}
theorem FzIn.later (h : FzIn w0 p k cap b0 zb Bi Bl Bn W) (hb : Below W.heap.size W W') : FzIn w0 p k cap b0 zb Bi Bl Bn W' :=
  ⟨h.nx.later hb, (hb.block _ (lt_of_block h.n)).trans h.n, (hb.block _ (lt_of_block h.z)).trans h.z⟩
theorem FzIn.chg (h : FzIn w0 p k cap b0 zb Bi Bl Bn W) (hn : NxIn w0 p k cap Bi Bl W') (hc : Chg Bi W W') (h1 : Bn ≠ Bi) (h2 : b0 ≠ Bi) : FzIn w0 p k cap b0 zb Bi Bl Bn W' :=
  ⟨hn, (hc.2.1 _ h1).trans h.n, (hc.2.1 _ h2).trans h.z⟩
theorem FzIn.lt (h : FzIn w0 p k cap b0 zb Bi Bl Bn W) : Bi < W.heap.size ∧ Bl < W.heap.size ∧ Bn < W.heap.size ∧ b0 < W.heap.size := by
  obtain ⟨i, _, hi⟩ := h.nx.i
  exact ⟨lt_of_block hi, lt_of_block h.nx.l, lt_of_block h.n, lt_of_block h.z⟩
theorem FzIn.sto (h : FzIn w0 p k cap b0 zb Bi Bl Bn W) {b : Nat} (hc : Chg b W W') (h0 : w0.heap.size ≤ b) (h1 : Bi ≠ b) (h2 : Bl ≠ b) (h3 : Bn ≠ b) (h4 : b0 ≠ b) : FzIn w0 p k cap b0 zb Bi Bl Bn W' :=
  ⟨h.nx.keep (h.nx.low.trans (hc.below h0)) (hc.2.1 _ h1) (hc.2.1 _ h2), (hc.2.1 _ h3).trans h.n, (hc.2.1 _ h4).trans h.z⟩
end
abbrev Z57 : Obj := .cells #[.int .i64 0, .int .i64 0] 57 (0, 0)
structure Fz1 (w0 : World) (p : Option Addr) (k cap b0 : Nat) (zb : Obj) (Bi Bl Bn B9 M : Nat) (most : Int) (L : Nat → Bool) (V : Nat → Value) (W : World) : Prop where
  f : FzIn w0 p k cap b0 zb Bi Bl Bn W
  r : W.heap[B9]? = some Z57
  m : M ≤ W.heap.size
  d : L 16 = true → L 15 = true
  b : L 15 = true → ∃ (B : Nat) (x y : Int), V 15 = .pointer (some ⟨B, 0, none⟩) ∧ M ≤ B ∧ W.heap[B]? = some (.cells #[.int .i64 x, .int .i64 y] 57 (0, 0)) ∧ (L 16 = true → 0 ≤ x ∧ x ≤ most ∧ y = 0)
structure Fz2 (w0 : World) (p : Option Addr) (k cap b0 : Nat) (zb : Obj) (Bi Bl Bn B9 B : Nat) (lo most : Int) (L : Nat → Bool) (W : World) : Prop where
  f : FzIn w0 p k cap b0 zb Bi Bl Bn W
  r : W.heap[B9]? = some Z57
  b : ∃ y : Int, W.heap[B]? = some (.cells #[.int .i64 lo, .int .i64 y] 57 (0, 0)) ∧ (L 9 = true → lo ≤ y ∧ y ≤ most)
section
variable {w0 W W' : World} {p : Option Addr} {k cap b0 Bi Bl Bn B9 M B : Nat} {zb : Obj} {lo most : Int} {L : Nat → Bool} {V : Nat → Value}
theorem Fz1.later (h : Fz1 w0 p k cap b0 zb Bi Bl Bn B9 M most L V W) (hb : Below W.heap.size W W') : Fz1 w0 p k cap b0 zb Bi Bl Bn B9 M most L V W' :=
  ⟨h.f.later hb, (hb.block _ (lt_of_block h.r)).trans h.r, Nat.le_trans h.m hb.size, h.d, fun e => by
    obtain ⟨B, x, y, h1, h2, h3, h4⟩ := h.b e
    exact ⟨B, x, y, h1, h2, (hb.block _ (lt_of_block h3)).trans h3, h4⟩⟩
theorem Fz1.chg (h : Fz1 w0 p k cap b0 zb Bi Bl Bn B9 M most L V W) (hn : NxIn w0 p k cap Bi Bl W') (hc : Chg Bi W W') (h1 : Bn ≠ Bi) (h2 : b0 ≠ Bi) (h3 : B9 ≠ Bi) (h4 : Bi < M) : Fz1 w0 p k cap b0 zb Bi Bl Bn B9 M most L V W' :=
  ⟨h.f.chg hn hc h1 h2, (hc.2.1 _ h3).trans h.r, Nat.le_trans h.m (Nat.le_of_eq hc.1.symm), h.d, fun e => by
    obtain ⟨B, x, y, g1, g2, g3, g4⟩ := h.b e
    exact ⟨B, x, y, g1, g2, (hc.2.1 _ (by omega)).trans g3, g4⟩⟩
theorem Fz1.set (h : Fz1 w0 p k cap b0 zb Bi Bl Bn B9 M most L V W) (i : Nat) (hi : i ≠ 15) (hi' : i ≠ 16) (x : Value) : Fz1 w0 p k cap b0 zb Bi Bl Bn B9 M most (fun j => if j = i then true else L j) (fun j => if j = i then x else V j) W := by
  refine ⟨h.f, h.r, h.m, ?_, ?_⟩
  · simp only [if_neg (Ne.symm hi), if_neg (Ne.symm hi')]; exact h.d
  · simp only [if_neg (Ne.symm hi), if_neg (Ne.symm hi')]; exact h.b
theorem Fz2.later (h : Fz2 w0 p k cap b0 zb Bi Bl Bn B9 B lo most L W) (hb : Below W.heap.size W W') : Fz2 w0 p k cap b0 zb Bi Bl Bn B9 B lo most L W' :=
  ⟨h.f.later hb, (hb.block _ (lt_of_block h.r)).trans h.r, by
    obtain ⟨y, h3, h4⟩ := h.b
    exact ⟨y, (hb.block _ (lt_of_block h3)).trans h3, h4⟩⟩
theorem Fz2.chg (h : Fz2 w0 p k cap b0 zb Bi Bl Bn B9 B lo most L W) (hn : NxIn w0 p k cap Bi Bl W') (hc : Chg Bi W W') (h1 : Bn ≠ Bi) (h2 : b0 ≠ Bi) (h3 : B9 ≠ Bi) (h4 : B ≠ Bi) : Fz2 w0 p k cap b0 zb Bi Bl Bn B9 B lo most L W' :=
  ⟨h.f.chg hn hc h1 h2, (hc.2.1 _ h3).trans h.r, by
    obtain ⟨y, g3, g4⟩ := h.b
    exact ⟨y, (hc.2.1 _ h4).trans g3, g4⟩⟩
theorem Fz2.set (h : Fz2 w0 p k cap b0 zb Bi Bl Bn B9 B lo most L W) (i : Nat) (hi : i ≠ 9) : Fz2 w0 p k cap b0 zb Bi Bl Bn B9 B lo most (fun j => if j = i then true else L j) W := by
  refine ⟨h.f, h.r, ?_⟩
  simp only [if_neg (Ne.symm hi)]
  exact h.b
end
def fzF1 (step q most : Int) (fv : Value) : Nat → Value → Prop
  | 0, v => v = .int .i64 0
  | 1, v => v = .int .i64 step
  | 2, v => v = fv
  | 3, v => v = .int .i64 most
  | 4, v => v = .int .i64 step
  | 5, v => v = .int .i64 q
  | 6, v => v = .int .i64 (q + 1)
  | 7, v => v = .int .i64 0
  | 8, v => v = .int .i64 step
  | 9, v => v = .int .i64 0
  | 10, v => v = .int .i64 (q + 1)
  | 11, v => ∃ r : Int, v = .int .i64 r ∧ 0 ≤ r ∧ r ≤ q
  | 12, v => ∃ r : Int, v = .int .i64 r ∧ 0 ≤ r ∧ r ≤ most
  | 13, v => ∃ r : Int, v = .int .i64 r ∧ 0 ≤ r ∧ r ≤ most
  | 14, v => ∃ r : Int, v = .agg #[.int .i64 r, .int .i64 0] ∧ 0 ≤ r ∧ r ≤ most
  | _, _ => True
def fzF2 (lo wide most : Int) (fv : Value) (B : Nat) : Nat → Value → Prop
  | 0, v => v = .int .i64 most
  | 1, v => v = .pointer (some ⟨B, 0, none⟩)
  | 2, v => v = .int .i64 lo
  | 3, v => v = fv
  | 4, v => v = .int .i64 wide
  | 5, v => ∃ r : Int, v = .int .i64 r ∧ 0 ≤ r ∧ r < wide
  | 6, v => ∃ r : Int, v = .int .i64 r ∧ lo ≤ r ∧ r < lo + wide
  | 7, v => ∃ r : Int, v = .int .i64 r ∧ lo ≤ r ∧ r ≤ most
  | 8, v => v = .pointer (some ⟨B, 1, none⟩)
  | _, _ => True
set_option maxHeartbeats 4000000 in
theorem Frozen1_any (w0 : World) (p : Option Addr) (k cap : Nat) (hk : k ≤ 9223372036854775807) (hB : BytesIn w0 p k) (b0 : Nat) (zb : Obj) (Bi Bl Bn : Nat) (hBi : w0.heap.size ≤ Bi) (h1 : Bn ≠ Bi) (h2 : b0 ≠ Bi) (step wide most q : Int) (hs : 1 ≤ step) (hs' : step ≤ 2) (hw : 1 ≤ wide) (hw' : wide ≤ 200) (hm : 0 ≤ most) (hm' : most ≤ 400) (hq : most.tdiv step = q) (hq0 : 0 ≤ q) (hqm : step * q ≤ most) (W : World) (h : FzIn w0 p k cap b0 zb Bi Bl Bn W) :
    Calls Tryd.prog 57 #[.int .i64 0, .int .i64 step, .int .i64 wide, .int .i64 most, .pointer (some ⟨Bn, 0, none⟩)] W fun e W' => ∃ lo hi : Int, e = .returned (.agg #[.int .i64 lo, .int .i64 hi]) ∧ 0 ≤ lo ∧ lo ≤ hi ∧ hi ≤ most ∧ FzIn w0 p k cap b0 zb Bi Bl Bn W' := by
  have HNEXT := Lib.hid (fun (n : Int) (hn : 1 ≤ n) (hn' : n ≤ 1000000) (W : World) (hW : NxIn w0 p k cap Bi Bl W) => next_any w0 p k cap hk hB Bi Bl hBi n hn hn' W hW)
  have hqs : q ≤ 400 := by
    have : 1 * q ≤ step * q := Int.mul_le_mul_of_nonneg_right hs hq0
    omega
  have HQM := Lib.hid hqm
  have HQ := Lib.hid hq
  have hba := (Below.refl W.heap.size W).alloc (Nat.le_refl _) Z57
  have HF := Lib.hid (h.later hba)
  have H9 := Lib.hid (block_new W Z57)
  have hlt := h.lt
  have hw0 := h.nx.low.size
  clear hqm hq h hba
  go_enter Tryd.func57, Tryd.ntmps57
  go_wp2_with fail
  generalize W.alloc Z57 = X at *
  have hX := lt_of_block H9.out
  refine wp_region_fi [11, 12, 13, 14, 15, 16, 17, 18, 19, 20, 21, 22, 23, 24, 25, 10, 1000] (fzF1 step q most (.func (.func 73) #[] #[.pointer (some ⟨Bi, 0, none⟩), .pointer (some ⟨Bl, 0, none⟩)])) (Fz1 w0 p k cap b0 zb Bi Bl Bn W.heap.size X.heap.size most) (by kernel_rfl) (by kernel_rfl) (fun s hs h => by simp at hs ⊢; omega) (by simp) ?z ?val ?fin
  case z => exact Fz1.later ⟨HF.out, H9.out, Nat.le_refl _, (fun e => by cases e), (fun e => by cases e)⟩ (below_drawn X)
  case val =>
    intro i
    match i with
    | 0 => intro o L V ho hL hd a' W hX hfr hdp; obtain rfl := Option.some.inj ho; exact opx_of (op_move rfl (hfr 0 (by decide))) fun W' hb => ⟨rfl, (hX.later hb).set 0 (by decide) (by decide) _⟩
    | 1 => intro o L V ho hL hd a' W hX hfr hdp; obtain rfl := Option.some.inj ho; exact opx_of (op_move rfl (hfr 1 (by decide))) fun W' hb => ⟨rfl, (hX.later hb).set 1 (by decide) (by decide) _⟩
    | 2 => intro o L V ho hL hd a' W hX hfr hdp; obtain rfl := Option.some.inj ho; exact opx_of (op_load80 rfl (hfr 4 (by decide)) ((cell_of_block hX.f.n 0).trans rfl)) fun W' hb => ⟨rfl, (hX.later hb).set 2 (by decide) (by decide) _⟩
    | 3 => intro o L V ho hL hd a' W hX hfr hdp; obtain rfl := Option.some.inj ho; exact opx_of (op_move rfl (hfr 3 (by decide))) fun W' hb => ⟨rfl, (hX.later hb).set 3 (by decide) (by decide) _⟩
    | 4 => intro o L V ho hL hd a' W hX hfr hdp; obtain rfl := Option.some.inj ho; exact opx_of (op_move rfl (hfr 1 (by decide))) fun W' hb => ⟨rfl, (hX.later hb).set 4 (by decide) (by decide) _⟩
    | 5 => intro o L V ho hL hd a' W hX hfr hdp; obtain rfl := Option.some.inj ho; exact opx_of (op_quot rfl (Dp (hdp 3 14 (by decide) rfl (by kernel_rfl)) id) (Dp (hdp 4 15 (by decide) rfl (by kernel_rfl)) id) (by omega) (by rw [HQ.out]; omega)) fun W' hb => ⟨by rw [HQ.out]; rfl, (hX.later hb).set 5 (by decide) (by decide) _⟩
    | 6 => intro o L V ho hL hd a' W hX hfr hdp; obtain rfl := Option.some.inj ho; exact opx_of (op_addc rfl (Dp (hdp 5 16 (by decide) rfl (by kernel_rfl)) id) (by omega)) fun W' hb => ⟨rfl, (hX.later hb).set 6 (by decide) (by decide) _⟩
    | 7 => intro o L V ho hL hd a' W hX hfr hdp; obtain rfl := Option.some.inj ho; exact opx_of (op_move rfl (hfr 0 (by decide))) fun W' hb => ⟨rfl, (hX.later hb).set 7 (by decide) (by decide) _⟩
    | 8 => intro o L V ho hL hd a' W hX hfr hdp; obtain rfl := Option.some.inj ho; exact opx_of (op_move rfl (hfr 1 (by decide))) fun W' hb => ⟨rfl, (hX.later hb).set 8 (by decide) (by decide) _⟩
    | 9 => intro o L V ho hL hd a' W hX hfr hdp; obtain rfl := Option.some.inj ho; exact opx_of (op_quot rfl (Dp (hdp 7 18 (by decide) rfl (by kernel_rfl)) id) (Dp (hdp 8 19 (by decide) rfl (by kernel_rfl)) id) (by omega) (by rw [Int.zero_tdiv]; omega)) fun W' hb => ⟨by rw [Int.zero_tdiv]; rfl, (hX.later hb).set 9 (by decide) (by decide) _⟩
    | 10 => intro o L V ho hL hd a' W hX hfr hdp; obtain rfl := Option.some.inj ho; exact opx_of (op_subt rfl (Dp (hdp 6 17 (by decide) rfl (by kernel_rfl)) id) (Dp (hdp 9 20 (by decide) rfl (by kernel_rfl)) id) (by omega)) fun W' hb => ⟨by rw [Int.sub_zero]; rfl, (hX.later hb).set 10 (by decide) (by decide) _⟩
    | 11 =>
      intro o L V ho hL hd a' W hX hfr hdp; obtain rfl := Option.some.inj ho
      refine opx_callt rfl (Dp (hdp 2 13 (by decide) rfl (by kernel_rfl)) id) (Dp (hdp 10 21 (by decide) rfl (by kernel_rfl)) id) eg73 ((HNEXT.out (q + 1) (by omega) (by omega) _ hX.f.nx).mono ?_)
      rintro e W' ⟨r, rfl, h0, h1, hN, hC⟩
      exact ⟨_, rfl, ⟨r, rfl, h0, by omega⟩, (hX.chg hN hC (by omega) (by omega) (by omega) (by omega)).set 11 (by decide) (by decide) _⟩
    | 12 =>
      intro o L V ho hL hd a' W hX hfr hdp; obtain rfl := Option.some.inj ho
      obtain ⟨e, r, e', h0, h1⟩ := hdp 11 22 (by decide) rfl (by kernel_rfl)
      have n0 := Int.mul_nonneg (show 0 ≤ step by omega) h0
      have n1 := Int.mul_le_mul_of_nonneg_left h1 (show 0 ≤ step by omega)
      have n2 := HQM.out
      exact opx_of (op_mult rfl (Dp (hdp 1 12 (by decide) rfl (by kernel_rfl)) id) (e.trans e') (by omega)) fun W' hb => ⟨⟨_, rfl, n0, by omega⟩, (hX.later hb).set 12 (by decide) (by decide) _⟩
    | 13 =>
      intro o L V ho hL hd a' W hX hfr hdp; obtain rfl := Option.some.inj ho
      obtain ⟨e, r, e', h0, h1⟩ := hdp 12 23 (by decide) rfl (by kernel_rfl)
      exact opx_of (op_addt rfl (Dp (hdp 0 11 (by decide) rfl (by kernel_rfl)) id) (e.trans e') (by omega)) fun W' hb => ⟨⟨_, rfl, by omega, by omega⟩, (hX.later hb).set 13 (by decide) (by decide) _⟩
    | 14 =>
      intro o L V ho hL hd a' W hX hfr hdp; obtain rfl := Option.some.inj ho
      obtain ⟨e, r, e', h0, h1⟩ := hdp 13 24 (by decide) rfl (by kernel_rfl)
      exact opx_of (op_b57 rfl (e.trans e')) fun W' hb => ⟨⟨_, rfl, by omega, by omega⟩, (hX.later hb).set 14 (by decide) (by decide) _⟩
    | 15 =>
      intro o L V ho hL hd a' W hX hfr hdp; obtain rfl := Option.some.inj ho
      have h16 : L 16 = false := by
        cases h16 : L 16 with
        | false => rfl
        | true => rw [hX.d h16] at hL; cases hL
      have hl := hX.later ((Below.refl _ W).alloc (Nat.le_refl _) Z57)
      refine opx_alloc57 rfl ⟨trivial, hl.f, hl.r, hl.m, fun _ => by simp, fun _ => ⟨W.heap.size, 0, 0, by simp, hX.m, block_new W Z57, fun e => ?_⟩⟩
      simp [h16] at e
    | 16 =>
      intro o L V ho hL hd a' W hX hfr hdp; obtain rfl := Option.some.inj ho
      obtain ⟨e, r, e', h0, h1⟩ := hdp 14 25 (by decide) rfl (by kernel_rfl)
      have h15 := hd 15 (by kernel_rfl)
      obtain ⟨B, x, y, e2, hM, hb, _⟩ := hX.b h15
      refine opx_store57 rfl rfl ((hdp 15 10 (by decide) rfl (by kernel_rfl)).1.trans e2) (e.trans e') hb fun W' hb' hc => ⟨trivial, hX.f.sto hc (by omega) (by omega) (by omega) (by omega) (by omega), (hc.2.1 _ (by omega)).trans hX.r, Nat.le_trans hX.m (Nat.le_of_eq hc.1.symm), fun _ => by simp [h15], fun _ => ⟨B, r, 0, by simp [e2], hM, hb', fun _ => ⟨h0, h1, rfl⟩⟩⟩
    | j + 17 => intro o L V ho; simp at ho
  case fin =>
    intro W1 L V hL hF hI
    obtain ⟨B, lo, y, e15, hM, hb, hx⟩ := hI.b (hL 15 (by decide))
    obtain ⟨hlo, hlm, rfl⟩ := hx (hL 16 (by decide))
    have HF1 := Lib.hid hI.f
    have H91 := Lib.hid hI.r
    have HB1 := Lib.hid hb
    clear hI hF hL hb HF H9 hx
    simp only [fill, Act.put, List.setIfInBounds_toArray, List.set_cons_zero, List.set_cons_succ, List.set_nil, Nat.reduceAdd, e15]
    generalize V 0 = v0, V 1 = v1, V 2 = v2, V 3 = v3, V 4 = v4, V 5 = v5, V 6 = v6, V 7 = v7, V 8 = v8, V 9 = v9, V 10 = v10, V 11 = v11, V 12 = v12, V 13 = v13, V 14 = v14, V 16 = v16
    clear e15 V
    have hB9 := lt_of_block H91.out
    have hBB := lt_of_block HB1.out
    go_wp2_with fail
    refine wp_region_fi [26, 27, 28, 29, 30, 31, 32, 33, 34, 1000] (fzF2 lo wide most (.func (.func 73) #[] #[.pointer (some ⟨Bi, 0, none⟩), .pointer (some ⟨Bl, 0, none⟩)]) B) (fun L _ W' => Fz2 w0 p k cap b0 zb Bi Bl Bn W.heap.size B lo most L W') (by kernel_rfl) (by kernel_rfl) ?sz ?ts ?z ?val ?fin
    case sz => intro s hs h; simp at hs ⊢; omega
    case ts => simp
    case z => exact Fz2.later ⟨HF1.out, H91.out, 0, HB1.out, (fun e => by cases e)⟩ (below_drawn W1)
    case val =>
      intro i
      match i with
      | 0 => intro o L V ho hL hd a' W hX hfr hdp; obtain rfl := Option.some.inj ho; exact opx_of (op_move rfl (hfr 3 (by decide))) fun W' hb => ⟨rfl, (hX.later hb).set 0 (by decide)⟩
      | 1 => intro o L V ho hL hd a' W hX hfr hdp; obtain rfl := Option.some.inj ho; exact opx_of (op_fa57 rfl (hfr 10 (by decide)) (by decide)) fun W' hb => ⟨rfl, (hX.later hb).set 1 (by decide)⟩
      | 2 =>
        intro o L V ho hL hd a' W hX hfr hdp; obtain rfl := Option.some.inj ho
        obtain ⟨y, hb, _⟩ := hX.b
        exact opx_of (op_load3o rfl (Dp (hdp 1 27 (by decide) rfl (by kernel_rfl)) id) ((cell_of_block hb 0).trans rfl)) fun W' hb => ⟨rfl, (hX.later hb).set 2 (by decide)⟩
      | 3 => intro o L V ho hL hd a' W hX hfr hdp; obtain rfl := Option.some.inj ho; exact opx_of (op_load80 rfl (hfr 4 (by decide)) ((cell_of_block hX.f.n 0).trans rfl)) fun W' hb => ⟨rfl, (hX.later hb).set 3 (by decide)⟩
      | 4 => intro o L V ho hL hd a' W hX hfr hdp; obtain rfl := Option.some.inj ho; exact opx_of (op_move rfl (hfr 2 (by decide))) fun W' hb => ⟨rfl, (hX.later hb).set 4 (by decide)⟩
      | 5 =>
        intro o L V ho hL hd a' W hX hfr hdp; obtain rfl := Option.some.inj ho
        refine opx_callt rfl (Dp (hdp 3 29 (by decide) rfl (by kernel_rfl)) id) (Dp (hdp 4 30 (by decide) rfl (by kernel_rfl)) id) eg73 ((HNEXT.out wide (by omega) (by omega) _ hX.f.nx).mono ?_)
        rintro e W' ⟨r, rfl, h0, h1, hN, hC⟩
        exact ⟨_, rfl, ⟨r, rfl, h0, h1⟩, (hX.chg hN hC (by omega) (by omega) (by omega) (by omega)).set 5 (by decide)⟩
      | 6 =>
        intro o L V ho hL hd a' W hX hfr hdp; obtain rfl := Option.some.inj ho
        obtain ⟨e, r, e', h0, h1⟩ := hdp 5 31 (by decide) rfl (by kernel_rfl)
        exact opx_of (op_addt rfl (Dp (hdp 2 28 (by decide) rfl (by kernel_rfl)) id) (e.trans e') (by omega)) fun W' hb => ⟨⟨_, rfl, by omega, by omega⟩, (hX.later hb).set 6 (by decide)⟩
      | 7 =>
        intro o L V ho hL hd a' W hX hfr hdp; obtain rfl := Option.some.inj ho
        obtain ⟨e, r, e', h0, h1⟩ := hdp 6 32 (by decide) rfl (by kernel_rfl)
        exact opx_of (op_mint rfl (Dp (hdp 0 26 (by decide) rfl (by kernel_rfl)) id) (e.trans e')) fun W' hb => ⟨⟨_, rfl, by unfold mn; omega, by unfold mn; omega⟩, (hX.later hb).set 7 (by decide)⟩
      | 8 => intro o L V ho hL hd a' W hX hfr hdp; obtain rfl := Option.some.inj ho; exact opx_of (op_fa57 rfl (hfr 10 (by decide)) (by decide)) fun W' hb => ⟨rfl, (hX.later hb).set 8 (by decide)⟩
      | 9 =>
        intro o L V ho hL hd a' W hX hfr hdp; obtain rfl := Option.some.inj ho
        obtain ⟨e, r, e', h0, h1⟩ := hdp 7 33 (by decide) rfl (by kernel_rfl)
        obtain ⟨y, hb, _⟩ := hX.b
        refine opx_store3 rfl rfl (Dp (hdp 8 34 (by decide) rfl (by kernel_rfl)) id) (e.trans e') hb (by simp) fun W' hb' hc => ⟨trivial, hX.f.sto hc (by omega) (by omega) (by omega) (by omega) (by omega), (hc.2.1 _ (by omega)).trans hX.r, r, by simpa using hb', fun _ => ⟨h0, h1⟩⟩
      | j + 10 => intro o L V ho; simp at ho
    case fin =>
      intro W2 L V hL hF hI
      obtain ⟨hi, hb, hx⟩ := hI.b
      obtain ⟨hlh, hhm⟩ := hx (hL 9 (by decide))
      have HF2 := Lib.hid hI.f
      have H92 := Lib.hid hI.r
      have HB2 := Lib.hid hb
      clear hI hF hL hb HF1 H91 HB1 hx
      simp only [fill, Act.put, List.setIfInBounds_toArray, List.set_cons_zero, List.set_cons_succ, List.set_nil, Nat.reduceAdd]
      generalize V 0 = u0, V 1 = u1, V 2 = u2, V 3 = u3, V 4 = u4, V 5 = u5, V 6 = u6, V 7 = u7, V 8 = u8, V 9 = u9
      clear V
      obtain ⟨⟨c0, c1⟩, _⟩ := cells2 HB2.out
      have hne : W.heap.size ≠ B := by omega
      go_wp2_with (refine list_store2 rfl rfl rfl (.inr (.inr rfl)) rfl rfl H92.out ?_; intro V hz hc; have HFE := Lib.hid (HF2.out.sto hc (by omega) (by omega) (by omega) (by omega) (by omega)); obtain ⟨⟨g0, g1⟩, _⟩ := cells2 hz; clear hz hc)
      refine bodyPost_ret (v := .agg #[.int .i64 lo, .int .i64 hi]) (by simp [results, Tryd.results57, go_sem, g0, g1]) rfl ⟨lo, hi, rfl, hlo, hlh, hhm, HFE.out⟩
theorem list_store80 {Q : Exit → Act → World → Prop} {W : World} {ops : Array Oper} {o : Oper} {rest : List Oper} {a : Act} {s r b f : Nat} {lb : Array Value} {t : TypeId} {x0 : Value} (hg : o.guard = none) (hd : o.dst = none) (hop : o.op = Op.store 80 (.tmp s) (.tmp r))
    (he : a.eval (.tmp s) = .pointer (some ⟨b, 0, none⟩)) (hv : a.eval (.tmp r) = .func (.func f) #[] lb) (hb : W.heap[b]? = some (.cells #[x0] t (0, 0)))
    (hK : ∀ W', W'.heap[b]? = some (.cells #[.func (.func f) #[] lb] t (0, 0)) → Chg b W W' → wpList Tryd.prog ops Q rest a W') : wpList Tryd.prog ops Q (o :: rest) a W := by
  have c0 := (cell_of_block hb 0).trans rfl
  simp only [List.getElem?_toArray, List.getElem?_cons_zero] at c0
  have f0 := frozen_of_block hb 0
  have he' : a.tmps[s]?.getD undef = .pointer (some ⟨b, 0, none⟩) := by simpa [Act.eval] using he
  have hv' : a.tmps[r]?.getD undef = .func (.func f) #[] lb := by simpa [Act.eval] using hv
  refine list_store hg hd ?_ (hK (W.setCell ⟨b, 0, none⟩ (.func (.func f) #[] lb)) (setCell_block hb 0 _) (chg_setCell W b 0 _))
  have hst : (store ⟨b, 0, none⟩ (.func (.func f) #[] lb)).run Tryd.prog W = .ok () (W.setCell ⟨b, 0, none⟩ (.func (.func f) #[] lb)) := by
    rw [run_store _ _ _ _ _ rfl]
    simp [go_sem, c0, f0]
  unfold execOp
  rw [hop]
  simp [go_sem, he', hv', hst]
set_option maxHeartbeats 4000000 in
theorem Frozen_any (p : Option Addr) (k cap : Nat) (hk : k ≤ 9223372036854775807) (w : World) (hB : BytesIn w p k) :
    Calls Tryd.prog 26 #[.slice p k cap] w fun e w' => ∃ lo hi : Ic, e = .returned (.agg (cellV lo hi)) ∧ GoodC lo hi ∧ Below w.heap.size w w' := by
  obtain ⟨t1, t2, t3, t4, tz, tb⟩ := four_allocs w (.cells #[.int .i64 0, .int .i64 0, .int .i64 0, .int .i64 0, .int .i64 0, .int .i64 0, .int .i64 0, .int .i64 0] 59) (.cells #[.slice p k cap] 50) (.cells #[.int .i64 0] 3) (.cells #[.nilFunc] 80)
  have H1 := Lib.hid t1
  have H2 := Lib.hid t2
  have H3 := Lib.hid t3
  have H4 := Lib.hid t4
  have HB := Lib.hid tb
  clear t1 t2 t3 t4 tb
  go_enter Tryd.func26, Tryd.ntmps26
  go_wp2_with fail
  refine (Drawn_any p k cap _).mono ?_
  rintro e w' ⟨rfl, rfl⟩
  go_wp2_with (refine list_store80 rfl rfl rfl rfl rfl H4.out ?_; intro V hz hc; have HF := Lib.hid (show FzIn w p k cap w.heap.size (.cells #[.int .i64 0, .int .i64 0, .int .i64 0, .int .i64 0, .int .i64 0, .int .i64 0, .int .i64 0, .int .i64 0] 59 (0, 0)) (w.heap.size + 1 + 1) (w.heap.size + 1) (w.heap.size + 1 + 1 + 1) V from ⟨⟨HB.out.trans (hc.below (by omega)), ⟨0, Nat.zero_le _, (hc.2.1 _ (by omega)).trans H3.out⟩, (hc.2.1 _ (by omega)).trans H2.out⟩, hz, (hc.2.1 _ (by omega)).trans H1.out⟩); clear hz hc H1 H2 H3 H4 HB)
  refine (Frozen1_any w p k cap hk hB _ _ _ _ _ (by omega) (by omega) (by omega) 1 40 100 100 (by decide) (by decide) (by decide) (by decide) (by decide) (by decide) (by decide) (by decide) (by decide) _ HF.out).mono ?_
  rintro e W1 ⟨a0, a1, rfl, ha0, ha1, ha2, hf⟩
  replace HF := Lib.hid hf
  clear hf
  go_wp2_with fail
  refine (Frozen1_any w p k cap hk hB _ _ _ _ _ (by omega) (by omega) (by omega) 2 120 400 200 (by decide) (by decide) (by decide) (by decide) (by decide) (by decide) (by decide) (by decide) (by decide) _ HF.out).mono ?_
  rintro e W2 ⟨b0, b1, rfl, hb0, hb1, hb2, hf⟩
  replace HF := Lib.hid hf
  clear hf
  go_wp2_with fail
  refine (Frozen1_any w p k cap hk hB _ _ _ _ _ (by omega) (by omega) (by omega) 1 20 100 100 (by decide) (by decide) (by decide) (by decide) (by decide) (by decide) (by decide) (by decide) (by decide) _ HF.out).mono ?_
  rintro e W3 ⟨c0, c1, rfl, hc0, hc1, hc2, hf⟩
  replace HF := Lib.hid hf
  clear hf
  go_wp2_with fail
  refine (Frozen1_any w p k cap hk hB _ _ _ _ _ (by omega) (by omega) (by omega) 1 4 3 3 (by decide) (by decide) (by decide) (by decide) (by decide) (by decide) (by decide) (by decide) (by decide) _ HF.out).mono ?_
  rintro e W4 ⟨d0, d1, rfl, hd0, hd1, hd2, hf⟩
  replace HF := Lib.hid hf
  clear hf
  go_wp2_with (refine list_store8 rfl rfl rfl (.inl rfl) rfl rfl HF.out.z ?_; intro V hz hc; have HB := Lib.hid (HF.out.nx.low.trans (hc.below (Nat.le_refl _))); obtain ⟨⟨g0, g1, g2, g3, g4, g5, g6, g7⟩, _⟩ := cells8 hz; clear hz hc HF)
  refine bodyPost_ret (v := .agg (cellV ⟨a0, b0, c0, d0⟩ ⟨a1, b1, c1, d1⟩)) (by simp [results, Tryd.results26, go_sem, g0, g1, g2, g3, g4, g5, g6, g7, cellV]) rfl ⟨⟨a0, b0, c0, d0⟩, ⟨a1, b1, c1, d1⟩, rfl, ⟨⟨⟨by simp; omega, by simp; omega⟩, ⟨by simp; omega, by simp; omega⟩, ⟨by simp; omega, by simp; omega⟩, ⟨by simp; omega, by simp; omega⟩⟩, ⟨⟨by simp; omega, by simp; omega⟩, ⟨by simp; omega, by simp; omega⟩, ⟨by simp; omega, by simp; omega⟩, ⟨by simp; omega, by simp; omega⟩⟩, ⟨ha1, hb1, hc1, hd1⟩⟩, HB.out⟩
end Go.Proofs.YtcoiklolgilhaaaDoor
