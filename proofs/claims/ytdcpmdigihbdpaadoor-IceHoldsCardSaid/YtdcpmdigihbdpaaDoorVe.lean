/- IceHolds: whatever is passed in, the reports of an allowed course hold it, at each hour. -/
import Derived.Test.YtdcpmdigihbdpaaDoorVd
namespace Go.Proofs.YtdcpmdigihbdpaaDoor
open Go.RowKit
set_option maxRecDepth 100000
section
variable {Q : Exit → Act → World → Prop} {o : Oper} {a : Act} {W : World} {R : Value → World → Prop}
theorem opx_call4 {f s0 s1 s2 s3 : Nat} {v0 v1 v2 v3 : Value} {ts : Array TypeId} (hop : o.op = Op.call { callee := .value (.func f), args := #[.tmp s0, .tmp s1, .tmp s2, .tmp s3], argTypes := ts })
    (h0 : a.eval (.tmp s0) = v0) (h1 : a.eval (.tmp s1) = v1) (h2 : a.eval (.tmp s2) = v2) (h3 : a.eval (.tmp s3) = v3) (eg : ∀ args w, (callFunc f args).run Tryd.prog w = .ok (.enter f args) w) (hc : Calls Tryd.prog f #[v0, v1, v2, v3] W fun e w' => ∃ x, e = .returned x ∧ R x w') : o.wp Tryd.prog a W (fun a'' W'' => ∃ x, a'' = a.put o.dst x ∧ R x W'') Q := by
  have h0' : a.tmps[s0]?.getD undef = v0 := by simpa [Act.eval] using h0
  have h1' : a.tmps[s1]?.getD undef = v1 := by simpa [Act.eval] using h1
  have h2' : a.tmps[s2]?.getD undef = v2 := by simpa [Act.eval] using h2
  have h3' : a.tmps[s3]?.getD undef = v3 := by simpa [Act.eval] using h3
  unfold Oper.wp execOp
  rw [hop]
  simp [go_sem, h0', h1', h2', h3', eg]
  refine hc.mono ?_
  rintro e w' ⟨x, rfl, hb⟩
  exact ⟨x, rfl, hb⟩
theorem opx_call3c {f s0 s1 s2 : Nat} {v0 v1 v2 c : Value} {ts : Array TypeId} (hop : o.op = Op.call { callee := .value (.func f), args := #[.tmp s0, .tmp s1, .tmp s2, .const c], argTypes := ts })
    (h0 : a.eval (.tmp s0) = v0) (h1 : a.eval (.tmp s1) = v1) (h2 : a.eval (.tmp s2) = v2) (eg : ∀ args w, (callFunc f args).run Tryd.prog w = .ok (.enter f args) w) (hc : Calls Tryd.prog f #[v0, v1, v2, c] W fun e w' => ∃ x, e = .returned x ∧ R x w') : o.wp Tryd.prog a W (fun a'' W'' => ∃ x, a'' = a.put o.dst x ∧ R x W'') Q := by
  have h0' : a.tmps[s0]?.getD undef = v0 := by simpa [Act.eval] using h0
  have h1' : a.tmps[s1]?.getD undef = v1 := by simpa [Act.eval] using h1
  have h2' : a.tmps[s2]?.getD undef = v2 := by simpa [Act.eval] using h2
  unfold Oper.wp execOp
  rw [hop]
  simp [go_sem, h0', h1', h2', eg]
  refine hc.mono ?_
  rintro e w' ⟨x, rfl, hb⟩
  exact ⟨x, rfl, hb⟩
end
theorem eg50 : ∀ args w, (callFunc 50 args).run Tryd.prog w = .ok (.enter 50 args) w := Go.Proofs.enters_of Tryd.func50 (by kernel_rfl) rfl
theorem eg49 : ∀ args w, (callFunc 49 args).run Tryd.prog w = .ok (.enter 49 args) w := Go.Proofs.enters_of Tryd.func49 (by kernel_rfl) rfl
/-- What is known of each value while the course is made. -/
def hoPv (u d : Nat → Int) (s1 s2 s3 s4 : Int) (p : Option Addr) (n c : Nat) (j : Nat) (v : Value) (X : World) : Prop :=
  match j with
  | 0 => v = .agg (ratesA u d)
  | 1 => v = .int .i64 s1
  | 2 => v = .int .i64 s2
  | 3 => v = .int .i64 s3
  | 4 => v = .int .i64 s4
  | 5 => v = .agg (iceA (rgN s1 s2 s3 s4))
  | 6 => v = .slice p n c
  | 7 | 8 => ∃ p' c' Y, v = .slice p' 81 c' ∧ Ices X p' 81 Y ∧ Good (rgN s1 s2 s3 s4) u d Y 81
  | _ => True
theorem hoPv_later {u d : Nat → Int} {s1 s2 s3 s4 : Int} {p : Option Addr} {n c : Nat} {j : Nat} {v : Value} {X X' : World} (h : hoPv u d s1 s2 s3 s4 p n c j v X) (hb : Below X.heap.size X X') : hoPv u d s1 s2 s3 s4 p n c j v X' := by
  match j with
  | 0 | 1 | 2 | 3 | 4 | 5 | 6 => exact h
  | 7 | 8 => obtain ⟨p', c', Y, e1, e2, e3⟩ := h; exact ⟨p', c', Y, e1, e2.later hb, e3⟩
  | j + 9 => trivial
/-- What is known of each value while one report of a course is made. -/
def hdPv (Y : Nat → Nat → Int) (N : Nat → Int) (k n c b o b2 o2 cy z base : Nat) (v : Value) (j : Nat) (y : Value) (X : World) : Prop :=
  match j with
  | 0 => y = v
  | 1 | 2 | 7 | 18 | 23 => y = .int .i64 (k : Int)
  | 3 => y = .int .i64 ((k : Int) % 3)
  | 4 => y = .int .i64 (1 + (k : Int) % 3)
  | 5 | 14 => y = .int .i64 (N k % 60)
  | 6 | 17 | 22 => y = .slice (some ⟨b, o, none⟩) n c
  | 8 | 19 | 24 => y = .pointer (some ⟨b, o + k, none⟩)
  | 9 | 20 | 25 => y = .int .i64 (N k)
  | 10 => y = .int .i64 (wrap64 ((N k).tdiv 60))
  | 11 => y = .int .i64 (wrap64 ((N k).tdiv 60) % 15)
  | 12 => y = .int .i64 (1 + wrap64 ((N k).tdiv 60) % 15)
  | 13 => y = .slice (some ⟨b2, o2, none⟩) 81 cy
  | 15 => y = .pointer (some ⟨b2, o2 + (N k % 60).toNat * 4, none⟩)
  | 16 => y = .agg (iceA (Y (N k % 60).toNat))
  | 21 => y = .int .i64 (wrap64 ((N k).tdiv 7))
  | 26 => y = .int .i64 (wrap64 ((N k).tdiv 11))
  | 27 => y = .agg (cellA (hdRep Y N k).lo (hdRep Y N k).hi)
  | 28 => y = .agg (repA (hdRep Y N k))
  | 29 => ∃ B, y = .slice (some ⟨B, 0, none⟩) 1 1 ∧ z ≤ B ∧ X.heap[B]? = some (.cells (repA (hdRep Y N k)) 67 (0, 0))
  | 30 | 31 => ∃ g' c', y = .slice (some ⟨g', 0, none⟩) (k + 1) c' ∧ X.ownsRow base 67 14 y (k + 1) (repRow (hdRep Y N) (k + 1))
  | _ => True
theorem hdPv_later {Y : Nat → Nat → Int} {N : Nat → Int} {k n c b o b2 o2 cy z base : Nat} {v : Value} {j : Nat} {y : Value} {X X' : World} (h : hdPv Y N k n c b o b2 o2 cy z base v j y X) (hb : Below X.heap.size X X') : hdPv Y N k n c b o b2 o2 cy z base v j y X' := by
  match j with
  | 0 | 1 | 2 | 3 | 4 | 5 | 6 | 7 | 8 | 9 | 10 | 11 | 12 | 13 | 14 | 15 | 16 | 17 | 18 | 19 | 20 | 21 | 22 | 23 | 24 | 25 | 26 | 27 | 28 => exact h
  | 29 => obtain ⟨B, e1, e2, e3⟩ := h; exact ⟨B, e1, e2, (hb.block B (lt_of_block e3)).trans e3⟩
  | 30 | 31 => obtain ⟨g', c', e1, e2⟩ := h; exact ⟨g', c', e1, row_later e2 hb⟩
  | j + 32 => trivial
/-- What is known of the memory meanwhile. -/
structure HdWd (w W : World) (L : Nat → Bool) (X : World) : Prop where
  ahead : L 30 = false → Below W.heap.size W X
  below : Below w.heap.size w X
  size : W.heap.size ≤ X.heap.size
  o30 : L 30 = true → L 0 = true
  o31 : L 31 = true → L 30 = true
theorem HdWd.later {w W : World} {L : Nat → Bool} {X X' : World} (h : HdWd w W L X) (hb : Below X.heap.size X X') {i : Nat} (h1 : 30 ≠ i) (h2 : 31 ≠ i) : HdWd w W (fun j => if j = i then true else L j) X' :=
  ⟨fun e => (h.ahead (by rw [if_neg h1] at e; exact e)).trans (hb.mono h.size), h.below.trans (hb.mono h.below.size), Nat.le_trans h.size hb.size,
    fun e => by rw [if_neg h1] at e; by_cases h0 : 0 = i; (· rw [if_pos h0]); (· rw [if_neg h0]; exact h.o30 e), fun e => by rw [if_neg h2] at e; rw [if_neg h1]; exact h.o31 e⟩
theorem HdWd.own {w W : World} {L : Nat → Bool} {X : World} (h : HdWd w W L X) (h0 : L 0 = false) : L 31 = false := by
  cases e : L 31 with
  | false => rfl
  | true => have := h.o30 (h.o31 e); rw [h0] at this; cases this
theorem eg52 : ∀ args w, (callFunc 52 args).run Tryd.prog w = .ok (.enter 52 args) w := Go.Proofs.enters_of Tryd.func52 (by kernel_rfl) rfl
theorem Has_have {lo hi n : Nat → Int} (h : okCell lo hi = true) (h' : okIce n = true) (V : World) (hl : Lim V) : Calls Tryd.prog 20 #[.agg (cellA lo hi), .agg (iceA n)] V fun e w' => e = .returned (.tuple #[.bool (hasB lo hi n), .int .i64 0]) ∧ Below V.heap.size V w' := by
  have e0 : hasE lo hi n = 0 := by unfold hasE orL errB; rw [h, h']; rfl
  have e : hasRes lo hi n = .tuple #[.bool (hasB lo hi n), .int .i64 0] := by unfold hasRes; rw [if_pos e0]
  have := Has_any lo hi n V hl
  rwa [e] at this
theorem cm_ok {CL CH : Nat → Nat → Int} {n : Nat} {y : Nat → Int} (h : HaveAll CL CH n y) : okCell (cmLo allT CL n) (cmHi allT CH n) = true := by
  refine (okCell_iff _ _).2 fun q hq => ?_
  have := (have_cm h allT n (Nat.le_refl _)).2 q hq
  refine ⟨?_, by omega, ?_⟩
  · clear this h
    induction n with
    | zero => exact Int.le_refl _
    | succ n ih => unfold cmLo; unfold mx; split <;> omega
  · clear this h
    induction n with
    | zero => exact Int.le_refl _
    | succ n ih => unfold cmHi; unfold mn; split <;> omega
theorem cm_has {CL CH : Nat → Nat → Int} {n : Nat} {y : Nat → Int} (h : HaveAll CL CH n y) : hasB (cmLo allT CL n) (cmHi allT CH n) y = true :=
  allB_yes fun q hq => decide_eq_true ((have_cm h allT n (Nat.le_refl _)).2 q hq)
theorem ice_have {CL CH : Nat → Nat → Int} {n : Nat} {y : Nat → Int} (h : HaveAll CL CH n y) : okIce y = true := allB_yes fun q hq => decide_eq_true (h.1 q hq)
theorem fu_have {CL CH : Nat → Nat → Int} {n : Nat} {y : Nat → Int} (h : HaveAll CL CH n y) : fuRes CL CH n = .tuple #[.agg (cellA (cmLo allT CL n) (cmHi allT CH n)), .int .i64 0] := by
  unfold fuRes
  rw [if_pos (have_cm h allT n (Nat.le_refl _)).1]
theorem head_cm {CL CH : Nat → Nat → Int} {n : Nat} {y : Nat → Int} (hn : n ≤ 12) (h : HaveAll CL CH n y) : cmLo (headS CL CH n) CL n = cmLo allT CL n ∧ cmHi (headS CL CH n) CH n = cmHi allT CH n :=
  cm_congr fun k hk => (have_head hn h k).trans (decide_eq_true hk)
theorem row_slice {W : World} {base n size : Nat} {e : TypeId} {v : Value} {xs : List Value} (h : W.ownsRow base e size v n xs) : ∃ p c, v = .slice p n c := by
  rcases h.2 with ⟨h1, h2⟩ | ⟨g, cap, cur, h1, _⟩
  · exact ⟨none, 0, by rw [h1, h2]⟩
  · exact ⟨_, _, h1⟩
set_option maxHeartbeats 16000000 in
theorem Holds_any (u d : Nat → Int) (s1 s2 s3 s4 : Int) (p5 p6 : Option Addr) (n5 c5 n6 c6 : Nat) (N5 N6 : Nat → Int) (w : World) (hl : Lim w) (h5 : IntsO w p5 n5 N5) (h6 : IntsO w p6 n6 N6) :
    Calls Tryd.prog 5 #[.agg (ratesA u d), .int .i64 s1, .int .i64 s2, .int .i64 s3, .int .i64 s4, .slice p5 n5 c5, .slice p6 n6 c6] w fun e w' => e = .returned (.bool true) ∧ Below w.heap.size w w' := by
  have hpos := hl.pos
  have HL := Lib.hid hl
  have H5 := Lib.hid h5
  have H6 := Lib.hid h6
  clear hl h5 h6
  have K0 := Lib.hid (block_new w (.cells (ratesA u d) 29))
  have KB := Lib.hid (show Below w.heap.size w (w.alloc (.cells (ratesA u d) 29)) from (Below.refl _ _).alloc (Nat.le_refl _) _)
  by_cases h9 : 9 < n6
  · have h9' : (9 : Int) < (n6 : Int) := by omega
    go_enter Tryd.func5, Tryd.ntmps5
    go_wp2_with fail
    generalize w.alloc (.cells (ratesA u d) 29) = V at *
    refine (awake_any V (HL.out.below hpos KB.out)).mono ?_
    rintro e W ⟨rfl, hb⟩
    replace KB := Lib.hid (keep_bl1 KB.out hb)
    clear hb
    go_wp2_with fail
    go_ret
    exact ⟨rfl, KB.out⟩
  · have h9' : ¬ (9 : Int) < (n6 : Int) := by omega
    go_enter Tryd.func5, Tryd.ntmps5
    have cR := (cells8 K0.out).1
    obtain ⟨r0, r1, r2, r3, r4, r5, r6, r7⟩ := cR
    go_wp2_with fail
    clear r0 r1 r2 r3 r4 r5 r6 r7
    generalize w.alloc (.cells (ratesA u d) 29) = V at *
    refine (Rates_any u d V).mono ?_
    rintro e W ⟨rfl, hb⟩
    replace K0 := Lib.hid (keep_blk (o' := .cells (ratesA u d) 41) K0.out hb)
    replace KB := Lib.hid (keep_bl (o' := .cells (ratesA u d) 41) KB.out hb)
    have K1 := Lib.hid (block_new W (.cells (ratesA u d) 41))
    have cR := (cells8 K1.out).1
    obtain ⟨r0, r1, r2, r3, r4, r5, r6, r7⟩ := cR
    clear hb
    go_wp2_with fail
    clear r0 r1 r2 r3 r4 r5 r6 r7
    generalize W.alloc (.cells (ratesA u d) 41) = V1 at *
    refine (CheckRates_any u d V1).mono ?_
    rintro e W2 ⟨rfl, hb⟩
    replace K1 := Lib.hid (keep_blk1 K1.out hb)
    replace KB := Lib.hid (keep_bl1 KB.out hb)
    clear hb K0
    by_cases hr : okRates u d = true
    · have he0 : errB (okRates u d) 6 = 0 := by rw [hr]; rfl
      rw [he0]
      go_wp2_with fail
      refine wp_region_vals [44, 45, 46, 47, 48, 49, 50, 51, 16] (fun _ X => Below W2.heap.size W2 X) (hoPv u d s1 s2 s3 s4 p5 n5 c5)
        (by kernel_rfl) (by kernel_rfl) (fun s hs h => by simp at hs ⊢; omega) (by simp) ⟨rfl, rfl, rfl, Nat.le_refl _, fun _ _ => rfl⟩ ?val ?fin
      case val =>
        intro j
        match j with
        | 0 => intro o L ho hLi hd a' X hX hfr hdp; obtain rfl := Option.some.inj ho; exact opx_load41 rfl (hfr 15 (by decide)) ((hX.block _ (lt_of_block K1.out)).trans K1.out) ⟨hX, rfl, fun _ _ h => h⟩
        | 1 => intro o L ho hLi hd a' X hX hfr hdp; obtain rfl := Option.some.inj ho; exact opx_move rfl (hfr 1 (by decide)) ⟨hX, rfl, fun _ _ h => h⟩
        | 2 => intro o L ho hLi hd a' X hX hfr hdp; obtain rfl := Option.some.inj ho; exact opx_move rfl (hfr 2 (by decide)) ⟨hX, rfl, fun _ _ h => h⟩
        | 3 => intro o L ho hLi hd a' X hX hfr hdp; obtain rfl := Option.some.inj ho; exact opx_move rfl (hfr 3 (by decide)) ⟨hX, rfl, fun _ _ h => h⟩
        | 4 => intro o L ho hLi hd a' X hX hfr hdp; obtain rfl := Option.some.inj ho; exact opx_move rfl (hfr 4 (by decide)) ⟨hX, rfl, fun _ _ h => h⟩
        | 5 =>
          intro o L ho hLi hd a' X hX hfr hdp; obtain rfl := Option.some.inj ho
          refine opx_call4 rfl (hdp 1 45 (by decide) rfl (by kernel_rfl)) (hdp 2 46 (by decide) rfl (by kernel_rfl)) (hdp 3 47 (by decide) rfl (by kernel_rfl)) (hdp 4 48 (by decide) rfl (by kernel_rfl)) eg50 ((ranged_any s1 s2 s3 s4 X).mono ?_)
          rintro e W' ⟨rfl, hb⟩
          exact ⟨_, rfl, hX.trans (hb.mono hX.size), rfl, fun _ _ h => hoPv_later h hb⟩
        | 6 => intro o L ho hLi hd a' X hX hfr hdp; obtain rfl := Option.some.inj ho; exact opx_move rfl (hfr 5 (by decide)) ⟨hX, rfl, fun _ _ h => h⟩
        | 7 =>
          intro o L ho hLi hd a' X hX hfr hdp; obtain rfl := Option.some.inj ho
          refine opx_call3c rfl (hdp 0 44 (by decide) rfl (by kernel_rfl)) (hdp 5 49 (by decide) rfl (by kernel_rfl)) (hdp 6 50 (by decide) rfl (by kernel_rfl)) eg49 ((Course_any (rgN s1 s2 s3 s4) u d p5 n5 c5 N5 X (rgN_ok s1 s2 s3 s4) hr (H5.out.later (KB.out.trans (hX.mono KB.out.size)))).mono ?_)
          rintro e W' ⟨p', c', Y, ⟨rfl, hY⟩, hG, hb⟩
          exact ⟨_, rfl, hX.trans (hb.mono hX.size), ⟨p', c', Y, rfl, hY, hG⟩, fun _ _ h => hoPv_later h hb⟩
        | 8 => intro o L ho hLi hd a' X hX hfr hdp; obtain rfl := Option.some.inj ho; exact opx_assign rfl rfl ⟨hX, (hdp 7 51 (by decide) rfl (by kernel_rfl)), fun _ _ h => h⟩
        | j + 9 => intro o L ho; simp at ho
      case fin =>
        intro X L Vv hLL hX hV
        obtain ⟨p', c', Y, e8, hY, hG⟩ := hV 8 (by decide)
        replace K1 := Lib.hid (keep_blk1 K1.out hX)
        replace KB := Lib.hid (keep_bl1 KB.out hX)
        have HY := Lib.hid hY
        have HG := Lib.hid hG
        simp only [fill, Act.put, List.setIfInBounds_toArray, List.set_cons_zero, List.set_cons_succ, Nat.reduceAdd, e8]
        clear hX hLL hV hY hG e8
        have cR := (cells8 K1.out).1
        obtain ⟨r0, r1, r2, r3, r4, r5, r6, r7⟩ := cR
        go_wp2_with fail
        clear r0 r1 r2 r3 r4 r5 r6 r7
        refine (Allowed_any p' 81 c' Y u d X (HL.out.below hpos KB.out) HY.out (by decide)).mono ?_
        rintro e W3 ⟨rfl, hb⟩
        rw [HG.out.allow hr (by decide)]
        replace K1 := Lib.hid (keep_blk1 K1.out hb)
        replace KB := Lib.hid (keep_bl1 KB.out hb)
        replace HY := Lib.hid (HY.out.later hb)
        clear hb
        go_wp2_with fail
        go_loopw [19, 20, 21] (fun v m i wr => ∃ (k : Nat) (pk : Option Addr) (ck : Nat) (last : Nat), k ≤ n6 ∧ i = .int .i64 k ∧ v = .slice pk k ck ∧ m = .int .i64 last ∧ last ≤ 59 ∧ Hid (∀ i, i < k → N6 i % 60 ≤ (last : Int)) ∧ Hid (wr.ownsRow W3.heap.size 67 14 (.slice pk k ck) k (repRow (hdRep Y N6) k)) ∧ Hid (Below W3.heap.size W3 wr)) (fun _ _ i _ => n6 - (intOf i).toNat)
        case atStart => exact ⟨0, none, 0, 0, by omega, rfl, rfl, rfl, by omega, Lib.hid (fun i hi => by omega), World.ownsRow_nil _ _ _ _, Lib.hid (Below.refl _ _)⟩
        case round =>
          obtain ⟨k, pk, ck, last, hk, rfl, rfl, rfl, hl59, hL60, hO, hB⟩ := hrel
          by_cases hlt : k < n6
          · have hkn : (k : Int) < (n6 : Int) := by omega
            have hk0 : (0 : Int) ≤ (k : Int) := by omega
            obtain ⟨b, o, rfl, hb0, hc0⟩ := (H6.out.later KB.out) k hlt
            have hb1 : b < W3.heap.size := hb0
            have hc1 : W3.cell? ⟨b, o + k, none⟩ = some (.int .i64 (N6 k)) := hc0
            have hc2 : wr.cell? ⟨b, o + k, none⟩ = some (.int .i64 (N6 k)) := (hB.out.cell (p := ⟨b, o + k, none⟩) hb1).trans hc1
            have m0 := Int.emod_nonneg (N6 k) (show (60 : Int) ≠ 0 by decide)
            have m1 := Int.emod_lt_of_pos (N6 k) (show (0 : Int) < 60 by decide)
            have hh81 : (N6 k % 60).toNat < 81 := by omega
            have hhe : N6 k % 60 = (((N6 k % 60).toNat : Nat) : Int) := by omega
            obtain ⟨b2, o2, rfl, hb2, d0, d1, d2, d3⟩ := HY.out _ hh81
            have hvlt : ∀ j, (Value.slice pk k ck).ownBlock = some j → W3.heap.size ≤ j ∧ j < wr.heap.size := hO.out.lt
            replace hhe := Lib.hid hhe
            by_cases hm : (last : Int) < N6 k % 60
            · go_wp2_with fail
              refine (Pick_any (N6 k) 60 (by decide) (by decide) wr).mono ?_
              rintro e Wx ⟨rfl, rfl⟩
              go_wp2_with fail
              refine wp_region_valsF [78, 79, 80, 81, 82, 83, 84, 85, 86, 87, 88, 89, 90, 91, 92, 93, 94, 95, 96, 97, 98, 99, 100, 101, 102, 103, 104, 105, 106, 107, 108, 19] (HdWd W3 wr) (hdPv Y N6 k n6 c6 b o b2 o2 c' wr.heap.size W3.heap.size (.slice pk k ck))
                (by kernel_rfl) (by kernel_rfl) (fun s hs h => by simp at hs ⊢; omega) (by simp) ⟨fun _ => ⟨rfl, rfl, rfl, Nat.le_refl _, fun _ _ => rfl⟩, ⟨hB.out.os, hB.out.tape, hB.out.output, hB.out.size, hB.out.block⟩, Nat.le_refl _, (fun h => by cases h), (fun h => by cases h)⟩ ?val ?fin
              case val =>
                intro j
                match j with
                | 0 => intro o L ho hLi hd a' X hX hfr hdp hno; obtain rfl := Option.some.inj ho; exact opx_move rfl ((hno 31 19 (by decide) rfl (hX.own (hLi))).trans rfl) ⟨hX.later (Below.refl _ _) (by decide) (by decide), rfl, fun _ _ _ h => h⟩
                | 1 => intro o L ho hLi hd a' X hX hfr hdp hno; obtain rfl := Option.some.inj ho; exact opx_move rfl (hfr 21 (by decide)) ⟨hX.later (Below.refl _ _) (by decide) (by decide), rfl, fun _ _ _ h => h⟩
                | 2 => intro o L ho hLi hd a' X hX hfr hdp hno; obtain rfl := Option.some.inj ho; exact opx_move rfl (hfr 21 (by decide)) ⟨hX.later (Below.refl _ _) (by decide) (by decide), rfl, fun _ _ _ h => h⟩
                | 3 => intro o L ho hLi hd a' X hX hfr hdp hno; obtain rfl := Option.some.inj ho; exact opx_rem3 rfl (hdp 2 80 (by decide) rfl (by kernel_rfl)) ⟨hX.later (Below.refl _ _) (by decide) (by decide), rfl, fun _ _ _ h => h⟩
                | 4 => intro o L ho hLi hd a' X hX hfr hdp hno; obtain rfl := Option.some.inj ho; exact opx_add rfl (hdp 3 81 (by decide) rfl (by kernel_rfl)) (Int.emod_nonneg _ (by decide)) (Int.le_trans (Int.le_of_lt (Int.emod_lt_of_pos _ (by decide))) (by decide)) ⟨hX.later (Below.refl _ _) (by decide) (by decide), rfl, fun _ _ _ h => h⟩
                | 5 => intro o L ho hLi hd a' X hX hfr hdp hno; obtain rfl := Option.some.inj ho; exact opx_move rfl (hfr 22 (by decide)) ⟨hX.later (Below.refl _ _) (by decide) (by decide), rfl, fun _ _ _ h => h⟩
                | 6 => intro o L ho hLi hd a' X hX hfr hdp hno; obtain rfl := Option.some.inj ho; exact opx_move rfl (hfr 6 (by decide)) ⟨hX.later (Below.refl _ _) (by decide) (by decide), rfl, fun _ _ _ h => h⟩
                | 7 => intro o L ho hLi hd a' X hX hfr hdp hno; obtain rfl := Option.some.inj ho; exact opx_move rfl (hfr 21 (by decide)) ⟨hX.later (Below.refl _ _) (by decide) (by decide), rfl, fun _ _ _ h => h⟩
                | 8 => intro o L ho hLi hd a' X hX hfr hdp hno; obtain rfl := Option.some.inj ho; exact opx_index89 hlt rfl (hdp 6 84 (by decide) rfl (by kernel_rfl)) (hdp 7 85 (by decide) rfl (by kernel_rfl)) ⟨hX.later (Below.refl _ _) (by decide) (by decide), rfl, fun _ _ _ h => h⟩
                | 9 => intro o L ho hLi hd a' X hX hfr hdp hno; obtain rfl := Option.some.inj ho; exact opx_load3 rfl (hdp 8 86 (by decide) rfl (by kernel_rfl)) ((hX.below.cell (p := ⟨b, o + k, none⟩) hb1).trans hc1) ⟨hX.later (Below.refl _ _) (by decide) (by decide), rfl, fun _ _ _ h => h⟩
                | 10 => intro o L ho hLi hd a' X hX hfr hdp hno; obtain rfl := Option.some.inj ho; exact opx_quo (.inl rfl) rfl (hdp 9 87 (by decide) rfl (by kernel_rfl)) ⟨hX.later (Below.refl _ _) (by decide) (by decide), rfl, fun _ _ _ h => h⟩
                | 11 =>
                  intro o L ho hLi hd a' X hX hfr hdp hno; obtain rfl := Option.some.inj ho
                  refine opx_callc rfl (hdp 10 88 (by decide) rfl (by kernel_rfl)) eg51 ((Pick_any (wrap64 ((N6 k).tdiv 60)) 15 (by decide) (by decide) X).mono ?_)
                  rintro e W' ⟨rfl, rfl⟩
                  exact ⟨_, rfl, hX.later (Below.refl _ _) (by decide) (by decide), rfl, fun _ _ _ h => h⟩
                | 12 => intro o L ho hLi hd a' X hX hfr hdp hno; obtain rfl := Option.some.inj ho; exact opx_add rfl (hdp 11 89 (by decide) rfl (by kernel_rfl)) (Int.emod_nonneg _ (by decide)) (Int.le_trans (Int.le_of_lt (Int.emod_lt_of_pos _ (by decide))) (by decide)) ⟨hX.later (Below.refl _ _) (by decide) (by decide), rfl, fun _ _ _ h => h⟩
                | 13 => intro o L ho hLi hd a' X hX hfr hdp hno; obtain rfl := Option.some.inj ho; exact opx_move rfl (hfr 16 (by decide)) ⟨hX.later (Below.refl _ _) (by decide) (by decide), rfl, fun _ _ _ h => h⟩
                | 14 => intro o L ho hLi hd a' X hX hfr hdp hno; obtain rfl := Option.some.inj ho; exact opx_move rfl (hfr 22 (by decide)) ⟨hX.later (Below.refl _ _) (by decide) (by decide), rfl, fun _ _ _ h => h⟩
                | 15 => intro o L ho hLi hd a' X hX hfr hdp hno; obtain rfl := Option.some.inj ho; exact opx_index57 (i := (N6 k % 60).toNat) hh81 rfl (hdp 13 91 (by decide) rfl (by kernel_rfl)) ((hdp 14 92 (by decide) rfl (by kernel_rfl)).trans (congrArg (Value.int .i64) hhe)) ⟨hX.later (Below.refl _ _) (by decide) (by decide), rfl, fun _ _ _ h => h⟩
                | 16 => intro o L ho hLi hd a' X hX hfr hdp hno; obtain rfl := Option.some.inj ho; exact opx_load37o rfl (hdp 15 93 (by decide) rfl (by kernel_rfl)) ((hX.below.cell (p := ⟨b2, _, none⟩) hb2).trans d0) ((hX.below.cell (p := ⟨b2, _, none⟩) hb2).trans d1) ((hX.below.cell (p := ⟨b2, _, none⟩) hb2).trans d2) ((hX.below.cell (p := ⟨b2, _, none⟩) hb2).trans d3) ⟨hX.later (Below.refl _ _) (by decide) (by decide), rfl, fun _ _ _ h => h⟩
                | 17 => intro o L ho hLi hd a' X hX hfr hdp hno; obtain rfl := Option.some.inj ho; exact opx_move rfl (hfr 6 (by decide)) ⟨hX.later (Below.refl _ _) (by decide) (by decide), rfl, fun _ _ _ h => h⟩
                | 18 => intro o L ho hLi hd a' X hX hfr hdp hno; obtain rfl := Option.some.inj ho; exact opx_move rfl (hfr 21 (by decide)) ⟨hX.later (Below.refl _ _) (by decide) (by decide), rfl, fun _ _ _ h => h⟩
                | 19 => intro o L ho hLi hd a' X hX hfr hdp hno; obtain rfl := Option.some.inj ho; exact opx_index89 hlt rfl (hdp 17 95 (by decide) rfl (by kernel_rfl)) (hdp 18 96 (by decide) rfl (by kernel_rfl)) ⟨hX.later (Below.refl _ _) (by decide) (by decide), rfl, fun _ _ _ h => h⟩
                | 20 => intro o L ho hLi hd a' X hX hfr hdp hno; obtain rfl := Option.some.inj ho; exact opx_load3 rfl (hdp 19 97 (by decide) rfl (by kernel_rfl)) ((hX.below.cell (p := ⟨b, o + k, none⟩) hb1).trans hc1) ⟨hX.later (Below.refl _ _) (by decide) (by decide), rfl, fun _ _ _ h => h⟩
                | 21 => intro o L ho hLi hd a' X hX hfr hdp hno; obtain rfl := Option.some.inj ho; exact opx_quo (.inr (.inl rfl)) rfl (hdp 20 98 (by decide) rfl (by kernel_rfl)) ⟨hX.later (Below.refl _ _) (by decide) (by decide), rfl, fun _ _ _ h => h⟩
                | 22 => intro o L ho hLi hd a' X hX hfr hdp hno; obtain rfl := Option.some.inj ho; exact opx_move rfl (hfr 6 (by decide)) ⟨hX.later (Below.refl _ _) (by decide) (by decide), rfl, fun _ _ _ h => h⟩
                | 23 => intro o L ho hLi hd a' X hX hfr hdp hno; obtain rfl := Option.some.inj ho; exact opx_move rfl (hfr 21 (by decide)) ⟨hX.later (Below.refl _ _) (by decide) (by decide), rfl, fun _ _ _ h => h⟩
                | 24 => intro o L ho hLi hd a' X hX hfr hdp hno; obtain rfl := Option.some.inj ho; exact opx_index89 hlt rfl (hdp 22 100 (by decide) rfl (by kernel_rfl)) (hdp 23 101 (by decide) rfl (by kernel_rfl)) ⟨hX.later (Below.refl _ _) (by decide) (by decide), rfl, fun _ _ _ h => h⟩
                | 25 => intro o L ho hLi hd a' X hX hfr hdp hno; obtain rfl := Option.some.inj ho; exact opx_load3 rfl (hdp 24 102 (by decide) rfl (by kernel_rfl)) ((hX.below.cell (p := ⟨b, o + k, none⟩) hb1).trans hc1) ⟨hX.later (Below.refl _ _) (by decide) (by decide), rfl, fun _ _ _ h => h⟩
                | 26 => intro o L ho hLi hd a' X hX hfr hdp hno; obtain rfl := Option.some.inj ho; exact opx_quo (.inr (.inr rfl)) rfl (hdp 25 103 (by decide) rfl (by kernel_rfl)) ⟨hX.later (Below.refl _ _) (by decide) (by decide), rfl, fun _ _ _ h => h⟩
                | 27 =>
                  intro o L ho hLi hd a' X hX hfr hdp hno; obtain rfl := Option.some.inj ho
                  refine opx_call3 rfl (hdp 16 94 (by decide) rfl (by kernel_rfl)) (hdp 21 99 (by decide) rfl (by kernel_rfl)) (hdp 26 104 (by decide) rfl (by kernel_rfl)) eg52 ((around_any (Y (N6 k % 60).toNat) (wrap64 ((N6 k).tdiv 7)) (wrap64 ((N6 k).tdiv 11)) X (HG.out.ok _ hh81)).mono ?_)
                  rintro e W' ⟨rfl, hb⟩
                  exact ⟨_, rfl, hX.later hb (by decide) (by decide), rfl, fun _ _ _ h => hdPv_later h hb⟩
                | 28 => intro o L ho hLi hd a' X hX hfr hdp hno; obtain rfl := Option.some.inj ho; exact opx_build67 rfl (hdp 1 79 (by decide) rfl (by kernel_rfl)) (hdp 4 82 (by decide) rfl (by kernel_rfl)) (hdp 5 83 (by decide) rfl (by kernel_rfl)) (hdp 12 90 (by decide) rfl (by kernel_rfl)) (hdp 27 105 (by decide) rfl (by kernel_rfl)) ⟨_, rfl⟩ ⟨_, rfl⟩ ⟨_, rfl⟩ ⟨_, rfl⟩ ⟨hX.later (Below.refl _ _) (by decide) (by decide), rfl, fun _ _ _ h => h⟩
                | 29 =>
                  intro o L ho hLi hd a' X hX hfr hdp hno; obtain rfl := Option.some.inj ho
                  have hb : Below X.heap.size X (X.alloc (.cells (repA (hdRep Y N6 k)) 67)) := (Below.refl _ _).alloc (Nat.le_refl _) _
                  exact opx_build63 rfl (hdp 28 106 (by decide) rfl (by kernel_rfl)) ⟨hX.later hb (by decide) (by decide), ⟨_, rfl, hX.size, block_new X _⟩, fun _ _ _ h => hdPv_later h hb⟩
                | 30 =>
                  intro o L ho hLi hd a' X hX hfr hdp hno; obtain rfl := Option.some.inj ho
                  obtain ⟨B, e1, e2, e3⟩ := (hdp 29 107 (by decide) rfl (by kernel_rfl))
                  have hOX := row_later hO.out (hX.ahead hLi)
                  refine opx_append63 rfl (hdp 0 78 (by decide) rfl (by kernel_rfl)) e1 hOX e3 rfl (by omega) hX.below.size (by simp [Value.oneCell']) ?_
                  intro v' X' hr' hg'
                  obtain ⟨g', c', e⟩ := ownsRow_succ hr'
                  refine ⟨⟨fun e => by simp at e, hX.below.grown hg' hX.below.size (fun j e => (hvlt j e).1), Nat.le_trans hX.size hg'.size, fun _ => by simpa using hd 0 (by kernel_rfl), fun _ => by simp⟩, ⟨g', c', e, hr'⟩, ?_⟩
                  intro j y hj h
                  match j with
                  | 0 | 1 | 2 | 3 | 4 | 5 | 6 | 7 | 8 | 9 | 10 | 11 | 12 | 13 | 14 | 15 | 16 | 17 | 18 | 19 | 20 | 21 | 22 | 23 | 24 | 25 | 26 | 27 | 28 => exact h
                  | 29 => obtain ⟨B', q1, q2, q3⟩ := h; exact ⟨B', q1, q2, (hg'.block B' (lt_of_block q3) (fun e => by have := (hvlt B' e.symm).2; omega)).trans q3⟩
                  | 30 => rw [hLi] at hj; cases hj
                  | 31 => have := hX.o31 hj; rw [hLi] at this; cases this
                  | j + 32 => trivial
                | 31 => intro o L ho hLi hd a' X hX hfr hdp hno; obtain rfl := Option.some.inj ho; exact opx_assign rfl rfl ⟨⟨fun e => hX.ahead (by simpa using e), hX.below, hX.size, fun e => by simpa using hX.o30 (by simpa using e), fun _ => by simpa using hd 30 (by kernel_rfl)⟩, (hdp 30 108 (by decide) rfl (by kernel_rfl)), fun _ _ _ h => h⟩
                | j + 32 => intro o L ho; simp at ho
              case fin =>
                intro X L Vv hLL hX hV
                obtain ⟨g', c9, e31, hown⟩ := hV 31 (by decide)
                have HO1 := Lib.hid hown
                have HB1 := Lib.hid hX.below
                simp only [fill, Act.put, List.setIfInBounds_toArray, List.set_cons_zero, List.set_cons_succ, Nat.reduceAdd, e31]
                rw [e31] at HO1
                clear hX hLL hV hown e31 hO hB
                go_wp2_with fail
                go_roundw
                case rel => exact ⟨k + 1, some ⟨g', 0, none⟩, c9, (N6 k % 60).toNat, by omega, by go_num, rfl, congrArg (Value.int .i64) hhe.out, by omega, Lib.hid (fun i hi => by by_cases e : i = k; (· rw [e]; omega); (· have := hL60.out i (by omega); omega)), HO1, HB1⟩
                case measure => simp [intOf]; omega
            · have hm' : N6 k % 60 ≤ (last : Int) := by omega
              go_wp2_with fail
              refine (Pick_any (N6 k) 60 (by decide) (by decide) wr).mono ?_
              rintro e Wx ⟨rfl, rfl⟩
              go_wp2_with fail
              refine wp_region_valsF [78, 79, 80, 81, 82, 83, 84, 85, 86, 87, 88, 89, 90, 91, 92, 93, 94, 95, 96, 97, 98, 99, 100, 101, 102, 103, 104, 105, 106, 107, 108, 19] (HdWd W3 wr) (hdPv Y N6 k n6 c6 b o b2 o2 c' wr.heap.size W3.heap.size (.slice pk k ck))
                (by kernel_rfl) (by kernel_rfl) (fun s hs h => by simp at hs ⊢; omega) (by simp) ⟨fun _ => ⟨rfl, rfl, rfl, Nat.le_refl _, fun _ _ => rfl⟩, ⟨hB.out.os, hB.out.tape, hB.out.output, hB.out.size, hB.out.block⟩, Nat.le_refl _, (fun h => by cases h), (fun h => by cases h)⟩ ?val ?fin
              case val =>
                intro j
                match j with
                | 0 => intro o L ho hLi hd a' X hX hfr hdp hno; obtain rfl := Option.some.inj ho; exact opx_move rfl ((hno 31 19 (by decide) rfl (hX.own (hLi))).trans rfl) ⟨hX.later (Below.refl _ _) (by decide) (by decide), rfl, fun _ _ _ h => h⟩
                | 1 => intro o L ho hLi hd a' X hX hfr hdp hno; obtain rfl := Option.some.inj ho; exact opx_move rfl (hfr 21 (by decide)) ⟨hX.later (Below.refl _ _) (by decide) (by decide), rfl, fun _ _ _ h => h⟩
                | 2 => intro o L ho hLi hd a' X hX hfr hdp hno; obtain rfl := Option.some.inj ho; exact opx_move rfl (hfr 21 (by decide)) ⟨hX.later (Below.refl _ _) (by decide) (by decide), rfl, fun _ _ _ h => h⟩
                | 3 => intro o L ho hLi hd a' X hX hfr hdp hno; obtain rfl := Option.some.inj ho; exact opx_rem3 rfl (hdp 2 80 (by decide) rfl (by kernel_rfl)) ⟨hX.later (Below.refl _ _) (by decide) (by decide), rfl, fun _ _ _ h => h⟩
                | 4 => intro o L ho hLi hd a' X hX hfr hdp hno; obtain rfl := Option.some.inj ho; exact opx_add rfl (hdp 3 81 (by decide) rfl (by kernel_rfl)) (Int.emod_nonneg _ (by decide)) (Int.le_trans (Int.le_of_lt (Int.emod_lt_of_pos _ (by decide))) (by decide)) ⟨hX.later (Below.refl _ _) (by decide) (by decide), rfl, fun _ _ _ h => h⟩
                | 5 => intro o L ho hLi hd a' X hX hfr hdp hno; obtain rfl := Option.some.inj ho; exact opx_move rfl (hfr 22 (by decide)) ⟨hX.later (Below.refl _ _) (by decide) (by decide), rfl, fun _ _ _ h => h⟩
                | 6 => intro o L ho hLi hd a' X hX hfr hdp hno; obtain rfl := Option.some.inj ho; exact opx_move rfl (hfr 6 (by decide)) ⟨hX.later (Below.refl _ _) (by decide) (by decide), rfl, fun _ _ _ h => h⟩
                | 7 => intro o L ho hLi hd a' X hX hfr hdp hno; obtain rfl := Option.some.inj ho; exact opx_move rfl (hfr 21 (by decide)) ⟨hX.later (Below.refl _ _) (by decide) (by decide), rfl, fun _ _ _ h => h⟩
                | 8 => intro o L ho hLi hd a' X hX hfr hdp hno; obtain rfl := Option.some.inj ho; exact opx_index89 hlt rfl (hdp 6 84 (by decide) rfl (by kernel_rfl)) (hdp 7 85 (by decide) rfl (by kernel_rfl)) ⟨hX.later (Below.refl _ _) (by decide) (by decide), rfl, fun _ _ _ h => h⟩
                | 9 => intro o L ho hLi hd a' X hX hfr hdp hno; obtain rfl := Option.some.inj ho; exact opx_load3 rfl (hdp 8 86 (by decide) rfl (by kernel_rfl)) ((hX.below.cell (p := ⟨b, o + k, none⟩) hb1).trans hc1) ⟨hX.later (Below.refl _ _) (by decide) (by decide), rfl, fun _ _ _ h => h⟩
                | 10 => intro o L ho hLi hd a' X hX hfr hdp hno; obtain rfl := Option.some.inj ho; exact opx_quo (.inl rfl) rfl (hdp 9 87 (by decide) rfl (by kernel_rfl)) ⟨hX.later (Below.refl _ _) (by decide) (by decide), rfl, fun _ _ _ h => h⟩
                | 11 =>
                  intro o L ho hLi hd a' X hX hfr hdp hno; obtain rfl := Option.some.inj ho
                  refine opx_callc rfl (hdp 10 88 (by decide) rfl (by kernel_rfl)) eg51 ((Pick_any (wrap64 ((N6 k).tdiv 60)) 15 (by decide) (by decide) X).mono ?_)
                  rintro e W' ⟨rfl, rfl⟩
                  exact ⟨_, rfl, hX.later (Below.refl _ _) (by decide) (by decide), rfl, fun _ _ _ h => h⟩
                | 12 => intro o L ho hLi hd a' X hX hfr hdp hno; obtain rfl := Option.some.inj ho; exact opx_add rfl (hdp 11 89 (by decide) rfl (by kernel_rfl)) (Int.emod_nonneg _ (by decide)) (Int.le_trans (Int.le_of_lt (Int.emod_lt_of_pos _ (by decide))) (by decide)) ⟨hX.later (Below.refl _ _) (by decide) (by decide), rfl, fun _ _ _ h => h⟩
                | 13 => intro o L ho hLi hd a' X hX hfr hdp hno; obtain rfl := Option.some.inj ho; exact opx_move rfl (hfr 16 (by decide)) ⟨hX.later (Below.refl _ _) (by decide) (by decide), rfl, fun _ _ _ h => h⟩
                | 14 => intro o L ho hLi hd a' X hX hfr hdp hno; obtain rfl := Option.some.inj ho; exact opx_move rfl (hfr 22 (by decide)) ⟨hX.later (Below.refl _ _) (by decide) (by decide), rfl, fun _ _ _ h => h⟩
                | 15 => intro o L ho hLi hd a' X hX hfr hdp hno; obtain rfl := Option.some.inj ho; exact opx_index57 (i := (N6 k % 60).toNat) hh81 rfl (hdp 13 91 (by decide) rfl (by kernel_rfl)) ((hdp 14 92 (by decide) rfl (by kernel_rfl)).trans (congrArg (Value.int .i64) hhe)) ⟨hX.later (Below.refl _ _) (by decide) (by decide), rfl, fun _ _ _ h => h⟩
                | 16 => intro o L ho hLi hd a' X hX hfr hdp hno; obtain rfl := Option.some.inj ho; exact opx_load37o rfl (hdp 15 93 (by decide) rfl (by kernel_rfl)) ((hX.below.cell (p := ⟨b2, _, none⟩) hb2).trans d0) ((hX.below.cell (p := ⟨b2, _, none⟩) hb2).trans d1) ((hX.below.cell (p := ⟨b2, _, none⟩) hb2).trans d2) ((hX.below.cell (p := ⟨b2, _, none⟩) hb2).trans d3) ⟨hX.later (Below.refl _ _) (by decide) (by decide), rfl, fun _ _ _ h => h⟩
                | 17 => intro o L ho hLi hd a' X hX hfr hdp hno; obtain rfl := Option.some.inj ho; exact opx_move rfl (hfr 6 (by decide)) ⟨hX.later (Below.refl _ _) (by decide) (by decide), rfl, fun _ _ _ h => h⟩
                | 18 => intro o L ho hLi hd a' X hX hfr hdp hno; obtain rfl := Option.some.inj ho; exact opx_move rfl (hfr 21 (by decide)) ⟨hX.later (Below.refl _ _) (by decide) (by decide), rfl, fun _ _ _ h => h⟩
                | 19 => intro o L ho hLi hd a' X hX hfr hdp hno; obtain rfl := Option.some.inj ho; exact opx_index89 hlt rfl (hdp 17 95 (by decide) rfl (by kernel_rfl)) (hdp 18 96 (by decide) rfl (by kernel_rfl)) ⟨hX.later (Below.refl _ _) (by decide) (by decide), rfl, fun _ _ _ h => h⟩
                | 20 => intro o L ho hLi hd a' X hX hfr hdp hno; obtain rfl := Option.some.inj ho; exact opx_load3 rfl (hdp 19 97 (by decide) rfl (by kernel_rfl)) ((hX.below.cell (p := ⟨b, o + k, none⟩) hb1).trans hc1) ⟨hX.later (Below.refl _ _) (by decide) (by decide), rfl, fun _ _ _ h => h⟩
                | 21 => intro o L ho hLi hd a' X hX hfr hdp hno; obtain rfl := Option.some.inj ho; exact opx_quo (.inr (.inl rfl)) rfl (hdp 20 98 (by decide) rfl (by kernel_rfl)) ⟨hX.later (Below.refl _ _) (by decide) (by decide), rfl, fun _ _ _ h => h⟩
                | 22 => intro o L ho hLi hd a' X hX hfr hdp hno; obtain rfl := Option.some.inj ho; exact opx_move rfl (hfr 6 (by decide)) ⟨hX.later (Below.refl _ _) (by decide) (by decide), rfl, fun _ _ _ h => h⟩
                | 23 => intro o L ho hLi hd a' X hX hfr hdp hno; obtain rfl := Option.some.inj ho; exact opx_move rfl (hfr 21 (by decide)) ⟨hX.later (Below.refl _ _) (by decide) (by decide), rfl, fun _ _ _ h => h⟩
                | 24 => intro o L ho hLi hd a' X hX hfr hdp hno; obtain rfl := Option.some.inj ho; exact opx_index89 hlt rfl (hdp 22 100 (by decide) rfl (by kernel_rfl)) (hdp 23 101 (by decide) rfl (by kernel_rfl)) ⟨hX.later (Below.refl _ _) (by decide) (by decide), rfl, fun _ _ _ h => h⟩
                | 25 => intro o L ho hLi hd a' X hX hfr hdp hno; obtain rfl := Option.some.inj ho; exact opx_load3 rfl (hdp 24 102 (by decide) rfl (by kernel_rfl)) ((hX.below.cell (p := ⟨b, o + k, none⟩) hb1).trans hc1) ⟨hX.later (Below.refl _ _) (by decide) (by decide), rfl, fun _ _ _ h => h⟩
                | 26 => intro o L ho hLi hd a' X hX hfr hdp hno; obtain rfl := Option.some.inj ho; exact opx_quo (.inr (.inr rfl)) rfl (hdp 25 103 (by decide) rfl (by kernel_rfl)) ⟨hX.later (Below.refl _ _) (by decide) (by decide), rfl, fun _ _ _ h => h⟩
                | 27 =>
                  intro o L ho hLi hd a' X hX hfr hdp hno; obtain rfl := Option.some.inj ho
                  refine opx_call3 rfl (hdp 16 94 (by decide) rfl (by kernel_rfl)) (hdp 21 99 (by decide) rfl (by kernel_rfl)) (hdp 26 104 (by decide) rfl (by kernel_rfl)) eg52 ((around_any (Y (N6 k % 60).toNat) (wrap64 ((N6 k).tdiv 7)) (wrap64 ((N6 k).tdiv 11)) X (HG.out.ok _ hh81)).mono ?_)
                  rintro e W' ⟨rfl, hb⟩
                  exact ⟨_, rfl, hX.later hb (by decide) (by decide), rfl, fun _ _ _ h => hdPv_later h hb⟩
                | 28 => intro o L ho hLi hd a' X hX hfr hdp hno; obtain rfl := Option.some.inj ho; exact opx_build67 rfl (hdp 1 79 (by decide) rfl (by kernel_rfl)) (hdp 4 82 (by decide) rfl (by kernel_rfl)) (hdp 5 83 (by decide) rfl (by kernel_rfl)) (hdp 12 90 (by decide) rfl (by kernel_rfl)) (hdp 27 105 (by decide) rfl (by kernel_rfl)) ⟨_, rfl⟩ ⟨_, rfl⟩ ⟨_, rfl⟩ ⟨_, rfl⟩ ⟨hX.later (Below.refl _ _) (by decide) (by decide), rfl, fun _ _ _ h => h⟩
                | 29 =>
                  intro o L ho hLi hd a' X hX hfr hdp hno; obtain rfl := Option.some.inj ho
                  have hb : Below X.heap.size X (X.alloc (.cells (repA (hdRep Y N6 k)) 67)) := (Below.refl _ _).alloc (Nat.le_refl _) _
                  exact opx_build63 rfl (hdp 28 106 (by decide) rfl (by kernel_rfl)) ⟨hX.later hb (by decide) (by decide), ⟨_, rfl, hX.size, block_new X _⟩, fun _ _ _ h => hdPv_later h hb⟩
                | 30 =>
                  intro o L ho hLi hd a' X hX hfr hdp hno; obtain rfl := Option.some.inj ho
                  obtain ⟨B, e1, e2, e3⟩ := (hdp 29 107 (by decide) rfl (by kernel_rfl))
                  have hOX := row_later hO.out (hX.ahead hLi)
                  refine opx_append63 rfl (hdp 0 78 (by decide) rfl (by kernel_rfl)) e1 hOX e3 rfl (by omega) hX.below.size (by simp [Value.oneCell']) ?_
                  intro v' X' hr' hg'
                  obtain ⟨g', c', e⟩ := ownsRow_succ hr'
                  refine ⟨⟨fun e => by simp at e, hX.below.grown hg' hX.below.size (fun j e => (hvlt j e).1), Nat.le_trans hX.size hg'.size, fun _ => by simpa using hd 0 (by kernel_rfl), fun _ => by simp⟩, ⟨g', c', e, hr'⟩, ?_⟩
                  intro j y hj h
                  match j with
                  | 0 | 1 | 2 | 3 | 4 | 5 | 6 | 7 | 8 | 9 | 10 | 11 | 12 | 13 | 14 | 15 | 16 | 17 | 18 | 19 | 20 | 21 | 22 | 23 | 24 | 25 | 26 | 27 | 28 => exact h
                  | 29 => obtain ⟨B', q1, q2, q3⟩ := h; exact ⟨B', q1, q2, (hg'.block B' (lt_of_block q3) (fun e => by have := (hvlt B' e.symm).2; omega)).trans q3⟩
                  | 30 => rw [hLi] at hj; cases hj
                  | 31 => have := hX.o31 hj; rw [hLi] at this; cases this
                  | j + 32 => trivial
                | 31 => intro o L ho hLi hd a' X hX hfr hdp hno; obtain rfl := Option.some.inj ho; exact opx_assign rfl rfl ⟨⟨fun e => hX.ahead (by simpa using e), hX.below, hX.size, fun e => by simpa using hX.o30 (by simpa using e), fun _ => by simpa using hd 30 (by kernel_rfl)⟩, (hdp 30 108 (by decide) rfl (by kernel_rfl)), fun _ _ _ h => h⟩
                | j + 32 => intro o L ho; simp at ho
              case fin =>
                intro X L Vv hLL hX hV
                obtain ⟨g', c9, e31, hown⟩ := hV 31 (by decide)
                have HO1 := Lib.hid hown
                have HB1 := Lib.hid hX.below
                simp only [fill, Act.put, List.setIfInBounds_toArray, List.set_cons_zero, List.set_cons_succ, Nat.reduceAdd, e31]
                rw [e31] at HO1
                clear hX hLL hV hown e31 hO hB
                go_wp2_with fail
                go_roundw
                case rel => exact ⟨k + 1, some ⟨g', 0, none⟩, c9, last, by omega, by go_num, rfl, rfl, by omega, Lib.hid (fun i hi => by by_cases e : i = k; (· rw [e]; exact hm'); (· exact hL60.out i (by omega))), HO1, HB1⟩
                case measure => simp [intOf]; omega
          · obtain rfl : k = n6 := by omega
            have HR := Lib.hid (reps_of_row hO.out)
            replace K1 := Lib.hid (keep_blk1 K1.out hB.out)
            replace KB := Lib.hid (keep_bl1 KB.out hB.out)
            replace HY := Lib.hid (HY.out.later hB.out)
            clear hO hB
            go_wp2_with fail
            rename World => W4
            go_loopw [23] (fun v wr => ∃ now : Nat, v = .int .i64 now ∧ last ≤ now ∧ Hid (Below W4.heap.size W4 wr)) (fun v _ => 90 - (intOf v).toNat)
            case atStart => exact ⟨last, rfl, Nat.le_refl _, Lib.hid (Below.refl _ _)⟩
            case round =>
              obtain ⟨now, rfl, hln, hB⟩ := hrel
              by_cases hlt : now ≤ 80
              · have hkn : (now : Int) ≤ 80 := by omega
                have hL2 : ∀ i, i < k → N6 i % 60 ≤ (now : Int) := fun i hi => Int.le_trans (hL60.out i hi) (by omega)
                have HF := Lib.hid (hd_fine HG.out hr (by omega) hlt hL2)
                have HH := Lib.hid (hd_have HG.out hlt hL2)
                clear hL2
                have K2 := Lib.hid (keep_blk1 K1.out hB.out)
                have KC := Lib.hid (keep_bl1 KB.out hB.out)
                have HZ := Lib.hid (HY.out.later hB.out)
                have HS := Lib.hid (HR.out.later hB.out)
                have HW := hB
                clear hB
                have cR := (cells8 K2.out).1
                obtain ⟨r0, r1, r2, r3, r4, r5, r6, r7⟩ := cR
                go_wp2_with fail
                clear r0 r1 r2 r3 r4 r5 r6 r7
                refine (Fuse_fine u d now pk k ck (hdRep Y N6) HF.out wr (HL.out.below hpos KC.out) HS.out).mono ?_
                rintro e W5 ⟨rfl, hb⟩
                rw [fu_have HH.out]
                have hHn := HH.out
                have hHead := fun j => have_head (CL := tdLo (hdRep Y N6) d now) (CH := tdHi (hdRep Y N6) u now) (n := k) (by omega) hHn j
                replace hHead := Lib.hid hHead
                have HC := Lib.hid (head_cm (by omega) hHn)
                have HOk := Lib.hid (cm_ok hHn)
                have HIc := Lib.hid (ice_have hHn)
                have HHas := Lib.hid (cm_has hHn)
                have HOut := Lib.hid (have_out hHn k (Nat.le_refl _))
                clear hHn HH
                generalize cmLo allT (tdLo (hdRep Y N6) d now) k = flo at *
                generalize cmHi allT (tdHi (hdRep Y N6) u now) k = fhi at *
                replace K2 := Lib.hid (keep_blk (o' := .cells (cellA flo fhi) 32) K2.out hb)
                replace KC := Lib.hid (keep_bl (o' := .cells (cellA flo fhi) 32) KC.out hb)
                replace HW := Lib.hid (keep_bl (o' := .cells (cellA flo fhi) 32) HW.out hb)
                replace HZ := Lib.hid (HZ.out.later (hb.alloc hb.size (.cells (cellA flo fhi) 32)))
                replace HS := Lib.hid (HS.out.later (hb.alloc hb.size (.cells (cellA flo fhi) 32)))
                have KF := Lib.hid (block_new W5 (.cells (cellA flo fhi) 32))
                clear hb
                have cR := (cells8 K2.out).1
                obtain ⟨r0, r1, r2, r3, r4, r5, r6, r7⟩ := cR
                go_wp2_with fail
                clear r0 r1 r2 r3 r4 r5 r6 r7
                generalize W5.alloc (.cells (cellA flo fhi) 32) = V5 at *
                generalize W5.heap.size = BF at *
                refine (Conflicts_fine u d now pk k ck (hdRep Y N6) HF.out V5 (HL.out.below hpos KC.out) HS.out).mono ?_
                rintro e W6 ⟨v, rfl, hv, hb⟩
                rw [HOut.out] at hv
                obtain ⟨pv, cv, rfl⟩ := row_slice hv
                clear hv HOut
                replace K2 := Lib.hid (keep_blk1 K2.out hb)
                replace KC := Lib.hid (keep_bl1 KC.out hb)
                replace HW := Lib.hid (keep_bl1 HW.out hb)
                replace HZ := Lib.hid (HZ.out.later hb)
                replace HS := Lib.hid (HS.out.later hb)
                replace KF := Lib.hid (keep_blk1 KF.out hb)
                clear hb
                have cR := (cells8 K2.out).1
                obtain ⟨r0, r1, r2, r3, r4, r5, r6, r7⟩ := cR
                go_wp2_with fail
                clear r0 r1 r2 r3 r4 r5 r6 r7
                refine (Trust_fine u d now pk k ck (hdRep Y N6) HF.out W6 (HL.out.below hpos KC.out) HS.out).mono ?_
                rintro e W7 ⟨v, rfl, hv, hb⟩
                rw [HC.out.1, HC.out.2]
                obtain ⟨pt, ct, rfl⟩ := row_slice hv
                replace hv := hv.alloc (.cells (cellA flo fhi) 32)
                replace hv := Lib.hid hv
                replace K2 := Lib.hid (keep_blk (o' := .cells (cellA flo fhi) 32) K2.out hb)
                replace KF := Lib.hid (keep_blk (o' := .cells (cellA flo fhi) 32) KF.out hb)
                replace KC := Lib.hid (keep_bl (o' := .cells (cellA flo fhi) 32) KC.out hb)
                replace HW := Lib.hid (keep_bl (o' := .cells (cellA flo fhi) 32) HW.out hb)
                replace HZ := Lib.hid (HZ.out.later (hb.alloc hb.size (.cells (cellA flo fhi) 32)))
                have KT := Lib.hid (block_new W7 (.cells (cellA flo fhi) 32))
                clear hb
                have cF := (cells8 KF.out).1
                obtain ⟨f0, f1, f2, f3, f4, f5, f6, f7⟩ := cF
                have cT := (cells8 KT.out).1
                obtain ⟨t0, t1, t2, t3, t4, t5, t6, t7⟩ := cT
                go_wp2_with (refine list_neq32 flo fhi flo fhi rfl rfl rfl rfl (sameB_own _ _) ?_; simp only [Act.put, List.setIfInBounds_toArray, List.set_cons_zero, List.set_cons_succ])
                clear f0 f1 f2 f3 f4 f5 f6 f7 t0 t1 t2 t3 t4 t5 t6 t7 K2 KT
                generalize W7.alloc (.cells (cellA flo fhi) 32) = V7 at *
                generalize W7.heap.size = BT at *
                go_loopw [31] (fun v wr => ∃ j : Nat, v = .int .i64 j ∧ j ≤ k ∧ Hid (Below V7.heap.size V7 wr)) (fun v _ => k - (intOf v).toNat)
                case atStart => exact ⟨0, rfl, Nat.zero_le _, Lib.hid (Below.refl _ _)⟩
                case round =>
                  obtain ⟨j, rfl, hjk, hB⟩ := hrel
                  by_cases hj : j < k
                  · have hj3 : (j : Int) < (k : Int) := by omega
                    have hj0 : (0 : Int) ≤ (j : Int) := by omega
                    obtain ⟨g, cap, e, _, hg⟩ := hv.out.form (by omega)
                    cases e
                    have hc := hv.out.cells (g := g) rfl j (.bool true) (by have := hHead.out j; simp [boolL, hj, this])
                    have hadd : (⟨g, 0, none⟩ : Addr).add j = ⟨g, j, none⟩ := by unfold Addr.add; split <;> simp_all
                    rw [hadd] at hc
                    have hc2 := (hB.out.cell (p := ⟨g, j, none⟩) hg).trans hc
                    clear hc hadd
                    go_wp2_with fail
                    go_roundw
                    case rel => exact ⟨j + 1, by go_num, by omega, hB⟩
                    case measure => simp [intOf]; omega
                  · have hjk3 : (j : Int) = (k : Int) := by omega
                    obtain rfl : j = k := by omega
                    replace KF := Lib.hid (keep_blk1 KF.out hB.out)
                    replace KC := Lib.hid (keep_bl1 KC.out hB.out)
                    replace HW := Lib.hid (keep_bl1 HW.out hB.out)
                    replace HZ := Lib.hid (HZ.out.later hB.out)
                    clear hB hv
                    go_wp2_with fail
                    obtain ⟨b7, o7, rfl, hb7, e0, e1, e2, e3⟩ := HZ.out now (by omega)
                    have hk81 : (now : Int) < 81 := by omega
                    have hk00 : (0 : Int) ≤ (now : Int) := by omega
                    have lF := lt_of_block KF.out
                    have cF := (cells8 KF.out).1
                    obtain ⟨f0, f1, f2, f3, f4, f5, f6, f7⟩ := cF
                    replace e0 := later_cell hb7 e0
                    replace e1 := later_cell hb7 e1
                    replace e2 := later_cell hb7 e2
                    replace e3 := later_cell hb7 e3
                    replace f0 := later_cell lF f0
                    replace f1 := later_cell lF f1
                    replace f2 := later_cell lF f2
                    replace f3 := later_cell lF f3
                    replace f4 := later_cell lF f4
                    replace f5 := later_cell lF f5
                    replace f6 := later_cell lF f6
                    replace f7 := later_cell lF f7
                    have HQ := Lib.hid (fun (X : Later wr) => show Calls Tryd.prog 20 #[.agg (cellA flo fhi), .agg (iceA (Y now))] X.world (fun e w' => e = .returned (.tuple #[.bool true, .int .i64 0]) ∧ Below X.world.heap.size X.world w') from by
                      have := Has_have HOk.out HIc.out X.world (HL.out.below hpos (KC.out.trans (X.below.mono KC.out.size)))
                      rw [HHas.out] at this
                      exact this)
                    haveI : Nonempty (Later wr) := ⟨⟨wr, Below.refl _ _⟩⟩
                    refine wp_region_later (by kernel_rfl) (by kernel_rfl) ?_
                    repeat (go_big_quiet_step ((go_at_call 20; exact later_call (HQ.out _))))
                    refine wpQuiet_nil ?_
                    intro X0 hw'
                    obtain ⟨⟨Xq, hX0⟩, hXe⟩ := hw'
                    change X0 = Xq at hXe
                    rw [← hXe] at hX0
                    clear hXe Xq e0 e1 e2 e3 f0 f1 f2 f3 f4 f5 f6 f7 HQ
                    replace HW := Lib.hid (keep_bl1 HW.out hX0)
                    clear hX0
                    go_wp2_with fail
                    go_roundw
                    case rel => exact ⟨now + 9, by go_num, by omega, HW⟩
                    case measure => simp [intOf]; omega
              · have hkn : ¬ (now : Int) ≤ 80 := by omega
                replace KB := Lib.hid (keep_bl1 KB.out hB.out)
                clear hB
                go_wp2_with fail
                refine (awake_any wr (HL.out.below hpos KB.out)).mono ?_
                rintro e W ⟨rfl, hb⟩
                replace KB := Lib.hid (keep_bl1 KB.out hb)
                clear hb
                go_wp2_with fail
                go_ret
                exact ⟨rfl, KB.out⟩
    · have he0 : errB (okRates u d) 6 = 6 := by
        cases e : okRates u d with
        | true => exact absurd e hr
        | false => rfl
      rw [he0]
      go_wp2_with fail
      refine (awake_any W2 (HL.out.below hpos KB.out)).mono ?_
      rintro e W ⟨rfl, hb⟩
      replace KB := Lib.hid (keep_bl1 KB.out hb)
      clear hb
      go_wp2_with fail
      go_ret
      exact ⟨rfl, KB.out⟩
end Go.Proofs.YtdcpmdigihbdpaaDoor
