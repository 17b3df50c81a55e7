/- The contract of ice.Conflicts: reports without an error. The table of limits holds 100, 400, 100, 3. -/
import Derived.Test.YtdcpmdigihbdpaaDoorRz
import Derived.Deep.AppendLies
namespace Go.Proofs.YtdcpmdigihbdpaaDoor
open Go.RowKit
set_option maxRecDepth 100000
section
variable {Q : Exit → Act → World → Prop} {o : Oper} {a : Act} {W : World} {R : Value → World → Prop}
theorem opx_index125 {s t g n cap i : Nat} (hi : i < n) (hop : o.op = Op.indexAddr 125 (.tmp s) (.tmp t)) (he : a.eval (.tmp s) = .slice (some ⟨g, 0, none⟩) n cap) (ht : a.eval (.tmp t) = .int .i64 i) (hR : R (.pointer (some ⟨g, i * 8, none⟩)) W) : o.wp Tryd.prog a W (fun a'' W'' => ∃ x, a'' = a.put o.dst x ∧ R x W'') Q := by
  have he' : a.tmps[s]?.getD undef = .slice (some ⟨g, 0, none⟩) n cap := by simpa [Act.eval] using he
  have ht' : a.tmps[t]?.getD undef = .int .i64 i := by simpa [Act.eval] using ht
  have hi' : (i : Int) < (n : Int) := by omega
  have hi0 : (0 : Int) ≤ (i : Int) := by omega
  refine op_val ?_ hR
  unfold execOp
  rw [hop]
  simp [go_sem, he', ht', hi', hi0]
theorem opx_load32 {s g off : Nat} {x0 x1 x2 x3 x4 x5 x6 x7 : Value} (hop : o.op = Op.load 32 (.tmp s)) (he : a.eval (.tmp s) = .pointer (some ⟨g, off, none⟩))
    (c0 : W.cell? ⟨g, off, none⟩ = some x0) (c1 : W.cell? ⟨g, off + 1, none⟩ = some x1) (c2 : W.cell? ⟨g, off + 2, none⟩ = some x2) (c3 : W.cell? ⟨g, off + 3, none⟩ = some x3) (c4 : W.cell? ⟨g, off + 4, none⟩ = some x4) (c5 : W.cell? ⟨g, off + 5, none⟩ = some x5) (c6 : W.cell? ⟨g, off + 6, none⟩ = some x6) (c7 : W.cell? ⟨g, off + 7, none⟩ = some x7)
    (hR : R (.agg #[x0, x1, x2, x3, x4, x5, x6, x7]) W) : o.wp Tryd.prog a W (fun a'' W'' => ∃ x, a'' = a.put o.dst x ∧ R x W'') Q := by
  have he' : a.tmps[s]?.getD undef = .pointer (some ⟨g, off, none⟩) := by simpa [Act.eval] using he
  refine op_val ?_ hR
  unfold execOp
  rw [hop]
  simp [go_sem, he', c0, c1, c2, c3, c4, c5, c6, c7]
theorem opx_extract0 {s : Nat} {x y : Value} (hop : o.op = Op.extract (.tmp s) 0) (he : a.eval (.tmp s) = .tuple #[x, y]) (hR : R x W) : o.wp Tryd.prog a W (fun a'' W'' => ∃ x, a'' = a.put o.dst x ∧ R x W'') Q := by
  have he' : a.tmps[s]?.getD undef = .tuple #[x, y] := by simpa [Act.eval] using he
  refine op_val ?_ hR
  unfold execOp
  rw [hop]
  simp [go_sem, he']
theorem opx_extract1 {s : Nat} {x y : Value} (hop : o.op = Op.extract (.tmp s) 1) (he : a.eval (.tmp s) = .tuple #[x, y]) (hR : R y W) : o.wp Tryd.prog a W (fun a'' W'' => ∃ x, a'' = a.put o.dst x ∧ R x W'') Q := by
  have he' : a.tmps[s]?.getD undef = .tuple #[x, y] := by simpa [Act.eval] using he
  refine op_val ?_ hR
  unfold execOp
  rw [hop]
  simp [go_sem, he']
theorem opx_alloc32 (hop : o.op = Op.alloc 32) (hR : R (.pointer (some ⟨W.heap.size, 0, none⟩)) (W.alloc (.cells zero8 32))) : o.wp Tryd.prog a W (fun a'' W'' => ∃ x, a'' = a.put o.dst x ∧ R x W'') Q := by
  refine op_val (W' := W.alloc (.cells zero8 32)) ?_ hR
  unfold execOp
  rw [hop]
  simp [go_sem]
end
/-- The pairs (i, k), k below m, that have nothing in common; those of all i below. -/
def cfIn (CL CH : Nat → Nat → Int) (i : Nat) : Nat → List (Nat × Nat)
  | 0 => []
  | m + 1 => if i < m ∧ meetB (CL i) (CH i) (CL m) (CH m) = false then cfIn CL CH i m ++ [(i, m)] else cfIn CL CH i m
theorem cfIn_succ (CL CH : Nat → Nat → Int) (i m : Nat) : cfIn CL CH i (m + 1) = if i < m ∧ meetB (CL i) (CH i) (CL m) (CH m) = false then cfIn CL CH i m ++ [(i, m)] else cfIn CL CH i m := rfl
def cfOut (CL CH : Nat → Nat → Int) (n : Nat) : Nat → List (Nat × Nat)
  | 0 => []
  | i + 1 => cfOut CL CH n i ++ cfIn CL CH i n
theorem cfIn_nil (CL CH : Nat → Nat → Int) (i : Nat) : ∀ m, m ≤ i + 1 → cfIn CL CH i m = []
  | 0, _ => rfl
  | m + 1, h => by unfold cfIn; rw [if_neg (by omega)]; exact cfIn_nil CL CH i m (by omega)
theorem cfIn_len (CL CH : Nat → Nat → Int) (i : Nat) : ∀ m, (cfIn CL CH i m).length ≤ m
  | 0 => Nat.le_refl _
  | m + 1 => by
    have := cfIn_len CL CH i m
    unfold cfIn
    split
    · simp; omega
    · omega
theorem cfOut_len (CL CH : Nat → Nat → Int) (n : Nat) : ∀ i, (cfOut CL CH n i).length ≤ i * n
  | 0 => by simp [cfOut]
  | i + 1 => by
    have h1 := cfOut_len CL CH n i
    have h2 := cfIn_len CL CH i n
    have h3 : (i + 1) * n = i * n + n := by rw [Nat.add_mul, Nat.one_mul]
    simp [cfOut]; omega
def pairRow (l : List (Nat × Nat)) : List Value := l.flatMap fun p => [Value.int .i64 (p.1 : Int), Value.int .i64 (p.2 : Int)]
theorem pairRow_snoc (l : List (Nat × Nat)) (p : Nat × Nat) : pairRow (l ++ [p]) = pairRow l ++ [Value.int .i64 (p.1 : Int), Value.int .i64 (p.2 : Int)] := by simp [pairRow]
theorem eg76 : ∀ args w, (callFunc 76 args).run Tryd.prog w = .ok (.enter 76 args) w := Go.Proofs.enters_of Tryd.func76 (by kernel_rfl) rfl
set_option maxHeartbeats 4000000 in
theorem Conflicts_fine (u d : Nat → Int) (now : Int) (p : Option Addr) (n cap : Nat) (R : Nat → Rep) (hf : Fine u d now R n) (w : World) (hl : Lim w) (hR : Reps w p n R) :
    Calls Tryd.prog 38 #[.slice p n cap, .agg (ratesA u d), .int .i64 now] w fun e w' => ∃ v, e = .returned (.tuple #[v, .int .i64 0]) ∧ w'.ownsRow w.heap.size 77 2 v (cfOut (tdLo R d now) (tdHi R u now) n n).length (pairRow (cfOut (tdLo R d now) (tdHi R u now) n n)) ∧ Below w.heap.size w w' := by
  have hpos := hl.pos
  have hn := hf.2.1
  have HL := Lib.hid hl
  have HR := Lib.hid hR
  have HF := Lib.hid hf
  clear hl hR hf
  obtain ⟨i0, hi, hz0, hz1, hz2⟩ := info_parts info77
  have hof := ofOneCell_any u d now p n cap (by omega) R
  rw [HF.out.one, HF.out.work] at hof
  have HO := Lib.hid hof
  clear hof
  go_enter Tryd.func38, Tryd.ntmps38
  have A2 := block_new w (.cells (ratesA u d) 41)
  have AB := Lib.hid ((Below.refl w.heap.size w).alloc (Nat.le_refl _) (.cells (ratesA u d) 41))
  obtain ⟨⟨c0, c1, c2, c3, c4, c5, c6, c7⟩, _⟩ := cells8 A2
  clear A2
  go_wp2_with fail
  generalize w.alloc (.cells (ratesA u d) 41) = V at *
  refine (HO.out V (HL.out.below hpos AB.out) (HR.out.later AB.out)).mono ?_
  rintro e W1 ⟨rfl, hb1⟩
  have BB := Lib.hid (AB.out.trans (hb1.mono AB.out.size))
  clear hb1 AB c0 c1 c2 c3 c4 c5 c6 c7
  have C0 := block_new W1 (.cells (workA u d now (.slice p n cap)) 139)
  have CBb := (Below.refl W1.heap.size W1).alloc (Nat.le_refl _) (.cells (workA u d now (.slice p n cap)) 139)
  have CB := Lib.hid (BB.out.trans (CBb.mono BB.out.size))
  obtain ⟨⟨c0, c1, c2, c3, c4, c5, c6, c7, c8, c9⟩, _⟩ := cells10 C0
  clear CBb BB C0
  go_wp2_with fail
  generalize W1.alloc (.cells (workA u d now (.slice p n cap)) 139) = V2 at *
  refine (told_any u d now p n cap R hn V2 (HL.out.below hpos CB.out) (HR.out.later CB.out) HF.out.tell).mono ?_
  rintro e W2 ⟨g, rfl, hg1, hg2, hC, hb4⟩
  have HC := Lib.hid hC
  have DB := Lib.hid (CB.out.trans (hb4.mono CB.out.size))
  clear hb4 hC CB c0 c1 c2 c3 c4 c5 c6 c7 c8 c9
  go_wp2_with fail
  go_loopw [10, 30] (fun v i wr => ∃ k : Nat, k ≤ n ∧ i = .int .i64 k ∧ Hid (wr.ownsRow W2.heap.size 77 2 v (cfOut (tdLo R d now) (tdHi R u now) n k).length (pairRow (cfOut (tdLo R d now) (tdHi R u now) n k))) ∧ Hid (Below W2.heap.size W2 wr)) (fun _ i _ => n - (intOf i).toNat)
  case atStart => exact ⟨0, by omega, rfl, World.ownsRow_nil _ _ _ _, Below.refl _ _⟩
  case round =>
    obtain ⟨i, hin, rfl, hP, hB⟩ := hrel
    by_cases hlt : i < n
    · have hi12 : (i : Int) < 12 := by omega
      have hi0' : (0 : Int) ≤ (i : Int) := by omega
      obtain ⟨wo, hwo⟩ : ∃ wo, wo = wr := ⟨_, rfl⟩
      subst hwo
      have hlo := cfOut_len (tdLo R d now) (tdHi R u now) n i
      have hmul : i * n ≤ 12 * 12 := Nat.mul_le_mul (by omega) hn
      go_wp2_with fail
      go_loopw [10, 13] (fun v k wr => ∃ m : Nat, i + 1 ≤ m ∧ m ≤ n ∧ k = .int .i64 m ∧ Hid (wr.ownsRow W2.heap.size 77 2 v (cfOut (tdLo R d now) (tdHi R u now) n i ++ cfIn (tdLo R d now) (tdHi R u now) i m).length (pairRow (cfOut (tdLo R d now) (tdHi R u now) n i ++ cfIn (tdLo R d now) (tdHi R u now) i m))) ∧ Hid (Below W2.heap.size W2 wr)) (fun _ k _ => n - (intOf k).toNat)
      case atStart => exact ⟨i + 1, by omega, by omega, by go_num, by rw [cfIn_nil (tdLo R d now) (tdHi R u now) i (i + 1) (by omega), List.append_nil]; exact hP, hB⟩
      case round =>
        obtain ⟨m, him, hmn, rfl, hP2, hB2⟩ := hrel
        by_cases hlm : m < n
        · have hm12 : (m : Int) < 12 := by omega
          have hm0 : (0 : Int) ≤ (m : Int) := by omega
          have hmn' : (m : Int) < (n : Int) := by omega
          have hli := cfIn_len (tdLo R d now) (tdHi R u now) i m
          go_wp2_with fail
          refine wp_region_vals [42, 43, 44, 45, 46, 47, 48, 49, 50, 41, 51, 52, 14, 1000, 15] (fun _ X => Below wr.heap.size wr X)
            (fun j v X => match j with | 0 => v = .slice (some ⟨g, 0, none⟩) n n | 1 => v = .int .i64 i | 2 => v = .pointer (some ⟨g, i * 8, none⟩) | 3 => v = .agg (cellA ((tdLo R d now) i) ((tdHi R u now) i)) | 4 => v = .slice (some ⟨g, 0, none⟩) n n | 5 => v = .int .i64 m | 6 => v = .pointer (some ⟨g, m * 8, none⟩) | 7 => v = .agg (cellA ((tdLo R d now) m) ((tdHi R u now) m)) | 8 => v = .tuple #[.agg (cellA (fun q => mx ((tdLo R d now) i q) ((tdLo R d now) m q)) (fun q => mn ((tdHi R u now) i q) ((tdHi R u now) m q))), .bool (meetB ((tdLo R d now) i) ((tdHi R u now) i) ((tdLo R d now) m) ((tdHi R u now) m))] | 9 => v = .tuple #[.agg (cellA (fun q => mx ((tdLo R d now) i q) ((tdLo R d now) m q)) (fun q => mn ((tdHi R u now) i q) ((tdHi R u now) m q))), .bool (meetB ((tdLo R d now) i) ((tdHi R u now) i) ((tdLo R d now) m) ((tdHi R u now) m))] | 10 => v = .agg (cellA (fun q => mx ((tdLo R d now) i q) ((tdLo R d now) m q)) (fun q => mn ((tdHi R u now) i q) ((tdHi R u now) m q))) | 11 => v = .bool (meetB ((tdLo R d now) i) ((tdHi R u now) i) ((tdLo R d now) m) ((tdHi R u now) m)) | 12 => ∃ B, v = .pointer (some ⟨B, 0, none⟩) ∧ wr.heap.size ≤ B ∧ ∃ x0 x1 x2 x3 x4 x5 x6 x7, X.heap[B]? = some (.cells #[.int .i64 x0, .int .i64 x1, .int .i64 x2, .int .i64 x3, .int .i64 x4, .int .i64 x5, .int .i64 x6, .int .i64 x7] 32 (0, 0)) | 13 => True | _ => v = .bool (meetB ((tdLo R d now) i) ((tdHi R u now) i) ((tdLo R d now) m) ((tdHi R u now) m)))
            (by kernel_rfl) (by kernel_rfl) (fun s hs h => by simp at hs ⊢; omega) (by simp) ⟨rfl, rfl, rfl, Nat.le_refl _, fun _ _ => rfl⟩ ?val ?fin
          case val =>
            have hz : g < wr.heap.size := Nat.lt_of_lt_of_le hg2 hB2.out.size
            have hcell : ∀ X, Below wr.heap.size wr X → CellsAt X g n (tdLo R d now) (tdHi R u now) := fun X hX => (HC.out.below hg2 hB2.out).below hz hX
            intro j
            match j with
            | 0 => intro o L ho hLi hd a' X hX hfr hdp; obtain rfl := Option.some.inj ho; exact opx_move rfl (hfr 11 (by decide)) ⟨hX, rfl, fun _ _ h => h⟩
            | 1 => intro o L ho hLi hd a' X hX hfr hdp; obtain rfl := Option.some.inj ho; exact opx_move rfl (hfr 12 (by decide)) ⟨hX, rfl, fun _ _ h => h⟩
            | 2 => intro o L ho hLi hd a' X hX hfr hdp; obtain rfl := Option.some.inj ho; exact opx_index125 hlt rfl (hdp 0 42 (by decide) rfl (by kernel_rfl)) (hdp 1 43 (by decide) rfl (by kernel_rfl)) ⟨hX, rfl, fun _ _ h => h⟩
            | 3 =>
              intro o L ho hLi hd a' X hX hfr hdp; obtain rfl := Option.some.inj ho
              obtain ⟨q0, q1, q2, q3, q4, q5, q6, q7⟩ := hcell X hX i hlt
              exact opx_load32 rfl (hdp 2 44 (by decide) rfl (by kernel_rfl)) q0 q1 q2 q3 q4 q5 q6 q7 ⟨hX, rfl, fun _ _ h => h⟩
            | 4 => intro o L ho hLi hd a' X hX hfr hdp; obtain rfl := Option.some.inj ho; exact opx_move rfl (hfr 11 (by decide)) ⟨hX, rfl, fun _ _ h => h⟩
            | 5 => intro o L ho hLi hd a' X hX hfr hdp; obtain rfl := Option.some.inj ho; exact opx_move rfl (hfr 13 (by decide)) ⟨hX, rfl, fun _ _ h => h⟩
            | 6 => intro o L ho hLi hd a' X hX hfr hdp; obtain rfl := Option.some.inj ho; exact opx_index125 hlm rfl (hdp 4 46 (by decide) rfl (by kernel_rfl)) (hdp 5 47 (by decide) rfl (by kernel_rfl)) ⟨hX, rfl, fun _ _ h => h⟩
            | 7 =>
              intro o L ho hLi hd a' X hX hfr hdp; obtain rfl := Option.some.inj ho
              obtain ⟨q0, q1, q2, q3, q4, q5, q6, q7⟩ := hcell X hX m hlm
              exact opx_load32 rfl (hdp 6 48 (by decide) rfl (by kernel_rfl)) q0 q1 q2 q3 q4 q5 q6 q7 ⟨hX, rfl, fun _ _ h => h⟩
            | 8 =>
              intro o L ho hLi hd a' X hX hfr hdp; obtain rfl := Option.some.inj ho
              refine opx_call2 rfl (hdp 3 45 (by decide) rfl (by kernel_rfl)) (hdp 7 49 (by decide) rfl (by kernel_rfl)) eg76 ((meet_any ((tdLo R d now) i) ((tdHi R u now) i) ((tdLo R d now) m) ((tdHi R u now) m) X).mono ?_)
              rintro e W' ⟨rfl, hb⟩
              refine ⟨_, rfl, hX.trans (hb.mono hX.size), rfl, fun j v h => ?_⟩
              match j with
              | 12 =>
                obtain ⟨B, e1, e2, x0, x1, x2, x3, x4, x5, x6, x7, e3⟩ := h
                exact ⟨B, e1, e2, x0, x1, x2, x3, x4, x5, x6, x7, (hb.block B (lt_of_block e3)).trans e3⟩
              | 0 | 1 | 2 | 3 | 4 | 5 | 6 | 7 | 8 | 9 | 10 | 11 | 13 => exact h
              | j + 14 => exact h
            | 9 => intro o L ho hLi hd a' X hX hfr hdp; obtain rfl := Option.some.inj ho; exact opx_move rfl rfl ⟨hX, hdp 8 50 (by decide) rfl (by kernel_rfl), fun _ _ h => h⟩
            | 10 => intro o L ho hLi hd a' X hX hfr hdp; obtain rfl := Option.some.inj ho; exact opx_extract0 rfl (hdp 9 41 (by decide) rfl (by kernel_rfl)) ⟨hX, rfl, fun _ _ h => h⟩
            | 11 => intro o L ho hLi hd a' X hX hfr hdp; obtain rfl := Option.some.inj ho; exact opx_extract1 rfl (hdp 9 41 (by decide) rfl (by kernel_rfl)) ⟨hX, rfl, fun _ _ h => h⟩
            | 12 =>
              intro o L ho hLi hd a' X hX hfr hdp; obtain rfl := Option.some.inj ho
              have hb : Below X.heap.size X (X.alloc (.cells zero8 32)) := (Below.refl _ _).alloc (Nat.le_refl _) _
              refine opx_alloc32 rfl ⟨hX.trans (hb.mono hX.size), ⟨_, rfl, hX.size, 0, 0, 0, 0, 0, 0, 0, 0, block_new X _⟩, fun j v h => ?_⟩
              match j with
              | 12 =>
                obtain ⟨B, e1, e2, x0, x1, x2, x3, x4, x5, x6, x7, e3⟩ := h
                exact ⟨B, e1, e2, x0, x1, x2, x3, x4, x5, x6, x7, (hb.block B (lt_of_block e3)).trans e3⟩
              | 0 | 1 | 2 | 3 | 4 | 5 | 6 | 7 | 8 | 9 | 10 | 11 | 13 => exact h
              | j + 14 => exact h
            | 13 =>
              intro o L ho hLi hd a' X hX hfr hdp; obtain rfl := Option.some.inj ho
              obtain ⟨B, e1, e2, x0, x1, x2, x3, x4, x5, x6, x7, e3⟩ := hdp 12 14 (by decide) rfl (by kernel_rfl)
              refine op_store8 rfl e1 (hdp 10 51 (by decide) rfl (by kernel_rfl)) e3 ?_
              intro W' h1 h2
              refine ⟨hX.trans (h2.below e2), trivial, fun j v h => ?_⟩
              match j with
              | 12 =>
                obtain ⟨B', e1', e2', y0, y1, y2, y3, y4, y5, y6, y7, e3'⟩ := h
                by_cases eB : B' = B
                · subst eB; exact ⟨B', e1', e2', _, _, _, _, _, _, _, _, h1⟩
                · exact ⟨B', e1', e2', y0, y1, y2, y3, y4, y5, y6, y7, (h2.2.1 B' eB).trans e3'⟩
              | 0 | 1 | 2 | 3 | 4 | 5 | 6 | 7 | 8 | 9 | 10 | 11 | 13 => exact h
              | j + 14 => exact h
            | 14 => intro o L ho hLi hd a' X hX hfr hdp; obtain rfl := Option.some.inj ho; exact opx_assign rfl rfl ⟨hX, hdp 11 52 (by decide) rfl (by kernel_rfl), fun _ _ h => h⟩
            | j + 15 => intro o L ho; simp at ho
          case fin =>
            intro X L V hL hX hV
            have HX := Lib.hid hX
            have v15 : V 14 = .bool (meetB ((tdLo R d now) i) ((tdHi R u now) i) ((tdLo R d now) m) ((tdHi R u now) m)) := hV 14 (by decide)
            have HP3 := Lib.hid (row_later hP2.out hX)
            have HB3 := Lib.hid (hB2.out.trans (hX.mono hB2.out.size))
            have hz3 := HB3.out.size
            cases hm : meetB ((tdLo R d now) i) ((tdHi R u now) i) ((tdLo R d now) m) ((tdHi R u now) m) with
            | true =>
              rw [hm] at v15
              have HE := Lib.hid (show cfIn (tdLo R d now) (tdHi R u now) i (m + 1) = cfIn (tdLo R d now) (tdHi R u now) i m by rw [cfIn_succ, if_neg (by simp [hm])])
              simp only [fill, Act.put, List.setIfInBounds_toArray, List.set_cons_zero, List.set_cons_succ, Nat.reduceAdd, v15]
              clear hX hL hV v15 hm
              go_wp2_with fail
              go_roundw
              case rel => exact ⟨m + 1, by omega, by omega, by go_num, by rw [HE.out]; exact HP3, HB3⟩
              case measure => simp [intOf]; omega
            | false =>
              rw [hm] at v15
              have HE := Lib.hid (show cfIn (tdLo R d now) (tdHi R u now) i (m + 1) = cfIn (tdLo R d now) (tdHi R u now) i m ++ [(i, m)] by rw [cfIn_succ, if_pos ⟨by omega, hm⟩])
              have hmx : (cfOut (tdLo R d now) (tdHi R u now) n i ++ cfIn (tdLo R d now) (tdHi R u now) i m).length + 1 ≤ maxLen := by simp only [maxLen, List.length_append]; omega
              have hmy : ((cfOut (tdLo R d now) (tdHi R u now) n i ++ cfIn (tdLo R d now) (tdHi R u now) i m).length + 1) * 16 ≤ 140737488355328 := by simp only [List.length_append]; omega
              have hbs : W2.heap.size ≤ (X.alloc (.cells #[.int .i64 (i : Int), .int .i64 (m : Int)] 77)).heap.size := by simp; omega
              simp only [fill, Act.put, List.setIfInBounds_toArray, List.set_cons_zero, List.set_cons_succ, Nat.reduceAdd, v15]
              clear hX hL hV v15 hm
              go_wp2_with (at_builtin; refine Hid.out ?_)
              refine Lib.hid ?_
              refine wpList_append_own _ rfl (.tmp 55) (.tmp 59) 73 rfl W2.heap.size 77 i0 (.agg #[.int .i64 0, .int .i64 0]) 2 16 und73 hi hz0 hz1 hz2 rfl (by decide) u10 (cfOut (tdLo R d now) (tdHi R u now) n i ++ cfIn (tdLo R d now) (tdHi R u now) i m).length (pairRow (cfOut (tdLo R d now) (tdHi R u now) n i ++ cfIn (tdLo R d now) (tdHi R u now) i m)) rfl (HP3.out.alloc _) ⟨X.heap.size, 0, none⟩ 1 1 [.int .i64 (i : Int), .int .i64 (m : Int)] rfl rfl (World.news_of_block (block_new X (.cells #[.int .i64 (i : Int), .int .i64 (m : Int)] 77))) (by simp [Value.oneCell']) hmx hmy hbs ?_
              intro v' w1 hown' hgrow _
              have HP4 := Lib.hid (show w1.ownsRow W2.heap.size 77 2 v' (cfOut (tdLo R d now) (tdHi R u now) n i ++ cfIn (tdLo R d now) (tdHi R u now) i (m + 1)).length (pairRow (cfOut (tdLo R d now) (tdHi R u now) n i ++ cfIn (tdLo R d now) (tdHi R u now) i (m + 1))) by
                rw [HE.out, ← List.append_assoc, pairRow_snoc, List.length_append (bs := [(i, m)])]
                exact hown')
              have HB4 := Lib.hid (show Below W2.heap.size W2 w1 from (HB3.out.alloc hz3 (.cells #[.int .i64 (i : Int), .int .i64 (m : Int)] 77)).grown hgrow hbs (fun j e => by
                rcases HP3.out.2 with ⟨rfl, _⟩ | ⟨gg, cap', cur, rfl, hb, hg, _⟩
                · simp [Value.ownBlock] at e
                · obtain rfl : gg = j := by simpa [Value.ownBlock] using e
                  exact hb))
              clear hown' hgrow
              go_wp2_with fail
              go_roundw
              case rel => exact ⟨m + 1, by omega, by omega, by go_num, HP4, HB4⟩
              case measure => simp [intOf]; omega
        · obtain rfl : m = n := by omega
          go_wp2_with fail
          go_roundw
          case rel => exact ⟨i + 1, by omega, by go_num, hP2, hB2⟩
          case measure => simp [intOf]; omega
    · obtain rfl : i = n := by omega
      have JB := Lib.hid (DB.out.trans (hB.out.mono DB.out.size))
      have hdz := DB.out.size
      go_wp2_with fail
      refine bodyPost_ret (v := .tuple #[u10, .int .i64 0]) (by simp [results, Tryd.results38, go_sem]) rfl ⟨_, rfl, ?_, JB.out⟩
      obtain ⟨h1, h2⟩ := hP.out
      refine ⟨h1, ?_⟩
      rcases h2 with h | ⟨gg, c, cur, e1, e2, e3⟩
      · exact .inl h
      · exact .inr ⟨gg, c, cur, e1, by omega, e3⟩
end Go.Proofs.YtdcpmdigihbdpaaDoor
