/- The contract of ice.greatest: at most 12 cells. The table of limits holds 100, 400, 100, 3. -/
import Derived.Test.YtdcpmdigihbdpaaDoorRs
import Derived.Deep.AppendLies
namespace Go.Proofs.YtdcpmdigihbdpaaDoor
open Go.RowKit Go.Shelf
attribute [local go_sem] Oper.semAt_some
set_option maxRecDepth 100000
theorem info152' : (Tryd.prog.info? 152).map (fun i => (i.zero, i.size, i.bytes)) = some (some (.agg (setA fun _ => false)), 12, 12) := by kernel_rfl
theorem und161' : Tryd.prog.underlying 161 = some (.slice 152) := by kernel_rfl
/-- What has been found when the sets of pre have come: how many reports the greatest have, and which. -/
def grStep (n : Nat) (ag : Nat → Bool) (st : Nat × List Nat) (x : Nat) : Nat × List Nat :=
  if sizeTo (setF n x) 12 < st.1 then st else if ag x = false then st else if st.1 < sizeTo (setF n x) 12 then (sizeTo (setF n x) 12, [x]) else (st.1, st.2 ++ [x])
def gr (n : Nat) (ag : Nat → Bool) (pre : List Nat) : Nat × List Nat := pre.foldl (grStep n ag) (0, [])
theorem gr_snoc (n : Nat) (ag : Nat → Bool) (pre : List Nat) (x : Nat) : gr n ag (pre ++ [x]) = grStep n ag (gr n ag pre) x := by simp [gr]
theorem gr_len (n : Nat) (ag : Nat → Bool) (pre : List Nat) : (gr n ag pre).2.length ≤ pre.length := by
  have : ∀ (pre : List Nat) (st : Nat × List Nat), (pre.foldl (grStep n ag) st).2.length ≤ st.2.length + pre.length := by
    intro pre
    induction pre with
    | nil => intro st; simp
    | cons x pre ih =>
      intro st
      simp only [List.foldl_cons, List.length_cons]
      refine Nat.le_trans (ih _) ?_
      have : (grStep n ag st x).2.length ≤ st.2.length + 1 := by
        unfold grStep
        split
        · omega
        · split
          · omega
          · split
            · simp
            · simp
      omega
  simpa [gr] using this pre (0, [])
def setRow (n : Nat) (found : List Nat) : List Value := found.flatMap fun x => (setA (setF n x)).toList
theorem setRow_snoc (n : Nat) (found : List Nat) (x : Nat) : setRow n (found ++ [x]) = setRow n found ++ (setA (setF n x)).toList := by simp [setRow]
theorem cells12 {W : World} {b : Nat} {s : Nat → Bool} {t : TypeId} (h : W.heap[b]? = some (.cells (setA s) t (0, 0))) : W.cell? ⟨b, 0, none⟩ = some (.bool (s 0)) ∧ W.cell? ⟨b, 1, none⟩ = some (.bool (s 1)) ∧ W.cell? ⟨b, 2, none⟩ = some (.bool (s 2)) ∧ W.cell? ⟨b, 3, none⟩ = some (.bool (s 3)) ∧
    W.cell? ⟨b, 4, none⟩ = some (.bool (s 4)) ∧ W.cell? ⟨b, 5, none⟩ = some (.bool (s 5)) ∧ W.cell? ⟨b, 6, none⟩ = some (.bool (s 6)) ∧ W.cell? ⟨b, 7, none⟩ = some (.bool (s 7)) ∧ W.cell? ⟨b, 8, none⟩ = some (.bool (s 8)) ∧ W.cell? ⟨b, 9, none⟩ = some (.bool (s 9)) ∧ W.cell? ⟨b, 10, none⟩ = some (.bool (s 10)) ∧ W.cell? ⟨b, 11, none⟩ = some (.bool (s 11)) := by
  have c := fun j => cell_of_block h j
  exact ⟨c 0, c 1, c 2, c 3, c 4, c 5, c 6, c 7, c 8, c 9, c 10, c 11⟩
theorem kf_below {B : Nat} {W W' : World} (h : Below W.heap.size W W') : KeepsFrom B W W' := ⟨h.size, fun k _ _ hk _ => (h.block k (Array.getElem?_eq_some_iff.1 hk).1).trans hk⟩
theorem grown_below {W W' : World} (h : Below W.heap.size W W') : W.grownBy W' none := ⟨h.os, h.tape, h.output, h.size, fun k hk _ => h.block k hk⟩
theorem boxed_later {W W' : World} {B : Nat} {t : TypeId} {v : Value} (h : Boxed W B t v) (hb : Below W.heap.size W W') : Boxed W' B t v := h.kept (grown_below hb) (by simp)
theorem row_later {W W' : World} {base size n : Nat} {e : TypeId} {v : Value} {xs : List Value} (h : W.ownsRow base e size v n xs) (hb : Below W.heap.size W W') : W'.ownsRow base e size v n xs := h.kept (grown_below hb) (by cases h : v.ownBlock <;> simp)
set_option maxHeartbeats 4000000 in
theorem greatest_any (CL CH : Nat → Nat → Int) (b n : Nat) (hn : n ≤ 12) (w : World) (hl : Lim w) (hb : b < w.heap.size) (hc : CellsAt w b n CL CH) :
    Calls Tryd.prog 101 #[.slice (some ⟨b, 0, none⟩) n n] w fun e w' => ∃ v, e = .returned v ∧ w'.ownsRow w.heap.size 152 12 v (gr n (fun x => cmOK (setF n x) CL CH n) (List.range (2 ^ n))).2.length (setRow n (gr n (fun x => cmOK (setF n x) CL CH n) (List.range (2 ^ n))).2) ∧ Below w.heap.size w w' := by
  have hpos := hl.pos
  have HL := Lib.hid hl
  have HC := Lib.hid hc
  clear hl hc
  obtain ⟨i0, hi, hz0, hz1, hz2⟩ := info_parts info152'
  refine (callsIn_wide (n := 6)).1 ?_
  refine callsIn_of_wp_marks Tryd.func101 rfl trivial ?_ rfl
  simp only [Tryd.ntmps101, List.size_toArray, List.length_cons, List.length_nil, Nat.reduceAdd, Nat.reduceSub, Array.replicate_succ, Array.replicate_zero, List.push_toArray, List.append_toArray, List.nil_append, List.cons_append]
  gi_wp2_with (refine ⟨trivial, ?_⟩; gi_at_call 125; refine (callsIn_wide.2 (sets_any n _)).mono ?_; rintro e w' ⟨rfl, rfl⟩)
  have bL := (((Boxed.new w 125 (.slice (some ⟨b, 0, none⟩) n n)).alloc (.cells #[.slice none 0 0] 161)).alloc (.cells #[.int .i64 0] 3)).alloc (.cells #[.int .i64 (n : Int)] 3)
  have bF := ((Boxed.new (w.alloc (.cells #[.slice (some ⟨b, 0, none⟩) n n] 125)) 161 (.slice none 0 0)).alloc (.cells #[.int .i64 0] 3)).alloc (.cells #[.int .i64 (n : Int)] 3)
  have bM := (Boxed.new ((w.alloc (.cells #[.slice (some ⟨b, 0, none⟩) n n] 125)).alloc (.cells #[.slice none 0 0] 161)) 3 (.int .i64 0)).alloc (.cells #[.int .i64 (n : Int)] 3)
  have bN := Boxed.new (((w.alloc (.cells #[.slice (some ⟨b, 0, none⟩) n n] 125)).alloc (.cells #[.slice none 0 0] 161)).alloc (.cells #[.int .i64 0] 3)) 3 (.int .i64 (n : Int))
  have hB0 : Below w.heap.size w ((((w.alloc (.cells #[.slice (some ⟨b, 0, none⟩) n n] 125)).alloc (.cells #[.slice none 0 0] 161)).alloc (.cells #[.int .i64 0] 3)).alloc (.cells #[.int .i64 (n : Int)] 3)) := ((((Below.refl _ w).alloc (Nat.le_refl _) _).alloc (by simp) _).alloc (by simp; omega) _).alloc (by simp; omega) _
  have hsz : ((((w.alloc (.cells #[.slice (some ⟨b, 0, none⟩) n n] 125)).alloc (.cells #[.slice none 0 0] 161)).alloc (.cells #[.int .i64 0] 3)).alloc (.cells #[.int .i64 (n : Int)] 3)).heap.size = w.heap.size + 1 + 1 + 1 + 1 := by simp
  simp only [World.size_alloc] at bF bM bN
  obtain ⟨W0, hW0⟩ : ∃ W0, (((w.alloc (.cells #[.slice (some ⟨b, 0, none⟩) n n] 125)).alloc (.cells #[.slice none 0 0] 161)).alloc (.cells #[.int .i64 0] 3)).alloc (.cells #[.int .i64 (n : Int)] 3) = W0 := ⟨_, rfl⟩
  rw [hW0] at bL bF bM bN hB0 hsz ⊢
  clear hW0
  refine wpIn_rangeFunc_ownH rfl (by omega) (gf := 131) (lb := #[.pointer (some ⟨w.heap.size + 1 + 1 + 1, 0, none⟩)]) rfl trivial (enters_of Tryd.func131 (by kernel_rfl) rfl)
    (sets_stops (6 - 1) (by omega) (w.heap.size + 1 + 1 + 1) n hn W0 (by omega) bN.cell) (fun h k => KpB.trans h k) (fun W l o o' hlt ho _ _ => ⟨by simp, World.putObj_heap_other (by omega)⟩) (Below.refl _ _) (fun _ => rfl)
    (fun pre W => (((((∃ v, Boxed W (w.heap.size + 1) 161 v ∧ W.ownsRow w.heap.size 152 12 v (gr n (fun x => cmOK (setF n x) CL CH n) pre).2.length (setRow n (gr n (fun x => cmOK (setF n x) CL CH n) pre).2) ∧ True) ∧ Boxed W (w.heap.size + 1 + 1) 3 (.int .i64 (gr n (fun x => cmOK (setF n x) CL CH n) pre).1))
      ∧ Boxed W w.heap.size 125 (.slice (some ⟨b, 0, none⟩) n n)) ∧ Boxed W (w.heap.size + 1 + 1 + 1) 3 (.int .i64 n)) ∧ Below w.heap.size w W))
    (fun _ _ _ => False)
    (OwnFrom.and (OwnFrom.and (OwnFrom.and (OwnFrom.and (Own.from (holdsRow_own w.heap.size (w.heap.size + 1) 161 152 12 (fun pre => (gr n (fun x => cmOK (setF n x) CL CH n) pre).2.length) (fun pre => setRow n (gr n (fun x => cmOK (setF n x) CL CH n) pre).2) (fun _ _ => True)) _)
      (Own.from (boxed_own (w.heap.size + 1 + 1) 3 (fun pre => .int .i64 (gr n (fun x => cmOK (setF n x) CL CH n) pre).1)) _)) (Own.from (boxed_own w.heap.size 125 (fun _ => .slice (some ⟨b, 0, none⟩) n n)) _)) (Own.from (boxed_own (w.heap.size + 1 + 1 + 1) 3 (fun _ => .int .i64 n)) _)) (ownFrom_below (Nat.le_refl _) (by omega)))
    (fun _ _ _ _ _ hs _ _ => hs)
    ⟨⟨⟨⟨⟨_, bF, World.ownsRow_nil _ _ _ _, trivial⟩, bM⟩, bL⟩, bN⟩, hB0⟩
    (fun x a' W => ∃ Bx, W0.heap.size ≤ Bx ∧ W.heap[Bx]? = some (.cells (setA (setF n x)) 152 (0, 0)) ∧ a' = { tmps := #[.slice (some ⟨b, 0, none⟩) n n, .pointer (some ⟨w.heap.size, 0, none⟩), .slice none 0 0, .pointer (some ⟨w.heap.size + 1, 0, none⟩), .pointer (some ⟨w.heap.size + 1 + 1, 0, none⟩), .pointer (some ⟨Bx, 0, none⟩), undef, undef, undef, .slice (some ⟨b, 0, none⟩) n n, .int .i64 n,
      .func (.func 131) #[] #[.pointer (some ⟨w.heap.size + 1 + 1 + 1, 0, none⟩)], .agg (setA (setF n x)), undef, undef, undef, undef, undef, undef, undef, undef, undef, undef, undef, undef, undef, undef, undef, undef, undef, undef, undef, undef, undef, undef], defers := [] })
    (fun x a' s W W' row hs hg hr => by
      obtain ⟨Bx, h1, h2, h3⟩ := hs
      exact ⟨Bx, h1, (hg.block Bx (lt_of_block h2) (fun e => by obtain ⟨_, o, ho, hcl⟩ := hr Bx e.symm; rw [h2] at ho; cases ho; cases hcl)).trans h2, h3⟩)
    ?assign ?body ?done ?stop
  case assign =>
    rintro l pre x W K ⟨⟨⟨⟨⟨v, hv, hrow, _⟩, bM⟩, bL⟩, bN⟩, hB⟩ hK
    gi_wp2
    exact hK _ _ ((KeepsOthers.alloc _ _).from _) (KpB.of_grown (World.grownBy_alloc W _ none) bN.lt (by simp)) ⟨⟨⟨⟨⟨v, hv.alloc _, hrow.alloc _, trivial⟩, bM.alloc _⟩, bL.alloc _⟩, bN.alloc _⟩, hB.alloc hB.size _⟩ ⟨W.heap.size, by have := bN.lt; omega, block_new W _, rfl⟩
  case body =>
    rintro l pre x a' W hl ⟨r, hr⟩ ⟨⟨⟨⟨⟨v, hv, hrow, _⟩, bM⟩, bL⟩, bN⟩, hB⟩ ⟨Bx, hBx, hX, rfl⟩ hlt
    obtain ⟨x0, x1, x2, x3, x4, x5, x6, x7, x8, x9, x10, x11⟩ := cells12 hX
    have HP := Lib.hid (gr_snoc n (fun x => cmOK (setF n x) CL CH n) pre x)
    have hlen := gr_len n (fun x => cmOK (setF n x) CL CH n) pre
    generalize gr n (fun x => cmOK (setF n x) CL CH n) pre = st at *
    obtain ⟨mo, fo⟩ := st
    simp only at hv hrow bM hlen HP
    gi_wp2
    refine ⟨trivial, (CallsIn.inRound l (callsIn_wide.2 (size_any (setF n x) _))).mono ?_⟩
    rintro e W1 ⟨rfl, hb1⟩
    replace hv := boxed_later hv hb1
    replace hrow := row_later hrow hb1
    replace bM := boxed_later bM hb1
    replace bL := boxed_later bL hb1
    have bN' := boxed_later bN hb1
    have hX1 := (hb1.block _ (lt_of_block hX)).trans hX
    have hB1 := hB.trans (hb1.mono hB.size)
    have hk1 : KeepsFrom W0.heap.size W W1 := kf_below hb1
    have hp1 : KpB (w.heap.size + 1 + 1 + 1) W W1 := KpB.of_grown (grown_below hb1) bN.lt (by simp)
    clear hb1 hX hB bN x0 x1 x2 x3 x4 x5 x6 x7 x8 x9 x10 x11 hr
    obtain ⟨x0, x1, x2, x3, x4, x5, x6, x7, x8, x9, x10, x11⟩ := cells12 hX1
    have cM := bM.cell
    by_cases h1 : sizeTo (setF n x) 12 < mo
    · have HG := Lib.hid (show gr n (fun x => cmOK (setF n x) CL CH n) (pre ++ [x]) = (mo, fo) by rw [HP.out]; unfold grStep; rw [if_pos h1])
      have h1' : (sizeTo (setF n x) 12 : Int) < (mo : Int) := by omega
      gi_wp2
      exact ⟨hk1, hp1, ⟨⟨⟨⟨v, hv, by rw [HG.out]; exact hrow, trivial⟩, by rw [HG.out]; exact bM⟩, bL⟩, bN'⟩, hB1⟩
    · have h1' : ¬ (sizeTo (setF n x) 12 : Int) < (mo : Int) := by omega
      have cL := bL.cell
      gi_wp2
      refine ⟨trivial, (CallsIn.inRound l (callsIn_wide.2 (common_any (setF n x) CL CH b n hn _ (HL.out.below hpos hB1) (Nat.lt_of_lt_of_le hb hB1.size) (HC.out.below hb hB1)))).mono ?_⟩
      rintro e W2 ⟨rfl, hb2⟩
      replace hv := boxed_later hv hb2
      replace hrow := row_later hrow hb2
      replace bM := boxed_later bM hb2
      replace bL := boxed_later bL hb2
      have hp2 := hp1.trans (KpB.of_grown (grown_below hb2) bN'.lt (by simp))
      replace bN' := boxed_later bN' hb2
      have hX2 := (hb2.block _ (lt_of_block hX1)).trans hX1
      have hB2 := hB1.trans (hb2.mono hB1.size)
      have hk2 : KeepsFrom W0.heap.size W W2 := hk1.trans (kf_below hb2)
      clear hb2 hX1 hB1 hk1 hp1 x0 x1 x2 x3 x4 x5 x6 x7 x8 x9 x10 x11 cM cL
      obtain ⟨x0, x1, x2, x3, x4, x5, x6, x7, x8, x9, x10, x11⟩ := cells12 hX2
      cases hag : cmOK (setF n x) CL CH n with
      | false =>
        have HG := Lib.hid (show gr n (fun x => cmOK (setF n x) CL CH n) (pre ++ [x]) = (mo, fo) by rw [HP.out]; unfold grStep; rw [if_neg h1, if_pos hag])
        have hR : cmRes (setF n x) CL CH n = .tuple #[.agg #[.int .i64 0, .int .i64 0, .int .i64 0, .int .i64 0, .int .i64 0, .int .i64 0, .int .i64 0, .int .i64 0], .bool false] := by unfold cmRes; rw [hag]; rfl
        rw [hR]
        clear hR hag
        gi_wp2
        exact ⟨hk2.trans ((KeepsOthers.alloc _ _).from _), hp2.trans (KpB.of_grown (World.grownBy_alloc _ _ none) bN'.lt (by simp)), ⟨⟨⟨⟨v, hv.alloc _, by rw [HG.out]; exact hrow.alloc _, trivial⟩, by rw [HG.out]; exact bM.alloc _⟩, bL.alloc _⟩, bN'.alloc _⟩, hB2.alloc hB2.size _⟩
      | true =>
        have hR : cmRes (setF n x) CL CH n = .tuple #[.agg (cellA (cmLo (setF n x) CL n) (cmHi (setF n x) CH n)), .bool true] := by unfold cmRes; rw [hag]; rfl
        rw [hR]
        have hp3 := hp2.trans (KpB.of_grown (World.grownBy_alloc W2 (.cells (cellA (cmLo (setF n x) CL n) (cmHi (setF n x) CH n)) 32) none) bN'.lt (by simp))
        have hk3 := hk2.trans ((KeepsOthers.alloc W2 (.cells (cellA (cmLo (setF n x) CL n) (cmHi (setF n x) CH n)) 32)).from W0.heap.size)
        have hB3 := hB2.alloc hB2.size (.cells (cellA (cmLo (setF n x) CL n) (cmHi (setF n x) CH n)) 32)
        have hX3 := (Below.heap_alloc W2 (.cells (cellA (cmLo (setF n x) CL n) (cmHi (setF n x) CH n)) 32) Bx (lt_of_block hX2)).trans hX2
        replace hv := hv.alloc (.cells (cellA (cmLo (setF n x) CL n) (cmHi (setF n x) CH n)) 32)
        replace hrow := hrow.alloc (.cells (cellA (cmLo (setF n x) CL n) (cmHi (setF n x) CH n)) 32)
        replace bM := bM.alloc (.cells (cellA (cmLo (setF n x) CL n) (cmHi (setF n x) CH n)) 32)
        replace bL := bL.alloc (.cells (cellA (cmLo (setF n x) CL n) (cmHi (setF n x) CH n)) 32)
        replace bN' := bN'.alloc (.cells (cellA (cmLo (setF n x) CL n) (cmHi (setF n x) CH n)) 32)
        clear x0 x1 x2 x3 x4 x5 x6 x7 x8 x9 x10 x11 hX2 hB2 hk2 hp2
        have hpw : 2 ^ n ≤ 4096 := by
          have := Nat.pow_le_pow_right (show 0 < 2 by decide) hn
          simpa using this
        have hbz := hB3.size
        by_cases h3 : mo < sizeTo (setF n x) 12
        · have HG := Lib.hid (show gr n (fun x => cmOK (setF n x) CL CH n) (pre ++ [x]) = (sizeTo (setF n x) 12, [x]) by rw [HP.out]; unfold grStep; rw [if_neg h1, if_neg (by simp [hag]), if_pos h3])
          have h3' : (mo : Int) < (sizeTo (setF n x) 12 : Int) := by omega
          have hv4 : Boxed (((W2.alloc (.cells (cellA (cmLo (setF n x) CL n) (cmHi (setF n x) CH n)) 32)).setCell ⟨w.heap.size + 1, 0, none⟩ (.slice none 0 0)).setCell ⟨w.heap.size + 1 + 1, 0, none⟩ (.int .i64 (sizeTo (setF n x) 12))) (w.heap.size + 1) 161 (.slice none 0 0) := (hv.set (.slice none 0 0)).other (by omega) _
          have bM4 : Boxed (((W2.alloc (.cells (cellA (cmLo (setF n x) CL n) (cmHi (setF n x) CH n)) 32)).setCell ⟨w.heap.size + 1, 0, none⟩ (.slice none 0 0)).setCell ⟨w.heap.size + 1 + 1, 0, none⟩ (.int .i64 (sizeTo (setF n x) 12))) (w.heap.size + 1 + 1) 3 (.int .i64 (sizeTo (setF n x) 12)) := (bM.other (by omega) _).set _
          have bL4 : Boxed (((W2.alloc (.cells (cellA (cmLo (setF n x) CL n) (cmHi (setF n x) CH n)) 32)).setCell ⟨w.heap.size + 1, 0, none⟩ (.slice none 0 0)).setCell ⟨w.heap.size + 1 + 1, 0, none⟩ (.int .i64 (sizeTo (setF n x) 12))) w.heap.size 125 (.slice (some ⟨b, 0, none⟩) n n) := (bL.other (by omega) _).other (by omega) _
          have bN4 : Boxed (((W2.alloc (.cells (cellA (cmLo (setF n x) CL n) (cmHi (setF n x) CH n)) 32)).setCell ⟨w.heap.size + 1, 0, none⟩ (.slice none 0 0)).setCell ⟨w.heap.size + 1 + 1, 0, none⟩ (.int .i64 (sizeTo (setF n x) 12))) (w.heap.size + 1 + 1 + 1) 3 (.int .i64 n) := (bN'.other (by omega) _).other (by omega) _
          have hX4 : (((W2.alloc (.cells (cellA (cmLo (setF n x) CL n) (cmHi (setF n x) CH n)) 32)).setCell ⟨w.heap.size + 1, 0, none⟩ (.slice none 0 0)).setCell ⟨w.heap.size + 1 + 1, 0, none⟩ (.int .i64 (sizeTo (setF n x) 12))).heap[Bx]? = some (.cells (setA (setF n x)) 152 (0, 0)) := (Below.heap_setCell _ _ _ Bx (fun e => by have e' : Bx = w.heap.size + 1 + 1 := e; omega)).trans ((Below.heap_setCell _ _ _ Bx (fun e => by have e' : Bx = w.heap.size + 1 := e; omega)).trans hX3)
          have hz4 : (((W2.alloc (.cells (cellA (cmLo (setF n x) CL n) (cmHi (setF n x) CH n)) 32)).setCell ⟨w.heap.size + 1, 0, none⟩ (.slice none 0 0)).setCell ⟨w.heap.size + 1 + 1, 0, none⟩ (.int .i64 (sizeTo (setF n x) 12))).heap.size = W2.heap.size + 1 := by simp [World.setCell]
          have hB4 : Below w.heap.size w (((W2.alloc (.cells (cellA (cmLo (setF n x) CL n) (cmHi (setF n x) CH n)) 32)).setCell ⟨w.heap.size + 1, 0, none⟩ (.slice none 0 0)).setCell ⟨w.heap.size + 1 + 1, 0, none⟩ (.int .i64 (sizeTo (setF n x) 12))) := (hB3.setCell (p := ⟨w.heap.size + 1, 0, none⟩) (by simp) _).setCell (p := ⟨w.heap.size + 1 + 1, 0, none⟩) (by simp; omega) _
          have hk4 : KeepsFrom W0.heap.size W (((W2.alloc (.cells (cellA (cmLo (setF n x) CL n) (cmHi (setF n x) CH n)) 32)).setCell ⟨w.heap.size + 1, 0, none⟩ (.slice none 0 0)).setCell ⟨w.heap.size + 1 + 1, 0, none⟩ (.int .i64 (sizeTo (setF n x) 12))) := (hk3.trans ((KeepsOthers.setCell _ _ _).from _)).trans ((KeepsOthers.setCell _ _ _).from _)
          have hrow4 : (((W2.alloc (.cells (cellA (cmLo (setF n x) CL n) (cmHi (setF n x) CH n)) 32)).setCell ⟨w.heap.size + 1, 0, none⟩ (.slice none 0 0)).setCell ⟨w.heap.size + 1 + 1, 0, none⟩ (.int .i64 (sizeTo (setF n x) 12))).ownsRow w.heap.size 152 12 (.slice none 0 0) 0 [] := World.ownsRow_nil _ _ _ _
          have hp4 : KpB (w.heap.size + 1 + 1 + 1) W (((W2.alloc (.cells (cellA (cmLo (setF n x) CL n) (cmHi (setF n x) CH n)) 32)).setCell ⟨w.heap.size + 1, 0, none⟩ (.slice none 0 0)).setCell ⟨w.heap.size + 1 + 1, 0, none⟩ (.int .i64 (sizeTo (setF n x) 12))) := hp3.trans ⟨by rw [hz4]; simp, (show (((W2.alloc (.cells (cellA (cmLo (setF n x) CL n) (cmHi (setF n x) CH n)) 32)).setCell ⟨w.heap.size + 1, 0, none⟩ (.slice none 0 0)).setCell ⟨w.heap.size + 1 + 1, 0, none⟩ (.int .i64 (sizeTo (setF n x) 12))).heap[_]? = _ from bN4).trans bN'.symm⟩
          have cF := hv.cell
          have fF := hv.frozen
          have cM := bM.cell
          have fM := (bM.other (B' := w.heap.size + 1) (by omega) (.slice none 0 0)).frozen
          have cM' := (bM.other (B' := w.heap.size + 1) (by omega) (.slice none 0 0)).cell
          obtain ⟨x0, x1, x2, x3, x4, x5, x6, x7, x8, x9, x10, x11⟩ := cells12 hX4
          have cF4 := hv4.cell
          clear hR hag
          have hnb : ((((W2.alloc (.cells (cellA (cmLo (setF n x) CL n) (cmHi (setF n x) CH n)) 32)).setCell ⟨w.heap.size + 1, 0, none⟩ (.slice none 0 0)).setCell ⟨w.heap.size + 1 + 1, 0, none⟩ (.int .i64 (sizeTo (setF n x) 12))).alloc (.cells (setA (setF n x)) 152)).heap[W2.heap.size + 1]? = some (.cells (setA (setF n x)) 152 (0, 0)) := by
            have := block_new (((W2.alloc (.cells (cellA (cmLo (setF n x) CL n) (cmHi (setF n x) CH n)) 32)).setCell ⟨w.heap.size + 1, 0, none⟩ (.slice none 0 0)).setCell ⟨w.heap.size + 1 + 1, 0, none⟩ (.int .i64 (sizeTo (setF n x) 12))) (.cells (setA (setF n x)) 152)
            rwa [hz4] at this
          have hbs : w.heap.size ≤ ((((W2.alloc (.cells (cellA (cmLo (setF n x) CL n) (cmHi (setF n x) CH n)) 32)).setCell ⟨w.heap.size + 1, 0, none⟩ (.slice none 0 0)).setCell ⟨w.heap.size + 1 + 1, 0, none⟩ (.int .i64 (sizeTo (setF n x) 12))).alloc (.cells (setA (setF n x)) 152)).heap.size := by rw [World.size_alloc, hz4]; simp at hbz; omega
          gi_wp2_with (gi_at_builtin; refine Hid.out ?_)
          refine Lib.hid ?_
          refine wpListIn_append_own _ rfl (.tmp 30) (.tmp 32) 161 rfl w.heap.size 152 i0 (.agg (setA fun _ => false)) 12 12 und161' hi hz0 hz1 hz2 rfl (by decide) (.slice none 0 0) 0 [] rfl (hrow4.alloc _) ⟨W2.heap.size + 1, 0, none⟩ 1 1 (setA (setF n x)).toList rfl rfl (World.news_of_block hnb) (by simp [Value.oneCell']) (by decide) (by omega) hbs ?_
          intro v' w1 hown' hgrow _
          obtain ⟨g', cap', rfl⟩ := ownsRow_succ hown'
          obtain ⟨hv1, hv2, hr2, hk5, hb5⟩ := hv4.appended (by decide) hrow4 hB4.size (by omega) hown' hgrow
          have hc1 := hv1.cell
          have hf1 := hv1.frozen
          have bM1 := (bM4.alloc (.cells (setA (setF n x)) 152)).kept hgrow (bM4.not_row (by decide) hrow4)
          have bL1 := (bL4.alloc (.cells (setA (setF n x)) 152)).kept hgrow (bL4.not_row (by decide) hrow4)
          have bN1 := (bN4.alloc (.cells (setA (setF n x)) 152)).kept hgrow (bN4.not_row (by decide) hrow4)
          have hrw : setRow n [x] = [] ++ (setA (setF n x)).toList := by simp [setRow]
          rw [hsz] at hk4
          gi_wp2
          exact ⟨hk4.trans (hk5.from _), hp4.trans ⟨hk5.size, (bN1.other (by omega) _ : Boxed _ _ _ _).trans bN4.symm⟩, ⟨⟨⟨⟨_, hv2, by rw [HG.out]; simp only [hrw, List.length_cons, List.length_nil, Nat.zero_add]; exact hr2⟩, by rw [HG.out]; exact bM1.other (by omega) _⟩, bL1.other (by omega) _⟩, bN1.other (by omega) _⟩, hB4.trans hb5⟩
        · have HG := Lib.hid (show gr n (fun x => cmOK (setF n x) CL CH n) (pre ++ [x]) = (mo, fo ++ [x]) by rw [HP.out]; unfold grStep; rw [if_neg h1, if_neg (by simp [hag]), if_neg h3])
          have h3' : ¬ (mo : Int) < (sizeTo (setF n x) 12 : Int) := by omega
          have cM := bM.cell
          have cF := hv.cell
          obtain ⟨x0, x1, x2, x3, x4, x5, x6, x7, x8, x9, x10, x11⟩ := cells12 hX3
          clear hR hag
          have hnb : ((W2.alloc (.cells (cellA (cmLo (setF n x) CL n) (cmHi (setF n x) CH n)) 32)).alloc (.cells (setA (setF n x)) 152)).heap[W2.heap.size + 1]? = some (.cells (setA (setF n x)) 152 (0, 0)) := by
            have := block_new (W2.alloc (.cells (cellA (cmLo (setF n x) CL n) (cmHi (setF n x) CH n)) 32)) (.cells (setA (setF n x)) 152)
            rwa [World.size_alloc] at this
          have hmx : fo.length + 1 ≤ maxLen := by simp only [maxLen]; omega
          have hbs : w.heap.size ≤ ((W2.alloc (.cells (cellA (cmLo (setF n x) CL n) (cmHi (setF n x) CH n)) 32)).alloc (.cells (setA (setF n x)) 152)).heap.size := by simp; simp at hbz; omega
          gi_wp2_with (gi_at_builtin; refine Hid.out ?_)
          refine Lib.hid ?_
          refine wpListIn_append_own _ rfl (.tmp 30) (.tmp 32) 161 rfl w.heap.size 152 i0 (.agg (setA fun _ => false)) 12 12 und161' hi hz0 hz1 hz2 rfl (by decide) v fo.length (setRow n fo) rfl (hrow.alloc _) ⟨W2.heap.size + 1, 0, none⟩ 1 1 (setA (setF n x)).toList rfl rfl (World.news_of_block hnb) (by simp [Value.oneCell']) hmx (by omega) hbs ?_
          intro v' w1 hown' hgrow _
          obtain ⟨g', cap', rfl⟩ := ownsRow_succ hown'
          obtain ⟨hv1, hv2, hr2, hk4, hb4⟩ := hv.appended (by decide) hrow hbz (by omega) hown' hgrow
          have hc1 := hv1.cell
          have hf1 := hv1.frozen
          have bM1 := (bM.alloc (.cells (setA (setF n x)) 152)).kept hgrow (bM.not_row (by decide) hrow)
          have bL1 := (bL.alloc (.cells (setA (setF n x)) 152)).kept hgrow (bL.not_row (by decide) hrow)
          have bN1 := (bN'.alloc (.cells (setA (setF n x)) 152)).kept hgrow (bN'.not_row (by decide) hrow)
          have hrw : setRow n (fo ++ [x]) = setRow n fo ++ (setA (setF n x)).toList := setRow_snoc n fo x
          rw [hsz] at hk3
          gi_wp2
          exact ⟨hk3.trans (hk4.from _), hp3.trans ⟨hk4.size, (bN1.other (by omega) _ : Boxed _ _ _ _).trans bN'.symm⟩, ⟨⟨⟨⟨_, hv2, by rw [HG.out]; simp only [hrw, List.length_append, List.length_cons, List.length_nil, Nat.zero_add]; exact hr2⟩, by rw [HG.out]; exact bM1.other (by omega) _⟩, bL1.other (by omega) _⟩, bN1.other (by omega) _⟩, hB3.trans hb4⟩
  case done =>
    rintro D ys W hD rfl ⟨⟨⟨⟨⟨v, hv, hrow, _⟩, bM⟩, bL⟩, bN⟩, hB⟩ hK
    have cF := hv.cell
    gi_wp2
    refine ⟨by simp, .inl ⟨_, _, rfl, run_takeDeferred hK, ?_⟩⟩
    exact ⟨_, results_tmp rfl _ _ _, v, rfl, ownsRow_putObj hrow _ hK rfl, hB.trans (belowK_b (w := w) (Nat.le_refl _) W D _ _ (by omega) hK rfl rfl)⟩
  case stop =>
    rintro D c pre W _ _ h _
    exact h.elim
end Go.Proofs.YtdcpmdigihbdpaaDoor
