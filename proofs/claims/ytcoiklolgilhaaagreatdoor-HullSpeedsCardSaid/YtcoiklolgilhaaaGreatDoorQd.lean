/- The contract of the law's awake: the chapter's examples come out. The tables of limits and of strengths hold their numbers. -/
import Derived.Test.YtcoiklolgilhaaaGreatDoorQc
namespace Go.Proofs.YtcoiklolgilhaaaGreatDoor
open Go.RowKit
set_option maxRecDepth 100000
structure R7 (m : Mem3) (w0 : World) (L : Nat → Bool) (V : Nat → Value) (W : World) : Prop where
  low : Below w0.heap.size w0 W
  f0 : L 0 = true → (V 0) = .agg (shipA exS m)
  f1 : L 1 = true → (V 1) = .agg (cellV ⟨100, 150, 0, 0⟩ ⟨100, 150, 0, 0⟩)
  f2 : L 2 = true → (V 2) = .agg #[.int .i64 3, .int .i64 3]
  f3 : L 3 = true → (V 3) = .agg #[.int .i64 2, .int .i64 3]
  f4 : L 4 = true → (V 4) = .agg #[.int .i64 0, .int .i64 2]
  f5 : L 5 = true → L 6 = false → ∃ p, (V 5) = .slice (some ⟨p, 0, none⟩) 3 3 ∧ W.heap[p]? = some (.cells #[.int .i64 3, .int .i64 3, .int .i64 2, .int .i64 3, .int .i64 0, .int .i64 2] 28 (0, 0))
  f6 : L 6 = true → (V 6) = .tuple #[.agg #[.int .i64 1, .int .i64 2], .int .i64 0]
  f7 : L 7 = true → (V 7) = .tuple #[.agg #[.int .i64 1, .int .i64 2], .int .i64 0]
  f8 : L 8 = true → (V 8) = .agg #[.int .i64 1, .int .i64 2]
  f9 : L 9 = true → (V 9) = .int .i64 0
  f10 : L 10 = true → ∃ p, (V 10) = .pointer (some ⟨p, 0, none⟩) ∧ w0.heap.size ≤ p ∧ ∃ x y : Int, W.heap[p]? = some (.cells #[.int .i64 x, .int .i64 y] 28 (0, 0))
  f11 : L 11 = true → L 10 = true ∧ ∃ p, V 10 = .pointer (some ⟨p, 0, none⟩) ∧ W.heap[p]? = some (.cells #[.int .i64 1, .int .i64 2] 28 (0, 0))
  f12 : L 12 = true → (V 12) = .int .i64 0
theorem R7.later {m : Mem3} {w0 : World} {L : Nat → Bool} {V : Nat → Value} {W W' : World} (h : R7 m w0 L V W) (hb : Below W.heap.size W W') : R7 m w0 L V W' := by
  refine ⟨h.low.trans (hb.mono h.low.size), ?_, ?_, ?_, ?_, ?_, ?_, ?_, ?_, ?_, ?_, ?_, ?_, ?_⟩
  · exact h.f0
  · exact h.f1
  · exact h.f2
  · exact h.f3
  · exact h.f4
  · intro e e'; obtain ⟨p, h1, h3⟩ := h.f5 e e'; exact ⟨p, h1, (hb.block _ (lt_of_block h3)).trans h3⟩
  · exact h.f6
  · exact h.f7
  · exact h.f8
  · exact h.f9
  · intro e; obtain ⟨p, h1, h2, x, y, h3⟩ := h.f10 e; exact ⟨p, h1, h2, x, y, (hb.block _ (lt_of_block h3)).trans h3⟩
  · intro e; obtain ⟨e1, p, h1, h3⟩ := h.f11 e; exact ⟨e1, p, h1, (hb.block _ (lt_of_block h3)).trans h3⟩
  · exact h.f12
theorem R7.set0 {m : Mem3} {w0 : World} {L : Nat → Bool} {V : Nat → Value} {W : World} (h : R7 m w0 L V W) {x : Value} (hx : x = .agg (shipA exS m)) : R7 m w0 (fun j => if j = 0 then true else L j) (fun j => if j = 0 then x else V j) W := by
  refine ⟨h.low, ?_, ?_, ?_, ?_, ?_, ?_, ?_, ?_, ?_, ?_, ?_, ?_, ?_⟩
  · exact fun _ => hx
  · exact h.f1
  · exact h.f2
  · exact h.f3
  · exact h.f4
  · exact h.f5
  · exact h.f6
  · exact h.f7
  · exact h.f8
  · exact h.f9
  · exact h.f10
  · exact h.f11
  · exact h.f12
theorem R7.set1 {m : Mem3} {w0 : World} {L : Nat → Bool} {V : Nat → Value} {W : World} (h : R7 m w0 L V W) {x : Value} (hx : x = .agg (cellV ⟨100, 150, 0, 0⟩ ⟨100, 150, 0, 0⟩)) : R7 m w0 (fun j => if j = 1 then true else L j) (fun j => if j = 1 then x else V j) W := by
  refine ⟨h.low, ?_, ?_, ?_, ?_, ?_, ?_, ?_, ?_, ?_, ?_, ?_, ?_, ?_⟩
  · exact h.f0
  · exact fun _ => hx
  · exact h.f2
  · exact h.f3
  · exact h.f4
  · exact h.f5
  · exact h.f6
  · exact h.f7
  · exact h.f8
  · exact h.f9
  · exact h.f10
  · exact h.f11
  · exact h.f12
theorem R7.set2 {m : Mem3} {w0 : World} {L : Nat → Bool} {V : Nat → Value} {W : World} (h : R7 m w0 L V W) {x : Value} (hx : x = .agg #[.int .i64 3, .int .i64 3]) : R7 m w0 (fun j => if j = 2 then true else L j) (fun j => if j = 2 then x else V j) W := by
  refine ⟨h.low, ?_, ?_, ?_, ?_, ?_, ?_, ?_, ?_, ?_, ?_, ?_, ?_, ?_⟩
  · exact h.f0
  · exact h.f1
  · exact fun _ => hx
  · exact h.f3
  · exact h.f4
  · exact h.f5
  · exact h.f6
  · exact h.f7
  · exact h.f8
  · exact h.f9
  · exact h.f10
  · exact h.f11
  · exact h.f12
theorem R7.set3 {m : Mem3} {w0 : World} {L : Nat → Bool} {V : Nat → Value} {W : World} (h : R7 m w0 L V W) {x : Value} (hx : x = .agg #[.int .i64 2, .int .i64 3]) : R7 m w0 (fun j => if j = 3 then true else L j) (fun j => if j = 3 then x else V j) W := by
  refine ⟨h.low, ?_, ?_, ?_, ?_, ?_, ?_, ?_, ?_, ?_, ?_, ?_, ?_, ?_⟩
  · exact h.f0
  · exact h.f1
  · exact h.f2
  · exact fun _ => hx
  · exact h.f4
  · exact h.f5
  · exact h.f6
  · exact h.f7
  · exact h.f8
  · exact h.f9
  · exact h.f10
  · exact h.f11
  · exact h.f12
theorem R7.set4 {m : Mem3} {w0 : World} {L : Nat → Bool} {V : Nat → Value} {W : World} (h : R7 m w0 L V W) {x : Value} (hx : x = .agg #[.int .i64 0, .int .i64 2]) : R7 m w0 (fun j => if j = 4 then true else L j) (fun j => if j = 4 then x else V j) W := by
  refine ⟨h.low, ?_, ?_, ?_, ?_, ?_, ?_, ?_, ?_, ?_, ?_, ?_, ?_, ?_⟩
  · exact h.f0
  · exact h.f1
  · exact h.f2
  · exact h.f3
  · exact fun _ => hx
  · exact h.f5
  · exact h.f6
  · exact h.f7
  · exact h.f8
  · exact h.f9
  · exact h.f10
  · exact h.f11
  · exact h.f12
theorem R7.set5 {m : Mem3} {w0 : World} {L : Nat → Bool} {V : Nat → Value} {W : World} (h : R7 m w0 L V W) {x : Value} (hx : ∃ p, x = .slice (some ⟨p, 0, none⟩) 3 3 ∧ W.heap[p]? = some (.cells #[.int .i64 3, .int .i64 3, .int .i64 2, .int .i64 3, .int .i64 0, .int .i64 2] 28 (0, 0))) : R7 m w0 (fun j => if j = 5 then true else L j) (fun j => if j = 5 then x else V j) W := by
  refine ⟨h.low, ?_, ?_, ?_, ?_, ?_, ?_, ?_, ?_, ?_, ?_, ?_, ?_, ?_⟩
  · exact h.f0
  · exact h.f1
  · exact h.f2
  · exact h.f3
  · exact h.f4
  · exact fun _ _ => hx
  · exact h.f6
  · exact h.f7
  · exact h.f8
  · exact h.f9
  · exact h.f10
  · exact h.f11
  · exact h.f12
theorem R7.set6 {m : Mem3} {w0 : World} {L : Nat → Bool} {V : Nat → Value} {W : World} (h : R7 m w0 L V W) {x : Value} (hx : x = .tuple #[.agg #[.int .i64 1, .int .i64 2], .int .i64 0]) : R7 m w0 (fun j => if j = 6 then true else L j) (fun j => if j = 6 then x else V j) W := by
  refine ⟨h.low, ?_, ?_, ?_, ?_, ?_, ?_, ?_, ?_, ?_, ?_, ?_, ?_, ?_⟩
  · exact h.f0
  · exact h.f1
  · exact h.f2
  · exact h.f3
  · exact h.f4
  · intro _ e; simp at e
  · exact fun _ => hx
  · exact h.f7
  · exact h.f8
  · exact h.f9
  · exact h.f10
  · exact h.f11
  · exact h.f12
theorem R7.set7 {m : Mem3} {w0 : World} {L : Nat → Bool} {V : Nat → Value} {W : World} (h : R7 m w0 L V W) {x : Value} (hx : x = .tuple #[.agg #[.int .i64 1, .int .i64 2], .int .i64 0]) : R7 m w0 (fun j => if j = 7 then true else L j) (fun j => if j = 7 then x else V j) W := by
  refine ⟨h.low, ?_, ?_, ?_, ?_, ?_, ?_, ?_, ?_, ?_, ?_, ?_, ?_, ?_⟩
  · exact h.f0
  · exact h.f1
  · exact h.f2
  · exact h.f3
  · exact h.f4
  · exact h.f5
  · exact h.f6
  · exact fun _ => hx
  · exact h.f8
  · exact h.f9
  · exact h.f10
  · exact h.f11
  · exact h.f12
theorem R7.set8 {m : Mem3} {w0 : World} {L : Nat → Bool} {V : Nat → Value} {W : World} (h : R7 m w0 L V W) {x : Value} (hx : x = .agg #[.int .i64 1, .int .i64 2]) : R7 m w0 (fun j => if j = 8 then true else L j) (fun j => if j = 8 then x else V j) W := by
  refine ⟨h.low, ?_, ?_, ?_, ?_, ?_, ?_, ?_, ?_, ?_, ?_, ?_, ?_, ?_⟩
  · exact h.f0
  · exact h.f1
  · exact h.f2
  · exact h.f3
  · exact h.f4
  · exact h.f5
  · exact h.f6
  · exact h.f7
  · exact fun _ => hx
  · exact h.f9
  · exact h.f10
  · exact h.f11
  · exact h.f12
theorem R7.set9 {m : Mem3} {w0 : World} {L : Nat → Bool} {V : Nat → Value} {W : World} (h : R7 m w0 L V W) {x : Value} (hx : x = .int .i64 0) : R7 m w0 (fun j => if j = 9 then true else L j) (fun j => if j = 9 then x else V j) W := by
  refine ⟨h.low, ?_, ?_, ?_, ?_, ?_, ?_, ?_, ?_, ?_, ?_, ?_, ?_, ?_⟩
  · exact h.f0
  · exact h.f1
  · exact h.f2
  · exact h.f3
  · exact h.f4
  · exact h.f5
  · exact h.f6
  · exact h.f7
  · exact h.f8
  · exact fun _ => hx
  · exact h.f10
  · exact h.f11
  · exact h.f12
theorem R7.set10 {m : Mem3} {w0 : World} {L : Nat → Bool} {V : Nat → Value} {W : World} (h : R7 m w0 L V W) (hL : L 10 = false) {x : Value} (hx : ∃ p, x = .pointer (some ⟨p, 0, none⟩) ∧ w0.heap.size ≤ p ∧ ∃ x y : Int, W.heap[p]? = some (.cells #[.int .i64 x, .int .i64 y] 28 (0, 0))) : R7 m w0 (fun j => if j = 10 then true else L j) (fun j => if j = 10 then x else V j) W := by
  refine ⟨h.low, ?_, ?_, ?_, ?_, ?_, ?_, ?_, ?_, ?_, ?_, ?_, ?_, ?_⟩
  · exact h.f0
  · exact h.f1
  · exact h.f2
  · exact h.f3
  · exact h.f4
  · exact h.f5
  · exact h.f6
  · exact h.f7
  · exact h.f8
  · exact h.f9
  · exact fun _ => hx
  · intro e; rw [(h.f11 e).1] at hL; cases hL
  · exact h.f12
theorem R7.set12 {m : Mem3} {w0 : World} {L : Nat → Bool} {V : Nat → Value} {W : World} (h : R7 m w0 L V W) {x : Value} (hx : x = .int .i64 0) : R7 m w0 (fun j => if j = 12 then true else L j) (fun j => if j = 12 then x else V j) W := by
  refine ⟨h.low, ?_, ?_, ?_, ?_, ?_, ?_, ?_, ?_, ?_, ?_, ?_, ?_, ?_⟩
  · exact h.f0
  · exact h.f1
  · exact h.f2
  · exact h.f3
  · exact h.f4
  · exact h.f5
  · exact h.f6
  · exact h.f7
  · exact h.f8
  · exact h.f9
  · exact h.f10
  · exact h.f11
  · exact fun _ => hx
theorem eqInR (W : World) : (Op.equalIn 10000 95 (.agg #[.int .i64 10, .int .i64 3]) (.agg #[.int .i64 10, .int .i64 3])).run Tryz.prog W = .ok true W := by kernel_rfl
theorem eqInS (W : World) : (Op.equalIn 10000 28 (.agg #[.int .i64 1, .int .i64 2]) (.agg #[.int .i64 1, .int .i64 2])).run Tryz.prog W = .ok true W := by kernel_rfl
theorem ex_at : atRes (cvOf [(0, 0), (3, 10)]) 1 = .tuple #[.agg #[.int .i64 10, .int .i64 3], .int .i64 0] := by
  have h1 : okCv (cvOf [(0, 0), (3, 10)]) = true := by decide +kernel
  have h2 : (lowP (valP (cvOf [(0, 0), (3, 10)]) 1)).1 = 10 := by decide +kernel
  have h3 : (lowP (valP (cvOf [(0, 0), (3, 10)]) 1)).2 = 3 := by decide +kernel
  unfold atRes
  rw [if_pos h1, if_pos (by decide), h2, h3]
theorem ex_sp1 : SpeedRes exS ⟨100, 50, 0, 0⟩ false = .tuple #[.int .i64 135, .int .i64 0] := by
  have h1 : orL [chkP exS, iceE ⟨100, 50, 0, 0⟩] = 0 := by decide +kernel
  have h2 : (speedP exS ⟨100, 50, 0, 0⟩ false : Int) = 135 := by decide +kernel
  unfold SpeedRes
  rw [if_pos h1, h2]
theorem ex_sp2 : SpeedRes exS ⟨100, 50, 0, 0⟩ true = .tuple #[.int .i64 155, .int .i64 0] := by
  have h1 : orL [chkP exS, iceE ⟨100, 50, 0, 0⟩] = 0 := by decide +kernel
  have h2 : (speedP exS ⟨100, 50, 0, 0⟩ true : Int) = 155 := by decide +kernel
  unfold SpeedRes
  rw [if_pos h1, h2]
theorem ex_ld : LoadRes ⟨100, 60, 1, 0⟩ 135 false = .tuple #[.int .i64 14400, .int .i64 0] := by
  have h1 : orL [iceE ⟨100, 60, 1, 0⟩, errS 135] = 0 := by decide +kernel
  have h2 : loadP ⟨100, 60, 1, 0⟩ 135 false = 14400 := by decide +kernel
  unfold LoadRes
  rw [if_pos h1, h2]
abbrev exQ : Cv := cvOf [(3, 3), (2, 3), (0, 2)]
theorem ex_fr : FreeRes exS ⟨100, 150, 0, 0⟩ ⟨100, 150, 0, 0⟩ exQ = .tuple #[.agg #[.int .i64 1, .int .i64 2], .int .i64 0] := by
  have h1 : orL [chkP exS, cellE ⟨100, 150, 0, 0⟩ ⟨100, 150, 0, 0⟩, prE exQ] = 0 := by decide +kernel
  have h2 : fstN (oneF exS ⟨100, 150, 0, 0⟩ ⟨100, 150, 0, 0⟩ exQ) exQ.n 0 = 2 := by decide +kernel
  have h3 : fstN (allF' exS ⟨100, 150, 0, 0⟩ ⟨100, 150, 0, 0⟩ exQ) exQ.n 0 = 1 := by decide +kernel
  unfold FreeRes
  rw [if_pos h1, h2, h3, if_neg (by decide)]
section
variable {Q : Exit → Act → World → Prop} {o : Oper} {a' : Act} {W : World} {Rq : Value → World → Prop}
theorem opx_part {s : Nat} {lo hi : Ic} (hop : o.op = Op.build 67 #[(0, .tmp s), (2, .const (.int .i64 100))]) (he : a'.eval (.tmp s) = .agg (cellV lo hi)) (hR : Rq (.agg (partV ⟨lo, hi, false, 100⟩)) W) :
    o.wp Tryz.prog a' W (fun a'' W' => ∃ x, a'' = a'.put o.dst x ∧ Rq x W') Q := by
  have he' : a'.tmps[s]?.getD undef = .agg (cellV lo hi) := by simpa [Act.eval] using he
  unfold Oper.wp execOp
  rw [hop]
  simp [go_sem, he']
  exact ⟨_, rfl, hR⟩
theorem opx_bs84 {s : Nat} {q : Prt} (hop : o.op = Op.buildSlice 63 1 #[(0, .tmp s)]) (he : a'.eval (.tmp s) = .agg (partV q)) (hR : Rq (.slice (some ⟨W.heap.size, 0, none⟩) 1 1) (W.alloc (.cells (partV q) 67))) :
    o.wp Tryz.prog a' W (fun a'' W' => ∃ x, a'' = a'.put o.dst x ∧ Rq x W') Q := by
  have he' : a'.tmps[s]?.getD undef = .agg (partV q) := by simpa [Act.eval] using he
  unfold Oper.wp execOp
  rw [hop]
  simp [go_sem, he']
  exact ⟨_, rfl, hR⟩
theorem opx_sp57 {x y : Int} (hop : o.op = Op.build 28 #[(0, .const (.int .i64 x)), (1, .const (.int .i64 y))]) (hR : Rq (.agg #[.int .i64 x, .int .i64 y]) W) :
    o.wp Tryz.prog a' W (fun a'' W' => ∃ x, a'' = a'.put o.dst x ∧ Rq x W') Q := by
  unfold Oper.wp execOp
  rw [hop]
  simp [go_sem]
  exact ⟨_, rfl, hR⟩
theorem opx_bs91 {s1 s2 s3 : Nat} {x0 x1 y0 y1 z0 z1 : Int} (hop : o.op = Op.buildSlice 64 3 #[(0, .tmp s1), (1, .tmp s2), (2, .tmp s3)]) (h1 : a'.eval (.tmp s1) = .agg #[.int .i64 x0, .int .i64 x1]) (h2 : a'.eval (.tmp s2) = .agg #[.int .i64 y0, .int .i64 y1]) (h3 : a'.eval (.tmp s3) = .agg #[.int .i64 z0, .int .i64 z1])
    (hR : Rq (.slice (some ⟨W.heap.size, 0, none⟩) 3 3) (W.alloc (.cells #[.int .i64 x0, .int .i64 x1, .int .i64 y0, .int .i64 y1, .int .i64 z0, .int .i64 z1] 28))) :
    o.wp Tryz.prog a' W (fun a'' W' => ∃ x, a'' = a'.put o.dst x ∧ Rq x W') Q := by
  have h1' : a'.tmps[s1]?.getD undef = .agg #[.int .i64 x0, .int .i64 x1] := by simpa [Act.eval] using h1
  have h2' : a'.tmps[s2]?.getD undef = .agg #[.int .i64 y0, .int .i64 y1] := by simpa [Act.eval] using h2
  have h3' : a'.tmps[s3]?.getD undef = .agg #[.int .i64 z0, .int .i64 z1] := by simpa [Act.eval] using h3
  unfold Oper.wp execOp
  rw [hop]
  simp [go_sem, h1', h2', h3']
  exact ⟨_, rfl, hR⟩
end
theorem eg40 : ∀ args w, (callFunc 34 args).run Tryz.prog w = .ok (.enter 34 args) w := Go.Proofs.enters_of Tryz.func34 (by kernel_rfl) rfl
theorem eg41 : ∀ args w, (callFunc 38 args).run Tryz.prog w = .ok (.enter 38 args) w := Go.Proofs.enters_of Tryz.func38 (by kernel_rfl) rfl
set_option maxHeartbeats 4000000 in
theorem awake_any (w : World) (hl : Lim w) (hst : Str w) : Calls Tryz.prog 10 #[] w fun e w' => e = .returned (.bool true) ∧ Below w.heap.size w w' := by
  have HLM := Lib.hid hl
  have HST := Lib.hid hst
  have hpos := hl.pos
  have hpos1 := hst.pos
  clear hl hst
  go_enter Tryz.func10, Tryz.ntmps10
  go_wp2_with fail
  refine (Example_any w).mono ?_
  rintro e W1 ⟨rfl, hS, hb1⟩
  generalize hMM : exM w.heap.size = m at *
  clear hMM
  obtain ⟨t1, t2, tz, tb⟩ := two_allocs W1 (.cells (shipA exS m) 24) (.cells #[.int .i64 0, .int .i64 0, .int .i64 3, .int .i64 10] 89)
  have HB1 := Lib.hid hb1
  have HS := Lib.hid (hS.later tb)
  have HB2 := Lib.hid (hb1.trans (tb.mono hb1.size))
  have HK := Lib.hid t1
  have HAT := Lib.hid (At_any (some ⟨W1.heap.size + 1, 0, none⟩) 2 2 (cvOf [(0, 0), (3, 10)]) rfl (by decide) 1 (by decide) _ (pts_block2 t2))
  rw [ex_at] at HAT
  clear t1 t2 tb hS hb1
  go_wp2_with fail
  refine HAT.out.mono ?_
  rintro e W2 ⟨rfl, hb2⟩
  have hbx := (Below.refl W2.heap.size W2).alloc (Nat.le_refl _) (.cells #[.int .i64 10, .int .i64 3] 95)
  have hb3 := hb2.trans (hbx.mono hb2.size)
  have HS3 := Lib.hid (HS.out.later hb3)
  have HB3 := Lib.hid (HB2.out.trans (hb3.mono HB2.out.size))
  have HK3 := Lib.hid ((hb3.block W1.heap.size (by simp; omega)).trans HK.out)
  have HR3 := Lib.hid (block_new W2 (.cells #[.int .i64 10, .int .i64 3] 95))
  have hzz : W1.heap.size < W2.heap.size := Nat.lt_of_lt_of_le (by simp; omega) hb2.size
  have HSP1 := Lib.hid (fun (W : World) (hW : Below w.heap.size w W) (hs : ShipIn W exS m) => ex_sp1 ▸ Speed_any exS m ⟨100, 50, 0, 0⟩ false W hs (HLM.out.below hpos hW))
  have HSP2 := Lib.hid (fun (W : World) (hW : Below w.heap.size w W) (hs : ShipIn W exS m) => ex_sp2 ▸ Speed_any exS m ⟨100, 50, 0, 0⟩ true W hs (HLM.out.below hpos hW))
  have HLD := Lib.hid (fun (W : World) (hW : Below w.heap.size w W) => ex_ld ▸ Load_any ⟨100, 60, 1, 0⟩ 135 false W (HLM.out.below hpos hW))
  obtain ⟨c0, c1, c2, c3, c4, c5, c6, c7, c8, c9, c10⟩ := cells11 HK3.out
  clear hb2 hbx hb3 HAT HS HB2 HK tz
  go_wp2_with fail
  generalize W2.alloc (.cells #[.int .i64 10, .int .i64 3] 95) = V3 at *
  refine (HSP1.out _ HB3.out HS3.out).mono ?_
  rintro e W4 ⟨rfl, hb4⟩
  have HS4 := Lib.hid (HS3.out.later hb4)
  have HB4 := Lib.hid (HB3.out.trans (hb4.mono HB3.out.size))
  have HK4 := Lib.hid ((hb4.block _ (lt_of_block HK3.out)).trans HK3.out)
  have HR4 := Lib.hid ((hb4.block _ (lt_of_block HR3.out)).trans HR3.out)
  clear hb4 HS3 HB3 HK3 HR3 c0 c1 c2 c3 c4 c5 c6 c7 c8 c9 c10
  obtain ⟨c0, c1, c2, c3, c4, c5, c6, c7, c8, c9, c10⟩ := cells11 HK4.out
  go_wp2_with fail
  refine (HSP2.out _ HB4.out HS4.out).mono ?_
  rintro e W5 ⟨rfl, hb5⟩
  have HS5 := Lib.hid (HS4.out.later hb5)
  have HB5 := Lib.hid (HB4.out.trans (hb5.mono HB4.out.size))
  have HK5 := Lib.hid ((hb5.block _ (lt_of_block HK4.out)).trans HK4.out)
  have HR5 := Lib.hid ((hb5.block _ (lt_of_block HR4.out)).trans HR4.out)
  clear hb5 HS4 HB4 HK4 HR4 c0 c1 c2 c3 c4 c5 c6 c7 c8 c9 c10
  go_wp2_with fail
  refine (HLD.out _ HB5.out).mono ?_
  rintro e W6 ⟨rfl, hb6⟩
  have HS6 := Lib.hid (HS5.out.later hb6)
  have HB6 := Lib.hid (HB5.out.trans (hb6.mono HB5.out.size))
  have HK6 := Lib.hid ((hb6.block _ (lt_of_block HK5.out)).trans HK5.out)
  have HR6 := Lib.hid ((hb6.block _ (lt_of_block HR5.out)).trans HR5.out)
  clear hb6 HS5 HB5 HK5 HR5 HSP1 HSP2 HLD
  go_wp2_with fail
  refine wp_region_all [41, 42, 43, 44, 45, 40, 46, 47, 48, 11, 10, 1000, 12] (R6 m W6) (by kernel_rfl) (by kernel_rfl) (fun s hs h => by simp at hs ⊢; omega) (by simp) ⟨⟨rfl, rfl, rfl, Nat.le_refl _, fun _ _ => rfl⟩, fun e => (by cases e), fun e => (by cases e), fun e => (by cases e), fun e => (by cases e), fun e => (by cases e), fun e => (by cases e), fun e => (by cases e), fun e => (by cases e), fun e => (by cases e), fun e => (by cases e), fun e => (by cases e), fun e => (by cases e), fun e => (by cases e)⟩ ?val ?fin
  case val =>
    intro j
    match j with
    | 0 => intro o L V ho hL hd a' X hX hfr hdp; obtain rfl := Option.some.inj ho; exact opx_of (op_load11 rfl (hfr 1 (by decide)) ((hX.low.block _ (lt_of_block HK6.out)).trans HK6.out)) fun W' hb => (hX.later hb).set0 rfl
    | 1 => intro o L V ho hL hd a' X hX hfr hdp; obtain rfl := Option.some.inj ho; exact opx_level rfl fun W' hb => (hX.later hb).set1 rfl
    | 2 => intro o L V ho hL hd a' X hX hfr hdp; obtain rfl := Option.some.inj ho; exact opx_part rfl ((hdp 1 42 (by decide) rfl (by kernel_rfl)).trans (hX.f1 (hd 1 (by kernel_rfl)))) (hX.set2 rfl)
    | 3 => intro o L V ho hL hd a' X hX hfr hdp; obtain rfl := Option.some.inj ho; exact opx_bs84 (q := exP) rfl ((hdp 2 43 (by decide) rfl (by kernel_rfl)).trans (hX.f2 (hd 2 (by kernel_rfl)))) ((hX.later ((Below.refl _ _).alloc (Nat.le_refl _) _)).set3 ⟨_, rfl, block_new X _⟩)
    | 4 =>
      intro o L V ho hL hd a' X hX hfr hdp; obtain rfl := Option.some.inj ho
      obtain ⟨p, hp1, hp2⟩ := hX.f3 (hd 3 (by kernel_rfl)) hL
      refine opx_call2g rfl ((hdp 0 41 (by decide) rfl (by kernel_rfl)).trans (hX.f0 (hd 0 (by kernel_rfl)))) ((hdp 3 44 (by decide) rfl (by kernel_rfl)).trans hp1) eg40 ((Leg_ex m p X (HS6.out.later hX.low) hp2 (HLM.out.below hpos (HB6.out.trans (hX.low.mono HB6.out.size))) (HST.out.below hpos1 (HB6.out.trans (hX.low.mono HB6.out.size)))).mono ?_)
      rintro e W' ⟨r, rfl, ⟨v, hv1, hv2⟩, hb⟩
      exact ⟨r, rfl, (hX.later hb).set4 ⟨v, hv1, own_weak hv2 hX.low.size⟩⟩
    | 5 =>
      intro o L V ho hL hd a' X hX hfr hdp; obtain rfl := Option.some.inj ho
      exact opx_of (op_move rfl (hdp 4 45 (by decide) rfl (by kernel_rfl))) fun W' hb => (hX.later hb).set5 ((hX.later hb).f4 (hd 4 (by kernel_rfl)))
    | 6 =>
      intro o L V ho hL hd a' X hX hfr hdp; obtain rfl := Option.some.inj ho
      obtain ⟨v, hv1, hv2⟩ := hX.f5 (hd 5 (by kernel_rfl))
      exact opx_extract rfl ((hdp 5 40 (by decide) rfl (by kernel_rfl)).trans hv1) rfl (hX.set6 hv2)
    | 7 =>
      intro o L V ho hL hd a' X hX hfr hdp; obtain rfl := Option.some.inj ho
      obtain ⟨v, hv1, hv2⟩ := hX.f5 (hd 5 (by kernel_rfl))
      exact opx_extract rfl ((hdp 5 40 (by decide) rfl (by kernel_rfl)).trans hv1) rfl (hX.set7 rfl)
    | 8 =>
      intro o L V ho hL hd a' X hX hfr hdp; obtain rfl := Option.some.inj ho
      obtain ⟨v, hv1, hv2⟩ := hX.f5 (hd 5 (by kernel_rfl))
      exact opx_extract rfl ((hdp 5 40 (by decide) rfl (by kernel_rfl)).trans hv1) rfl (hX.set8 rfl)
    | 9 => intro o L V ho hL hd a' X hX hfr hdp; obtain rfl := Option.some.inj ho; exact opx_alloc57 rfl ((hX.later ((Below.refl _ _).alloc (Nat.le_refl _) _)).set9 hL ⟨_, rfl, hX.low.size, 0, 0, block_new X _⟩)
    | 10 =>
      intro o L V ho hL hd a' X hX hfr hdp; obtain rfl := Option.some.inj ho
      exact opx_of (op_assign rfl (hdp 6 46 (by decide) rfl (by kernel_rfl))) fun W' hb => (hX.later hb).set10 ((hX.later hb).f6 (hd 6 (by kernel_rfl)))
    | 11 =>
      intro o L V ho hL hd a' X hX hfr hdp; obtain rfl := Option.some.inj ho
      obtain ⟨p, hp1, hp2, x, y, hp3⟩ := hX.f9 (hd 9 (by kernel_rfl))
      have d4 := hd 4 (by kernel_rfl)
      refine opx_store57 rfl rfl ((hdp 9 11 (by decide) rfl (by kernel_rfl)).trans hp1) ((hdp 7 47 (by decide) rfl (by kernel_rfl)).trans (hX.f7 (hd 7 (by kernel_rfl)))) hp3 ?_
      intro W' h1 hc
      refine ⟨hX.low.trans (hc.below hp2), hX.f0, hX.f1, hX.f2, fun _ e => ?_, fun e => ?_, fun e => ?_, fun e => ?_, hX.f7, hX.f8, fun _ => ⟨p, hp1, hp2, _, _, h1⟩, fun e => ?_, fun _ => ⟨hd 9 (by kernel_rfl), p, hp1, h1⟩, hX.f12⟩
      · have e' : L 4 = false := e
        rw [d4] at e'; cases e'
      · obtain ⟨v, hv1, hv2⟩ := hX.f4 e; exact ⟨v, hv1, row_chg_ty hv2 hc hp3⟩
      · obtain ⟨v, hv1, hv2⟩ := hX.f5 e; exact ⟨v, hv1, row_chg_ty hv2 hc hp3⟩
      · exact row_chg_ty (hX.f6 e) hc hp3
      · exact row_chg_ty (hX.f10 e) hc hp3
    | 12 => intro o L V ho hL hd a' X hX hfr hdp; obtain rfl := Option.some.inj ho; exact opx_of (op_assign rfl ((hdp 8 48 (by decide) rfl (by kernel_rfl)).trans (hX.f8 (hd 8 (by kernel_rfl))))) fun W' hb => (hX.later hb).set12 rfl
    | j + 13 => intro o L V ho; simp at ho
  case fin =>
    intro X L V hLL hX
    obtain ⟨p11, e9, hp11, _⟩ := hX.f9 (hLL 9 (by simp))
    obtain ⟨_, p11', e9', hB11⟩ := hX.f11 (hLL 11 (by simp))
    obtain rfl : p11 = p11' := by rw [e9] at e9'; simpa using e9'
    have HROW := Lib.hid (hX.f10 (hLL 10 (by simp)))
    obtain ⟨g10, cap10, e10⟩ := ownsRow_succ HROW.out
    rw [e10] at HROW
    have e12 := hX.f12 (hLL 12 (by simp))
    have HBX := Lib.hid hX.low
    have H11 := Lib.hid hB11
    simp only [fill, Act.put, List.setIfInBounds_toArray, List.set_cons_zero, List.set_cons_succ, List.set_nil, Nat.reduceAdd, e9, e10, e12]
    have HS7 := Lib.hid (HS6.out.later HBX.out)
    have HB7 := Lib.hid (HB6.out.trans (HBX.out.mono HB6.out.size))
    have HK7 := Lib.hid ((HBX.out.block _ (lt_of_block HK6.out)).trans HK6.out)
    have HR7 := Lib.hid ((HBX.out.block _ (lt_of_block HR6.out)).trans HR6.out)
    clear hX hLL e9 e9' e10 e12 hB11 HS6 HB6 HK6 HR6
    generalize V 0 = y0
    generalize V 1 = y1
    generalize V 2 = y2
    generalize V 3 = y3
    generalize V 4 = y4
    generalize V 5 = y5
    generalize V 6 = y6
    generalize V 7 = y7
    generalize V 8 = y8
    go_wp2_with fail
    refine wp_region_all [50, 51, 52, 53, 54, 55, 56, 49, 57, 58, 13, 1000, 14] (R7 m X) (by kernel_rfl) (by kernel_rfl) (fun s hs h => by simp at hs ⊢; omega) (by simp) ⟨⟨rfl, rfl, rfl, Nat.le_refl _, fun _ _ => rfl⟩, fun e => (by cases e), fun e => (by cases e), fun e => (by cases e), fun e => (by cases e), fun e => (by cases e), fun e => (by cases e), fun e => (by cases e), fun e => (by cases e), fun e => (by cases e), fun e => (by cases e), fun e => (by cases e), fun e => (by cases e), fun e => (by cases e)⟩ ?val7 ?fin7
    case val7 =>
      intro j
      match j with
      | 0 => intro o L V ho hL hd a' Z hX hfr hdp; obtain rfl := Option.some.inj ho; exact opx_of (op_load11 rfl (hfr 1 (by decide)) ((hX.low.block _ (lt_of_block HK7.out)).trans HK7.out)) fun W' hb => (hX.later hb).set0 rfl
      | 1 => intro o L V ho hL hd a' Z hX hfr hdp; obtain rfl := Option.some.inj ho; exact opx_level rfl fun W' hb => (hX.later hb).set1 rfl
      | 2 => intro o L V ho hL hd a' Z hX hfr hdp; obtain rfl := Option.some.inj ho; exact opx_sp57 rfl (hX.set2 rfl)
      | 3 => intro o L V ho hL hd a' Z hX hfr hdp; obtain rfl := Option.some.inj ho; exact opx_sp57 rfl (hX.set3 rfl)
      | 4 => intro o L V ho hL hd a' Z hX hfr hdp; obtain rfl := Option.some.inj ho; exact opx_sp57 rfl (hX.set4 rfl)
      | 5 => intro o L V ho hL hd a' Z hX hfr hdp; obtain rfl := Option.some.inj ho; exact opx_bs91 rfl ((hdp 2 52 (by decide) rfl (by kernel_rfl)).trans (hX.f2 (hd 2 (by kernel_rfl)))) ((hdp 3 53 (by decide) rfl (by kernel_rfl)).trans (hX.f3 (hd 3 (by kernel_rfl)))) ((hdp 4 54 (by decide) rfl (by kernel_rfl)).trans (hX.f4 (hd 4 (by kernel_rfl)))) ((hX.later ((Below.refl _ _).alloc (Nat.le_refl _) _)).set5 ⟨_, rfl, block_new Z _⟩)
      | 6 =>
        intro o L V ho hL hd a' Z hX hfr hdp; obtain rfl := Option.some.inj ho
        obtain ⟨p, hp1, hp2⟩ := hX.f5 (hd 5 (by kernel_rfl)) hL
        refine opx_call3g rfl ((hdp 0 50 (by decide) rfl (by kernel_rfl)).trans (hX.f0 (hd 0 (by kernel_rfl)))) ((hdp 1 51 (by decide) rfl (by kernel_rfl)).trans (hX.f1 (hd 1 (by kernel_rfl)))) ((hdp 5 55 (by decide) rfl (by kernel_rfl)).trans hp1) eg41 ((Free_any exS m ⟨100, 150, 0, 0⟩ ⟨100, 150, 0, 0⟩ (some ⟨p, 0, none⟩) 3 3 exQ Z (HS7.out.later hX.low) (HLM.out.below hpos (HB7.out.trans (hX.low.mono HB7.out.size))) rfl (by decide) (pts_block3 hp2)).mono ?_)
        rintro e W' ⟨rfl, hb⟩
        exact ⟨_, rfl, (hX.later hb).set6 ex_fr⟩
      | 7 =>
        intro o L V ho hL hd a' Z hX hfr hdp; obtain rfl := Option.some.inj ho
        exact opx_of (op_move rfl ((hdp 6 56 (by decide) rfl (by kernel_rfl)).trans (hX.f6 (hd 6 (by kernel_rfl))))) fun W' hb => (hX.later hb).set7 rfl
      | 8 => intro o L V ho hL hd a' Z hX hfr hdp; obtain rfl := Option.some.inj ho; exact opx_extract rfl ((hdp 7 49 (by decide) rfl (by kernel_rfl)).trans (hX.f7 (hd 7 (by kernel_rfl)))) rfl (hX.set8 rfl)
      | 9 => intro o L V ho hL hd a' Z hX hfr hdp; obtain rfl := Option.some.inj ho; exact opx_extract rfl ((hdp 7 49 (by decide) rfl (by kernel_rfl)).trans (hX.f7 (hd 7 (by kernel_rfl)))) rfl (hX.set9 rfl)
      | 10 => intro o L V ho hL hd a' Z hX hfr hdp; obtain rfl := Option.some.inj ho; exact opx_alloc57 rfl ((hX.later ((Below.refl _ _).alloc (Nat.le_refl _) _)).set10 hL ⟨_, rfl, hX.low.size, 0, 0, block_new Z _⟩)
      | 11 =>
        intro o L V ho hL hd a' Z hX hfr hdp; obtain rfl := Option.some.inj ho
        obtain ⟨p, hp1, hp2, x, y, hp3⟩ := hX.f10 (hd 10 (by kernel_rfl))
        have d6 := hd 6 (by kernel_rfl)
        refine opx_store57 rfl rfl ((hdp 10 13 (by decide) rfl (by kernel_rfl)).trans hp1) ((hdp 8 57 (by decide) rfl (by kernel_rfl)).trans (hX.f8 (hd 8 (by kernel_rfl)))) hp3 ?_
        intro W' h1 hc
        refine ⟨hX.low.trans (hc.below hp2), hX.f0, hX.f1, hX.f2, hX.f3, hX.f4, fun _ e => ?_, hX.f6, hX.f7, hX.f8, hX.f9, fun _ => ⟨p, hp1, hp2, _, _, h1⟩, fun _ => ⟨hd 10 (by kernel_rfl), p, hp1, h1⟩, hX.f12⟩
        have e' : L 6 = false := e
        rw [d6] at e'; cases e'
      | 12 => intro o L V ho hL hd a' Z hX hfr hdp; obtain rfl := Option.some.inj ho; exact opx_of (op_assign rfl ((hdp 9 58 (by decide) rfl (by kernel_rfl)).trans (hX.f9 (hd 9 (by kernel_rfl))))) fun W' hb => (hX.later hb).set12 rfl
      | j + 13 => intro o L V ho; simp at ho
    case fin7 =>
      intro Z L V hLL hX
      obtain ⟨p13, e9, hp13, _⟩ := hX.f10 (hLL 10 (by simp))
      obtain ⟨_, p13', e9', hB13⟩ := hX.f11 (hLL 11 (by simp))
      obtain rfl : p13 = p13' := by rw [e9] at e9'; simpa using e9'
      have e12 := hX.f12 (hLL 12 (by simp))
      have HBZ := Lib.hid hX.low
      have H13 := Lib.hid hB13
      simp only [fill, Act.put, List.setIfInBounds_toArray, List.set_cons_zero, List.set_cons_succ, List.set_nil, Nat.reduceAdd, e9, e12]
      have HB8 := Lib.hid (HB7.out.trans (HBZ.out.mono HB7.out.size))
      have HR8 := Lib.hid ((HBZ.out.block _ (lt_of_block HR7.out)).trans HR7.out)
      have H118 := Lib.hid ((HBZ.out.block _ (lt_of_block H11.out)).trans H11.out)
      have HROW8 := Lib.hid (row_later HROW.out HBZ.out)
      clear hX hLL e9 e9' e12 hB13 HS7 HB7 HK7 HR7 H11 HROW
      generalize V 0 = z0
      generalize V 1 = z1
      generalize V 2 = z2
      generalize V 3 = z3
      generalize V 4 = z4
      generalize V 5 = z5
      generalize V 6 = z6
      generalize V 7 = z7
      generalize V 8 = z8
      generalize V 9 = z9
      have qR := eqInR Z
      obtain ⟨⟨r0, r1⟩, _⟩ := cells2 HR8.out
      have hzn := block_new Z (.cells #[.int .i64 130] 3)
      have hbn := (Below.refl Z.heap.size Z).alloc (Nat.le_refl _) (.cells #[.int .i64 130] 3)
      have HEQ := Lib.hid (EqualInts_same (some ⟨g10, 0, none⟩) (some ⟨Z.heap.size, 0, none⟩) cap10 1 [130] 1 rfl (by decide) _ (IntsAt.later (ints_of_row (l := [130]) HROW8.out) hbn) (fun i v hv => by
        match i with
        | 0 => exact ⟨_, rfl, lt_of_block hzn, by simp only [List.getElem?_cons_zero, Option.some.injEq] at hv; subst hv; exact (cell_of_block hzn 0).trans rfl⟩
        | i + 1 => simp at hv))
      go_wp2_with fail
      refine HEQ.out.mono ?_
      rintro e V9 ⟨rfl, hb9⟩
      have hbb := hbn.trans (hb9.mono hbn.size)
      have HB9 := Lib.hid (HB8.out.trans (hbb.mono HB8.out.size))
      obtain ⟨⟨s0, s1⟩, _⟩ := cells2 ((hbb.block _ (lt_of_block H118.out)).trans H118.out)
      obtain ⟨⟨u0, u1⟩, _⟩ := cells2 ((hbb.block _ (lt_of_block H13.out)).trans H13.out)
      have qS := eqInS V9
      clear hzn hbn hb9 hbb HEQ
      go_wp2_with fail
      go_ret
      exact ⟨by simp, HB9.out⟩
end Go.Proofs.YtcoiklolgilhaaaGreatDoor
