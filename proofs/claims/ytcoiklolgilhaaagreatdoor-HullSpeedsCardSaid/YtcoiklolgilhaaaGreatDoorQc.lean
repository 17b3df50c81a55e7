/- A region of the law's awake: what Leg answers for the chapter's example. -/
import Derived.Test.YtcoiklolgilhaaaGreatDoorQa
import Derived.Test.YtcoiklolgilhaaaGreatDoorQb
import Derived.Test.YtcoiklolgilhaaaGreatDoorPy
namespace Go.Proofs.YtcoiklolgilhaaaGreatDoor
open Go.RowKit
set_option maxRecDepth 100000
section
variable {Q : Exit → Act → World → Prop} {o : Oper} {a' : Act} {W : World}
theorem opx_call2g {f s t : Nat} {v u : Value} {ts : Array TypeId} {Rq : Value → World → Prop} (hop : o.op = Op.call { callee := .value (.func f), args := #[.tmp s, .tmp t], argTypes := ts })
    (he : a'.eval (.tmp s) = v) (ht : a'.eval (.tmp t) = u) (eg : ∀ args w, (callFunc f args).run Tryz.prog w = .ok (.enter f args) w) (hc : Calls Tryz.prog f #[v, u] W fun e W' => ∃ r, e = .returned r ∧ Rq r W') :
    o.wp Tryz.prog a' W (fun a'' W' => ∃ x, a'' = a'.put o.dst x ∧ Rq x W') Q := by
  have he' : a'.tmps[s]?.getD undef = v := by simpa [Act.eval] using he
  have ht' : a'.tmps[t]?.getD undef = u := by simpa [Act.eval] using ht
  unfold Oper.wp execOp
  rw [hop]
  simp [go_sem, he', ht', eg]
  refine hc.mono ?_
  rintro e w' ⟨r, rfl, hb⟩
  exact ⟨r, rfl, hb⟩
theorem opx_call3g {f s t r0 : Nat} {v u z : Value} {ts : Array TypeId} {Rq : Value → World → Prop} (hop : o.op = Op.call { callee := .value (.func f), args := #[.tmp s, .tmp t, .tmp r0], argTypes := ts })
    (he : a'.eval (.tmp s) = v) (ht : a'.eval (.tmp t) = u) (hz : a'.eval (.tmp r0) = z) (eg : ∀ args w, (callFunc f args).run Tryz.prog w = .ok (.enter f args) w) (hc : Calls Tryz.prog f #[v, u, z] W fun e W' => ∃ r, e = .returned r ∧ Rq r W') :
    o.wp Tryz.prog a' W (fun a'' W' => ∃ x, a'' = a'.put o.dst x ∧ Rq x W') Q := by
  have he' : a'.tmps[s]?.getD undef = v := by simpa [Act.eval] using he
  have ht' : a'.tmps[t]?.getD undef = u := by simpa [Act.eval] using ht
  have hz' : a'.tmps[r0]?.getD undef = z := by simpa [Act.eval] using hz
  unfold Oper.wp execOp
  rw [hop]
  simp [go_sem, he', ht', hz', eg]
  refine hc.mono ?_
  rintro e w' ⟨r, rfl, hb⟩
  exact ⟨r, rfl, hb⟩
theorem opx_level {a b : Int} {Rq : Value → World → Prop} (hop : o.op = Op.call { callee := .value (.func 48), args := #[.const (.int .i64 a), .const (.int .i64 b)], argTypes := #[3, 3] }) (hR : ∀ W', Below W.heap.size W W' → Rq (.agg (cellV ⟨100, a, 0, 0⟩ ⟨100, b, 0, 0⟩)) W') :
    o.wp Tryz.prog a' W (fun a'' W' => ∃ x, a'' = a'.put o.dst x ∧ Rq x W') Q := by
  have eg : ∀ args w, (callFunc 48 args).run Tryz.prog w = .ok (.enter 48 args) w := Go.Proofs.enters_of Tryz.func48 (by kernel_rfl) rfl
  unfold Oper.wp execOp
  rw [hop]
  simp [go_sem, eg]
  refine (Level_any a b W).mono ?_
  rintro e w' ⟨rfl, hb⟩
  exact ⟨_, rfl, hR _ hb⟩
theorem opx_extract {s k : Nat} {vs : Array Value} {v : Value} {Rq : Value → World → Prop} (hop : o.op = Op.extract (.tmp s) k) (he : a'.eval (.tmp s) = .tuple vs) (hk : vs[k]? = some v) (hR : Rq v W) :
    o.wp Tryz.prog a' W (fun a'' W' => ∃ x, a'' = a'.put o.dst x ∧ Rq x W') Q := by
  have he' : a'.tmps[s]?.getD undef = .tuple vs := by simpa [Act.eval] using he
  unfold Oper.wp execOp
  rw [hop]
  simp [go_sem, he', hk]
  exact ⟨v, rfl, hR⟩
theorem opx_alloc57 {Rq : Value → World → Prop} (hop : o.op = Op.alloc 28) (hR : Rq (.pointer (some ⟨W.heap.size, 0, none⟩)) (W.alloc (.cells #[.int .i64 0, .int .i64 0] 28))) :
    o.wp Tryz.prog a' W (fun a'' W' => ∃ x, a'' = a'.put o.dst x ∧ Rq x W') Q := by
  unfold Oper.wp execOp
  rw [hop]
  simp [go_sem]
  exact ⟨_, rfl, hR⟩
theorem opx_store57 {s r p : Nat} {x y u v : Int} {Rq : Value → World → Prop} (hop : o.op = Op.store 28 (.tmp s) (.tmp r)) (_hd : o.dst = none) (he : a'.eval (.tmp s) = .pointer (some ⟨p, 0, none⟩)) (hv : a'.eval (.tmp r) = .agg #[.int .i64 u, .int .i64 v])
    (hb : W.heap[p]? = some (.cells #[.int .i64 x, .int .i64 y] 28 (0, 0))) (hR : ∀ W', W'.heap[p]? = some (.cells #[.int .i64 u, .int .i64 v] 28 (0, 0)) → Chg p W W' → Rq undef W') :
    o.wp Tryz.prog a' W (fun a'' W' => ∃ x, a'' = a'.put o.dst x ∧ Rq x W') Q := by
  obtain ⟨⟨c0, c1⟩, f0, f1⟩ := cells2 hb
  have he' : a'.tmps[s]?.getD undef = .pointer (some ⟨p, 0, none⟩) := by simpa [Act.eval] using he
  have hv' : a'.tmps[r]?.getD undef = .agg #[.int .i64 u, .int .i64 v] := by simpa [Act.eval] using hv
  have hfin := hR (World.store2 W p (.int .i64 u) (.int .i64 v)) (store2_block hb _ _) (chg_store2 _ _ _ _)
  unfold World.store2 at hfin
  unfold Oper.wp execOp
  rw [hop]
  simp [go_sem, he', hv', c0, c1, f0, f1]
  exact ⟨_, rfl, hfin⟩
theorem opx_of {v : Value} {Rq : Value → World → Prop} (h : o.wp Tryz.prog a' W (fun a'' W' => a'' = a'.put o.dst v ∧ Below W.heap.size W W') Q) (hR : ∀ W', Below W.heap.size W W' → Rq v W') : o.wp Tryz.prog a' W (fun a'' W' => ∃ x, a'' = a'.put o.dst x ∧ Rq x W') Q :=
  Oper.wp_mono (fun _ _ ⟨h1, h2⟩ => ⟨_, h1, hR _ h2⟩) h
end
theorem row_chg_ty {W W' : World} {base n b : Nat} {v : Value} {xs : List Value} (h : W.ownsRow base 3 1 v n xs) (hc : Chg b W W') {cs : Array Value} (hb : W.heap[b]? = some (.cells cs 28 (0, 0))) : W'.ownsRow base 3 1 v n xs := by
  refine h.kept (row := some b) ⟨hc.2.2.1, hc.2.2.2.1, hc.2.2.2.2, Nat.le_of_eq hc.1.symm, fun k _ hk => hc.2.1 k (fun e => hk (by rw [e]))⟩ ?_
  right
  intro e
  rcases h.2 with ⟨rfl, _⟩ | ⟨g, cap, cur, rfl, hbg, hg, _⟩
  · simp [Value.ownBlock] at e
  · obtain rfl : g = b := by simpa [Value.ownBlock] using e
    rw [hb] at hg
    simp at hg
def exP : Prt := ⟨⟨100, 40, 0, 0⟩, ⟨100, 60, 0, 0⟩, false, 100⟩
def exT : Int := legLo exS (fun _ => exP) 1
theorem ex_or : orL [chkP exS, partsE (fun _ => exP) 1] = 0 := by decide +kernel
theorem ex_pE : pE exS exP = 0 := by decide +kernel
theorem ex_hi : legHi exS (fun _ => exP) 1 = 47 := by decide +kernel
theorem ex_spd : ssLo exS exP.lo exP.hi exP.ch = 130 := by decide +kernel
theorem Leg_ex (m : Mem3) (p : Nat) (w : World) (h : ShipIn w exS m) (hp : w.heap[p]? = some (.cells (partV exP) 67 (0, 0))) (hl : Lim w) (hst : Str w) :
    Calls Tryz.prog 34 #[.agg (shipA exS m), .slice (some ⟨p, 0, none⟩) 1 1] w fun e w' => ∃ r, e = .returned r ∧ (∃ v, r = .tuple #[v, .agg #[.int .i64 exT, .int .i64 47], .int .i64 0] ∧ w'.ownsRow w.heap.size 3 1 v 1 [.int .i64 130]) ∧ Below w.heap.size w w' := by
  refine (Leg_any exS m (some ⟨p, 0, none⟩) 1 1 (fun _ => exP) (by decide) w h (fun i hi => ?_) hl hst).mono ?_
  · obtain rfl : i = 0 := by omega
    obtain ⟨c0, c1, c2, c3, c4, c5, c6, c7, c8, c9⟩ := cells10 hp
    exact ⟨p, 0, rfl, lt_of_block hp, c0, c1, c2, c3, c4, c5, c6, c7, c8, c9⟩
  · rintro e w' ⟨hpost, hb⟩
    rcases hpost with ⟨h1, _⟩ | ⟨_, k, hk, _, h2, _⟩ | ⟨_, _, v, hv, rfl⟩
    · exact absurd ex_or h1
    · exact absurd ex_pE h2
    · refine ⟨_, rfl, ⟨v, ?_, ?_⟩, hb⟩
      · rw [ex_hi]; rfl
      · have : spdL exS (fun _ => exP) 1 = [.int .i64 130] := by simp only [spdL, List.nil_append, ex_spd]
        rwa [this] at hv
structure R6 (m : Mem3) (w0 : World) (L : Nat → Bool) (V : Nat → Value) (W : World) : Prop where
  low : Below w0.heap.size w0 W
  f0 : L 0 = true → (V 0) = .agg (shipA exS m)
  f1 : L 1 = true → (V 1) = .agg (cellV ⟨100, 40, 0, 0⟩ ⟨100, 60, 0, 0⟩)
  f2 : L 2 = true → (V 2) = .agg (partV exP)
  f3 : L 3 = true → L 4 = false → ∃ p, (V 3) = .slice (some ⟨p, 0, none⟩) 1 1 ∧ W.heap[p]? = some (.cells (partV exP) 67 (0, 0))
  f4 : L 4 = true → ∃ v, (V 4) = .tuple #[v, .agg #[.int .i64 exT, .int .i64 47], .int .i64 0] ∧ W.ownsRow w0.heap.size 3 1 v 1 [.int .i64 130]
  f5 : L 5 = true → ∃ v, (V 5) = .tuple #[v, .agg #[.int .i64 exT, .int .i64 47], .int .i64 0] ∧ W.ownsRow w0.heap.size 3 1 v 1 [.int .i64 130]
  f6 : L 6 = true → W.ownsRow w0.heap.size 3 1 (V 6) 1 [.int .i64 130]
  f7 : L 7 = true → (V 7) = .agg #[.int .i64 exT, .int .i64 47]
  f8 : L 8 = true → (V 8) = .int .i64 0
  f9 : L 9 = true → ∃ p, (V 9) = .pointer (some ⟨p, 0, none⟩) ∧ w0.heap.size ≤ p ∧ ∃ x y : Int, W.heap[p]? = some (.cells #[.int .i64 x, .int .i64 y] 28 (0, 0))
  f10 : L 10 = true → W.ownsRow w0.heap.size 3 1 (V 10) 1 [.int .i64 130]
  f11 : L 11 = true → L 9 = true ∧ ∃ p, V 9 = .pointer (some ⟨p, 0, none⟩) ∧ W.heap[p]? = some (.cells #[.int .i64 exT, .int .i64 47] 28 (0, 0))
  f12 : L 12 = true → (V 12) = .int .i64 0
theorem R6.later {m : Mem3} {w0 : World} {L : Nat → Bool} {V : Nat → Value} {W W' : World} (h : R6 m w0 L V W) (hb : Below W.heap.size W W') : R6 m w0 L V W' := by
  refine ⟨h.low.trans (hb.mono h.low.size), ?_, ?_, ?_, ?_, ?_, ?_, ?_, ?_, ?_, ?_, ?_, ?_, ?_⟩
  · exact h.f0
  · exact h.f1
  · exact h.f2
  · intro e e'; obtain ⟨p, h1, h3⟩ := h.f3 e e'; exact ⟨p, h1, (hb.block _ (lt_of_block h3)).trans h3⟩
  · intro e; obtain ⟨v, h1, h3⟩ := h.f4 e; exact ⟨v, h1, row_later h3 hb⟩
  · intro e; obtain ⟨v, h1, h3⟩ := h.f5 e; exact ⟨v, h1, row_later h3 hb⟩
  · intro e; exact row_later (h.f6 e) hb
  · exact h.f7
  · exact h.f8
  · intro e; obtain ⟨p, h1, h2, x, y, h3⟩ := h.f9 e; exact ⟨p, h1, h2, x, y, (hb.block _ (lt_of_block h3)).trans h3⟩
  · intro e; exact row_later (h.f10 e) hb
  · intro e; obtain ⟨e1, p, h1, h3⟩ := h.f11 e; exact ⟨e1, p, h1, (hb.block _ (lt_of_block h3)).trans h3⟩
  · exact h.f12
theorem R6.set0 {m : Mem3} {w0 : World} {L : Nat → Bool} {V : Nat → Value} {W : World} (h : R6 m w0 L V W) {x : Value} (hx : x = .agg (shipA exS m)) : R6 m w0 (fun j => if j = 0 then true else L j) (fun j => if j = 0 then x else V j) W := by
  refine ⟨h.low, ?_, ?_, ?_, ?_, ?_, ?_, ?_, ?_, ?_, ?_, ?_, ?_, ?_⟩
  · exact fun _ => hx
  · exact h.f1
  · exact h.f2
  · exact h.f3
  · exact h.f4
  · exact h.f5
  · exact h.f6
  · exact h.f7
  · exact h.f8
  · exact h.f9
  · exact h.f10
  · exact h.f11
  · exact h.f12
theorem R6.set1 {m : Mem3} {w0 : World} {L : Nat → Bool} {V : Nat → Value} {W : World} (h : R6 m w0 L V W) {x : Value} (hx : x = .agg (cellV ⟨100, 40, 0, 0⟩ ⟨100, 60, 0, 0⟩)) : R6 m w0 (fun j => if j = 1 then true else L j) (fun j => if j = 1 then x else V j) W := by
  refine ⟨h.low, ?_, ?_, ?_, ?_, ?_, ?_, ?_, ?_, ?_, ?_, ?_, ?_, ?_⟩
  · exact h.f0
  · exact fun _ => hx
  · exact h.f2
  · exact h.f3
  · exact h.f4
  · exact h.f5
  · exact h.f6
  · exact h.f7
  · exact h.f8
  · exact h.f9
  · exact h.f10
  · exact h.f11
  · exact h.f12
theorem R6.set2 {m : Mem3} {w0 : World} {L : Nat → Bool} {V : Nat → Value} {W : World} (h : R6 m w0 L V W) {x : Value} (hx : x = .agg (partV exP)) : R6 m w0 (fun j => if j = 2 then true else L j) (fun j => if j = 2 then x else V j) W := by
  refine ⟨h.low, ?_, ?_, ?_, ?_, ?_, ?_, ?_, ?_, ?_, ?_, ?_, ?_, ?_⟩
  · exact h.f0
  · exact h.f1
  · exact fun _ => hx
  · exact h.f3
  · exact h.f4
  · exact h.f5
  · exact h.f6
  · exact h.f7
  · exact h.f8
  · exact h.f9
  · exact h.f10
  · exact h.f11
  · exact h.f12
theorem R6.set3 {m : Mem3} {w0 : World} {L : Nat → Bool} {V : Nat → Value} {W : World} (h : R6 m w0 L V W) {x : Value} (hx : ∃ p, x = .slice (some ⟨p, 0, none⟩) 1 1 ∧ W.heap[p]? = some (.cells (partV exP) 67 (0, 0))) : R6 m w0 (fun j => if j = 3 then true else L j) (fun j => if j = 3 then x else V j) W := by
  refine ⟨h.low, ?_, ?_, ?_, ?_, ?_, ?_, ?_, ?_, ?_, ?_, ?_, ?_, ?_⟩
  · exact h.f0
  · exact h.f1
  · exact h.f2
  · exact fun _ _ => hx
  · exact h.f4
  · exact h.f5
  · exact h.f6
  · exact h.f7
  · exact h.f8
  · exact h.f9
  · exact h.f10
  · exact h.f11
  · exact h.f12
theorem R6.set4 {m : Mem3} {w0 : World} {L : Nat → Bool} {V : Nat → Value} {W : World} (h : R6 m w0 L V W) {x : Value} (hx : ∃ v, x = .tuple #[v, .agg #[.int .i64 exT, .int .i64 47], .int .i64 0] ∧ W.ownsRow w0.heap.size 3 1 v 1 [.int .i64 130]) : R6 m w0 (fun j => if j = 4 then true else L j) (fun j => if j = 4 then x else V j) W := by
  refine ⟨h.low, ?_, ?_, ?_, ?_, ?_, ?_, ?_, ?_, ?_, ?_, ?_, ?_, ?_⟩
  · exact h.f0
  · exact h.f1
  · exact h.f2
  · intro _ e; simp at e
  · exact fun _ => hx
  · exact h.f5
  · exact h.f6
  · exact h.f7
  · exact h.f8
  · exact h.f9
  · exact h.f10
  · exact h.f11
  · exact h.f12
theorem R6.set5 {m : Mem3} {w0 : World} {L : Nat → Bool} {V : Nat → Value} {W : World} (h : R6 m w0 L V W) {x : Value} (hx : ∃ v, x = .tuple #[v, .agg #[.int .i64 exT, .int .i64 47], .int .i64 0] ∧ W.ownsRow w0.heap.size 3 1 v 1 [.int .i64 130]) : R6 m w0 (fun j => if j = 5 then true else L j) (fun j => if j = 5 then x else V j) W := by
  refine ⟨h.low, ?_, ?_, ?_, ?_, ?_, ?_, ?_, ?_, ?_, ?_, ?_, ?_, ?_⟩
  · exact h.f0
  · exact h.f1
  · exact h.f2
  · exact h.f3
  · exact h.f4
  · exact fun _ => hx
  · exact h.f6
  · exact h.f7
  · exact h.f8
  · exact h.f9
  · exact h.f10
  · exact h.f11
  · exact h.f12
theorem R6.set6 {m : Mem3} {w0 : World} {L : Nat → Bool} {V : Nat → Value} {W : World} (h : R6 m w0 L V W) {x : Value} (hx : W.ownsRow w0.heap.size 3 1 x 1 [.int .i64 130]) : R6 m w0 (fun j => if j = 6 then true else L j) (fun j => if j = 6 then x else V j) W := by
  refine ⟨h.low, ?_, ?_, ?_, ?_, ?_, ?_, ?_, ?_, ?_, ?_, ?_, ?_, ?_⟩
  · exact h.f0
  · exact h.f1
  · exact h.f2
  · exact h.f3
  · exact h.f4
  · exact h.f5
  · exact fun _ => hx
  · exact h.f7
  · exact h.f8
  · exact h.f9
  · exact h.f10
  · exact h.f11
  · exact h.f12
theorem R6.set7 {m : Mem3} {w0 : World} {L : Nat → Bool} {V : Nat → Value} {W : World} (h : R6 m w0 L V W) {x : Value} (hx : x = .agg #[.int .i64 exT, .int .i64 47]) : R6 m w0 (fun j => if j = 7 then true else L j) (fun j => if j = 7 then x else V j) W := by
  refine ⟨h.low, ?_, ?_, ?_, ?_, ?_, ?_, ?_, ?_, ?_, ?_, ?_, ?_, ?_⟩
  · exact h.f0
  · exact h.f1
  · exact h.f2
  · exact h.f3
  · exact h.f4
  · exact h.f5
  · exact h.f6
  · exact fun _ => hx
  · exact h.f8
  · exact h.f9
  · exact h.f10
  · exact h.f11
  · exact h.f12
theorem R6.set8 {m : Mem3} {w0 : World} {L : Nat → Bool} {V : Nat → Value} {W : World} (h : R6 m w0 L V W) {x : Value} (hx : x = .int .i64 0) : R6 m w0 (fun j => if j = 8 then true else L j) (fun j => if j = 8 then x else V j) W := by
  refine ⟨h.low, ?_, ?_, ?_, ?_, ?_, ?_, ?_, ?_, ?_, ?_, ?_, ?_, ?_⟩
  · exact h.f0
  · exact h.f1
  · exact h.f2
  · exact h.f3
  · exact h.f4
  · exact h.f5
  · exact h.f6
  · exact h.f7
  · exact fun _ => hx
  · exact h.f9
  · exact h.f10
  · exact h.f11
  · exact h.f12
theorem R6.set9 {m : Mem3} {w0 : World} {L : Nat → Bool} {V : Nat → Value} {W : World} (h : R6 m w0 L V W) (hL : L 9 = false) {x : Value} (hx : ∃ p, x = .pointer (some ⟨p, 0, none⟩) ∧ w0.heap.size ≤ p ∧ ∃ x y : Int, W.heap[p]? = some (.cells #[.int .i64 x, .int .i64 y] 28 (0, 0))) : R6 m w0 (fun j => if j = 9 then true else L j) (fun j => if j = 9 then x else V j) W := by
  refine ⟨h.low, ?_, ?_, ?_, ?_, ?_, ?_, ?_, ?_, ?_, ?_, ?_, ?_, ?_⟩
  · exact h.f0
  · exact h.f1
  · exact h.f2
  · exact h.f3
  · exact h.f4
  · exact h.f5
  · exact h.f6
  · exact h.f7
  · exact h.f8
  · exact fun _ => hx
  · exact h.f10
  · intro e; rw [(h.f11 e).1] at hL; cases hL
  · exact h.f12
theorem R6.set10 {m : Mem3} {w0 : World} {L : Nat → Bool} {V : Nat → Value} {W : World} (h : R6 m w0 L V W) {x : Value} (hx : W.ownsRow w0.heap.size 3 1 x 1 [.int .i64 130]) : R6 m w0 (fun j => if j = 10 then true else L j) (fun j => if j = 10 then x else V j) W := by
  refine ⟨h.low, ?_, ?_, ?_, ?_, ?_, ?_, ?_, ?_, ?_, ?_, ?_, ?_, ?_⟩
  · exact h.f0
  · exact h.f1
  · exact h.f2
  · exact h.f3
  · exact h.f4
  · exact h.f5
  · exact h.f6
  · exact h.f7
  · exact h.f8
  · exact h.f9
  · exact fun _ => hx
  · exact h.f11
  · exact h.f12
theorem R6.set12 {m : Mem3} {w0 : World} {L : Nat → Bool} {V : Nat → Value} {W : World} (h : R6 m w0 L V W) {x : Value} (hx : x = .int .i64 0) : R6 m w0 (fun j => if j = 12 then true else L j) (fun j => if j = 12 then x else V j) W := by
  refine ⟨h.low, ?_, ?_, ?_, ?_, ?_, ?_, ?_, ?_, ?_, ?_, ?_, ?_, ?_⟩
  · exact h.f0
  · exact h.f1
  · exact h.f2
  · exact h.f3
  · exact h.f4
  · exact h.f5
  · exact h.f6
  · exact h.f7
  · exact h.f8
  · exact h.f9
  · exact h.f10
  · exact h.f11
  · exact fun _ => hx
end Go.Proofs.YtcoiklolgilhaaaGreatDoor
