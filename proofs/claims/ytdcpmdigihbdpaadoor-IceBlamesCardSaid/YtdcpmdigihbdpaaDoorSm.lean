/- The contract of the law's Right: reports made right, n of them. -/
import Derived.Test.YtdcpmdigihbdpaaDoorSl
import Derived.Test.YtdcpmdigihbdpaaDoorSk
import Derived.Test.YtdcpmdigihbdpaaDoorSh
import Derived.Test.YtdcpmdigihbdpaaDoorSb
import Derived.Test.YtdcpmdigihbdpaaDoorSg
namespace Go.Proofs.YtdcpmdigihbdpaaDoor
open Go.RowKit
set_option maxRecDepth 100000
def World.store23 (W : World) (b : Nat) (y0 y1 : Value) : World := (W.setCell ⟨b, 0, none⟩ y0).setCell ⟨b, 1, none⟩ y1
theorem list_store23 {ops : Array Oper} {o : Oper} {rest : List Oper} {a : Act} {W : World} {Q : Exit → Act → World → Prop} {s r b : Nat} {t : TypeId} {x0 x1 y0 y1 : Int} (hg : o.guard = none) (hd : o.dst = none) (hop : o.op = Op.store 23 (.tmp s) (.tmp r))
    (he : a.eval (.tmp s) = .pointer (some ⟨b, 0, none⟩)) (hv : a.eval (.tmp r) = .agg #[.int .i64 y0, .int .i64 y1]) (hb : W.heap[b]? = some (.cells #[.int .i64 x0, .int .i64 x1] t (0, 0)))
    (hK : ∀ W', W'.heap[b]? = some (.cells #[.int .i64 y0, .int .i64 y1] t (0, 0)) → Chg b W W' → wpList Tryd.prog ops Q rest a W') : wpList Tryd.prog ops Q (o :: rest) a W := by
  have c0 := (cell_of_block hb 0).trans rfl
  have c1 := (cell_of_block hb 1).trans rfl
  have f := frozen_of_block hb
  have he' : a.tmps[s]?.getD undef = .pointer (some ⟨b, 0, none⟩) := by simpa [Act.eval] using he
  have hv' : a.tmps[r]?.getD undef = .agg #[.int .i64 y0, .int .i64 y1] := by simpa [Act.eval] using hv
  have h0 := setCell_block hb 0 (.int .i64 y0)
  simp only [List.setIfInBounds_toArray, List.set_cons_zero] at h0
  have h1 := setCell_block h0 1 (.int .i64 y1)
  simp only [List.setIfInBounds_toArray, List.set_cons_zero, List.set_cons_succ] at h1
  refine list_store hg hd ?_ (hK (World.store23 W b (.int .i64 y0) (.int .i64 y1)) h1 ((chg_setCell W b 0 _).trans (chg_setCell _ b 1 _)))
  unfold execOp World.store23
  rw [hop]
  simp [go_sem, he', hv', c0, c1, f 0, f 1]
theorem eg51 : ∀ args w, (callFunc 51 args).run Tryd.prog w = .ok (.enter 51 args) w := Go.Proofs.enters_of Tryd.func51 (by kernel_rfl) rfl
theorem eg106 : ∀ args w, (callFunc 106 args).run Tryd.prog w = .ok (.enter 106 args) w := Go.Proofs.enters_of Tryd.func106 (by kernel_rfl) rfl
section
variable {Q : Exit → Act → World → Prop} {o : Oper} {a : Act} {W : World} {R : Value → World → Prop}
theorem opx_load3 {s g off : Nat} {v : Value} (hop : o.op = Op.load 3 (.tmp s)) (he : a.eval (.tmp s) = .pointer (some ⟨g, off, none⟩)) (c0 : W.cell? ⟨g, off, none⟩ = some v) (hR : R v W) : o.wp Tryd.prog a W (fun a'' W'' => ∃ x, a'' = a.put o.dst x ∧ R x W'') Q := by
  have he' : a.tmps[s]?.getD undef = .pointer (some ⟨g, off, none⟩) := by simpa [Act.eval] using he
  refine op_val ?_ hR
  unfold execOp
  rw [hop]
  simp [go_sem, he', c0]
theorem opx_load23 {s g off : Nat} {x y : Value} (hop : o.op = Op.load 23 (.tmp s)) (he : a.eval (.tmp s) = .pointer (some ⟨g, off, none⟩)) (c0 : W.cell? ⟨g, off, none⟩ = some x) (c1 : W.cell? ⟨g, off + 1, none⟩ = some y) (hR : R (.agg #[x, y]) W) : o.wp Tryd.prog a W (fun a'' W'' => ∃ x, a'' = a.put o.dst x ∧ R x W'') Q := by
  have he' : a.tmps[s]?.getD undef = .pointer (some ⟨g, off, none⟩) := by simpa [Act.eval] using he
  refine op_val ?_ hR
  unfold execOp
  rw [hop]
  simp [go_sem, he', c0, c1]
theorem opx_field {t : TypeId} {s g off k d : Nat} (hop : o.op = Op.fieldAddr t (.tmp s) k) (he : a.eval (.tmp s) = .pointer (some ⟨g, off, none⟩))
    (hk : (t = 67 ∧ k = 6 ∧ d = 6) ∨ (t = 25 ∧ ((k = 0 ∧ d = 0) ∨ (k = 1 ∧ d = 2) ∨ (k = 2 ∧ d = 4) ∨ (k = 3 ∧ d = 6))) ∨ (t = 23 ∧ ((k = 0 ∧ d = 0) ∨ (k = 1 ∧ d = 1))))
    (hR : R (.pointer (some ⟨g, off + d, none⟩)) W) : o.wp Tryd.prog a W (fun a'' W'' => ∃ x, a'' = a.put o.dst x ∧ R x W'') Q := by
  have he' : a.tmps[s]?.getD undef = .pointer (some ⟨g, off, none⟩) := by simpa [Act.eval] using he
  refine op_val ?_ hR
  unfold execOp
  rw [hop]
  rcases hk with ⟨rfl, rfl, rfl⟩ | ⟨rfl, ⟨rfl, rfl⟩ | ⟨rfl, rfl⟩ | ⟨rfl, rfl⟩ | ⟨rfl, rfl⟩⟩ | ⟨rfl, ⟨rfl, rfl⟩ | ⟨rfl, rfl⟩⟩ <;> simp [go_sem, he']
theorem opx_field70 {s g off k : Nat} (hop : o.op = Op.fieldAddr 70 (.tmp s) k) (he : a.eval (.tmp s) = .pointer (some ⟨g, off, none⟩)) (hk : k = 1 ∨ k = 2 ∨ k = 5 ∨ k = 6)
    (hR : R (.pointer (some ⟨g, off + k, none⟩)) W) : o.wp Tryd.prog a W (fun a'' W'' => ∃ x, a'' = a.put o.dst x ∧ R x W'') Q := by
  have he' : a.tmps[s]?.getD undef = .pointer (some ⟨g, off, none⟩) := by simpa [Act.eval] using he
  refine op_val ?_ hR
  unfold execOp
  rw [hop]
  rcases hk with rfl | rfl | rfl | rfl <;> simp [go_sem, he', Addr.add]
theorem opx_index62 {s t g o0 n cap i : Nat} (hi : i < n) (hop : o.op = Op.indexAddr 62 (.tmp s) (.tmp t)) (he : a.eval (.tmp s) = .slice (some ⟨g, o0, none⟩) n cap) (ht : a.eval (.tmp t) = .int .i64 i) (hR : R (.pointer (some ⟨g, o0 + i * 14, none⟩)) W) : o.wp Tryd.prog a W (fun a'' W'' => ∃ x, a'' = a.put o.dst x ∧ R x W'') Q := by
  have he' : a.tmps[s]?.getD undef = .slice (some ⟨g, o0, none⟩) n cap := by simpa [Act.eval] using he
  have ht' : a.tmps[t]?.getD undef = .int .i64 i := by simpa [Act.eval] using ht
  have hi' : (i : Int) < (n : Int) := by omega
  have hi0 : (0 : Int) ≤ (i : Int) := by omega
  refine op_val ?_ hR
  unfold execOp
  rw [hop]
  simp [go_sem, he', ht', hi', hi0]
theorem opx_callc {f s : Nat} {v c : Value} {ts : Array TypeId} (hop : o.op = Op.call { callee := .value (.func f), args := #[.tmp s, .const c], argTypes := ts })
    (he : a.eval (.tmp s) = v) (eg : ∀ args w, (callFunc f args).run Tryd.prog w = .ok (.enter f args) w) (hc : Calls Tryd.prog f #[v, c] W fun e w' => ∃ x, e = .returned x ∧ R x w') : o.wp Tryd.prog a W (fun a'' W'' => ∃ x, a'' = a.put o.dst x ∧ R x W'') Q := by
  have he' : a.tmps[s]?.getD undef = v := by simpa [Act.eval] using he
  unfold Oper.wp execOp
  rw [hop]
  simp [go_sem, he', eg]
  refine hc.mono ?_
  rintro e w' ⟨x, rfl, hb⟩
  exact ⟨x, rfl, hb⟩
theorem opx_callv {f s t : Nat} {v c : Value} {ts : Array TypeId} (hop : o.op = Op.call { callee := .value (.tmp t), args := #[.tmp s, .const c], argTypes := ts })
    (he : a.eval (.tmp s) = v) (ht : a.eval (.tmp t) = .func (.func f) #[] #[]) (eg : ∀ args w, (callFunc f args).run Tryd.prog w = .ok (.enter f args) w) (hc : Calls Tryd.prog f #[v, c] W fun e w' => ∃ x, e = .returned x ∧ R x w') : o.wp Tryd.prog a W (fun a'' W'' => ∃ x, a'' = a.put o.dst x ∧ R x W'') Q := by
  have he' : a.tmps[s]?.getD undef = v := by simpa [Act.eval] using he
  have ht' : a.tmps[t]?.getD undef = .func (.func f) #[] #[] := by simpa [Act.eval] using ht
  unfold Oper.wp execOp
  rw [hop]
  simp [go_sem, he', ht', eg]
  refine hc.mono ?_
  rintro e w' ⟨x, rfl, hb⟩
  exact ⟨x, rfl, hb⟩
theorem opx_add {s : Nat} {n : Int} (hop : o.op = Op.binOp .add 3 (.const (.int .i64 1)) (.tmp s) 3) (he : a.eval (.tmp s) = .int .i64 n) (h0 : 0 ≤ n) (h1 : n ≤ 1000) (hR : R (.int .i64 (1 + n)) W) : o.wp Tryd.prog a W (fun a'' W'' => ∃ x, a'' = a.put o.dst x ∧ R x W'') Q := by
  have he' : a.tmps[s]?.getD undef = .int .i64 n := by simpa [Act.eval] using he
  refine op_val ?_ hR
  unfold execOp
  rw [hop]
  have hw : IntKind.i64.wrap (1 + n) = 1 + n := by rw [IntKind.wrap_i64]; omega
  simp [go_sem, he', hw]
theorem opx_addr {s : Nat} {n : Int} (hop : o.op = Op.binOp .add 3 (.tmp s) (.const (.int .i64 1)) 3) (he : a.eval (.tmp s) = .int .i64 n) (h0 : 0 ≤ n) (h1 : n ≤ 1000) (hR : R (.int .i64 (n + 1)) W) : o.wp Tryd.prog a W (fun a'' W'' => ∃ x, a'' = a.put o.dst x ∧ R x W'') Q := by
  have he' : a.tmps[s]?.getD undef = .int .i64 n := by simpa [Act.eval] using he
  refine op_val ?_ hR
  unfold execOp
  rw [hop]
  have hw : IntKind.i64.wrap (n + 1) = n + 1 := by rw [IntKind.wrap_i64]; omega
  simp [go_sem, he', hw]
theorem opx_build32 {s0 s1 s2 s3 : Nat} {x0 y0 x1 y1 x2 y2 x3 y3 : Value} (hop : o.op = Op.build 32 #[(0, .tmp s0), (1, .tmp s1), (2, .tmp s2), (3, .tmp s3)])
    (h0 : a.eval (.tmp s0) = .agg #[x0, y0]) (h1 : a.eval (.tmp s1) = .agg #[x1, y1]) (h2 : a.eval (.tmp s2) = .agg #[x2, y2]) (h3 : a.eval (.tmp s3) = .agg #[x3, y3]) (hR : R (.agg #[x0, y0, x1, y1, x2, y2, x3, y3]) W) : o.wp Tryd.prog a W (fun a'' W'' => ∃ x, a'' = a.put o.dst x ∧ R x W'') Q := by
  have h0' : a.tmps[s0]?.getD undef = .agg #[x0, y0] := by simpa [Act.eval] using h0
  have h1' : a.tmps[s1]?.getD undef = .agg #[x1, y1] := by simpa [Act.eval] using h1
  have h2' : a.tmps[s2]?.getD undef = .agg #[x2, y2] := by simpa [Act.eval] using h2
  have h3' : a.tmps[s3]?.getD undef = .agg #[x3, y3] := by simpa [Act.eval] using h3
  refine op_val ?_ hR
  unfold execOp
  rw [hop]
  simp [go_sem, h0', h1', h2', h3']
theorem opx_build67 {s0 s1 s2 s3 s4 : Nat} {i0 i1 i2 i3 x0 y0 x1 y1 x2 y2 x3 y3 : Value} (hop : o.op = Op.build 67 #[(0, .tmp s0), (1, .tmp s1), (2, .tmp s2), (5, .tmp s3), (6, .tmp s4)])
    (h0 : a.eval (.tmp s0) = i0) (h1 : a.eval (.tmp s1) = i1) (h2 : a.eval (.tmp s2) = i2) (h3 : a.eval (.tmp s3) = i3) (h4 : a.eval (.tmp s4) = .agg #[x0, y0, x1, y1, x2, y2, x3, y3])
    (k0 : ∃ z, i0 = .int .i64 z) (k1 : ∃ z, i1 = .int .i64 z) (k2 : ∃ z, i2 = .int .i64 z) (k3 : ∃ z, i3 = .int .i64 z) (hR : R (.agg #[i0, i1, i2, .int .i64 0, .int .i64 0, i3, x0, y0, x1, y1, x2, y2, x3, y3]) W) : o.wp Tryd.prog a W (fun a'' W'' => ∃ x, a'' = a.put o.dst x ∧ R x W'') Q := by
  obtain ⟨z0, rfl⟩ := k0
  obtain ⟨z1, rfl⟩ := k1
  obtain ⟨z2, rfl⟩ := k2
  obtain ⟨z3, rfl⟩ := k3
  have h0' : a.tmps[s0]?.getD undef = .int .i64 z0 := by simpa [Act.eval] using h0
  have h1' : a.tmps[s1]?.getD undef = .int .i64 z1 := by simpa [Act.eval] using h1
  have h2' : a.tmps[s2]?.getD undef = .int .i64 z2 := by simpa [Act.eval] using h2
  have h3' : a.tmps[s3]?.getD undef = .int .i64 z3 := by simpa [Act.eval] using h3
  have h4' : a.tmps[s4]?.getD undef = .agg #[x0, y0, x1, y1, x2, y2, x3, y3] := by simpa [Act.eval] using h4
  refine op_val ?_ hR
  unfold execOp
  rw [hop]
  simp [go_sem, h0', h1', h2', h3', h4']
theorem opx_build63 {s : Nat} {x0 x1 x2 x3 x4 x5 x6 x7 x8 x9 x10 x11 x12 x13 : Value} (hop : o.op = Op.buildSlice 63 1 #[(0, .tmp s)]) (he : a.eval (.tmp s) = .agg #[x0, x1, x2, x3, x4, x5, x6, x7, x8, x9, x10, x11, x12, x13])
    (hR : R (.slice (some ⟨W.heap.size, 0, none⟩) 1 1) (W.alloc (.cells #[x0, x1, x2, x3, x4, x5, x6, x7, x8, x9, x10, x11, x12, x13] 67))) : o.wp Tryd.prog a W (fun a'' W'' => ∃ x, a'' = a.put o.dst x ∧ R x W'') Q := by
  have he' : a.tmps[s]?.getD undef = .agg #[x0, x1, x2, x3, x4, x5, x6, x7, x8, x9, x10, x11, x12, x13] := by simpa [Act.eval] using he
  refine op_val (W' := W.alloc (.cells #[x0, x1, x2, x3, x4, x5, x6, x7, x8, x9, x10, x11, x12, x13] 67)) ?_ hR
  unfold execOp
  rw [hop]
  simp [go_sem, he']
theorem opx_append63 {s t g n : Nat} {base : Nat} {v : Value} {xs : List Value} {us : Array Value} (hop : o.op = Op.call { callee := .builtin .append, args := #[.tmp s, .tmp t], argTypes := #[63, 63] })
    (he : a.eval (.tmp s) = v) (ht : a.eval (.tmp t) = .slice (some ⟨g, 0, none⟩) 1 1) (hown : W.ownsRow base 67 14 v n xs) (hg : W.heap[g]? = some (.cells us 67 (0, 0))) (h1 : us.size = 14) (hn : n ≤ 5000) (hb : base ≤ W.heap.size) (hu : ∀ u ∈ us.toList, u.oneCell' = true)
    (hR : ∀ v' W', W'.ownsRow base 67 14 v' (n + 1) (xs ++ us.toList) → W.grownBy W' v.ownBlock → R v' W') : o.wp Tryd.prog a W (fun a'' W'' => ∃ x, a'' = a.put o.dst x ∧ R x W'') Q := by
  obtain ⟨i0, hi, hz0, hz1, hz2⟩ := info_parts info67
  obtain ⟨v', w', hr, h2, h3, _⟩ := run_append_own (P := Tryd.prog) W base 63 o.type 67 i0 (.agg #[.int .i64 0, .int .i64 0, .int .i64 0, .int .i64 0, .int .i64 0, .int .i64 0, .int .i64 0, .int .i64 0, .int .i64 0, .int .i64 0, .int .i64 0, .int .i64 0, .int .i64 0, .int .i64 0]) 14 112 und63 hi hz0 hz1 hz2 rfl (by decide) v n xs hown ⟨g, 0, none⟩ 1 1 us.toList (by simp [h1]) (World.news_of_block hg) hu (by simp only [maxLen]; omega) (by omega) hb
  refine op_val (x := v') (W' := w') ?_ (hR v' w' h2 h3)
  unfold execOp
  simp only [hop, resolve, invoke, builtin, Sem.run_bind, Sem.run_pure, Result.andThen_ok, List.map_toArray, List.map_cons, List.map_nil, he, ht, hr]
end

def mnM (m lo hi : Int) : Int := mn (lo % (m + 1)) (hi % (m + 1))
def mxM (m lo hi : Int) : Int := mx (lo % (m + 1)) (hi % (m + 1))
def r1Pv (b : Nat) (lo hi m : Int) (j : Nat) (v : Value) : Prop :=
  match j with
  | 0 => v = .pointer (some ⟨b, 0, none⟩)
  | 1 => v = .int .i64 lo
  | 2 => v = .int .i64 m
  | 3 => v = .int .i64 (m + 1)
  | 4 => v = .int .i64 (lo % (m + 1))
  | 5 => v = .pointer (some ⟨b, 0 + 1, none⟩)
  | 6 => v = .int .i64 hi
  | 7 => v = .int .i64 m
  | 8 => v = .int .i64 (m + 1)
  | 9 => v = .int .i64 (hi % (m + 1))
  | 10 => v = .int .i64 (lo % (m + 1))
  | _ => v = .int .i64 (hi % (m + 1))
set_option maxHeartbeats 2000000 in
theorem Right1_any (lo hi m : Int) (h0 : 0 ≤ m) (h1 : m ≤ 1000) (w : World) : Calls Tryd.prog 106 #[.agg #[.int .i64 lo, .int .i64 hi], .int .i64 m] w fun e w' => e = .returned (.agg #[.int .i64 (mnM m lo hi), .int .i64 (mxM m lo hi)]) ∧ Below w.heap.size w w' := by
  go_enter Tryd.func106, Tryd.ntmps106
  go_wp2_with fail
  obtain ⟨a1, a2, a3, a4⟩ := two_allocs w (.cells #[.int .i64 lo, .int .i64 hi] 23) (.cells #[.int .i64 0, .int .i64 0] 23)
  have A1 := Lib.hid a1
  have A2 := Lib.hid a2
  have AB := Lib.hid a4
  clear a1 a2 a4
  generalize (w.alloc (.cells #[.int .i64 lo, .int .i64 hi] 23)).alloc (.cells #[.int .i64 0, .int .i64 0] 23) = V at *
  refine wp_region_vals [7, 8, 9, 10, 11, 12, 13, 14, 15, 16, 5, 6] (fun _ X => Below V.heap.size V X) (fun j v _ => r1Pv w.heap.size lo hi m j v)
    (by kernel_rfl) (by kernel_rfl) (fun s hs h => by simp at hs ⊢; omega) (by simp) ⟨rfl, rfl, rfl, Nat.le_refl _, fun _ _ => rfl⟩ ?val ?fin
  case val =>
    have hcl : ∀ X, Below V.heap.size V X → X.cell? ⟨w.heap.size, 0, none⟩ = some (.int .i64 lo) ∧ X.cell? ⟨w.heap.size, 0 + 1, none⟩ = some (.int .i64 hi) := fun X hX => by
      have h := cell_of_block ((hX.block w.heap.size (by omega)).trans A1.out)
      exact ⟨(h 0).trans rfl, (h 1).trans rfl⟩
    intro j
    match j with
    | 0 => intro o L ho hLi hd a' X hX hfr hdp; obtain rfl := Option.some.inj ho; exact opx_field rfl (hfr 2 (by decide)) (.inr (.inr ⟨rfl, .inl ⟨rfl, rfl⟩⟩)) ⟨hX, rfl, fun _ _ h => h⟩
    | 1 => intro o L ho hLi hd a' X hX hfr hdp; obtain rfl := Option.some.inj ho; exact opx_load3 rfl (hdp 0 7 (by decide) rfl (by kernel_rfl)) (hcl X hX).1 ⟨hX, rfl, fun _ _ h => h⟩
    | 2 => intro o L ho hLi hd a' X hX hfr hdp; obtain rfl := Option.some.inj ho; exact opx_move rfl (hfr 1 (by decide)) ⟨hX, rfl, fun _ _ h => h⟩
    | 3 => intro o L ho hLi hd a' X hX hfr hdp; obtain rfl := Option.some.inj ho; exact opx_addr rfl (hdp 2 9 (by decide) rfl (by kernel_rfl)) h0 h1 ⟨hX, rfl, fun _ _ h => h⟩
    | 4 =>
      intro o L ho hLi hd a' X hX hfr hdp; obtain rfl := Option.some.inj ho
      refine opx_call2 rfl (hdp 1 8 (by decide) rfl (by kernel_rfl)) (hdp 3 10 (by decide) rfl (by kernel_rfl)) eg51 ((Pick_any lo (m + 1) (by omega) (by omega) X).mono ?_)
      rintro e W' ⟨rfl, rfl⟩
      exact ⟨_, rfl, hX, rfl, fun _ _ h => h⟩
    | 5 => intro o L ho hLi hd a' X hX hfr hdp; obtain rfl := Option.some.inj ho; exact opx_field rfl (hfr 2 (by decide)) (.inr (.inr ⟨rfl, .inr ⟨rfl, rfl⟩⟩)) ⟨hX, rfl, fun _ _ h => h⟩
    | 6 => intro o L ho hLi hd a' X hX hfr hdp; obtain rfl := Option.some.inj ho; exact opx_load3 rfl (hdp 5 12 (by decide) rfl (by kernel_rfl)) (hcl X hX).2 ⟨hX, rfl, fun _ _ h => h⟩
    | 7 => intro o L ho hLi hd a' X hX hfr hdp; obtain rfl := Option.some.inj ho; exact opx_move rfl (hfr 1 (by decide)) ⟨hX, rfl, fun _ _ h => h⟩
    | 8 => intro o L ho hLi hd a' X hX hfr hdp; obtain rfl := Option.some.inj ho; exact opx_addr rfl (hdp 7 14 (by decide) rfl (by kernel_rfl)) h0 h1 ⟨hX, rfl, fun _ _ h => h⟩
    | 9 =>
      intro o L ho hLi hd a' X hX hfr hdp; obtain rfl := Option.some.inj ho
      refine opx_call2 rfl (hdp 6 13 (by decide) rfl (by kernel_rfl)) (hdp 8 15 (by decide) rfl (by kernel_rfl)) eg51 ((Pick_any hi (m + 1) (by omega) (by omega) X).mono ?_)
      rintro e W' ⟨rfl, rfl⟩
      exact ⟨_, rfl, hX, rfl, fun _ _ h => h⟩
    | 10 => intro o L ho hLi hd a' X hX hfr hdp; obtain rfl := Option.some.inj ho; exact opx_assign rfl rfl ⟨hX, hdp 4 11 (by decide) rfl (by kernel_rfl), fun _ _ h => h⟩
    | 11 => intro o L ho hLi hd a' X hX hfr hdp; obtain rfl := Option.some.inj ho; exact opx_assign rfl rfl ⟨hX, hdp 9 16 (by decide) rfl (by kernel_rfl), fun _ _ h => h⟩
    | j + 12 => intro o L ho; simp at ho
  case fin =>
    intro X L Vv hLL hX hV
    have v10 : Vv 10 = .int .i64 (lo % (m + 1)) := hV 10 (by decide)
    have v11 : Vv 11 = .int .i64 (hi % (m + 1)) := hV 11 (by decide)
    have hz := hX.size
    have B2 := Lib.hid ((hX.block (w.heap.size + 1) (by omega)).trans A2.out)
    have BB := Lib.hid (AB.out.trans (hX.mono AB.out.size))
    simp only [fill, Act.put, List.setIfInBounds_toArray, List.set_cons_zero, List.set_cons_succ, Nat.reduceAdd, v10, v11]
    clear hX hLL hV A1 A2 AB v10 v11
    obtain ⟨x, ex⟩ : ∃ x, lo % (m + 1) = x := ⟨_, rfl⟩
    obtain ⟨y, ey⟩ : ∃ y, hi % (m + 1) = y := ⟨_, rfl⟩
    rw [ex, ey]
    by_cases hxy : y < x
    · have HM := Lib.hid (show mnM m lo hi = y by unfold mnM mn; omega)
      have HX := Lib.hid (show mxM m lo hi = x by unfold mxM mx; omega)
      have hyx : ¬ x < y := by omega
      clear ex ey
      go_wp2_with (refine list_store23 rfl rfl rfl rfl rfl B2.out ?_; intro W6 h6 hc6)
      have g0 := (cell_of_block h6 0).trans rfl
      have g1 := (cell_of_block h6 1).trans rfl
      refine bodyPost_ret (v := .agg #[.int .i64 y, .int .i64 x]) ?_ rfl ⟨by rw [HM.out, HX.out], BB.out.trans (hc6.below (by omega))⟩
      simp [results, Tryd.results106, go_sem, g0, g1]
    · by_cases hyx : x < y
      · have HM := Lib.hid (show mnM m lo hi = x by unfold mnM mn; omega)
        have HX := Lib.hid (show mxM m lo hi = y by unfold mxM mx; omega)
        clear ex ey
        go_wp2_with (refine list_store23 rfl rfl rfl rfl rfl B2.out ?_; intro W6 h6 hc6)
        have g0 := (cell_of_block h6 0).trans rfl
        have g1 := (cell_of_block h6 1).trans rfl
        refine bodyPost_ret (v := .agg #[.int .i64 x, .int .i64 y]) ?_ rfl ⟨by rw [HM.out, HX.out], BB.out.trans (hc6.below (by omega))⟩
        simp [results, Tryd.results106, go_sem, g0, g1]
      · obtain rfl : x = y := by omega
        have HM := Lib.hid (show mnM m lo hi = x by unfold mnM mn; omega)
        have HX := Lib.hid (show mxM m lo hi = x by unfold mxM mx; omega)
        clear ex ey
        go_wp2_with (refine list_store23 rfl rfl rfl rfl rfl B2.out ?_; intro W6 h6 hc6)
        have g0 := (cell_of_block h6 0).trans rfl
        have g1 := (cell_of_block h6 1).trans rfl
        refine bodyPost_ret (v := .agg #[.int .i64 x, .int .i64 x]) ?_ rfl ⟨by rw [HM.out, HX.out], BB.out.trans (hc6.below (by omega))⟩
        simp [results, Tryd.results106, go_sem, g0, g1]

/-- A report made right: with its place as Id, and all numbers within their limits. -/
def rgRep (R : Nat → Rep) (i : Nat) : Rep := { id := i, src := 1 + (R i).src % 3, hour := (R i).hour % 100, x := 0, y := 0, has := 1 + (R i).has % 15, lo := fun q => mnM (lim q) ((R i).lo q) ((R i).hi q), hi := fun q => mxM (lim q) ((R i).lo q) ((R i).hi q) }
/-- Reports in a slice that need not begin at a block's begin. -/
def RepsO (W : World) (p : Option Addr) (n : Nat) (R : Nat → Rep) : Prop := ∀ i, i < n → ∃ b o, p = some ⟨b, o, none⟩ ∧ b < W.heap.size ∧ ∀ c v, (repA (R i))[c]? = some v → W.cell? ⟨b, o + i * 14 + c, none⟩ = some v
abbrev fn106 : Value := .func (.func 106) #[] #[]
def rgPv (R : Nat → Rep) (k n cap b o B6 z base : Nat) (v : Value) (p : Option Addr) (j : Nat) (y : Value) (X : World) : Prop :=
  match j with
  | 0 => y = v
  | 1 => y = .int .i64 (k : Int)
  | 2 | 9 | 15 => y = .slice p n cap
  | 3 | 10 | 16 => y = .int .i64 (k : Int)
  | 4 | 11 | 17 => y = .pointer (some ⟨b, o + k * 14, none⟩)
  | 5 => y = .pointer (some ⟨b, o + k * 14 + 1, none⟩)
  | 6 => y = .int .i64 (R k).src
  | 7 => y = .int .i64 ((R k).src % 3)
  | 8 => y = .int .i64 (1 + (R k).src % 3)
  | 12 => y = .pointer (some ⟨b, o + k * 14 + 2, none⟩)
  | 13 => y = .int .i64 (R k).hour
  | 14 => y = .int .i64 ((R k).hour % 100)
  | 18 => y = .pointer (some ⟨b, o + k * 14 + 5, none⟩)
  | 19 => y = .int .i64 (R k).has
  | 20 => y = .int .i64 ((R k).has % 15)
  | 21 => y = .int .i64 (1 + (R k).has % 15)
  | 22 | 26 | 30 | 34 => y = fn106
  | 23 => y = .pointer (some ⟨B6, 0 + 0, none⟩)
  | 24 => y = .agg #[.int .i64 ((R k).lo 0), .int .i64 ((R k).hi 0)]
  | 25 => y = .agg #[.int .i64 ((rgRep R k).lo 0), .int .i64 ((rgRep R k).hi 0)]
  | 27 => y = .pointer (some ⟨B6, 0 + 2, none⟩)
  | 28 => y = .agg #[.int .i64 ((R k).lo 1), .int .i64 ((R k).hi 1)]
  | 29 => y = .agg #[.int .i64 ((rgRep R k).lo 1), .int .i64 ((rgRep R k).hi 1)]
  | 31 => y = .pointer (some ⟨B6, 0 + 4, none⟩)
  | 32 => y = .agg #[.int .i64 ((R k).lo 2), .int .i64 ((R k).hi 2)]
  | 33 => y = .agg #[.int .i64 ((rgRep R k).lo 2), .int .i64 ((rgRep R k).hi 2)]
  | 35 => y = .pointer (some ⟨B6, 0 + 6, none⟩)
  | 36 => y = .agg #[.int .i64 ((R k).lo 3), .int .i64 ((R k).hi 3)]
  | 37 => y = .agg #[.int .i64 ((rgRep R k).lo 3), .int .i64 ((rgRep R k).hi 3)]
  | 38 => y = .agg (cellA (rgRep R k).lo (rgRep R k).hi)
  | 39 => y = .agg (repA (rgRep R k))
  | 40 => ∃ B, y = .slice (some ⟨B, 0, none⟩) 1 1 ∧ z ≤ B ∧ X.heap[B]? = some (.cells (repA (rgRep R k)) 67 (0, 0))
  | 41 | 42 => ∃ g' c', y = .slice (some ⟨g', 0, none⟩) (k + 1) c' ∧ X.ownsRow base 67 14 y (k + 1) (repRow (rgRep R) (k + 1))
  | _ => True
theorem rgPv_later {R : Nat → Rep} {k n cap b o B6 z base : Nat} {v : Value} {p : Option Addr} {j : Nat} {y : Value} {X X' : World} (h : rgPv R k n cap b o B6 z base v p j y X) (hb : Below X.heap.size X X') : rgPv R k n cap b o B6 z base v p j y X' := by
  match j with
  | 0 | 1 | 2 | 3 | 4 | 5 | 6 | 7 | 8 | 9 | 10 | 11 | 12 | 13 | 14 | 15 | 16 | 17 | 18 | 19 | 20 | 21 | 22 | 23 | 24 | 25 | 26 | 27 | 28 | 29 | 30 | 31 | 32 | 33 | 34 | 35 | 36 | 37 | 38 | 39 => exact h
  | 40 => obtain ⟨B, e1, e2, e3⟩ := h; exact ⟨B, e1, e2, (hb.block B (lt_of_block e3)).trans e3⟩
  | 41 | 42 => obtain ⟨g', c', e1, e2⟩ := h; exact ⟨g', c', e1, row_later e2 hb⟩
  | j + 43 => trivial
/-- What is known of the memory in the round's region. -/
structure RgWd (w W : World) (B6 : Nat) (lo hi : Nat → Int) (L : Nat → Bool) (X : World) : Prop where
  ahead : L 41 = false → Below W.heap.size W X
  below : Below w.heap.size w X
  size : W.heap.size ≤ X.heap.size
  box : X.heap[B6]? = some (.cells (cellA lo hi) 25 (0, 0))
  o41 : L 41 = true → L 0 = true
  o42 : L 42 = true → L 41 = true
theorem RgWd.later {w W : World} {B6 : Nat} {lo hi : Nat → Int} {L : Nat → Bool} {X X' : World} (h : RgWd w W B6 lo hi L X) (hb : Below X.heap.size X X') {i : Nat} (h1 : 41 ≠ i) (h2 : 42 ≠ i) : RgWd w W B6 lo hi (fun j => if j = i then true else L j) X' :=
  ⟨fun e => (h.ahead (by rw [if_neg h1] at e; exact e)).trans (hb.mono h.size), h.below.trans (hb.mono h.below.size), Nat.le_trans h.size hb.size, (hb.block _ (lt_of_block h.box)).trans h.box,
    fun e => by rw [if_neg h1] at e; by_cases h0 : 0 = i; (· rw [if_pos h0]); (· rw [if_neg h0]; exact h.o41 e), fun e => by rw [if_neg h2] at e; rw [if_neg h1]; exact h.o42 e⟩
theorem RgWd.own4 {w W : World} {B6 : Nat} {lo hi : Nat → Int} {L : Nat → Bool} {X : World} (h : RgWd w W B6 lo hi L X) (h0 : L 0 = false) : L 42 = false := by
  cases e : L 42 with
  | false => rfl
  | true => have := h.o41 (h.o42 e); rw [h0] at this; cases this
theorem grow_from {W X : World} {base : Nat} {v : Value} (hg : W.grownBy X v.ownBlock) (h : ∀ j, v.ownBlock = some j → base ≤ j) {w : World} (hB : Below base w W) (hs : base ≤ W.heap.size) : Below base w X := hB.grown hg hs h
theorem row_le {W : World} {base size n m c : Nat} {e : TypeId} {p : Option Addr} {xs : List Value} (h : W.ownsRow base e size (.slice p m c) n xs) : n ≤ c := by
  rcases h.2 with ⟨e1, e2⟩ | ⟨g, cap, cur, e1, _, _, h1, _⟩
  · omega
  · cases e1; exact h1
set_option maxHeartbeats 8000000 in
theorem Right_full (p : Option Addr) (n cap : Nat) (R : Nat → Rep) (hn : n ≤ 8) (w : World) (hR : RepsO w p n R) :
    Calls Tryd.prog 53 #[.slice p n cap] w fun e w' => ∃ p' c', e = .returned (.slice p' n c') ∧ Reps w' p' n (rgRep R) ∧ Below w.heap.size w w' ∧ n ≤ c' := by
  have HR := Lib.hid hR
  clear hR
  go_enter Tryd.func53, Tryd.ntmps53
  go_wp2_with fail
  go_loopw [4, 5] (fun v i wr => ∃ (k : Nat) (pk : Option Addr) (ck : Nat), k ≤ n ∧ i = .int .i64 k ∧ v = .slice pk k ck ∧ Hid (wr.ownsRow w.heap.size 67 14 (.slice pk k ck) k (repRow (rgRep R) k)) ∧ Hid (Below w.heap.size w wr)) (fun _ i _ => n - (intOf i).toNat)
  case atStart => exact ⟨0, none, 0, by omega, rfl, rfl, World.ownsRow_nil _ _ _ _, Lib.hid (Below.refl _ _)⟩
  case round =>
    obtain ⟨k, pk, ck, hk, rfl, rfl, hO, hB⟩ := hrel
    by_cases hlt : k < n
    · have hkn : (k : Int) < (n : Int) := by omega
      have hk0 : (0 : Int) ≤ (k : Int) := by omega
      have hz := hB.out.size
      obtain ⟨b, o, rfl, hb1, hcell⟩ := HR.out k hlt
      have HC := Lib.hid (fun X (hX : Below w.heap.size w X) c v (hv : (repA (R k))[c]? = some v) => ((hX.cell (p := ⟨b, o + k * 14 + c, none⟩) hb1).trans (hcell c v hv)))
      clear hcell
      have c6 := HC.out wr hB.out 6 _ rfl
      have c7 := HC.out wr hB.out 7 _ rfl
      have c8 := HC.out wr hB.out 8 _ rfl
      have c9 := HC.out wr hB.out 9 _ rfl
      have c10 := HC.out wr hB.out 10 _ rfl
      have c11 := HC.out wr hB.out 11 _ rfl
      have c12 := HC.out wr hB.out 12 _ rfl
      have c13 := HC.out wr hB.out 13 _ rfl
      go_wp2_with fail
      have K1 := Lib.hid (block_new wr (.cells (cellA (R k).lo (R k).hi) 25))
      have KB := Lib.hid (hB.out.alloc hB.out.size (.cells (cellA (R k).lo (R k).hi) 25))
      have KO := Lib.hid (hO.out.alloc (.cells (cellA (R k).lo (R k).hi) 25))
      have hzs : wr.heap.size < (wr.alloc (.cells (cellA (R k).lo (R k).hi) 25)).heap.size := by simp
      have hvlt : ∀ j, (Value.slice pk k ck).ownBlock = some j → w.heap.size ≤ j ∧ j < wr.heap.size := hO.out.lt
      clear c6 c7 c8 c9 c10 c11 c12 c13
      generalize wr.alloc (.cells (cellA (R k).lo (R k).hi) 25) = V at *
      refine wp_region_valsF [18, 19, 20, 21, 22, 23, 24, 25, 26, 27, 28, 29, 30, 31, 32, 33, 34, 35, 36, 37, 38, 39, 40, 41, 42, 43, 44, 45, 46, 47, 48, 49, 50, 51, 52, 53, 54, 55, 56, 57, 58, 59, 4] (RgWd w V wr.heap.size (R k).lo (R k).hi) (rgPv R k n cap b o wr.heap.size V.heap.size w.heap.size (.slice pk k ck) (some ⟨b, o, none⟩))
        (by kernel_rfl) (by kernel_rfl) (fun s hs h => by simp at hs ⊢; omega) (by simp) ⟨fun _ => ⟨rfl, rfl, rfl, Nat.le_refl _, fun _ _ => rfl⟩, ⟨KB.out.os, KB.out.tape, KB.out.output, KB.out.size, KB.out.block⟩, Nat.le_refl _, K1.out, (fun h => by cases h), (fun h => by cases h)⟩ ?val ?fin
      case val =>
        intro j
        match j with
        | 0 => intro o L ho hLi hd a' X hX hfr hdp hno; obtain rfl := Option.some.inj ho; exact opx_move rfl ((hno 42 4 (by decide) rfl (hX.own4 hLi)).trans rfl) ⟨hX.later (Below.refl _ _) (by decide) (by decide), rfl, fun _ _ _ h => h⟩
        | 1 => intro o L ho hLi hd a' X hX hfr hdp hno; obtain rfl := Option.some.inj ho; exact opx_move rfl (hfr 5 (by decide)) ⟨hX.later (Below.refl _ _) (by decide) (by decide), rfl, fun _ _ _ h => h⟩
        | 2 => intro o L ho hLi hd a' X hX hfr hdp hno; obtain rfl := Option.some.inj ho; exact opx_move rfl (hfr 0 (by decide)) ⟨hX.later (Below.refl _ _) (by decide) (by decide), rfl, fun _ _ _ h => h⟩
        | 3 => intro o L ho hLi hd a' X hX hfr hdp hno; obtain rfl := Option.some.inj ho; exact opx_move rfl (hfr 5 (by decide)) ⟨hX.later (Below.refl _ _) (by decide) (by decide), rfl, fun _ _ _ h => h⟩
        | 4 => intro o L ho hLi hd a' X hX hfr hdp hno; obtain rfl := Option.some.inj ho; exact opx_index62 hlt rfl (hdp 2 20 (by decide) rfl (by kernel_rfl)) (hdp 3 21 (by decide) rfl (by kernel_rfl)) ⟨hX.later (Below.refl _ _) (by decide) (by decide), rfl, fun _ _ _ h => h⟩
        | 5 => intro o L ho hLi hd a' X hX hfr hdp hno; obtain rfl := Option.some.inj ho; exact opx_field70 rfl (hdp 4 22 (by decide) rfl (by kernel_rfl)) (.inl rfl) ⟨hX.later (Below.refl _ _) (by decide) (by decide), rfl, fun _ _ _ h => h⟩
        | 6 => intro o L ho hLi hd a' X hX hfr hdp hno; obtain rfl := Option.some.inj ho; exact opx_load3 rfl (hdp 5 23 (by decide) rfl (by kernel_rfl)) (HC.out X hX.below 1 _ rfl) ⟨hX.later (Below.refl _ _) (by decide) (by decide), rfl, fun _ _ _ h => h⟩
        | 7 =>
          intro o L ho hLi hd a' X hX hfr hdp hno; obtain rfl := Option.some.inj ho
          refine opx_callc rfl (hdp 6 24 (by decide) rfl (by kernel_rfl)) eg51 ((Pick_any (R k).src 3 (by decide) (by decide) X).mono ?_)
          rintro e W' ⟨rfl, rfl⟩
          exact ⟨_, rfl, hX.later (Below.refl _ _) (by decide) (by decide), rfl, fun _ _ _ h => h⟩
        | 8 => intro o L ho hLi hd a' X hX hfr hdp hno; obtain rfl := Option.some.inj ho; exact opx_add rfl (hdp 7 25 (by decide) rfl (by kernel_rfl)) (Int.emod_nonneg _ (by decide)) (Int.le_trans (Int.le_of_lt (Int.emod_lt_of_pos _ (by decide))) (by decide)) ⟨hX.later (Below.refl _ _) (by decide) (by decide), rfl, fun _ _ _ h => h⟩
        | 9 => intro o L ho hLi hd a' X hX hfr hdp hno; obtain rfl := Option.some.inj ho; exact opx_move rfl (hfr 0 (by decide)) ⟨hX.later (Below.refl _ _) (by decide) (by decide), rfl, fun _ _ _ h => h⟩
        | 10 => intro o L ho hLi hd a' X hX hfr hdp hno; obtain rfl := Option.some.inj ho; exact opx_move rfl (hfr 5 (by decide)) ⟨hX.later (Below.refl _ _) (by decide) (by decide), rfl, fun _ _ _ h => h⟩
        | 11 => intro o L ho hLi hd a' X hX hfr hdp hno; obtain rfl := Option.some.inj ho; exact opx_index62 hlt rfl (hdp 9 27 (by decide) rfl (by kernel_rfl)) (hdp 10 28 (by decide) rfl (by kernel_rfl)) ⟨hX.later (Below.refl _ _) (by decide) (by decide), rfl, fun _ _ _ h => h⟩
        | 12 => intro o L ho hLi hd a' X hX hfr hdp hno; obtain rfl := Option.some.inj ho; exact opx_field70 rfl (hdp 11 29 (by decide) rfl (by kernel_rfl)) (.inr (.inl rfl)) ⟨hX.later (Below.refl _ _) (by decide) (by decide), rfl, fun _ _ _ h => h⟩
        | 13 => intro o L ho hLi hd a' X hX hfr hdp hno; obtain rfl := Option.some.inj ho; exact opx_load3 rfl (hdp 12 30 (by decide) rfl (by kernel_rfl)) (HC.out X hX.below 2 _ rfl) ⟨hX.later (Below.refl _ _) (by decide) (by decide), rfl, fun _ _ _ h => h⟩
        | 14 =>
          intro o L ho hLi hd a' X hX hfr hdp hno; obtain rfl := Option.some.inj ho
          refine opx_callc rfl (hdp 13 31 (by decide) rfl (by kernel_rfl)) eg51 ((Pick_any (R k).hour 100 (by decide) (by decide) X).mono ?_)
          rintro e W' ⟨rfl, rfl⟩
          exact ⟨_, rfl, hX.later (Below.refl _ _) (by decide) (by decide), rfl, fun _ _ _ h => h⟩
        | 15 => intro o L ho hLi hd a' X hX hfr hdp hno; obtain rfl := Option.some.inj ho; exact opx_move rfl (hfr 0 (by decide)) ⟨hX.later (Below.refl _ _) (by decide) (by decide), rfl, fun _ _ _ h => h⟩
        | 16 => intro o L ho hLi hd a' X hX hfr hdp hno; obtain rfl := Option.some.inj ho; exact opx_move rfl (hfr 5 (by decide)) ⟨hX.later (Below.refl _ _) (by decide) (by decide), rfl, fun _ _ _ h => h⟩
        | 17 => intro o L ho hLi hd a' X hX hfr hdp hno; obtain rfl := Option.some.inj ho; exact opx_index62 hlt rfl (hdp 15 33 (by decide) rfl (by kernel_rfl)) (hdp 16 34 (by decide) rfl (by kernel_rfl)) ⟨hX.later (Below.refl _ _) (by decide) (by decide), rfl, fun _ _ _ h => h⟩
        | 18 => intro o L ho hLi hd a' X hX hfr hdp hno; obtain rfl := Option.some.inj ho; exact opx_field70 rfl (hdp 17 35 (by decide) rfl (by kernel_rfl)) (.inr (.inr (.inl rfl))) ⟨hX.later (Below.refl _ _) (by decide) (by decide), rfl, fun _ _ _ h => h⟩
        | 19 => intro o L ho hLi hd a' X hX hfr hdp hno; obtain rfl := Option.some.inj ho; exact opx_load3 rfl (hdp 18 36 (by decide) rfl (by kernel_rfl)) (HC.out X hX.below 5 _ rfl) ⟨hX.later (Below.refl _ _) (by decide) (by decide), rfl, fun _ _ _ h => h⟩
        | 20 =>
          intro o L ho hLi hd a' X hX hfr hdp hno; obtain rfl := Option.some.inj ho
          refine opx_callc rfl (hdp 19 37 (by decide) rfl (by kernel_rfl)) eg51 ((Pick_any (R k).has 15 (by decide) (by decide) X).mono ?_)
          rintro e W' ⟨rfl, rfl⟩
          exact ⟨_, rfl, hX.later (Below.refl _ _) (by decide) (by decide), rfl, fun _ _ _ h => h⟩
        | 21 => intro o L ho hLi hd a' X hX hfr hdp hno; obtain rfl := Option.some.inj ho; exact opx_add rfl (hdp 20 38 (by decide) rfl (by kernel_rfl)) (Int.emod_nonneg _ (by decide)) (Int.le_trans (Int.le_of_lt (Int.emod_lt_of_pos _ (by decide))) (by decide)) ⟨hX.later (Below.refl _ _) (by decide) (by decide), rfl, fun _ _ _ h => h⟩
        | 22 => intro o L ho hLi hd a' X hX hfr hdp hno; obtain rfl := Option.some.inj ho; exact opx_move rfl (hfr 3 (by decide)) ⟨hX.later (Below.refl _ _) (by decide) (by decide), rfl, fun _ _ _ h => h⟩
        | 23 => intro o L ho hLi hd a' X hX hfr hdp hno; obtain rfl := Option.some.inj ho; exact opx_field rfl (hfr 6 (by decide)) (.inr (.inl ⟨rfl, .inl ⟨rfl, rfl⟩⟩)) ⟨hX.later (Below.refl _ _) (by decide) (by decide), rfl, fun _ _ _ h => h⟩
        | 24 => intro o L ho hLi hd a' X hX hfr hdp hno; obtain rfl := Option.some.inj ho; exact opx_load23 rfl (hdp 23 41 (by decide) rfl (by kernel_rfl)) ((cell_of_block hX.box (0 + 0)).trans rfl) ((cell_of_block hX.box (0 + 0 + 1)).trans rfl) ⟨hX.later (Below.refl _ _) (by decide) (by decide), rfl, fun _ _ _ h => h⟩
        | 25 =>
          intro o L ho hLi hd a' X hX hfr hdp hno; obtain rfl := Option.some.inj ho
          refine opx_callv rfl (hdp 24 42 (by decide) rfl (by kernel_rfl)) (hdp 22 40 (by decide) rfl (by kernel_rfl)) eg106 ((Right1_any ((R k).lo 0) ((R k).hi 0) 100 (by decide) (by decide) X).mono ?_)
          rintro e W' ⟨rfl, hb⟩
          exact ⟨_, rfl, hX.later hb (by decide) (by decide), rfl, fun _ _ _ h => rgPv_later h hb⟩
        | 26 => intro o L ho hLi hd a' X hX hfr hdp hno; obtain rfl := Option.some.inj ho; exact opx_move rfl (hfr 3 (by decide)) ⟨hX.later (Below.refl _ _) (by decide) (by decide), rfl, fun _ _ _ h => h⟩
        | 27 => intro o L ho hLi hd a' X hX hfr hdp hno; obtain rfl := Option.some.inj ho; exact opx_field rfl (hfr 6 (by decide)) (.inr (.inl ⟨rfl, .inr (.inl ⟨rfl, rfl⟩)⟩)) ⟨hX.later (Below.refl _ _) (by decide) (by decide), rfl, fun _ _ _ h => h⟩
        | 28 => intro o L ho hLi hd a' X hX hfr hdp hno; obtain rfl := Option.some.inj ho; exact opx_load23 rfl (hdp 27 45 (by decide) rfl (by kernel_rfl)) ((cell_of_block hX.box (0 + 2)).trans rfl) ((cell_of_block hX.box (0 + 2 + 1)).trans rfl) ⟨hX.later (Below.refl _ _) (by decide) (by decide), rfl, fun _ _ _ h => h⟩
        | 29 =>
          intro o L ho hLi hd a' X hX hfr hdp hno; obtain rfl := Option.some.inj ho
          refine opx_callv rfl (hdp 28 46 (by decide) rfl (by kernel_rfl)) (hdp 26 44 (by decide) rfl (by kernel_rfl)) eg106 ((Right1_any ((R k).lo 1) ((R k).hi 1) 400 (by decide) (by decide) X).mono ?_)
          rintro e W' ⟨rfl, hb⟩
          exact ⟨_, rfl, hX.later hb (by decide) (by decide), rfl, fun _ _ _ h => rgPv_later h hb⟩
        | 30 => intro o L ho hLi hd a' X hX hfr hdp hno; obtain rfl := Option.some.inj ho; exact opx_move rfl (hfr 3 (by decide)) ⟨hX.later (Below.refl _ _) (by decide) (by decide), rfl, fun _ _ _ h => h⟩
        | 31 => intro o L ho hLi hd a' X hX hfr hdp hno; obtain rfl := Option.some.inj ho; exact opx_field rfl (hfr 6 (by decide)) (.inr (.inl ⟨rfl, .inr (.inr (.inl ⟨rfl, rfl⟩))⟩)) ⟨hX.later (Below.refl _ _) (by decide) (by decide), rfl, fun _ _ _ h => h⟩
        | 32 => intro o L ho hLi hd a' X hX hfr hdp hno; obtain rfl := Option.some.inj ho; exact opx_load23 rfl (hdp 31 49 (by decide) rfl (by kernel_rfl)) ((cell_of_block hX.box (0 + 4)).trans rfl) ((cell_of_block hX.box (0 + 4 + 1)).trans rfl) ⟨hX.later (Below.refl _ _) (by decide) (by decide), rfl, fun _ _ _ h => h⟩
        | 33 =>
          intro o L ho hLi hd a' X hX hfr hdp hno; obtain rfl := Option.some.inj ho
          refine opx_callv rfl (hdp 32 50 (by decide) rfl (by kernel_rfl)) (hdp 30 48 (by decide) rfl (by kernel_rfl)) eg106 ((Right1_any ((R k).lo 2) ((R k).hi 2) 100 (by decide) (by decide) X).mono ?_)
          rintro e W' ⟨rfl, hb⟩
          exact ⟨_, rfl, hX.later hb (by decide) (by decide), rfl, fun _ _ _ h => rgPv_later h hb⟩
        | 34 => intro o L ho hLi hd a' X hX hfr hdp hno; obtain rfl := Option.some.inj ho; exact opx_move rfl (hfr 3 (by decide)) ⟨hX.later (Below.refl _ _) (by decide) (by decide), rfl, fun _ _ _ h => h⟩
        | 35 => intro o L ho hLi hd a' X hX hfr hdp hno; obtain rfl := Option.some.inj ho; exact opx_field rfl (hfr 6 (by decide)) (.inr (.inl ⟨rfl, .inr (.inr (.inr ⟨rfl, rfl⟩))⟩)) ⟨hX.later (Below.refl _ _) (by decide) (by decide), rfl, fun _ _ _ h => h⟩
        | 36 => intro o L ho hLi hd a' X hX hfr hdp hno; obtain rfl := Option.some.inj ho; exact opx_load23 rfl (hdp 35 53 (by decide) rfl (by kernel_rfl)) ((cell_of_block hX.box (0 + 6)).trans rfl) ((cell_of_block hX.box (0 + 6 + 1)).trans rfl) ⟨hX.later (Below.refl _ _) (by decide) (by decide), rfl, fun _ _ _ h => h⟩
        | 37 =>
          intro o L ho hLi hd a' X hX hfr hdp hno; obtain rfl := Option.some.inj ho
          refine opx_callv rfl (hdp 36 54 (by decide) rfl (by kernel_rfl)) (hdp 34 52 (by decide) rfl (by kernel_rfl)) eg106 ((Right1_any ((R k).lo 3) ((R k).hi 3) 3 (by decide) (by decide) X).mono ?_)
          rintro e W' ⟨rfl, hb⟩
          exact ⟨_, rfl, hX.later hb (by decide) (by decide), rfl, fun _ _ _ h => rgPv_later h hb⟩
        | 38 => intro o L ho hLi hd a' X hX hfr hdp hno; obtain rfl := Option.some.inj ho; exact opx_build32 rfl (hdp 25 43 (by decide) rfl (by kernel_rfl)) (hdp 29 47 (by decide) rfl (by kernel_rfl)) (hdp 33 51 (by decide) rfl (by kernel_rfl)) (hdp 37 55 (by decide) rfl (by kernel_rfl)) ⟨hX.later (Below.refl _ _) (by decide) (by decide), rfl, fun _ _ _ h => h⟩
        | 39 => intro o L ho hLi hd a' X hX hfr hdp hno; obtain rfl := Option.some.inj ho; exact opx_build67 rfl (hdp 1 19 (by decide) rfl (by kernel_rfl)) (hdp 8 26 (by decide) rfl (by kernel_rfl)) (hdp 14 32 (by decide) rfl (by kernel_rfl)) (hdp 21 39 (by decide) rfl (by kernel_rfl)) (hdp 38 56 (by decide) rfl (by kernel_rfl)) ⟨_, rfl⟩ ⟨_, rfl⟩ ⟨_, rfl⟩ ⟨_, rfl⟩ ⟨hX.later (Below.refl _ _) (by decide) (by decide), rfl, fun _ _ _ h => h⟩
        | 40 =>
          intro o L ho hLi hd a' X hX hfr hdp hno; obtain rfl := Option.some.inj ho
          have hb : Below X.heap.size X (X.alloc (.cells (repA (rgRep R k)) 67)) := (Below.refl _ _).alloc (Nat.le_refl _) _
          exact opx_build63 rfl (hdp 39 57 (by decide) rfl (by kernel_rfl)) ⟨hX.later hb (by decide) (by decide), ⟨_, rfl, hX.size, block_new X _⟩, fun _ _ _ h => rgPv_later h hb⟩
        | 41 =>
          intro o L ho hLi hd a' X hX hfr hdp hno; obtain rfl := Option.some.inj ho
          obtain ⟨B, e1, e2, e3⟩ := hdp 40 58 (by decide) rfl (by kernel_rfl)
          have hOX := row_later KO.out (hX.ahead hLi)
          refine opx_append63 rfl (hdp 0 18 (by decide) rfl (by kernel_rfl)) e1 hOX e3 rfl (by omega) hX.below.size (by simp [Value.oneCell']) ?_
          intro v' X' hr' hg'
          have hne : ∀ {bb : Nat} {cs : Array Value} {t : TypeId} {f : Nat × Nat}, X.heap[bb]? = some (.cells cs t f) → t ≠ 67 → some bb ≠ (Value.slice pk k ck).ownBlock := fun hb ht => by
            rcases row_ne hOX hb ht with h | h
            · rw [h]; simp
            · exact fun e => h e.symm
          obtain ⟨g', c', e⟩ := ownsRow_succ hr'
          refine ⟨⟨fun e => by simp at e, hX.below.grown hg' hX.below.size (fun j e => (hvlt j e).1), Nat.le_trans hX.size hg'.size, (hg'.block _ (lt_of_block hX.box) (hne hX.box (by decide))).trans hX.box, fun _ => by simpa using hd 0 (by kernel_rfl), fun _ => by simp⟩, ⟨g', c', e, hr'⟩, ?_⟩
          intro j y hj h
          match j with
          | 0 | 1 | 2 | 3 | 4 | 5 | 6 | 7 | 8 | 9 | 10 | 11 | 12 | 13 | 14 | 15 | 16 | 17 | 18 | 19 | 20 | 21 | 22 | 23 | 24 | 25 | 26 | 27 | 28 | 29 | 30 | 31 | 32 | 33 | 34 | 35 | 36 | 37 | 38 | 39 => exact h
          | 40 => obtain ⟨B', q1, q2, q3⟩ := h; exact ⟨B', q1, q2, (hg'.block B' (lt_of_block q3) (fun e => by have := (hvlt B' e.symm).2; omega)).trans q3⟩
          | 41 => rw [hLi] at hj; cases hj
          | 42 => have := hX.o42 hj; rw [hLi] at this; cases this
          | j + 43 => trivial
        | 42 => intro o L ho hLi hd a' X hX hfr hdp hno; obtain rfl := Option.some.inj ho; exact opx_assign rfl rfl ⟨⟨fun e => hX.ahead (by simpa using e), hX.below, hX.size, hX.box, fun e => by simpa using hX.o41 (by simpa using e), fun _ => by simpa using hd 41 (by kernel_rfl)⟩, hdp 41 59 (by decide) rfl (by kernel_rfl), fun _ _ _ h => h⟩
        | j + 43 => intro o L ho; simp at ho
      case fin =>
        intro X L Vv hLL hX hV
        obtain ⟨g', c', e42, hown⟩ := hV 42 (by decide)
        have HO1 := Lib.hid hown
        have HB1 := Lib.hid hX.below
        simp only [fill, Act.put, List.setIfInBounds_toArray, List.set_cons_zero, List.set_cons_succ, Nat.reduceAdd, e42]
        rw [e42] at HO1
        clear hX hLL hV hown e42 K1 KB KO hO hB
        go_wp2_with fail
        go_roundw
        case rel => exact ⟨k + 1, some ⟨g', 0, none⟩, c', by omega, by go_num, rfl, HO1, HB1⟩
        case measure => simp [intOf]; omega
    · obtain rfl : k = n := by omega
      have HR' := Lib.hid (reps_of_row hO.out)
      go_wp2_with fail
      go_ret
      exact ⟨pk, ck, rfl, HR'.out, hB.out, row_le hO.out⟩
theorem Right_any (p : Option Addr) (n cap : Nat) (R : Nat → Rep) (hn : n ≤ 8) (w : World) (hR : RepsO w p n R) :
    Calls Tryd.prog 53 #[.slice p n cap] w fun e w' => ∃ p' c', e = .returned (.slice p' n c') ∧ Reps w' p' n (rgRep R) ∧ Below w.heap.size w w' :=
  (Right_full p n cap R hn w hR).mono fun _ _ ⟨p', c', h1, h2, h3, _⟩ => ⟨p', c', h1, h2, h3⟩
end Go.Proofs.YtdcpmdigihbdpaaDoor
