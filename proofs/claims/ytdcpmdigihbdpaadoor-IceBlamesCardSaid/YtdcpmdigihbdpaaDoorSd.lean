/- Operations inside a round, and lists of places in memory: what the contract of ice.Blame needs. No condition. -/
import Derived.Test.YtdcpmdigihbdpaaDoorSc
import Derived.Test.YtdcpmdigihbdpaaDoorRz
namespace Go.Proofs.YtdcpmdigihbdpaaDoor
open Go.RowKit Go.Shelf
attribute [local go_sem] Oper.semAt_some
set_option maxRecDepth 100000
section
variable {Q : Exit → Act → World → Prop} {o : Oper} {a : Act} {W W' : World} {R : Value → World → Prop} {lp nn : Nat}
theorem opIn_val {x : Value} (hnd : ∀ c, o.op ≠ .defer c) (h : (execOp a.eval o).run Tryd.prog W = .ok (.value x) W') (hR : R x W') : o.wpIn (Fence.wide.inRound lp) nn Tryd.prog a W (fun a'' W'' => ∃ x, a'' = a.put o.dst x ∧ R x W'') Q := by
  refine ⟨fun f _ => trivial, ?_⟩
  rw [show (Fence.wide.inRound lp).round = some lp from rfl, Oper.semAt_some lp _ _ hnd, h]
  exact ⟨x, rfl, hR⟩
theorem opIn_skip (hnd : ∀ c, o.op ≠ .defer c) (h : (execOp a.eval o).run Tryd.prog W = .ok .skip W') (hR : R undef W') : o.wpIn (Fence.wide.inRound lp) nn Tryd.prog a W (fun a'' W'' => ∃ x, a'' = a.put o.dst x ∧ R x W'') Q := by
  refine ⟨fun f _ => trivial, ?_⟩
  rw [show (Fence.wide.inRound lp).round = some lp from rfl, Oper.semAt_some lp _ _ hnd, h]
  exact ⟨undef, rfl, hR⟩
theorem opIn_load84 {s b : Nat} {v : Value} (hop : o.op = Op.load 84 (.tmp s)) (he : a.eval (.tmp s) = .pointer (some ⟨b, 0, none⟩)) (hc : W.cell? ⟨b, 0, none⟩ = some v) (hR : R v W) : o.wpIn (Fence.wide.inRound lp) nn Tryd.prog a W (fun a'' W'' => ∃ x, a'' = a.put o.dst x ∧ R x W'') Q := by
  have he' : a.tmps[s]?.getD undef = .pointer (some ⟨b, 0, none⟩) := by simpa [Act.eval] using he
  refine opIn_val (by rw [hop]; intro c h; cases h) (x := v) (W' := W) ?_ hR
  unfold execOp
  rw [hop]
  simp [go_sem, he', hc]
theorem opIn_load63 {s b : Nat} {v : Value} (hop : o.op = Op.load 63 (.tmp s)) (he : a.eval (.tmp s) = .pointer (some ⟨b, 0, none⟩)) (hc : W.cell? ⟨b, 0, none⟩ = some v) (hR : R v W) : o.wpIn (Fence.wide.inRound lp) nn Tryd.prog a W (fun a'' W'' => ∃ x, a'' = a.put o.dst x ∧ R x W'') Q := by
  have he' : a.tmps[s]?.getD undef = .pointer (some ⟨b, 0, none⟩) := by simpa [Act.eval] using he
  refine opIn_val (by rw [hop]; intro c h; cases h) (x := v) (W' := W) ?_ hR
  unfold execOp
  rw [hop]
  simp [go_sem, he', hc]
theorem opIn_load152 {k b : Nat} {ty : TypeId} {s : Nat → Bool} (hop : o.op = Op.load 152 (.tmp k)) (he : a.eval (.tmp k) = .pointer (some ⟨b, 0, none⟩)) (hb : W.heap[b]? = some (.cells (setA s) ty (0, 0))) (hR : R (.agg (setA s)) W) : o.wpIn (Fence.wide.inRound lp) nn Tryd.prog a W (fun a'' W'' => ∃ x, a'' = a.put o.dst x ∧ R x W'') Q := by
  obtain ⟨c0, c1, c2, c3, c4, c5, c6, c7, c8, c9, c10, c11⟩ := cells12 hb
  have he' : a.tmps[k]?.getD undef = .pointer (some ⟨b, 0, none⟩) := by simpa [Act.eval] using he
  refine opIn_val (by rw [hop]; intro c h; cases h) (x := .agg (setA s)) (W' := W) ?_ hR
  unfold execOp
  rw [hop]
  simp [go_sem, he', c0, c1, c2, c3, c4, c5, c6, c7, c8, c9, c10, c11]
theorem opIn_len {s n cap : Nat} {p : Option Addr} {t : TypeId} {e : TypeId} (ht : Tryd.prog.underlying t = some (.slice e)) (hop : o.op = Op.call { callee := .builtin .len, args := #[.tmp s], argTypes := #[t] }) (he : a.eval (.tmp s) = .slice p n cap) (hR : R (.int .i64 n) W) : o.wpIn (Fence.wide.inRound lp) nn Tryd.prog a W (fun a'' W'' => ∃ x, a'' = a.put o.dst x ∧ R x W'') Q := by
  have he' : a.tmps[s]?.getD undef = .slice p n cap := by simpa [Act.eval] using he
  refine opIn_val (by rw [hop]; intro c h; cases h) (x := .int .i64 n) (W' := W) ?_ hR
  unfold execOp
  rw [hop]
  simp [go_sem, he', ht]
theorem opIn_call2 {f s t : Nat} {v u : Value} {ts : Array TypeId} (hop : o.op = Op.call { callee := .value (.func f), args := #[.tmp s, .tmp t], argTypes := ts })
    (he : a.eval (.tmp s) = v) (hu : a.eval (.tmp t) = u) (eg : ∀ args w, (callFunc f args).run Tryd.prog w = .ok (.enter f args) w) (hc : Calls Tryd.prog f #[v, u] W fun e w' => ∃ x, e = .returned x ∧ R x w') :
    o.wpIn (Fence.wide.inRound lp) nn Tryd.prog a W (fun a'' W'' => ∃ x, a'' = a.put o.dst x ∧ R x W'') Q := by
  have he' : a.tmps[s]?.getD undef = v := by simpa [Act.eval] using he
  have hu' : a.tmps[t]?.getD undef = u := by simpa [Act.eval] using hu
  refine ⟨fun f _ => trivial, ?_⟩
  rw [show (Fence.wide.inRound lp).round = some lp from rfl, Oper.semAt_some lp _ _ (by rw [hop]; intro c h; cases h)]
  have hr : (execOp a.eval o).run Tryd.prog W = .ok (.enter f #[v, u]) W := by
    unfold execOp
    rw [hop]
    simp [go_sem, he', hu', eg]
  rw [hr]
  refine ⟨fun h => by simp [Fence.inRound, Fence.wide] at h, (CallsIn.inRound lp (callsIn_wide.2 hc)).mono ?_⟩
  rintro e w' ⟨x, rfl, hR⟩
  exact ⟨x, rfl, hR⟩
theorem opIn_build84 {s n c : Nat} {p : Option Addr} (hop : o.op = Op.buildSlice 84 1 #[(0, .tmp s)]) (he : a.eval (.tmp s) = .slice p n c) (hR : R (.slice (some ⟨W.heap.size, 0, none⟩) 1 1) (W.alloc (.cells #[.slice p n c] 89))) :
    o.wpIn (Fence.wide.inRound lp) nn Tryd.prog a W (fun a'' W'' => ∃ x, a'' = a.put o.dst x ∧ R x W'') Q := by
  have he' : a.tmps[s]?.getD undef = .slice p n c := by simpa [Act.eval] using he
  refine opIn_val (by rw [hop]; intro c h; cases h) (x := .slice (some ⟨W.heap.size, 0, none⟩) 1 1) (W' := W.alloc (.cells #[.slice p n c] 89)) ?_ hR
  unfold execOp
  rw [hop]
  simp [go_sem, he']
theorem opIn_append84 {s t g n : Nat} {base : Nat} {v : Value} {xs : List Value} {u : Value} (hop : o.op = Op.call { callee := .builtin .append, args := #[.tmp s, .tmp t], argTypes := #[84, 84] })
    (he : a.eval (.tmp s) = v) (ht : a.eval (.tmp t) = .slice (some ⟨g, 0, none⟩) 1 1) (hown : W.ownsRow base 89 1 v n xs) (hg : W.heap[g]? = some (.cells #[u] 89 (0, 0))) (h1 : u.oneCell' = true) (hn : n ≤ 5000) (hb : base ≤ W.heap.size)
    (hR : ∀ v' W', W'.ownsRow base 89 1 v' (n + 1) (xs ++ [u]) → W.grownBy W' v.ownBlock → R v' W') : o.wpIn (Fence.wide.inRound lp) nn Tryd.prog a W (fun a'' W'' => ∃ x, a'' = a.put o.dst x ∧ R x W'') Q := by
  obtain ⟨i0, hi, hz0, hz1, hz2⟩ := info_parts info89
  obtain ⟨v', w', hr, h2, h3, _⟩ := run_append_own (P := Tryd.prog) W base 84 o.type 89 i0 (.slice none 0 0) 1 24 und84 hi hz0 hz1 hz2 rfl (by decide) v n xs hown ⟨g, 0, none⟩ 1 1 [u] rfl (World.news_of_block hg) (by simpa using h1) (by simp only [maxLen]; omega) (by omega) hb
  refine opIn_val (by rw [hop]; intro c h; cases h) (x := v') (W' := w') ?_ (hR v' w' h2 h3)
  unfold execOp
  simp only [hop, resolve, invoke, builtin, Sem.run_bind, Sem.run_pure, Result.andThen_ok, List.map_toArray, List.map_cons, List.map_nil, he, ht, hr]
theorem opIn_store84 {k r b g n cap : Nat} {u : Value} (hop : o.op = Op.store 84 (.tmp k) (.tmp r)) (he : a.eval (.tmp k) = .pointer (some ⟨b, 0, none⟩)) (hv : a.eval (.tmp r) = .slice (some ⟨g, 0, none⟩) n cap) (hb : Boxed W b 84 u)
    (hR : R undef (W.setCell ⟨b, 0, none⟩ (.slice (some ⟨g, 0, none⟩) n cap))) : o.wpIn (Fence.wide.inRound lp) nn Tryd.prog a W (fun a'' W'' => ∃ x, a'' = a.put o.dst x ∧ R x W'') Q := by
  have he' : a.tmps[k]?.getD undef = .pointer (some ⟨b, 0, none⟩) := by simpa [Act.eval] using he
  have hv' : a.tmps[r]?.getD undef = .slice (some ⟨g, 0, none⟩) n cap := by simpa [Act.eval] using hv
  have hc := hb.cell
  have hf := hb.frozen
  refine opIn_skip (by rw [hop]; intro c h; cases h) (W' := W.setCell ⟨b, 0, none⟩ (.slice (some ⟨g, 0, none⟩) n cap)) ?_ hR
  unfold execOp
  rw [hop]
  simp [go_sem, he', hv', hc, hf]
end
/-- Lists of places, each in a slice of its own. -/
def Lists (W : World) (base : Nat) (v : Value) (ls : List (List Nat)) : Prop := ∃ vs, W.ownsRow base 89 1 v ls.length vs ∧ vs.length = ls.length ∧ ∀ j (h : j < ls.length), ∃ u, vs[j]? = some u ∧ Outs W base u (ls[j]'h)
/-- The block of a row is not a block of another type. -/
theorem row_ne {W : World} {base size n : Nat} {e t : TypeId} {v : Value} {xs : List Value} (h : W.ownsRow base e size v n xs) {r : Nat} {cs : Array Value} {f : Nat × Nat} (hb : W.heap[r]? = some (.cells cs t f)) (hte : t ≠ e) : v.ownBlock = none ∨ v.ownBlock ≠ some r := by
  rcases h.2 with ⟨rfl, _⟩ | ⟨g, cap, cur, rfl, _, hg, _⟩
  · exact .inl rfl
  · refine .inr fun e' => ?_
    obtain rfl : g = r := by simpa [Value.ownBlock] using e'
    rw [hg] at hb
    simp at hb
    exact hte hb.2.1.symm
theorem row_ne_row {W : World} {base size n base' size' n' : Nat} {e t : TypeId} {v u : Value} {xs ys : List Value} (h : W.ownsRow base e size v n xs) (k : W.ownsRow base' t size' u n' ys) (hte : t ≠ e) : v.ownBlock = none ∨ v.ownBlock ≠ u.ownBlock := by
  rcases k.2 with ⟨rfl, _⟩ | ⟨g, cap, cur, rfl, _, hg, _⟩
  · cases hv : v.ownBlock with
    | none => exact .inl rfl
    | some g => exact .inr (by simp [Value.ownBlock])
  · exact row_ne h hg hte
theorem Outs.kept {W W' : World} {base : Nat} {row : Option Nat} {u : Value} {l : List Nat} (h : Outs W base u l) (hg : W.grownBy W' row) (hn : u.ownBlock = none ∨ u.ownBlock ≠ row) : Outs W' base u l := ⟨h.row.kept hg hn, h.nil⟩
theorem Lists.kept {W W' : World} {base : Nat} {row : Option Nat} {v : Value} {ls : List (List Nat)} (h : Lists W base v ls) (hg : W.grownBy W' row) (hv : v.ownBlock = none ∨ v.ownBlock ≠ row) (hu : ∀ u l, Outs W base u l → u.ownBlock = none ∨ u.ownBlock ≠ row) : Lists W' base v ls := by
  obtain ⟨vs, h1, h2, h3⟩ := h
  refine ⟨vs, h1.kept hg hv, h2, fun j hj => ?_⟩
  obtain ⟨u, e, ho⟩ := h3 j hj
  exact ⟨u, e, ho.kept hg (hu u _ ho)⟩
theorem own_none (v : Value) : v.ownBlock = none ∨ v.ownBlock ≠ none := by cases v.ownBlock <;> simp
theorem Outs.later {W W' : World} {base : Nat} {u : Value} {l : List Nat} (h : Outs W base u l) (hb : Below W.heap.size W W') : Outs W' base u l := h.kept (grown_below hb) (own_none _)
theorem Lists.later {W W' : World} {base : Nat} {v : Value} {ls : List (List Nat)} (h : Lists W base v ls) (hb : Below W.heap.size W W') : Lists W' base v ls := h.kept (grown_below hb) (own_none _) (fun u _ _ => own_none u)
theorem Lists.box {W : World} {base b : Nat} {v y x : Value} {t : TypeId} {ls : List (List Nat)} (h : Lists W base v ls) (hb : Boxed W b t x) (h1 : t ≠ 89) (h2 : t ≠ 3) : Lists (W.setCell ⟨b, 0, none⟩ y) base v ls := by
  obtain ⟨vs, k1, _, _⟩ := id h
  exact h.kept (grownBy_setCell' W b y) (row_ne k1 hb h1) (fun u l ho => row_ne ho.row hb h2)
theorem Outs.box {W : World} {base b : Nat} {u y x : Value} {t : TypeId} {l : List Nat} (h : Outs W base u l) (hb : Boxed W b t x) (h2 : t ≠ 3) : Outs (W.setCell ⟨b, 0, none⟩ y) base u l :=
  h.kept (grownBy_setCell' W b y) (row_ne h.row hb h2)
theorem Lists.nil (W : World) (base : Nat) : Lists W base (.slice none 0 0) [] := ⟨[], World.ownsRow_nil _ _ _ _, rfl, fun j h => by cases h⟩
theorem lists_own {β : Type} (B base b : Nat) (f : β → List (List Nat)) : OwnFrom B (fun s W => ∃ v, Boxed W b 84 v ∧ Lists W base v (f s)) := by
  rintro s X Y row ⟨v, hv, hL⟩ hg hr
  have hne : ∀ {e : TypeId} {size n : Nat} {u : Value} {xs : List Value}, X.ownsRow base e size u n xs → u.ownBlock = none ∨ u.ownBlock ≠ row := by
    intro e size n u xs h
    rcases h.2 with ⟨rfl, _⟩ | ⟨g, cap, cur, rfl, _, hgb, _⟩
    · exact .inl rfl
    · refine .inr fun e' => ?_
      obtain ⟨_, o, ho, hc⟩ := hr g (by simpa [Value.ownBlock] using e'.symm)
      rw [hgb] at ho; cases ho; cases hc
  obtain ⟨vs, k1, _, _⟩ := id hL
  exact ⟨v, hv.kept hg (fun e' => by obtain ⟨_, o, ho, hc⟩ := hr b e'.symm; rw [show X.heap[b]? = _ from hv] at ho; cases ho; cases hc), hL.kept hg (hne k1) (fun u l ho => hne ho.row)⟩
theorem Lists.snoc {W W' : World} {base : Nat} {v v' u : Value} {ls : List (List Nat)} {l : List Nat} (h : Lists W base v ls) (ho : Outs W base u l) (hg : W.grownBy W' v.ownBlock) (hw : ∀ xs, W.ownsRow base 89 1 v ls.length xs → W'.ownsRow base 89 1 v' (ls.length + 1) (xs ++ [u])) : Lists W' base v' (ls ++ [l]) := by
  obtain ⟨vs, k1, k2, k3⟩ := h
  refine ⟨vs ++ [u], by simpa using hw vs k1, by simp [k2], fun j hj => ?_⟩
  by_cases e : j < ls.length
  · obtain ⟨u', e1, e2⟩ := k3 j e
    refine ⟨u', by rw [List.getElem?_append_left (by omega)]; exact e1, ?_⟩
    rw [List.getElem_append_left e]
    exact e2.kept hg (row_ne_row e2.row k1 (by decide))
  · have hj' : j = ls.length := by simp at hj; omega
    subst hj'
    refine ⟨u, by rw [List.getElem?_append_right (by omega)]; simp [k2], ?_⟩
    simp only [List.getElem_append_right (Nat.le_refl _), Nat.sub_self, List.getElem_cons_zero]
    exact ho.kept hg (row_ne_row ho.row k1 (by decide))
end Go.Proofs.YtdcpmdigihbdpaaDoor
