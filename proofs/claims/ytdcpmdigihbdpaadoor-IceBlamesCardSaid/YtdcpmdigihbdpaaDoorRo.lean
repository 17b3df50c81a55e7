/- The contract of work.check's closure: a report is right, its Id is new, it is not astray, not after now, and not one too many of its cell; or the error. -/
import Derived.Test.YtdcpmdigihbdpaaDoorRn
namespace Go.Proofs.YtdcpmdigihbdpaaDoor
open Go.RowKit
set_option maxRecDepth 100000
variable {Q : Exit → Act → World → Prop}
theorem op_load173 {o : Oper} {a' : Act} {W : World} {s b : Nat} {v : Value} (hop : o.op = Op.load 173 (.tmp s)) (he : a'.eval (.tmp s) = .pointer (some ⟨b, 0, none⟩)) (hc : W.cell? ⟨b, 0, none⟩ = some v) :
    o.wp Tryd.prog a' W (fun a'' W' => a'' = a'.put o.dst v ∧ W' = W) Q := by
  have he' : a'.tmps[s]?.getD undef = .pointer (some ⟨b, 0, none⟩) := by simpa [Act.eval] using he
  unfold Oper.wp execOp
  rw [hop]
  simp [go_sem, he', hc]
theorem op_load77 {o : Oper} {a' : Act} {W : World} {s b : Nat} {v0 v1 : Value} (hop : o.op = Op.load 77 (.tmp s)) (he : a'.eval (.tmp s) = .pointer (some ⟨b, 0, none⟩)) (hc : W.cell? ⟨b, 0, none⟩ = some v0) (hd : W.cell? ⟨b, 1, none⟩ = some v1) :
    o.wp Tryd.prog a' W (fun a'' W' => a'' = a'.put o.dst (.agg #[v0, v1]) ∧ W' = W) Q := by
  have he' : a'.tmps[s]?.getD undef = .pointer (some ⟨b, 0, none⟩) := by simpa [Act.eval] using he
  unfold Oper.wp execOp
  rw [hop]
  simp [go_sem, he', hc, hd]
theorem op_look {o : Oper} {a' : Act} {W : World} {s r : Nat} {m key v : Value} {ty : TypeId} (hop : o.op = Op.lookup ty (.tmp s) (.tmp r) false) (he : a'.eval (.tmp s) = m) (hk : a'.eval (.tmp r) = key) (hr : (Instr.lookup ty m key false).run Tryd.prog W = .ok v W) :
    o.wp Tryd.prog a' W (fun a'' W' => a'' = a'.put o.dst v ∧ W' = W) Q := by
  unfold Oper.wp execOp
  rw [hop]
  simp [he, hk, hr, Result.andThen, Oper.upon]
theorem op_add1 {o : Oper} {a' : Act} {W : World} {s : Nat} {c : Int} (hop : o.op = Op.binOp BinOp.add 3 (.tmp s) (.const (.int .i64 1)) 3) (he : a'.eval (.tmp s) = .int .i64 c) (hc : i64 (c + 1)) :
    o.wp Tryd.prog a' W (fun a'' W' => a'' = a'.put o.dst (.int .i64 (c + 1)) ∧ W' = W) Q := by
  have he' : a'.tmps[s]?.getD undef = .int .i64 c := by simpa [Act.eval] using he
  have hw : IntKind.i64.wrap (c + 1) = c + 1 := by unfold i64 at hc; rw [IntKind.wrap_i64]; omega
  unfold Oper.wp execOp
  rw [hop]
  simp [go_sem, he', hw]
theorem op_entry {o : Oper} {a' : Act} {W W1 : World} {s r : Nat} {m key v : Value} (hop : o.op = Op.mapEntry 173 (.tmp s) (.tmp r)) (he : a'.eval (.tmp s) = m) (hk : a'.eval (.tmp r) = key) (hr : (Instr.mapEntry 173 m key).run Tryd.prog W = .ok v W1) :
    o.wp Tryd.prog a' W (fun a'' W' => a'' = a'.put o.dst v ∧ W' = W1) Q := by
  unfold Oper.wp execOp
  rw [hop]
  simp [he, hk, hr, Result.andThen, Oper.upon]
theorem op_extract1 {o : Oper} {a' : Act} {W : World} {s : Nat} {v u : Value} (hop : o.op = Op.extract (.tmp s) 1) (he : a'.eval (.tmp s) = .tuple #[v, u]) :
    o.wp Tryd.prog a' W (fun a'' W' => a'' = a'.put o.dst u ∧ W' = W) Q := by
  have he' : a'.tmps[s]?.getD undef = .tuple #[v, u] := by simpa [Act.eval] using he
  unfold Oper.wp execOp
  rw [hop]
  simp [go_sem, he']
theorem list_entryStore {ops : Array Oper} {o : Oper} {rest : List Oper} {a : Act} {W W' : World} {s r t : Nat} {m k v : Value} (hg : o.guard = none) (hd : o.dst = none) (hop : o.op = Op.entryStore 173 (.tmp s) (.tmp r) (.tmp t))
    (he : a.eval (.tmp s) = m) (hk : a.eval (.tmp r) = k) (hv : a.eval (.tmp t) = v) (hr : (Instr.entryStore 173 m k v).run Tryd.prog W = .ok () W') (hK : wpList Tryd.prog ops Q rest a W') : wpList Tryd.prog ops Q (o :: rest) a W := by
  refine list_store hg hd ?_ hK
  unfold execOp
  rw [hop]
  simp [he, hk, hv, hr, Result.andThen]
theorem list_put172 {ops : Array Oper} {o : Oper} {rest : List Oper} {a : Act} {W W' : World} {s r : Nat} {m k v : Value} (hg : o.guard = none) (hd : o.dst = none) (hop : o.op = Op.mapUpdate 172 (.tmp s) (.tmp r) (.const v))
    (he : a.eval (.tmp s) = m) (hk : a.eval (.tmp r) = k) (hr : (Instr.mapUpdate 172 m k v).run Tryd.prog W = .ok () W') (hK : wpList Tryd.prog ops Q rest a W') : wpList Tryd.prog ops Q (o :: rest) a W := by
  have he' : a.tmps[s]?.getD undef = m := by simpa [Act.eval] using he
  have hk' : a.tmps[r]?.getD undef = k := by simpa [Act.eval] using hk
  refine list_store hg hd ?_ hK
  unfold execOp
  rw [hop]
  simp [Act.eval, he', hk', hr, Result.andThen]
/-- All blocks but two lie as they lay. -/
def But2 (m c : Nat) (W W' : World) : Prop := W'.os = W.os ∧ W'.tape = W.tape ∧ W'.output = W.output ∧ W.heap.size ≤ W'.heap.size ∧ ∀ k, k < W.heap.size → k ≠ m → k ≠ c → W'.heap[k]? = W.heap[k]?
theorem But2.of_below {m c : Nat} {W W' : World} (h : Below W.heap.size W W') : But2 m c W W' := ⟨h.os, h.tape, h.output, h.size, fun k hk _ _ => h.block k hk⟩
theorem But2.trans {m c : Nat} {A B C : World} (h : But2 m c A B) (k : But2 m c B C) : But2 m c A C :=
  ⟨k.1.trans h.1, k.2.1.trans h.2.1, k.2.2.1.trans h.2.2.1, Nat.le_trans h.2.2.2.1 k.2.2.2.1, fun i hi h1 h2 => (k.2.2.2.2 i (Nat.lt_of_lt_of_le hi h.2.2.2.1) h1 h2).trans (h.2.2.2.2 i hi h1 h2)⟩
theorem But2.of_grown {m c : Nat} {W W' : World} {row : Nat} (h : W.grownBy W' (some row)) (hr : row = m ∨ row = c) : But2 m c W W' :=
  ⟨h.os, h.tape, h.output, h.size, fun k hk h1 h2 => h.block k hk (fun e => by cases e; rcases hr with e | e <;> omega)⟩
theorem But2.below {m c B : Nat} {W W' : World} (h : But2 m c W W') (hm : B ≤ m) (hc : B ≤ c) (hB : B ≤ W.heap.size) : Below B W W' :=
  ⟨h.1, h.2.1, h.2.2.1, h.2.2.2.1, fun k hk => h.2.2.2.2 k (by omega) (by omega) (by omega)⟩
def errC (r : Rep) (now : Int) (seen ast : Bool) (cnt : Int) : Int := if okRep r = false then 20 else if seen = true then 10 else if ast = true then 1 else if now < r.hour then 12 else if cnt = 12 then 2 else 0
theorem okRep_i64 {r : Rep} (h : okRep r = true) : i64 r.id ∧ i64 r.x ∧ i64 r.y := by
  unfold okRep at h
  simp only [Bool.and_eq_true, inB, decide_eq_true_eq] at h
  obtain ⟨⟨⟨⟨⟨⟨r0, r1⟩, r2⟩, r3⟩, r4⟩, r5⟩, r6⟩ := h
  unfold i64; omega
structure Boxes (W : World) (r : Rep) (u d : Nat → Int) (now : Int) (sl : Value) (g : Nat) (lb : Array Value) (Br Bt Bi Ba Bw Bc mi mc : Nat) : Prop where
  lim : Lim W
  br : W.heap[Br]? = some (.cells (repA r) 67 (0, 0))
  bt : W.heap[Bt]? = some (.cells #[.int .i64 r.x, .int .i64 r.y] 77 (0, 0))
  bi : W.heap[Bi]? = some (.cells #[.map (some mi)] 172 (0, 0))
  ba : W.heap[Ba]? = some (.cells #[.func (.func g) #[] lb] 141 (0, 0))
  bw : W.heap[Bw]? = some (.cells (workA u d now sl) 139 (0, 0))
  bc : W.heap[Bc]? = some (.cells #[.map (some mc)] 173 (0, 0))
variable {r : Rep} {u d : Nat → Int} {now : Int} {sl : Value} {g : Nat} {lb : Array Value} {Br Bt Bi Ba Bw Bc mi mc : Nat}
theorem Boxes.later {w W : World} (h : Boxes w r u d now sl g lb Br Bt Bi Ba Bw Bc mi mc) (hb : Below w.heap.size w W) : Boxes W r u d now sl g lb Br Bt Bi Ba Bw Bc mi mc :=
  have k := fun {B : Nat} {o : Obj} (e : w.heap[B]? = some o) => (hb.block B (lt_of_block e)).trans e
  ⟨h.lim.below h.lim.pos hb, k h.br, k h.bt, k h.bi, k h.ba, k h.bw, k h.bc⟩
theorem ids_ne {W : World} {m k : Nat} {f : Int → Bool} (h : Ids W m k f) {B : Nat} {vs : Array Value} {t : TypeId} {x : Nat × Nat} (hB : W.heap[B]? = some (.cells vs t x)) : B ≠ m := by
  rintro rfl
  obtain ⟨D, ⟨es, cl, hb, _⟩, _⟩ := h
  rw [hb] at hB; cases hB
theorem came_ne {W : World} {m k : Nat} {f : Int → Int → Int} (h : Came W m k f) {B : Nat} {vs : Array Value} {t : TypeId} {x : Nat × Nat} (hB : W.heap[B]? = some (.cells vs t x)) : B ≠ m := by
  rintro rfl
  obtain ⟨D, ⟨es, cl, hb, _⟩, _⟩ := h
  rw [hb] at hB; cases hB
theorem cell_block {W : World} {B : Nat} {v : Value} {o : Nat} (h : W.cell? ⟨B, o, none⟩ = some v) : ∃ vs t x, W.heap[B]? = some (.cells vs t x) := by
  unfold World.cell? at h
  cases e : W.heap[B]? with
  | none => simp [e] at h
  | some o =>
    cases o with
    | cells vs t x => exact ⟨vs, t, x, rfl⟩
    | _ => simp [e] at h
theorem Boxes.grown {w W : World} {m : Nat} (h : Boxes w r u d now sl g lb Br Bt Bi Ba Bw Bc mi mc) (hg : w.grownBy W (some m)) (hm : ∀ {B : Nat} {vs : Array Value} {t : TypeId} {x : Nat × Nat}, w.heap[B]? = some (.cells vs t x) → B ≠ m) : Boxes W r u d now sl g lb Br Bt Bi Ba Bw Bc mi mc :=
  have k := fun {B : Nat} {vs : Array Value} {t : TypeId} {x : Nat × Nat} (e : w.heap[B]? = some (.cells vs t x)) => (hg.block B (lt_of_block e) (fun e' => hm e (by simpa using e'))).trans e
  have kc := fun {o : Nat} {v : Value} (e : w.cell? ⟨0, o, none⟩ = some v) => show W.cell? ⟨0, o, none⟩ = some v from by
    obtain ⟨vs, t, x, hb⟩ := cell_block e
    exact (World.cell?_of_block (a := ⟨0, o, none⟩) ((k hb).trans hb.symm)).trans e
  ⟨⟨kc h.lim.1, kc h.lim.2.1, kc h.lim.2.2.1, kc h.lim.2.2.2⟩, k h.br, k h.bt, k h.bi, k h.ba, k h.bw, k h.bc⟩
theorem Boxes.look {W : World} (h : Boxes W r u d now sl g lb Br Bt Bi Ba Bw Bc mi mc) :
    W.cell? ⟨Bi, 0, none⟩ = some (.map (some mi)) ∧ W.cell? ⟨Ba, 0, none⟩ = some (.func (.func g) #[] lb) ∧ W.cell? ⟨Bc, 0, none⟩ = some (.map (some mc)) ∧ W.cell? ⟨Bw, 8, none⟩ = some (.int .i64 now) ∧
    W.cell? ⟨Bt, 0, none⟩ = some (.int .i64 r.x) ∧ W.cell? ⟨Bt, 1, none⟩ = some (.int .i64 r.y) :=
  ⟨(cell_of_block h.bi 0).trans rfl, (cell_of_block h.ba 0).trans rfl, (cell_of_block h.bc 0).trans rfl, (cell_of_block h.bw 8).trans rfl, (cell_of_block h.bt 0).trans rfl, (cell_of_block h.bt 1).trans rfl⟩
set_option maxHeartbeats 4000000 in
theorem check1_any (r : Rep) (u d : Nat → Int) (now : Int) (sl : Value) (f : Int → Bool) (c : Int → Int → Int) (k : Nat) (hk : k ≤ 400) (hcb : ∀ x y, 0 ≤ c x y ∧ c x y ≤ 400) (ast : Bool) (g : Nat) (lb : Array Value) (eg : ∀ args w, (callFunc g args).run Tryd.prog w = .ok (.enter g args) w)
    (Bi Ba Bw Bc mi mc : Nat) (w : World) (hl : Lim w) (hBi : w.heap[Bi]? = some (.cells #[.map (some mi)] 172 (0, 0))) (hBa : w.heap[Ba]? = some (.cells #[.func (.func g) #[] lb] 141 (0, 0)))
    (hBw : w.heap[Bw]? = some (.cells (workA u d now sl) 139 (0, 0))) (hBc : w.heap[Bc]? = some (.cells #[.map (some mc)] 173 (0, 0))) (hi : Ids w mi k f) (hc : Came w mc k c) (hne : mi ≠ mc)
    (has : ∀ W, Below w.heap.size w W → Calls Tryd.prog g (#[.agg (repA r)] ++ lb) W fun e W' => e = .returned (.bool ast) ∧ Below W.heap.size W W') :
    Calls Tryd.prog 117 #[.agg (repA r), .pointer (some ⟨Bi, 0, none⟩), .pointer (some ⟨Ba, 0, none⟩), .pointer (some ⟨Bw, 0, none⟩), .pointer (some ⟨Bc, 0, none⟩)] w fun e w' => e = .returned (.int .i64 (errC r now (f r.id) ast (c r.x r.y))) ∧ But2 mi mc w w' ∧
      (errC r now (f r.id) ast (c r.x r.y) = 0 → Ids w' mi (k + 1) (fun z => f z || z == r.id) ∧ Came w' mc (k + 1) (fun x y => if x = r.x ∧ y = r.y then c r.x r.y + 1 else c x y)) := by
  have hpos := hl.pos
  have lBi := lt_of_block hBi
  have lBa := lt_of_block hBa
  have lBw := lt_of_block hBw
  have lBc := lt_of_block hBc
  have lmi := hi.lt
  have lmc := hc.lt
  have HL := Lib.hid hl
  have HI := Lib.hid hi
  have HC := Lib.hid hc
  have GI := Lib.hid hBi
  have GA := Lib.hid hBa
  have GW := Lib.hid hBw
  have GC := Lib.hid hBc
  have HS := Lib.hid has
  have HCB := Lib.hid hcb
  clear hl hi hc hBi hBa hBw hBc has hcb
  go_enter Tryd.func117, Tryd.ntmps117
  have h2 := two_allocs w (.cells (repA r) 67) (.cells #[.int .i64 r.x, .int .i64 r.y] 77)
  obtain ⟨k0, k1, k2, k3, k4, k5, k6, k7, k8, k9, k10, k11, k12, k13⟩ := cells14 (block_new w (.cells (repA r) 67))
  obtain ⟨e0, e1, e2, e3, e4, e5, e6, e7, e8, e9, e10, e11, e12, e13⟩ := cells14 h2.1
  go_wp2_with fail
  have HX := Lib.hid (show Boxes ((w.alloc (.cells (repA r) 67)).alloc (.cells #[.int .i64 r.x, .int .i64 r.y] 77)) r u d now sl g lb w.heap.size (w.heap.size + 1) Bi Ba Bw Bc mi mc from
    have b := h2.2.2.2
    ⟨HL.out.below hpos b, h2.1, h2.2.1, (b.block _ lBi).trans GI.out, (b.block _ lBa).trans GA.out, (b.block _ lBw).trans GW.out, (b.block _ lBc).trans GC.out⟩)
  have HB := Lib.hid h2.2.2.2
  have HI2 := Lib.hid (HI.out.heap (HB.out.block _ lmi))
  have HC2 := Lib.hid (HC.out.heap (HB.out.block _ lmc))
  have hz := h2.2.2.1
  clear k0 k1 k2 k3 k4 k5 k6 k7 k8 k9 k10 k11 k12 k13 e0 e1 e2 e3 e4 e5 e6 e7 e8 e9 e10 e11 e12 e13 GI GA GW GC HI HC HL lBi lBa lBw lBc
  have hlim2 := HX.out.lim
  generalize (w.alloc (.cells (repA r) 67)).alloc (.cells #[.int .i64 r.x, .int .i64 r.y] 77) = V at *
  refine (rightReport_any r V hlim2).mono ?_
  clear hlim2 h2
  rintro e W3 ⟨rfl, hb3⟩
  have HX3 := Lib.hid (HX.out.later hb3)
  have HB3 := Lib.hid (HB.out.trans (hb3.mono HB.out.size))
  have HI3 := Lib.hid (HI2.out.heap (hb3.block _ (by omega)))
  have HC3 := Lib.hid (HC2.out.heap (hb3.block _ (by omega)))
  have z3 := hb3.size
  clear hb3 HX HI2 HC2 HB
  cases hok : okRep r with
  | false =>
    have HE := Lib.hid (show errC r now (f r.id) ast (c r.x r.y) = 20 by simp [errC, hok])
    clear hok
    go_wp2_with fail
    go_ret
    exact ⟨by rw [HE.out]; rfl, But2.of_below HB3.out, fun h => absurd h (by rw [HE.out]; decide)⟩
  | true =>
    obtain ⟨i1, i2, i3⟩ := okRep_i64 hok
    have HO := Lib.hid hok
    clear hok
    obtain ⟨x0, x1, x2, x3, x4, x5⟩ := HX3.out.look
    obtain ⟨y0, y1, y2, y3, y4, y5, y6, y7, y8, y9, y10, y11, y12, y13⟩ := cells14 HX3.out.br
    have hlook := HI3.out.look i1
    cases hf : f r.id with
    | true =>
      rw [hf] at hlook
      have HE := Lib.hid (show errC r now (f r.id) ast (c r.x r.y) = 10 by simp [errC, HO.out, hf])
      clear hf
      go_wp2_with fail
      go_ret
      exact ⟨by rw [HE.out]; rfl, But2.of_below HB3.out, fun h => absurd h (by rw [HE.out]; decide)⟩
    | false =>
      rw [hf] at hlook
      have HF := Lib.hid hf
      clear hf
      go_wp2_with fail
      refine (HS.out _ HB3.out).mono ?_
      rintro e W4 ⟨rfl, hb4⟩
      have HX4 := Lib.hid (HX3.out.later hb4)
      have HB4 := Lib.hid (HB3.out.trans (hb4.mono HB3.out.size))
      have HI4 := Lib.hid (HI3.out.heap (hb4.block _ (by omega)))
      have HC4 := Lib.hid (HC3.out.heap (hb4.block _ (by omega)))
      have z4 := hb4.size
      clear hb4 HX3 HI3 HC3 HB3 x0 x1 x2 x3 x4 x5 y0 y1 y2 y3 y4 y5 y6 y7 y8 y9 y10 y11 y12 y13 hlook
      cases ast with
      | true =>
        have HE := Lib.hid (show errC r now (f r.id) true (c r.x r.y) = 1 by simp [errC, HO.out, HF.out])
        go_wp2_with fail
        go_ret
        exact ⟨by rw [HE.out]; rfl, But2.of_below HB4.out, fun h => absurd h (by rw [HE.out]; decide)⟩
      | false =>
        obtain ⟨x0, x1, x2, x3, x4, x5⟩ := HX4.out.look
        obtain ⟨y0, y1, y2, y3, y4, y5, y6, y7, y8, y9, y10, y11, y12, y13⟩ := cells14 HX4.out.br
        by_cases ht : now < r.hour
        · have HE := Lib.hid (show errC r now (f r.id) false (c r.x r.y) = 12 by simp [errC, HO.out, HF.out, ht])
          go_wp2_with fail
          go_ret
          exact ⟨by rw [HE.out]; rfl, But2.of_below HB4.out, fun h => absurd h (by rw [HE.out]; decide)⟩
        · have hlook := HC4.out.look i2 i3
          obtain ⟨c1, c2⟩ := HCB.out r.x r.y
          by_cases hcn : c r.x r.y = 12
          · have HE := Lib.hid (show errC r now (f r.id) false (c r.x r.y) = 2 by simp [errC, HO.out, HF.out, ht, hcn])
            go_wp2_with fail
            go_ret
            exact ⟨by rw [HE.out]; rfl, But2.of_below HB4.out, fun h => absurd h (by rw [HE.out]; decide)⟩
          · have HE := Lib.hid (show errC r now (f r.id) false (c r.x r.y) = 0 by simp [errC, HO.out, HF.out, ht, hcn])
            obtain ⟨W5, hp, hi5, hg5⟩ := HI4.out.put (by omega) i1
            have HX5 := Lib.hid (HX4.out.grown hg5 (fun hB => ids_ne HI4.out hB))
            have HC5 := Lib.hid (HC4.out.heap (hg5.block mc (by omega) (by simpa using Ne.symm hne)))
            have HI5 := Lib.hid hi5
            have HG5 := Lib.hid hg5
            clear hi5 hg5
            go_wp2_with (refine list_put172 rfl rfl rfl rfl rfl hp ?_)
            have hi64 : i64 (c r.x r.y + 1) := by unfold i64; omega
            clear hp hlook x0 x1 x2 x3 x4 x5 y0 y1 y2 y3 y4 y5 y6 y7 y8 y9 y10 y11 y12 y13
            have HC5' := Lib.hid (show Came { W5 with drawn := W5.drawn + 1 } mc k c from HC5.out.heap rfl)
            have HX5' := Lib.hid (show Boxes { W5 with drawn := W5.drawn + 1 } r u d now sl g lb w.heap.size (w.heap.size + 1) Bi Ba Bw Bc mi mc from HX5.out.later ⟨rfl, rfl, rfl, Nat.le_refl _, fun _ _ => rfl⟩)
            obtain ⟨v0, st, W6, W7, hE, hL6, hg6, hS, hC7, hg7⟩ := HC5'.out.count (by omega) i2 i3 hi64
            have HX6 := Lib.hid (HX5'.out.grown hg6 (fun hB => came_ne HC5'.out hB))
            have hA : ∀ X, X = W6 ∨ X = { W5 with drawn := W5.drawn + 1 } → X.cell? ⟨Bc, 0, none⟩ = some (.map (some mc)) ∧ X.cell? ⟨w.heap.size + 1, 0, none⟩ = some (.int .i64 r.x) ∧ X.cell? ⟨w.heap.size + 1, 1, none⟩ = some (.int .i64 r.y) ∧
                (Instr.lookup 173 (.map (some mc)) (.agg #[.int .i64 r.x, .int .i64 r.y]) false).run Tryd.prog X = .ok (.int .i64 (c r.x r.y)) X := by
              rintro X (rfl | rfl)
              · obtain ⟨x0, x1, x2, x3, x4, x5⟩ := HX6.out.look
                exact ⟨x2, x4, x5, hL6⟩
              · obtain ⟨x0, x1, x2, x3, x4, x5⟩ := HX5'.out.look
                exact ⟨x2, x4, x5, HC5'.out.look i2 i3⟩
            have hor : ∀ (L : Nat → Bool) X, (X = if L 4 = true then W6 else { W5 with drawn := W5.drawn + 1 }) → X = W6 ∨ X = { W5 with drawn := W5.drawn + 1 } := by
              intro L X hX
              by_cases h4 : L 4 = true
              · rw [if_pos h4] at hX; exact .inl hX
              · rw [if_neg h4] at hX; exact .inr hX
            refine wp_region_state 6 [40, 41, 42, 43, 44, 45] (fun i => ([.map (some mc), .agg #[.int .i64 r.x, .int .i64 r.y], .int .i64 (c r.x r.y), .int .i64 (c r.x r.y + 1), .tuple #[v0, goInt st], goInt st] : List Value).getD i undef)
              (fun L X => X = if L 4 = true then W6 else { W5 with drawn := W5.drawn + 1 }) (by kernel_rfl) (by kernel_rfl) (fun s hs => by simp at hs ⊢; omega) rfl ?val ?fin
            case val =>
              intro i
              match i with
              | 0 => intro o L hlt ho hLi a' X hX hfr hdp; obtain rfl := Option.some.inj ho; exact Oper.wp_mono (fun a'' W' ⟨h1, h2⟩ => ⟨h1, by subst h2; simpa using hX⟩) (op_load173 rfl (hfr 4 (by decide)) (hA X (hor L X hX)).1)
              | 1 => intro o L hlt ho hLi a' X hX hfr hdp; obtain rfl := Option.some.inj ho; exact Oper.wp_mono (fun a'' W' ⟨h1, h2⟩ => ⟨h1, by subst h2; simpa using hX⟩) (op_load77 rfl (hfr 7 (by decide)) (hA X (hor L X hX)).2.1 (hA X (hor L X hX)).2.2.1)
              | 2 => intro o L hlt ho hLi a' X hX hfr hdp; obtain rfl := Option.some.inj ho; exact Oper.wp_mono (fun a'' W' ⟨h1, h2⟩ => ⟨h1, by subst h2; simpa using hX⟩) (op_look rfl (hdp 0 40 (by decide) rfl (by kernel_rfl)) (hdp 1 41 (by decide) rfl (by kernel_rfl)) (hA X (hor L X hX)).2.2.2)
              | 3 => intro o L hlt ho hLi a' X hX hfr hdp; obtain rfl := Option.some.inj ho; exact Oper.wp_mono (fun a'' W' ⟨h1, h2⟩ => ⟨h1, by subst h2; simpa using hX⟩) (op_add1 rfl (hdp 2 42 (by decide) rfl (by kernel_rfl)) hi64)
              | 4 => intro o L hlt ho hLi a' X hX hfr hdp; obtain rfl := Option.some.inj ho; rw [if_neg (by simp [hLi])] at hX; subst hX; exact Oper.wp_mono (fun a'' W' ⟨h1, h2⟩ => ⟨h1, by subst h2; simp⟩) (op_entry rfl (hdp 0 40 (by decide) rfl (by kernel_rfl)) (hdp 1 41 (by decide) rfl (by kernel_rfl)) hE)
              | 5 => intro o L hlt ho hLi a' X hX hfr hdp; obtain rfl := Option.some.inj ho; exact Oper.wp_mono (fun a'' W' ⟨h1, h2⟩ => ⟨h1, by subst h2; simpa using hX⟩) (op_extract1 rfl (hdp 4 44 (by decide) rfl (by kernel_rfl)))
              | m + 6 => intro o L hlt; omega
            case fin =>
              intro X L hall hX
              rw [if_pos (hall 4 (by decide))] at hX
              subst hX
              have hIds := HI5.out
              have h7 := But2.of_grown (m := mi) (c := mc) hg7 (.inr rfl)
              have hB7 : But2 mi mc w W7 := ((But2.of_below HB4.out).trans (But2.of_grown HG5.out (.inl rfl))).trans (But2.trans (B := { W5 with drawn := W5.drawn + 1 }) ⟨rfl, rfl, rfl, Nat.le_refl _, fun _ _ _ _ => rfl⟩ h7)
              have HB7 := Lib.hid hB7
              have HI7 := Lib.hid (show Ids W7 mi (k + 1) (fun z => f z || z == r.id) from hIds.heap ((hg7.block mi (hIds.lt) (by simpa using hne)).trans rfl))
              have HC7 := Lib.hid hC7
              clear hIds h7 hB7 hC7 hg7 hg6 hA hor HX5 HX5' HC5' HC5 HI5 HG5 HX6 HX4 HI4 HC4 HB4
              simp only [List.drop_succ_cons, List.drop_zero, fill, Act.put, List.setIfInBounds_toArray, List.set_cons_zero, List.set_cons_succ, Nat.reduceAdd, List.getD_cons_zero, List.getD_cons_succ]
              go_wp2_with (refine list_entryStore rfl rfl rfl rfl rfl rfl hS ?_)
              go_ret
              exact ⟨by rw [HE.out]; rfl, HB7.out, fun _ => ⟨HI7.out, HC7.out⟩⟩
end Go.Proofs.YtdcpmdigihbdpaaDoor
