/- The contract of sailing.resistance: a right ship, right ice, a speed from 0 to 250. -/
import Derived.Test.YtcoiklolgilhaaaGreatDoorPh
namespace Go.Proofs.YtcoiklolgilhaaaGreatDoor
open Go.RowKit
set_option maxRecDepth 100000
abbrev sailA (s : Sh) (m : Mem3) (i : Ic) (ch : Bool) : Array Value := #[.int .i64 s.cls, .int .i64 s.pow, .int .i64 s.dra, .int .i64 s.ton, .slice m.pt s.th.n m.ct, .slice m.pw s.wa.n m.cw, .slice m.pi s.ic.n m.ci, .int .i64 s.slow, .int .i64 s.brash, .int .i64 s.ridge, .int .i64 s.press, .int .i64 i.conc, .int .i64 i.thick, .int .i64 i.ridge, .int .i64 i.press, .bool ch]
def allL (s : Sh) (i : Ic) (v : Int) (ch : Bool) : Int × Int := allF (lowP (valP s.wa v)) (lowP (valP s.ic i.thick)) (brP s ch * (1000 + s.slow * v)) (s.ridge * riP i ch) i.conc (s.press * i.press)
theorem res_low {s : Sh} (g : Good s) {i : Ic} (gi : GoodI i) {v : Int} (hv : 0 ≤ v) (ch : Bool) : cdiv (allL s i v ch).1 (allL s i v ch).2 = resP s i v ch := by
  have bw := (valP_at g.wa hv).bd g.wa
  have bl := (valP_at g.ic gi.thick.1).bd g.ic
  obtain ⟨_, _, pw, _, ew⟩ := low_facts bw.1 bw.2.2.1
  obtain ⟨_, _, pl, _, el⟩ := low_facts bl.1 bl.2.2.1
  refine cdiv_eq (allF_pos pw pl) (by simp only [frP]; exact allF_pos bw.2.2.1 bl.2.2.1) ?_
  have h1 : FEq (covF (lowP (valP s.ic i.thick)) (brP s ch * (1000 + s.slow * v)) (s.ridge * riP i ch) i.conc).1 (covF (lowP (valP s.ic i.thick)) (brP s ch * (1000 + s.slow * v)) (s.ridge * riP i ch) i.conc).2 (covF (valP s.ic i.thick) (brP s ch * (1000 + s.slow * v)) (s.ridge * riP i ch) i.conc).1 (covF (valP s.ic i.thick) (brP s ch * (1000 + s.slow * v)) (s.ridge * riP i ch) i.conc).2 := by
    simp only [covF, fplus]
    exact FEq.mulc (FEq.plus (FEq.mulc el) rfl)
  simp only [allL, frP, allF, fplus]
  exact FEq.plus (FEq.plus ew h1) rfl
theorem mulbd {a b A B : Int} (h0 : 0 ≤ a) (h1 : a ≤ A) (h2 : 0 ≤ b) (h3 : b ≤ B) : 0 ≤ a * b ∧ a * b ≤ A * B :=
  ⟨Int.mul_nonneg h0 h2, Int.mul_le_mul h1 h3 h2 (Int.le_trans h0 h1)⟩
theorem cells16 {W : World} {b : Nat} {x0 x1 x2 x3 x4 x5 x6 x7 x8 x9 x10 x11 x12 x13 x14 x15 : Value} {t : TypeId} (h : W.heap[b]? = some (.cells #[x0, x1, x2, x3, x4, x5, x6, x7, x8, x9, x10, x11, x12, x13, x14, x15] t (0, 0))) :
    W.cell? ⟨b, 0, none⟩ = some x0 ∧ W.cell? ⟨b, 1, none⟩ = some x1 ∧ W.cell? ⟨b, 2, none⟩ = some x2 ∧ W.cell? ⟨b, 3, none⟩ = some x3 ∧ W.cell? ⟨b, 4, none⟩ = some x4 ∧ W.cell? ⟨b, 5, none⟩ = some x5 ∧ W.cell? ⟨b, 6, none⟩ = some x6 ∧ W.cell? ⟨b, 7, none⟩ = some x7 ∧ W.cell? ⟨b, 8, none⟩ = some x8 ∧ W.cell? ⟨b, 9, none⟩ = some x9 ∧ W.cell? ⟨b, 10, none⟩ = some x10 ∧ W.cell? ⟨b, 11, none⟩ = some x11 ∧ W.cell? ⟨b, 12, none⟩ = some x12 ∧ W.cell? ⟨b, 13, none⟩ = some x13 ∧ W.cell? ⟨b, 14, none⟩ = some x14 ∧ W.cell? ⟨b, 15, none⟩ = some x15 := by
  refine ⟨?_, ?_, ?_, ?_, ?_, ?_, ?_, ?_, ?_, ?_, ?_, ?_, ?_, ?_, ?_, ?_⟩ <;> (rw [cell_of_block h]; rfl)
section
variable {Q : Exit → Act → World → Prop} {o : Oper} {a' : Act} {W : World}
theorem op_move {s : Nat} {v : Value} (hop : o.op = Op.move (.tmp s)) (he : a'.eval (.tmp s) = v) : o.wp Tryz.prog a' W (fun a'' W' => a'' = a'.put o.dst v ∧ Below W.heap.size W W') Q := by
  have hr := Below.refl W.heap.size W
  have he' : a'.tmps[s]?.getD undef = v := by simpa [Act.eval] using he
  unfold Oper.wp execOp
  rw [hop]
  simp [go_sem, he', hr]
theorem op_fa {s b k off off' : Nat} {ty : TypeId} (hop : o.op = Op.fieldAddr ty (.tmp s) k) (he : a'.eval (.tmp s) = .pointer (some ⟨b, off, none⟩)) (hk : (ty = 127 ∧ k = 0 ∧ off' = off) ∨ (ty = 24 ∧ k = 5 ∧ off' = off + 5) ∨ (ty = 24 ∧ k = 4 ∧ off' = off + 4) ∨ (ty = 127 ∧ k = 1 ∧ off' = off + 11)) :
    o.wp Tryz.prog a' W (fun a'' W' => a'' = a'.put o.dst (.pointer (some ⟨b, off', none⟩)) ∧ Below W.heap.size W W') Q := by
  have hr := Below.refl W.heap.size W
  have he' : a'.tmps[s]?.getD undef = .pointer (some ⟨b, off, none⟩) := by simpa [Act.eval] using he
  unfold Oper.wp execOp
  rw [hop]
  rcases hk with ⟨rfl, rfl, rfl⟩ | ⟨rfl, rfl, rfl⟩ | ⟨rfl, rfl, rfl⟩ | ⟨rfl, rfl, rfl⟩ <;> simp [go_sem, he', hr]
theorem op_load22 {s b off : Nat} {v : Value} (hop : o.op = Op.load 22 (.tmp s)) (he : a'.eval (.tmp s) = .pointer (some ⟨b, off, none⟩)) (hc : W.cell? ⟨b, off, none⟩ = some v) :
    o.wp Tryz.prog a' W (fun a'' W' => a'' = a'.put o.dst v ∧ Below W.heap.size W W') Q := by
  have hr := Below.refl W.heap.size W
  have he' : a'.tmps[s]?.getD undef = .pointer (some ⟨b, off, none⟩) := by simpa [Act.eval] using he
  unfold Oper.wp execOp
  rw [hop]
  simp [go_sem, he', hc, hr]
theorem op_load2 {s b : Nat} {ty t : TypeId} {x y : Value} (hop : o.op = Op.load ty (.tmp s)) (hty : ty = 95 ∨ ty = 89 ∨ ty = 28) (he : a'.eval (.tmp s) = ptr b) (hb : W.heap[b]? = some (.cells #[x, y] t (0, 0))) :
    o.wp Tryz.prog a' W (fun a'' W' => a'' = a'.put o.dst (.agg #[x, y]) ∧ Below W.heap.size W W') Q := by
  obtain ⟨⟨c0, c1⟩, _⟩ := cells2 hb
  have hr := Below.refl W.heap.size W
  unfold ptr at he
  have he' : a'.tmps[s]?.getD undef = .pointer (some ⟨b, 0, none⟩) := by simpa [Act.eval] using he
  unfold Oper.wp execOp
  rw [hop]
  rcases hty with rfl | rfl | rfl <;> simp [go_sem, he', c0, c1, hr]
theorem op_call2 {f : Nat} {s t : Nat} {v u r : Value} {ts : Array TypeId} (hop : o.op = Op.call { callee := .value (.func f), args := #[.tmp s, .tmp t], argTypes := ts })
    (he : a'.eval (.tmp s) = v) (ht : a'.eval (.tmp t) = u) (eg : ∀ args w, (callFunc f args).run Tryz.prog w = .ok (.enter f args) w) (hc : Calls Tryz.prog f #[v, u] W fun e w' => e = .returned r ∧ Below W.heap.size W w') :
    o.wp Tryz.prog a' W (fun a'' W' => a'' = a'.put o.dst r ∧ Below W.heap.size W W') Q := by
  have he' : a'.tmps[s]?.getD undef = v := by simpa [Act.eval] using he
  have ht' : a'.tmps[t]?.getD undef = u := by simpa [Act.eval] using ht
  unfold Oper.wp execOp
  rw [hop]
  simp [go_sem, he', ht', eg]
  refine hc.mono ?_
  rintro e w' ⟨rfl, hb⟩
  exact ⟨rfl, hb⟩
theorem op_alloc32 (hop : o.op = Op.alloc 95) :
    o.wp Tryz.prog a' W (fun a'' W' => a'' = a'.put o.dst (ptr W.heap.size) ∧ W' = W.alloc (.cells #[.int .i64 0, .int .i64 0] 95)) Q := by
  unfold Oper.wp execOp ptr
  rw [hop]
  simp [go_sem]
end
theorem eg47 : ∀ args w, (callFunc 113 args).run Tryz.prog w = .ok (.enter 113 args) w := Go.Proofs.enters_of Tryz.func113 (by kernel_rfl) rfl
theorem eg104 : ∀ args w, (callFunc 130 args).run Tryz.prog w = .ok (.enter 130 args) w := Go.Proofs.enters_of Tryz.func130 (by kernel_rfl) rfl
set_option maxHeartbeats 1000000 in
theorem resistance_no (s : Sh) (m : Mem3) (i : Ic) (g : Good s) (gi : GoodI i) (v : Int) (hv : 0 ≤ v) (hv' : v ≤ 250) (w : World) (h : ShipIn w s m) :
    Calls Tryz.prog 70 #[.agg (sailA s m i false), .int .i64 v] w fun e w' => e = .returned (.int .i64 (resP s i v false)) ∧ Below w.heap.size w w' := by
  have hb0 := (Below.refl w.heap.size w).alloc (Nat.le_refl _) (.cells (sailA s m i false) 127)
  have HB0 := Lib.hid hb0
  have HS := Lib.hid h
  have HVi := Lib.hid (fun (W : World) (hW : Below w.heap.size w W) => value_any m.pi s.ic.n m.ci s.ic rfl g.ic i.thick gi.thick.1 h.ci W (h.i.later hW))
  have HVw := Lib.hid (fun (W : World) (hW : Below w.heap.size w W) => value_any m.pw s.wa.n m.cw s.wa rfl g.wa v hv h.cw W (h.w.later hW))
  have HR := Lib.hid (res_low g gi hv false)
  have bw := (valP_at g.wa hv).bd g.wa
  have bl := (valP_at g.ic gi.thick.1).bd g.ic
  obtain ⟨w0, w1, w2, w3, _⟩ := low_facts bw.1 bw.2.2.1
  obtain ⟨l0, l1, l2, l3, _⟩ := low_facts bl.1 bl.2.2.1
  obtain ⟨bw0, bw1, bw2, bw3⟩ := bw
  obtain ⟨bl0, bl1, bl2, bl3⟩ := bl
  have w1' : (lowP (valP s.wa v)).1 ≤ 8000000 := by omega
  have w3' : (lowP (valP s.wa v)).2 ≤ 400 := by omega
  have l1' : (lowP (valP s.ic i.thick)).1 ≤ 8000000 := by omega
  have l3' : (lowP (valP s.ic i.thick)).2 ≤ 400 := by omega
  clear bw0 bw1 bw2 bw3 bl0 bl1 bl2 bl3 w1 w3 l1 l3 hb0 h
  have HR2 := Lib.hid (show cdiv (((lowP (valP s.wa v)).1 * ((lowP (valP s.ic i.thick)).2 * 100000 * 1 * 100) + ((lowP (valP s.ic i.thick)).1 * (100 * (1000 + s.slow * v)) * 1 + s.ridge * i.ridge * ((lowP (valP s.ic i.thick)).2 * 100000)) * i.conc * (lowP (valP s.wa v)).2) * 1 + s.press * i.press * ((lowP (valP s.wa v)).2 * ((lowP (valP s.ic i.thick)).2 * 100000 * 1 * 100))) ((lowP (valP s.wa v)).2 * ((lowP (valP s.ic i.thick)).2 * 100000 * 1 * 100) * 1) = resP s i v false from HR.out)
  clear HR
  obtain ⟨sl0, sl1⟩ := mulbd g.slow.1 g.slow.2 hv hv'
  obtain ⟨r0, r1⟩ := mulbd g.ridge.1 g.ridge.2 gi.ridge.1 gi.ridge.2
  obtain ⟨p0, p1⟩ := mulbd g.press.1 g.press.2 gi.press.1 gi.press.2
  obtain ⟨g1, g2⟩ := gi.conc
  generalize (lowP (valP s.wa v)).1 = wN at *
  generalize (lowP (valP s.wa v)).2 = wD at *
  generalize (lowP (valP s.ic i.thick)).1 = lN at *
  generalize (lowP (valP s.ic i.thick)).2 = lD at *
  have m1 : 0 ≤ 100 * (1000 + s.slow * v) ∧ 100 * (1000 + s.slow * v) ≤ 600000 := by omega
  obtain ⟨A0, A1⟩ := mulbd l0 l1' m1.1 m1.2
  simp only [Int.mul_one] at HR2
  generalize hA : lN * (100 * (1000 + s.slow * v)) = A at *
  generalize hB : lD * 100000 = B at *
  have B0 : 0 < B := by omega
  have B1 : B ≤ 40000000 := by omega
  generalize hrr : s.ridge * i.ridge = rr at *
  obtain ⟨RB0, RB1⟩ := mulbd r0 r1 (Int.le_of_lt B0) B1
  have HP1 := Lib.hid (fun (W : World) => (show Calls Tryz.prog 130 #[.agg #[.int .i64 A, .int .i64 B], .agg #[.int .i64 rr, .int .i64 1]] W fun e w' => e = .returned (.agg #[.int .i64 (A + rr * B), .int .i64 B]) ∧ Below W.heap.size W w' from by
    have := plus_any A B rr 1 (by omega) (by omega) (by omega) W
    simpa using this))
  generalize hC : A + rr * B = C at *
  have C0 : 0 ≤ C := by omega
  have C1 : C ≤ 6800000000000 := by omega
  obtain ⟨E0, E1⟩ := mulbd C0 C1 g1 g2
  generalize hE : C * i.conc = E at *
  generalize hF : B * 100 = F at *
  have F0 : 0 < F := by omega
  have F1 : F ≤ 4000000000 := by omega
  obtain ⟨wF0, wF1⟩ := mulbd w0 w1' (Int.le_of_lt F0) F1
  obtain ⟨Ew0, Ew1⟩ := mulbd E0 E1 (Int.le_of_lt w2) w3'
  obtain ⟨DF0, DF1⟩ := mulbd (Int.le_of_lt w2) w3' (Int.le_of_lt F0) F1
  have DF2 := Int.mul_pos w2 F0
  have HP2 := Lib.hid (fun (W : World) => plus_any wN wD E F (by omega) (by omega) (by omega) W)
  generalize hG : wN * F + E * wD = G at *
  generalize hH : wD * F = H at *
  have G0 : 0 ≤ G := by omega
  generalize hpp : s.press * i.press = pp at *
  obtain ⟨PH0, PH1⟩ := mulbd p0 p1 DF0 DF1
  have HP3 := Lib.hid (fun (W : World) => (show Calls Tryz.prog 130 #[.agg #[.int .i64 G, .int .i64 H], .agg #[.int .i64 pp, .int .i64 1]] W fun e w' => e = .returned (.agg #[.int .i64 (G + pp * H), .int .i64 H]) ∧ Below W.heap.size W w' from by
    have := plus_any G H pp 1 (by omega) (by omega) (by omega) W
    simpa using this))
  generalize hK : G + pp * H = K at *
  have K0 : 0 ≤ K := by omega
  have K1 : K ≤ 2000000000000000000 := by omega
  have HRU := Lib.hid (fun (W : World) => roundedUp_any K H K0 (by omega) DF2 (by omega) W)
  clear g gi
  have HR3 := Lib.hid (show cdiv K H = resP s i v false from HR2.out)
  clear HR2
  go_enter Tryz.func70, Tryz.ntmps70
  go_wp2_with fail
  go_quiet (fail)
  go_wp2_with fail
  refine (HVi.out _ (below_drewN HB0.out _)).mono ?_
  rintro e W1 ⟨rfl, hb1⟩
  have HB1 := Lib.hid ((below_drewN HB0.out nq).trans (hb1.mono (Nat.le_trans HB0.out.size (Nat.le_refl _))))
  have HK1 := Lib.hid ((hb1.block w.heap.size (by show _ < (w.alloc _).heap.size; simp)).trans (block_new w (.cells (sailA s m i false) 127)))
  have hz1 := lt_of_block HK1.out
  obtain ⟨c0, c1, c2, c3, c4, c5, c6, c7, c8, c9, c10, c11, c12, c13, c14, c15⟩ := cells16 HK1.out
  clear hb1
  go_wp2_with fail
  refine (HP1.out _).mono ?_
  rintro e W2 ⟨rfl, hb2⟩
  have ha1 := (Below.refl W1.heap.size W1).alloc (Nat.le_refl _) (.cells #[.int .i64 A, .int .i64 B] 95)
  have hb12 := ha1.trans (hb2.mono ha1.size)
  have HB2 := Lib.hid (HB1.out.trans (hb12.mono HB1.out.size))
  have HK2 := Lib.hid ((hb12.block w.heap.size hz1).trans HK1.out)
  have hz2 := lt_of_block HK2.out
  clear hb2 ha1 hb12 c0 c1 c2 c3 c4 c5 c6 c7 c8 c9 c10 c11 c12 c13 c14 c15
  obtain ⟨c0, c1, c2, c3, c4, c5, c6, c7, c8, c9, c10, c11, c12, c13, c14, c15⟩ := cells16 HK2.out
  go_wp2_with fail
  obtain ⟨t1, t2, t3, t4⟩ := two_allocs W2 (.cells #[.int .i64 E, .int .i64 F] 95) (.cells #[.int .i64 pp, .int .i64 1] 95)
  have HT1 := Lib.hid t1
  have HT2 := Lib.hid t2
  have HB3 := Lib.hid (HB2.out.trans (t4.mono HB2.out.size))
  have HK3 := Lib.hid ((t4.block w.heap.size hz2).trans HK2.out)
  have hz3 := lt_of_block HK3.out
  clear t1 t2 t4 c0 c1 c2 c3 c4 c5 c6 c7 c8 c9 c10 c11 c12 c13 c14 c15
  generalize (W2.alloc (.cells #[.int .i64 E, .int .i64 F] 95)).alloc (.cells #[.int .i64 pp, .int .i64 1] 95) = V at *
  refine wp_region_multi 10 [69, 70, 71, 72, 73, 74, 75, 76, 77, 10] (fun i => decide (i = 9)) (fun i => ([(.pointer (some ⟨w.heap.size, 0, none⟩)), (.pointer (some ⟨w.heap.size, 5, none⟩)), .slice m.pw s.wa.n m.cw, .int .i64 v, .agg #[.int .i64 wN, .int .i64 wD], .agg #[.int .i64 E, .int .i64 F], .agg #[.int .i64 G, .int .i64 H], .agg #[.int .i64 pp, .int .i64 1], .agg #[.int .i64 K, .int .i64 H]] : List Value).getD i undef) (fun _ => .cells #[.int .i64 0, .int .i64 0] 95) (by kernel_rfl) (by kernel_rfl) (fun s hs => by simp at hs ⊢; omega) ?val ?al ?fin
  case val =>
    intro i
    match i with
    | 0 => intro o hlt hal ho a' W hb hfr hdp; obtain rfl := Option.some.inj ho; exact op_fa rfl (hfr 2 (by decide)) (.inl ⟨rfl, rfl, rfl⟩)
    | 1 => intro o hlt hal ho a' W hb hfr hdp; obtain rfl := Option.some.inj ho; exact op_fa rfl (hdp 0 69 (by decide) rfl rfl (by kernel_rfl)) (.inr (.inl ⟨rfl, rfl, rfl⟩))
    | 2 => intro o hlt hal ho a' W hb hfr hdp; obtain rfl := Option.some.inj ho; exact op_load22 rfl (hdp 1 70 (by decide) rfl rfl (by kernel_rfl)) ((cells16 ((hb.block _ hz3).trans HK3.out)).2.2.2.2.2.1)
    | 3 => intro o hlt hal ho a' W hb hfr hdp; obtain rfl := Option.some.inj ho; exact op_move rfl (hfr 1 (by decide))
    | 4 => intro o hlt hal ho a' W hb hfr hdp; obtain rfl := Option.some.inj ho; exact op_call2 rfl (hdp 2 71 (by decide) rfl rfl (by kernel_rfl)) (hdp 3 72 (by decide) rfl rfl (by kernel_rfl)) eg47 (HVw.out _ (HB3.out.trans (hb.mono HB3.out.size)))
    | 5 => intro o hlt hal ho a' W hb hfr hdp; obtain rfl := Option.some.inj ho; exact op_load2 rfl (.inl rfl) (hfr 8 (by decide)) ((hb.block _ (by omega)).trans HT1.out)
    | 6 => intro o hlt hal ho a' W hb hfr hdp; obtain rfl := Option.some.inj ho; exact op_call2 rfl (hdp 4 73 (by decide) rfl rfl (by kernel_rfl)) (hdp 5 74 (by decide) rfl rfl (by kernel_rfl)) eg104 (HP2.out _)
    | 7 => intro o hlt hal ho a' W hb hfr hdp; obtain rfl := Option.some.inj ho; exact op_load2 rfl (.inl rfl) (hfr 9 (by decide)) ((hb.block _ (by omega)).trans HT2.out)
    | 8 => intro o hlt hal ho a' W hb hfr hdp; obtain rfl := Option.some.inj ho; exact op_call2 rfl (hdp 6 75 (by decide) rfl rfl (by kernel_rfl)) (hdp 7 76 (by decide) rfl rfl (by kernel_rfl)) eg104 (HP3.out _)
    | 9 => intro o hlt hal; cases hal
    | j + 10 => intro o hlt; omega
  case al =>
    intro i
    match i with
    | 0 | 1 | 2 | 3 | 4 | 5 | 6 | 7 | 8 => intro o hlt hal; cases hal
    | 9 => intro o hlt hal ho a' W; obtain rfl := Option.some.inj ho; exact op_alloc32 rfl
    | j + 10 => intro o hlt; omega
  case fin =>
    intro W B' hb hB' hne
    obtain ⟨hn0, hB0⟩ := hB' 9 (by decide) rfl
    clear hB' hne
    simp only [List.drop_succ_cons, List.drop_zero, fill, uAll, Act.put, List.setIfInBounds_toArray, List.set_cons_zero, List.set_cons_succ, Nat.reduceAdd, Nat.reduceEqDiff, decide_true, decide_false, if_true, if_false, Bool.false_eq_true, List.getD_cons_zero, List.getD_cons_succ, ptr]
    generalize B' 9 = p9 at *
    have HB4 := Lib.hid (HB3.out.trans (hb.mono HB3.out.size))
    have hz4 : w.heap.size < W.heap.size := Nat.lt_of_lt_of_le hz3 hb.size
    clear hb
    refine list_store2 rfl rfl rfl (.inr (.inl rfl)) rfl rfl hB0 ?_
    intro W5 h5 hc5
    obtain ⟨⟨c0, c1⟩, _⟩ := cells2 h5
    have HB5 := Lib.hid (HB4.out.trans (hc5.below (by omega)))
    clear h5 hc5 hB0
    go_wp2_with fail
    refine (HRU.out _).mono ?_
    rintro e W6 ⟨rfl, rfl⟩
    go_wp2_with fail
    go_ret
    exact ⟨by rw [← HR3.out]; simp, HB5.out⟩
set_option maxHeartbeats 1000000 in
theorem resistance_yes (s : Sh) (m : Mem3) (i : Ic) (g : Good s) (gi : GoodI i) (v : Int) (hv : 0 ≤ v) (hv' : v ≤ 250) (w : World) (h : ShipIn w s m) :
    Calls Tryz.prog 70 #[.agg (sailA s m i true), .int .i64 v] w fun e w' => e = .returned (.int .i64 (resP s i v true)) ∧ Below w.heap.size w w' := by
  have hb0 := (Below.refl w.heap.size w).alloc (Nat.le_refl _) (.cells (sailA s m i true) 127)
  have HB0 := Lib.hid hb0
  have HS := Lib.hid h
  have HVi := Lib.hid (fun (W : World) (hW : Below w.heap.size w W) => value_any m.pi s.ic.n m.ci s.ic rfl g.ic i.thick gi.thick.1 h.ci W (h.i.later hW))
  have HVw := Lib.hid (fun (W : World) (hW : Below w.heap.size w W) => value_any m.pw s.wa.n m.cw s.wa rfl g.wa v hv h.cw W (h.w.later hW))
  have HR := Lib.hid (res_low g gi hv true)
  have bw := (valP_at g.wa hv).bd g.wa
  have bl := (valP_at g.ic gi.thick.1).bd g.ic
  obtain ⟨w0, w1, w2, w3, _⟩ := low_facts bw.1 bw.2.2.1
  obtain ⟨l0, l1, l2, l3, _⟩ := low_facts bl.1 bl.2.2.1
  obtain ⟨bw0, bw1, bw2, bw3⟩ := bw
  obtain ⟨bl0, bl1, bl2, bl3⟩ := bl
  have w1' : (lowP (valP s.wa v)).1 ≤ 8000000 := by omega
  have w3' : (lowP (valP s.wa v)).2 ≤ 400 := by omega
  have l1' : (lowP (valP s.ic i.thick)).1 ≤ 8000000 := by omega
  have l3' : (lowP (valP s.ic i.thick)).2 ≤ 400 := by omega
  clear bw0 bw1 bw2 bw3 bl0 bl1 bl2 bl3 w1 w3 l1 l3 hb0 h
  have HR2 := Lib.hid (show cdiv (((lowP (valP s.wa v)).1 * ((lowP (valP s.ic i.thick)).2 * 100000 * 1 * 100) + ((lowP (valP s.ic i.thick)).1 * (s.brash * (1000 + s.slow * v)) * 1 + s.ridge * 0 * ((lowP (valP s.ic i.thick)).2 * 100000)) * i.conc * (lowP (valP s.wa v)).2) * 1 + s.press * i.press * ((lowP (valP s.wa v)).2 * ((lowP (valP s.ic i.thick)).2 * 100000 * 1 * 100))) ((lowP (valP s.wa v)).2 * ((lowP (valP s.ic i.thick)).2 * 100000 * 1 * 100) * 1) = resP s i v true from HR.out)
  clear HR
  obtain ⟨sl0, sl1⟩ := mulbd g.slow.1 g.slow.2 hv hv'
  obtain ⟨p0, p1⟩ := mulbd g.press.1 g.press.2 gi.press.1 gi.press.2
  obtain ⟨g1, g2⟩ := gi.conc
  generalize (lowP (valP s.wa v)).1 = wN at *
  generalize (lowP (valP s.wa v)).2 = wD at *
  generalize (lowP (valP s.ic i.thick)).1 = lN at *
  generalize (lowP (valP s.ic i.thick)).2 = lD at *
  have m1 := mulbd g.brash.1 g.brash.2 (show 0 ≤ 1000 + s.slow * v by omega) (show 1000 + s.slow * v ≤ 6000 by omega)
  obtain ⟨A0, A1⟩ := mulbd l0 l1' m1.1 m1.2
  simp only [Int.mul_one, Int.mul_zero, Int.zero_mul, Int.add_zero] at HR2
  generalize hA : lN * (s.brash * (1000 + s.slow * v)) = A at *
  generalize hB : lD * 100000 = B at *
  have B0 : 0 < B := by omega
  have B1 : B ≤ 40000000 := by omega
  have HP1 := Lib.hid (fun (W : World) => (show Calls Tryz.prog 130 #[.agg #[.int .i64 A, .int .i64 B], .agg #[.int .i64 0, .int .i64 1]] W fun e w' => e = .returned (.agg #[.int .i64 A, .int .i64 B]) ∧ Below W.heap.size W w' from by
    have := plus_any A B 0 1 (by omega) (by omega) (by omega) W
    simpa using this))
  have C0 : 0 ≤ A := by omega
  have C1 : A ≤ 6800000000000 := by omega
  obtain ⟨E0, E1⟩ := mulbd C0 C1 g1 g2
  generalize hE : A * i.conc = E at *
  generalize hF : B * 100 = F at *
  have F0 : 0 < F := by omega
  have F1 : F ≤ 4000000000 := by omega
  obtain ⟨wF0, wF1⟩ := mulbd w0 w1' (Int.le_of_lt F0) F1
  obtain ⟨Ew0, Ew1⟩ := mulbd E0 E1 (Int.le_of_lt w2) w3'
  obtain ⟨DF0, DF1⟩ := mulbd (Int.le_of_lt w2) w3' (Int.le_of_lt F0) F1
  have DF2 := Int.mul_pos w2 F0
  have HP2 := Lib.hid (fun (W : World) => plus_any wN wD E F (by omega) (by omega) (by omega) W)
  generalize hG : wN * F + E * wD = G at *
  generalize hH : wD * F = H at *
  have G0 : 0 ≤ G := by omega
  generalize hpp : s.press * i.press = pp at *
  obtain ⟨PH0, PH1⟩ := mulbd p0 p1 DF0 DF1
  have HP3 := Lib.hid (fun (W : World) => (show Calls Tryz.prog 130 #[.agg #[.int .i64 G, .int .i64 H], .agg #[.int .i64 pp, .int .i64 1]] W fun e w' => e = .returned (.agg #[.int .i64 (G + pp * H), .int .i64 H]) ∧ Below W.heap.size W w' from by
    have := plus_any G H pp 1 (by omega) (by omega) (by omega) W
    simpa using this))
  generalize hK : G + pp * H = K at *
  have K0 : 0 ≤ K := by omega
  have K1 : K ≤ 2000000000000000000 := by omega
  have HRU := Lib.hid (fun (W : World) => roundedUp_any K H K0 (by omega) DF2 (by omega) W)
  clear g gi
  have HR3 := Lib.hid (show cdiv K H = resP s i v true from HR2.out)
  clear HR2
  go_enter Tryz.func70, Tryz.ntmps70
  go_wp2_with fail
  go_quiet (fail)
  go_wp2_with fail
  refine (HVi.out _ (below_drewN HB0.out _)).mono ?_
  rintro e W1 ⟨rfl, hb1⟩
  have HB1 := Lib.hid ((below_drewN HB0.out nq).trans (hb1.mono (Nat.le_trans HB0.out.size (Nat.le_refl _))))
  have HK1 := Lib.hid ((hb1.block w.heap.size (by show _ < (w.alloc _).heap.size; simp)).trans (block_new w (.cells (sailA s m i true) 127)))
  have hz1 := lt_of_block HK1.out
  obtain ⟨c0, c1, c2, c3, c4, c5, c6, c7, c8, c9, c10, c11, c12, c13, c14, c15⟩ := cells16 HK1.out
  clear hb1
  go_wp2_with fail
  refine (HP1.out _).mono ?_
  rintro e W2 ⟨rfl, hb2⟩
  have ha1 := (Below.refl W1.heap.size W1).alloc (Nat.le_refl _) (.cells #[.int .i64 A, .int .i64 B] 95)
  have hb12 := ha1.trans (hb2.mono ha1.size)
  have HB2 := Lib.hid (HB1.out.trans (hb12.mono HB1.out.size))
  have HK2 := Lib.hid ((hb12.block w.heap.size hz1).trans HK1.out)
  have hz2 := lt_of_block HK2.out
  clear hb2 ha1 hb12 c0 c1 c2 c3 c4 c5 c6 c7 c8 c9 c10 c11 c12 c13 c14 c15
  obtain ⟨c0, c1, c2, c3, c4, c5, c6, c7, c8, c9, c10, c11, c12, c13, c14, c15⟩ := cells16 HK2.out
  go_wp2_with fail
  obtain ⟨t1, t2, t3, t4⟩ := two_allocs W2 (.cells #[.int .i64 E, .int .i64 F] 95) (.cells #[.int .i64 pp, .int .i64 1] 95)
  have HT1 := Lib.hid t1
  have HT2 := Lib.hid t2
  have HB3 := Lib.hid (HB2.out.trans (t4.mono HB2.out.size))
  have HK3 := Lib.hid ((t4.block w.heap.size hz2).trans HK2.out)
  have hz3 := lt_of_block HK3.out
  clear t1 t2 t4 c0 c1 c2 c3 c4 c5 c6 c7 c8 c9 c10 c11 c12 c13 c14 c15
  generalize (W2.alloc (.cells #[.int .i64 E, .int .i64 F] 95)).alloc (.cells #[.int .i64 pp, .int .i64 1] 95) = V at *
  refine wp_region_multi 10 [69, 70, 71, 72, 73, 74, 75, 76, 77, 10] (fun i => decide (i = 9)) (fun i => ([(.pointer (some ⟨w.heap.size, 0, none⟩)), (.pointer (some ⟨w.heap.size, 5, none⟩)), .slice m.pw s.wa.n m.cw, .int .i64 v, .agg #[.int .i64 wN, .int .i64 wD], .agg #[.int .i64 E, .int .i64 F], .agg #[.int .i64 G, .int .i64 H], .agg #[.int .i64 pp, .int .i64 1], .agg #[.int .i64 K, .int .i64 H]] : List Value).getD i undef) (fun _ => .cells #[.int .i64 0, .int .i64 0] 95) (by kernel_rfl) (by kernel_rfl) (fun s hs => by simp at hs ⊢; omega) ?val ?al ?fin
  case val =>
    intro i
    match i with
    | 0 => intro o hlt hal ho a' W hb hfr hdp; obtain rfl := Option.some.inj ho; exact op_fa rfl (hfr 2 (by decide)) (.inl ⟨rfl, rfl, rfl⟩)
    | 1 => intro o hlt hal ho a' W hb hfr hdp; obtain rfl := Option.some.inj ho; exact op_fa rfl (hdp 0 69 (by decide) rfl rfl (by kernel_rfl)) (.inr (.inl ⟨rfl, rfl, rfl⟩))
    | 2 => intro o hlt hal ho a' W hb hfr hdp; obtain rfl := Option.some.inj ho; exact op_load22 rfl (hdp 1 70 (by decide) rfl rfl (by kernel_rfl)) ((cells16 ((hb.block _ hz3).trans HK3.out)).2.2.2.2.2.1)
    | 3 => intro o hlt hal ho a' W hb hfr hdp; obtain rfl := Option.some.inj ho; exact op_move rfl (hfr 1 (by decide))
    | 4 => intro o hlt hal ho a' W hb hfr hdp; obtain rfl := Option.some.inj ho; exact op_call2 rfl (hdp 2 71 (by decide) rfl rfl (by kernel_rfl)) (hdp 3 72 (by decide) rfl rfl (by kernel_rfl)) eg47 (HVw.out _ (HB3.out.trans (hb.mono HB3.out.size)))
    | 5 => intro o hlt hal ho a' W hb hfr hdp; obtain rfl := Option.some.inj ho; exact op_load2 rfl (.inl rfl) (hfr 8 (by decide)) ((hb.block _ (by omega)).trans HT1.out)
    | 6 => intro o hlt hal ho a' W hb hfr hdp; obtain rfl := Option.some.inj ho; exact op_call2 rfl (hdp 4 73 (by decide) rfl rfl (by kernel_rfl)) (hdp 5 74 (by decide) rfl rfl (by kernel_rfl)) eg104 (HP2.out _)
    | 7 => intro o hlt hal ho a' W hb hfr hdp; obtain rfl := Option.some.inj ho; exact op_load2 rfl (.inl rfl) (hfr 9 (by decide)) ((hb.block _ (by omega)).trans HT2.out)
    | 8 => intro o hlt hal ho a' W hb hfr hdp; obtain rfl := Option.some.inj ho; exact op_call2 rfl (hdp 6 75 (by decide) rfl rfl (by kernel_rfl)) (hdp 7 76 (by decide) rfl rfl (by kernel_rfl)) eg104 (HP3.out _)
    | 9 => intro o hlt hal; cases hal
    | j + 10 => intro o hlt; omega
  case al =>
    intro i
    match i with
    | 0 | 1 | 2 | 3 | 4 | 5 | 6 | 7 | 8 => intro o hlt hal; cases hal
    | 9 => intro o hlt hal ho a' W; obtain rfl := Option.some.inj ho; exact op_alloc32 rfl
    | j + 10 => intro o hlt; omega
  case fin =>
    intro W B' hb hB' hne
    obtain ⟨hn0, hB0⟩ := hB' 9 (by decide) rfl
    clear hB' hne
    simp only [List.drop_succ_cons, List.drop_zero, fill, uAll, Act.put, List.setIfInBounds_toArray, List.set_cons_zero, List.set_cons_succ, Nat.reduceAdd, Nat.reduceEqDiff, decide_true, decide_false, if_true, if_false, Bool.false_eq_true, List.getD_cons_zero, List.getD_cons_succ, ptr]
    generalize B' 9 = p9 at *
    have HB4 := Lib.hid (HB3.out.trans (hb.mono HB3.out.size))
    have hz4 : w.heap.size < W.heap.size := Nat.lt_of_lt_of_le hz3 hb.size
    clear hb
    refine list_store2 rfl rfl rfl (.inr (.inl rfl)) rfl rfl hB0 ?_
    intro W5 h5 hc5
    obtain ⟨⟨c0, c1⟩, _⟩ := cells2 h5
    have HB5 := Lib.hid (HB4.out.trans (hc5.below (by omega)))
    clear h5 hc5 hB0
    go_wp2_with fail
    refine (HRU.out _).mono ?_
    rintro e W6 ⟨rfl, rfl⟩
    go_wp2_with fail
    go_ret
    exact ⟨by rw [← HR3.out]; simp, HB5.out⟩
theorem resistance_any (s : Sh) (m : Mem3) (i : Ic) (ch : Bool) (g : Good s) (gi : GoodI i) (v : Int) (hv : 0 ≤ v) (hv' : v ≤ 250) (w : World) (h : ShipIn w s m) :
    Calls Tryz.prog 70 #[.agg (sailA s m i ch), .int .i64 v] w fun e w' => e = .returned (.int .i64 (resP s i v ch)) ∧ Below w.heap.size w w' := by
  cases ch with
  | false => exact resistance_no s m i g gi v hv hv' w h
  | true => exact resistance_yes s m i g gi v hv hv' w h
end Go.Proofs.YtcoiklolgilhaaaGreatDoor
