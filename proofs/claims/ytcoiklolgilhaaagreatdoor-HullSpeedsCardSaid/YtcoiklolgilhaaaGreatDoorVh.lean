/- The contract of the law's CopyShip, for any ship. The contract of the law's Ship: a ship of the reference. A rule for regions that draw their order and hold guards which are all met. How a ship and a slice of points among the arguments are opened. The law HullChecks behind its arguments. -/
import Derived.Test.YtcoiklolgilhaaaGreatDoorUl
import Derived.Test.YtcoiklolgilhaaaGreatDoorRb
import Derived.Test.YtcoiklolgilhaaaGreatDoorQl
import Derived.Test.YtcoiklolgilhaaaGreatDoorPf
import Derived.Deep.SlicePairs
namespace Go.Proofs.YtcoiklolgilhaaaGreatDoor
open Go.RowKit
set_option maxRecDepth 100000
/-- a slice of new points -/
def CRow (W : World) (base : Nat) (v : Value) (c : Cv) : Prop := ∃ q k, v = .slice q c.n k ∧ c.n ≤ k ∧ Pts W q c ∧ ∀ a, q = some a → base ≤ a.block
theorem CRow.later {W W' : World} {base : Nat} {v : Value} {c : Cv} (h : CRow W base v c) (hb : Below W.heap.size W W') : CRow W' base v c := by
  obtain ⟨q, k, e, hk, hp, hn⟩ := h
  exact ⟨q, k, e, hk, hp.later hb, hn⟩
theorem CRow.weak {W : World} {base base' : Nat} {v : Value} {c : Cv} (h : CRow W base v c) (hb : base' ≤ base) : CRow W base' v c := by
  obtain ⟨q, k, e, hk, hp, hn⟩ := h
  exact ⟨q, k, e, hk, hp, fun a e => Nat.le_trans hb (hn a e)⟩
theorem chg_cell {W W' : World} {b b' o : Nat} (hc : Chg b W W') (h : b' ≠ b) : W'.cell? ⟨b', o, none⟩ = W.cell? ⟨b', o, none⟩ := by
  unfold World.cell?
  rw [hc.2.1 b' h]
theorem CRow.sto {W W' : World} {base b : Nat} {v : Value} {c : Cv} (h : CRow W base v c) (hc : Chg b W W') (hb : b < base) : CRow W' base v c := by
  obtain ⟨q, k, e, hk, hp, hn⟩ := h
  refine ⟨q, k, e, hk, fun i hi => ?_, hn⟩
  obtain ⟨b1, o, eq, hlt, h1, h2⟩ := hp i hi
  have hne : b1 ≠ b := by
    have := hn _ eq
    simp only at this
    omega
  exact ⟨b1, o, eq, by rw [hc.1]; exact hlt, by rw [chg_cell hc hne]; exact h1, by rw [chg_cell hc hne]; exact h2⟩
theorem crow_pts {W : World} {base : Nat} {p : Option Addr} {n k : Nat} {c : Cv} (h : CRow W base (.slice p n k) c) : Pts W p c ∧ n ≤ k := by
  obtain ⟨q, k', e, hk, hp, hn⟩ := h
  cases e
  exact ⟨hp, hk⟩
/-- what lies in CopyShip's memory while it copies -/
structure Cq (w : World) (s : Sh) (m : Mem3) (L : Nat → Bool) (V : Nat → Value) (W : World) : Prop where
  low : Below w.heap.size w W
  z : W.heap[w.heap.size + 1]? = some (.cells #[.int .i64 0, .int .i64 0, .int .i64 0, .int .i64 0, .slice none 0 0, .slice none 0 0, .slice none 0 0, .int .i64 0, .int .i64 0, .int .i64 0, .int .i64 0] 24 (0, 0))
  c : W.heap[w.heap.size]? = some (.cells #[.int .i64 s.cls, .int .i64 s.pow, .int .i64 s.dra, .int .i64 s.ton, if L 10 = true then V 2 else .slice m.pt s.th.n m.ct, if L 12 = true then V 5 else .slice m.pw s.wa.n m.cw, if L 14 = true then V 8 else .slice m.pi s.ic.n m.ci, .int .i64 s.slow, .int .i64 s.brash, .int .i64 s.ridge, .int .i64 s.press] 24 (0, 0))
  r2 : L 2 = true → CRow W (w.heap.size + 2) (V 2) s.th
  r5 : L 5 = true → CRow W (w.heap.size + 2) (V 5) s.wa
  r8 : L 8 = true → CRow W (w.heap.size + 2) (V 8) s.ic
  n10 : L 10 = true → L 1 = true ∧ L 4 = true ∧ L 7 = true ∧ L 2 = true
  n12 : L 12 = true → L 1 = true ∧ L 4 = true ∧ L 7 = true ∧ L 5 = true
  n14 : L 14 = true → L 1 = true ∧ L 4 = true ∧ L 7 = true ∧ L 8 = true
section
variable {w : World} {s : Sh} {m : Mem3} {L : Nat → Bool} {V : Nat → Value} {W W' : World}
theorem Cq.sz (h : Cq w s m L V W) : w.heap.size + 2 ≤ W.heap.size := lt_of_block h.z
theorem Cq.later (h : Cq w s m L V W) (hb : Below W.heap.size W W') : Cq w s m L V W' :=
  ⟨h.low.trans (hb.mono h.low.size), (hb.block _ (lt_of_block h.z)).trans h.z, (hb.block _ (lt_of_block h.c)).trans h.c, fun e => (h.r2 e).later hb, fun e => (h.r5 e).later hb, fun e => (h.r8 e).later hb, h.n10, h.n12, h.n14⟩
/-- an operation that yields no row and writes nothing -/
theorem Cq.set (h : Cq w s m L V W) (i : Nat) (hi : i ∉ [2, 5, 8, 10, 12, 14]) (x : Value) : Cq w s m (fun j => if j = i then true else L j) (fun j => if j = i then x else V j) W := by
  simp only [List.mem_cons, List.not_mem_nil, or_false, not_or] at hi
  obtain ⟨h2, h5, h8, h10, h12, h14⟩ := hi
  have up : ∀ j, L j = true → (if j = i then true else L j) = true := fun j hj => by by_cases e : j = i <;> simp [e, hj]
  refine ⟨h.low, h.z, ?_, ?_, ?_, ?_, ?_, ?_, ?_⟩
  · simp only [if_neg (Ne.symm h2), if_neg (Ne.symm h5), if_neg (Ne.symm h8), if_neg (Ne.symm h10), if_neg (Ne.symm h12), if_neg (Ne.symm h14)]; exact h.c
  · simp only [if_neg (Ne.symm h2)]; exact h.r2
  · simp only [if_neg (Ne.symm h5)]; exact h.r5
  · simp only [if_neg (Ne.symm h8)]; exact h.r8
  · simp only [if_neg (Ne.symm h10)]; exact fun e => ⟨up _ (h.n10 e).1, up _ (h.n10 e).2.1, up _ (h.n10 e).2.2.1, up _ (h.n10 e).2.2.2⟩
  · simp only [if_neg (Ne.symm h12)]; exact fun e => ⟨up _ (h.n12 e).1, up _ (h.n12 e).2.1, up _ (h.n12 e).2.2.1, up _ (h.n12 e).2.2.2⟩
  · simp only [if_neg (Ne.symm h14)]; exact fun e => ⟨up _ (h.n14 e).1, up _ (h.n14 e).2.1, up _ (h.n14 e).2.2.1, up _ (h.n14 e).2.2.2⟩
theorem Cq.off (h : Cq w s m L V W) {i : Nat} (hi : i = 1 ∨ i = 4 ∨ i = 7) (hL : L i = false) : L 10 = false ∧ L 12 = false ∧ L 14 = false := by
  refine ⟨?_, ?_, ?_⟩
  · cases e : L 10 with
    | false => rfl
    | true => obtain ⟨a, b, c, _⟩ := h.n10 e; rcases hi with rfl | rfl | rfl <;> simp_all
  · cases e : L 12 with
    | false => rfl
    | true => obtain ⟨a, b, c, _⟩ := h.n12 e; rcases hi with rfl | rfl | rfl <;> simp_all
  · cases e : L 14 with
    | false => rfl
    | true => obtain ⟨a, b, c, _⟩ := h.n14 e; rcases hi with rfl | rfl | rfl <;> simp_all
end
set_option maxHeartbeats 4000000 in
theorem CopyShip_all (s : Sh) (m : Mem3) (n2 : s.th.n ≤ 1000) (n4 : s.wa.n ≤ 1000) (n6 : s.ic.n ≤ 1000) (w : World) (hs : ShipIn w s m) :
    Calls Tryz.prog 11 #[.agg (shipA s m)] w fun e w' => ∃ m' : Mem3, e = .returned (.agg (shipA s m')) ∧ ShipIn w' s m' ∧ Below w.heap.size w w' := by
  have HS := Lib.hid hs
  have HN := Lib.hid (And.intro n2 (And.intro n4 n6))
  clear n2 n4 n6
  obtain ⟨t1, t2, tz, tb⟩ := two_allocs w (.cells (shipA s m) 24) (.cells #[.int .i64 0, .int .i64 0, .int .i64 0, .int .i64 0, .slice none 0 0, .slice none 0 0, .slice none 0 0, .int .i64 0, .int .i64 0, .int .i64 0, .int .i64 0] 24)
  have H1 := Lib.hid t1
  have H2 := Lib.hid t2
  have HB := Lib.hid tb
  clear t1 t2 tb hs
  go_enter Tryz.func11, Tryz.ntmps11
  go_wp2_with fail
  generalize (w.alloc (.cells (shipA s m) 24)).alloc (.cells #[.int .i64 0, .int .i64 0, .int .i64 0, .int .i64 0, .slice none 0 0, .slice none 0 0, .slice none 0 0, .int .i64 0, .int .i64 0, .int .i64 0, .int .i64 0] 24) = X at *
  refine wp_region_fi [3, 4, 5, 6, 7, 8, 9, 10, 11, 12, 1000, 13, 1001, 14, 1002] (cpF s m w.heap.size) (Cq w s m) (by kernel_rfl) (by kernel_rfl) ?sz ?ts ?z ?val ?fin
  case sz => intro s hs h; simp at hs ⊢; omega
  case ts => simp
  case z => exact Cq.later ⟨HB.out, H2.out, H1.out, (fun e => by cases e), (fun e => by cases e), (fun e => by cases e), (fun e => by cases e), (fun e => by cases e), (fun e => by cases e)⟩ (below_drawn X)
  case val =>
    intro jj
    match jj with
    | 0 => intro o L V ho hL hd a' W hX hfr hdp; obtain rfl := Option.some.inj ho; exact opx_of (op_fa24k rfl (hfr 1 (by decide)) (by decide)) fun W' hb => ⟨rfl, (hX.later hb).set 0 (by decide) _⟩
    | 1 =>
      intro o L V ho hL hd a' W hX hfr hdp; obtain rfl := Option.some.inj ho
      obtain ⟨u0, u1, u2⟩ := hX.off (i := 1) (by decide) hL
      have hc := hX.c
      rw [u0, u1, u2] at hc
      simp only [if_neg (show ¬ false = true by simp)] at hc
      exact opx_of (op_load22 rfl (Dp (hdp 0 3 (by decide) rfl (by kernel_rfl)) id) ((cell_of_block hc 4).trans rfl)) fun W' hb => ⟨rfl, (hX.later hb).set 1 (by decide) _⟩
    | 2 =>
      intro o L V ho hL hd a' W hX hfr hdp; obtain rfl := Option.some.inj ho
      have hf : L 10 = false := by
        cases e : L 10 with
        | false => rfl
        | true => have := (hX.n10 e).2.2.2; rw [hL] at this; cases this
      refine opx_callu rfl (Dp (hdp 1 4 (by decide) rfl (by kernel_rfl)) id) eg13 ((Clone_in m.pt s.th.n _ s.th rfl HN.out.1 W ((by have := HS.out.t; exact this.later hX.low))).mono ?_)
      rintro e W' ⟨q', k', rfl, hk, hp, hnew, hb⟩
      have hr : CRow W' W.heap.size (.slice q' s.th.n k') s.th := ⟨q', k', rfl, hk, hp, hnew⟩
      have hc := (hb.block _ (lt_of_block hX.c)).trans hX.c
      refine ⟨_, rfl, trivial, hX.low.trans (hb.mono hX.low.size), (hb.block _ (lt_of_block hX.z)).trans hX.z, ?_, fun _ => CRow.weak (by simpa using hr) (by have := hX.sz; omega), by simpa using fun e => (hX.r5 e).later hb, by simpa using fun e => (hX.r8 e).later hb, ?_, ?_, ?_⟩
      · rw [hc]; simp [hf]
      · intro e; have := hX.n10 (by simpa using e); simp [this]
      · intro e; have := hX.n12 (by simpa using e); simp [this]
      · intro e; have := hX.n14 (by simpa using e); simp [this]
    | 3 => intro o L V ho hL hd a' W hX hfr hdp; obtain rfl := Option.some.inj ho; exact opx_of (op_fa24k rfl (hfr 1 (by decide)) (by decide)) fun W' hb => ⟨rfl, (hX.later hb).set 3 (by decide) _⟩
    | 4 =>
      intro o L V ho hL hd a' W hX hfr hdp; obtain rfl := Option.some.inj ho
      obtain ⟨u0, u1, u2⟩ := hX.off (i := 4) (by decide) hL
      have hc := hX.c
      rw [u0, u1, u2] at hc
      simp only [if_neg (show ¬ false = true by simp)] at hc
      exact opx_of (op_load22 rfl (Dp (hdp 3 6 (by decide) rfl (by kernel_rfl)) id) ((cell_of_block hc 5).trans rfl)) fun W' hb => ⟨rfl, (hX.later hb).set 4 (by decide) _⟩
    | 5 =>
      intro o L V ho hL hd a' W hX hfr hdp; obtain rfl := Option.some.inj ho
      have hf : L 12 = false := by
        cases e : L 12 with
        | false => rfl
        | true => have := (hX.n12 e).2.2.2; rw [hL] at this; cases this
      refine opx_callu rfl (Dp (hdp 4 7 (by decide) rfl (by kernel_rfl)) id) eg13 ((Clone_in m.pw s.wa.n _ s.wa rfl HN.out.2.1 W ((by have := HS.out.w; exact this.later hX.low))).mono ?_)
      rintro e W' ⟨q', k', rfl, hk, hp, hnew, hb⟩
      have hr : CRow W' W.heap.size (.slice q' s.wa.n k') s.wa := ⟨q', k', rfl, hk, hp, hnew⟩
      have hc := (hb.block _ (lt_of_block hX.c)).trans hX.c
      refine ⟨_, rfl, trivial, hX.low.trans (hb.mono hX.low.size), (hb.block _ (lt_of_block hX.z)).trans hX.z, ?_, by simpa using fun e => (hX.r2 e).later hb, fun _ => CRow.weak (by simpa using hr) (by have := hX.sz; omega), by simpa using fun e => (hX.r8 e).later hb, ?_, ?_, ?_⟩
      · rw [hc]; simp [hf]
      · intro e; have := hX.n10 (by simpa using e); simp [this]
      · intro e; have := hX.n12 (by simpa using e); simp [this]
      · intro e; have := hX.n14 (by simpa using e); simp [this]
    | 6 => intro o L V ho hL hd a' W hX hfr hdp; obtain rfl := Option.some.inj ho; exact opx_of (op_fa24k rfl (hfr 1 (by decide)) (by decide)) fun W' hb => ⟨rfl, (hX.later hb).set 6 (by decide) _⟩
    | 7 =>
      intro o L V ho hL hd a' W hX hfr hdp; obtain rfl := Option.some.inj ho
      obtain ⟨u0, u1, u2⟩ := hX.off (i := 7) (by decide) hL
      have hc := hX.c
      rw [u0, u1, u2] at hc
      simp only [if_neg (show ¬ false = true by simp)] at hc
      exact opx_of (op_load22 rfl (Dp (hdp 6 9 (by decide) rfl (by kernel_rfl)) id) ((cell_of_block hc 6).trans rfl)) fun W' hb => ⟨rfl, (hX.later hb).set 7 (by decide) _⟩
    | 8 =>
      intro o L V ho hL hd a' W hX hfr hdp; obtain rfl := Option.some.inj ho
      have hf : L 14 = false := by
        cases e : L 14 with
        | false => rfl
        | true => have := (hX.n14 e).2.2.2; rw [hL] at this; cases this
      refine opx_callu rfl (Dp (hdp 7 10 (by decide) rfl (by kernel_rfl)) id) eg13 ((Clone_in m.pi s.ic.n _ s.ic rfl HN.out.2.2 W ((by have := HS.out.i; exact this.later hX.low))).mono ?_)
      rintro e W' ⟨q', k', rfl, hk, hp, hnew, hb⟩
      have hr : CRow W' W.heap.size (.slice q' s.ic.n k') s.ic := ⟨q', k', rfl, hk, hp, hnew⟩
      have hc := (hb.block _ (lt_of_block hX.c)).trans hX.c
      refine ⟨_, rfl, trivial, hX.low.trans (hb.mono hX.low.size), (hb.block _ (lt_of_block hX.z)).trans hX.z, ?_, by simpa using fun e => (hX.r2 e).later hb, by simpa using fun e => (hX.r5 e).later hb, fun _ => CRow.weak (by simpa using hr) (by have := hX.sz; omega), ?_, ?_, ?_⟩
      · rw [hc]; simp [hf]
      · intro e; have := hX.n10 (by simpa using e); simp [this]
      · intro e; have := hX.n12 (by simpa using e); simp [this]
      · intro e; have := hX.n14 (by simpa using e); simp [this]
    | 9 => intro o L V ho hL hd a' W hX hfr hdp; obtain rfl := Option.some.inj ho; exact opx_of (op_fa24k rfl (hfr 1 (by decide)) (by decide)) fun W' hb => ⟨rfl, (hX.later hb).set 9 (by decide) _⟩
    | 10 =>
      intro o L V ho hL hd a' W hX hfr hdp; obtain rfl := Option.some.inj ho
      have hv := (hdp 2 5 (by decide) rfl (by kernel_rfl)).1
      have hr := hX.r2 (hd 2 (by kernel_rfl))
      obtain ⟨q, c, e0, _⟩ := hr
      rw [e0] at hv
      have k1 := hd 1 (by kernel_rfl)
      have k4 := hd 4 (by kernel_rfl)
      have k7 := hd 7 (by kernel_rfl)
      have k2 := hd 2 (by kernel_rfl)
      have hs2 := hX.sz
      refine opx_store22 rfl rfl (Dp (hdp 9 12 (by decide) rfl (by kernel_rfl)) id) hv hX.c (by simp) fun W' hb hc => ⟨trivial, hX.low.trans (hc.below (Nat.le_refl _)), (hc.2.1 _ (by omega)).trans hX.z, ?_, ?_, ?_, ?_, ?_, ?_, ?_⟩
      · rw [hb, ← e0]; simp
      · simpa using fun e => (hX.r2 e).sto hc (by omega)
      · simpa using fun e => (hX.r5 e).sto hc (by omega)
      · simpa using fun e => (hX.r8 e).sto hc (by omega)
      · simp [k1, k4, k7, k2]
      · simpa using hX.n12
      · simpa using hX.n14
    | 11 => intro o L V ho hL hd a' W hX hfr hdp; obtain rfl := Option.some.inj ho; exact opx_of (op_fa24k rfl (hfr 1 (by decide)) (by decide)) fun W' hb => ⟨rfl, (hX.later hb).set 11 (by decide) _⟩
    | 12 =>
      intro o L V ho hL hd a' W hX hfr hdp; obtain rfl := Option.some.inj ho
      have hv := (hdp 5 8 (by decide) rfl (by kernel_rfl)).1
      have hr := hX.r5 (hd 5 (by kernel_rfl))
      obtain ⟨q, c, e0, _⟩ := hr
      rw [e0] at hv
      have k1 := hd 1 (by kernel_rfl)
      have k4 := hd 4 (by kernel_rfl)
      have k7 := hd 7 (by kernel_rfl)
      have k2 := hd 5 (by kernel_rfl)
      have hs2 := hX.sz
      refine opx_store22 rfl rfl (Dp (hdp 11 13 (by decide) rfl (by kernel_rfl)) id) hv hX.c (by simp) fun W' hb hc => ⟨trivial, hX.low.trans (hc.below (Nat.le_refl _)), (hc.2.1 _ (by omega)).trans hX.z, ?_, ?_, ?_, ?_, ?_, ?_, ?_⟩
      · rw [hb, ← e0]; simp
      · simpa using fun e => (hX.r2 e).sto hc (by omega)
      · simpa using fun e => (hX.r5 e).sto hc (by omega)
      · simpa using fun e => (hX.r8 e).sto hc (by omega)
      · simpa using hX.n10
      · simp [k1, k4, k7, k2]
      · simpa using hX.n14
    | 13 => intro o L V ho hL hd a' W hX hfr hdp; obtain rfl := Option.some.inj ho; exact opx_of (op_fa24k rfl (hfr 1 (by decide)) (by decide)) fun W' hb => ⟨rfl, (hX.later hb).set 13 (by decide) _⟩
    | 14 =>
      intro o L V ho hL hd a' W hX hfr hdp; obtain rfl := Option.some.inj ho
      have hv := (hdp 8 11 (by decide) rfl (by kernel_rfl)).1
      have hr := hX.r8 (hd 8 (by kernel_rfl))
      obtain ⟨q, c, e0, _⟩ := hr
      rw [e0] at hv
      have k1 := hd 1 (by kernel_rfl)
      have k4 := hd 4 (by kernel_rfl)
      have k7 := hd 7 (by kernel_rfl)
      have k2 := hd 8 (by kernel_rfl)
      have hs2 := hX.sz
      refine opx_store22 rfl rfl (Dp (hdp 13 14 (by decide) rfl (by kernel_rfl)) id) hv hX.c (by simp) fun W' hb hc => ⟨trivial, hX.low.trans (hc.below (Nat.le_refl _)), (hc.2.1 _ (by omega)).trans hX.z, ?_, ?_, ?_, ?_, ?_, ?_, ?_⟩
      · rw [hb, ← e0]; simp
      · simpa using fun e => (hX.r2 e).sto hc (by omega)
      · simpa using fun e => (hX.r5 e).sto hc (by omega)
      · simpa using fun e => (hX.r8 e).sto hc (by omega)
      · simpa using hX.n10
      · simpa using hX.n12
      · simp [k1, k4, k7, k2]
    | j + 15 => intro o L V ho; simp at ho
  case fin =>
    intro W1 L V hL hF hI
    have r2 := hI.r2 (hL 2 (by decide))
    have r5 := hI.r5 (hL 5 (by decide))
    have r8 := hI.r8 (hL 8 (by decide))
    have hc := hI.c
    rw [hL 10 (by decide), hL 12 (by decide), hL 14 (by decide)] at hc
    simp only [if_true] at hc
    have hz := hI.z
    have HL := Lib.hid hI.low
    obtain ⟨q4, c4, f4, _⟩ := id r2
    obtain ⟨q5, c5, f5, _⟩ := id r5
    obtain ⟨q6, c6, f6, _⟩ := id r8
    rw [f4, f5, f6] at hc
    rw [f4] at r2
    rw [f5] at r5
    rw [f6] at r8
    have HR2 := Lib.hid r2
    have HR5 := Lib.hid r5
    have HR8 := Lib.hid r8
    have HC := Lib.hid hc
    have HZ := Lib.hid hz
    clear hI hF hL hc hz r2 r5 r8 H1 H2 HB
    simp only [fill, Act.put, List.setIfInBounds_toArray, List.set_cons_zero, List.set_cons_succ, List.set_nil, Nat.reduceAdd]
    generalize V 0 = v0, V 1 = v1, V 2 = v2, V 3 = v3, V 4 = v4, V 5 = v5, V 6 = v6, V 7 = v7, V 8 = v8, V 9 = v9, V 10 = v10, V 11 = v11, V 12 = v12, V 13 = v13, V 14 = v14 at *
    clear V f4 f5 f6
    obtain ⟨k0, k1, k2, k3, k4, k5, k6, k7, k8, k9, k10⟩ := cells11 HC.out
    go_wp2_with (refine list_store24 rfl rfl rfl rfl rfl HZ.out ?_; intro V9 hz hc; have HLE := Lib.hid (HL.out.trans (hc.below (by omega))); have HQ2 := Lib.hid (HR2.out.sto hc (by omega)); have HQ5 := Lib.hid (HR5.out.sto hc (by omega)); have HQ8 := Lib.hid (HR8.out.sto hc (by omega)); obtain ⟨m0, m1, m2, m3, m4, m5, m6, m7, m8, m9, m10⟩ := cells11 hz; clear hz hc HC HZ HL HR2 HR5 HR8)
    refine bodyPost_ret (v := .agg (shipA s ⟨q4, q5, q6, c4, c5, c6⟩)) (by simp [results, Tryz.results11, go_sem, m0, m1, m2, m3, m4, m5, m6, m7, m8, m9, m10]) rfl ⟨⟨q4, q5, q6, c4, c5, c6⟩, rfl, ⟨(crow_pts HQ2.out).1, (crow_pts HQ5.out).1, (crow_pts HQ8.out).1, (crow_pts HQ2.out).2, (crow_pts HQ5.out).2, (crow_pts HQ8.out).2, HS.out.nt, HS.out.nw, HS.out.ni⟩, HLE.out⟩
end Go.Proofs.YtcoiklolgilhaaaGreatDoor
namespace Go.Proofs.YtcoiklolgilhaaaGreatDoor
open Go.RowKit
set_option maxRecDepth 100000
theorem points_in (p : Option Addr) (n cap : Nat) (c : Cv) (hc : c.n = n) (h8 : n ≤ 1000) (w : World) (hP : Pts w p c) :
    Calls Tryz.prog 65 #[.slice p n cap] w fun e w' => ∃ v', e = .returned v' ∧ CRow w' w.heap.size v' c ∧ Below w.heap.size w w' := by
  refine (points_any p n cap c hc h8 w hP).mono ?_
  rintro e w' ⟨v', rfl, hr, hb⟩
  refine ⟨v', rfl, ?_, hb⟩
  have hbase := rrow_base hr
  rcases id hr.2 with ⟨rfl, e2⟩ | ⟨g, cap', cur, rfl, _, _, hn, _⟩
  · have h0 : c.n = 0 := by rw [← ptsL_len c]; exact e2
    exact ⟨none, 0, by rw [h0], by omega, fun i hi => by omega, fun a e => by cases e⟩
  · refine ⟨some ⟨g, 0, none⟩, cap', by rw [← ptsL_len c], by rw [← ptsL_len c]; exact hn, pts_of_ptsL hr.pts, fun a e => ?_⟩
    obtain rfl := Option.some.inj e
    exact hbase g rfl
section
variable {Q : Exit → Act → World → Prop} {o : Oper} {a' : Act} {W : World}
theorem op_b42 {t0 t1 t2 t3 t4 t5 t6 t7 t8 t9 t10 : Nat} {y0 y1 y2 y3 y7 y8 y9 y10 : Int} {q4 q5 q6 : Option Addr} {n4 c4 n5 c5 n6 c6 : Nat} (hop : o.op = Op.build 36 #[(0, .tmp t0), (1, .tmp t1), (2, .tmp t2), (3, .tmp t3), (4, .tmp t4), (5, .tmp t5), (6, .tmp t6), (7, .tmp t7), (8, .tmp t8), (9, .tmp t9), (10, .tmp t10)])

    (h0 : a'.eval (.tmp t0) = .int .i64 y0)
    (h1 : a'.eval (.tmp t1) = .int .i64 y1)
    (h2 : a'.eval (.tmp t2) = .int .i64 y2)
    (h3 : a'.eval (.tmp t3) = .int .i64 y3)
    (h4 : a'.eval (.tmp t4) = .slice q4 n4 c4)
    (h5 : a'.eval (.tmp t5) = .slice q5 n5 c5)
    (h6 : a'.eval (.tmp t6) = .slice q6 n6 c6)
    (h7 : a'.eval (.tmp t7) = .int .i64 y7)
    (h8 : a'.eval (.tmp t8) = .int .i64 y8)
    (h9 : a'.eval (.tmp t9) = .int .i64 y9)
    (h10 : a'.eval (.tmp t10) = .int .i64 y10)
    : o.wp Tryz.prog a' W (fun a'' W' => a'' = a'.put o.dst (.agg #[.int .i64 y0, .int .i64 y1, .int .i64 y2, .int .i64 y3, .slice q4 n4 c4, .slice q5 n5 c5, .slice q6 n6 c6, .int .i64 y7, .int .i64 y8, .int .i64 y9, .int .i64 y10]) ∧ Below W.heap.size W W') Q := by
  have k0 : a'.tmps[t0]?.getD undef = .int .i64 y0 := by simpa [Act.eval] using h0
  have k1 : a'.tmps[t1]?.getD undef = .int .i64 y1 := by simpa [Act.eval] using h1
  have k2 : a'.tmps[t2]?.getD undef = .int .i64 y2 := by simpa [Act.eval] using h2
  have k3 : a'.tmps[t3]?.getD undef = .int .i64 y3 := by simpa [Act.eval] using h3
  have k4 : a'.tmps[t4]?.getD undef = .slice q4 n4 c4 := by simpa [Act.eval] using h4
  have k5 : a'.tmps[t5]?.getD undef = .slice q5 n5 c5 := by simpa [Act.eval] using h5
  have k6 : a'.tmps[t6]?.getD undef = .slice q6 n6 c6 := by simpa [Act.eval] using h6
  have k7 : a'.tmps[t7]?.getD undef = .int .i64 y7 := by simpa [Act.eval] using h7
  have k8 : a'.tmps[t8]?.getD undef = .int .i64 y8 := by simpa [Act.eval] using h8
  have k9 : a'.tmps[t9]?.getD undef = .int .i64 y9 := by simpa [Act.eval] using h9
  have k10 : a'.tmps[t10]?.getD undef = .int .i64 y10 := by simpa [Act.eval] using h10
  have hb := Below.refl W.heap.size W
  unfold Oper.wp execOp
  rw [hop]
  simp [go_sem, k0, k1, k2, k3, k4, k5, k6, k7, k8, k9, k10, hb]
theorem opx_store42 {s r b : Nat} {t : TypeId} {x0 x1 x2 x3 x4 x5 x6 x7 x8 x9 x10 : Value} {y0 y1 y2 y3 y7 y8 y9 y10 : Int} {q4 q5 q6 : Option Addr} {n4 c4 n5 c5 n6 c6 : Nat} {Rq : Value → World → Prop} (hd : o.dst = none) (hop : o.op = Op.store 36 (.tmp s) (.tmp r))
    (he : a'.eval (.tmp s) = .pointer (some ⟨b, 0, none⟩)) (hv : a'.eval (.tmp r) = .agg #[.int .i64 y0, .int .i64 y1, .int .i64 y2, .int .i64 y3, .slice q4 n4 c4, .slice q5 n5 c5, .slice q6 n6 c6, .int .i64 y7, .int .i64 y8, .int .i64 y9, .int .i64 y10]) (hb : W.heap[b]? = some (.cells #[x0, x1, x2, x3, x4, x5, x6, x7, x8, x9, x10] t (0, 0)))
    (hR : ∀ W', W'.heap[b]? = some (.cells #[.int .i64 y0, .int .i64 y1, .int .i64 y2, .int .i64 y3, .slice q4 n4 c4, .slice q5 n5 c5, .slice q6 n6 c6, .int .i64 y7, .int .i64 y8, .int .i64 y9, .int .i64 y10] t (0, 0)) → Chg b W W' → Rq undef W') :
    o.wp Tryz.prog a' W (fun a'' W' => ∃ x, a'' = a'.put o.dst x ∧ Rq x W') Q := by
  obtain ⟨k0, k1, k2, k3, k4, k5, k6, k7, k8, k9, k10⟩ := cells11 hb
  have f := fun o => frozen_of_block hb o
  have he' : a'.tmps[s]?.getD undef = .pointer (some ⟨b, 0, none⟩) := by simpa [Act.eval] using he
  have hv' : a'.tmps[r]?.getD undef = .agg #[.int .i64 y0, .int .i64 y1, .int .i64 y2, .int .i64 y3, .slice q4 n4 c4, .slice q5 n5 c5, .slice q6 n6 c6, .int .i64 y7, .int .i64 y8, .int .i64 y9, .int .i64 y10] := by simpa [Act.eval] using hv
  have hfin := hR (World.store11 W b (.int .i64 y0) (.int .i64 y1) (.int .i64 y2) (.int .i64 y3) (.slice q4 n4 c4) (.slice q5 n5 c5) (.slice q6 n6 c6) (.int .i64 y7) (.int .i64 y8) (.int .i64 y9) (.int .i64 y10)) (store11_block hb _ _ _ _ _ _ _ _ _ _ _) (chg_store11 _ _ _ _ _ _ _ _ _ _ _ _ _)
  unfold World.store11 at hfin
  unfold Oper.wp execOp
  rw [hop]
  simp [go_sem, he', hv', k0, k1, k2, k3, k4, k5, k6, k7, k8, k9, k10, f, hd]
  exact ⟨_, hfin⟩
end
theorem eg16 : ∀ args w, (callFunc 65 args).run Tryz.prog w = .ok (.enter 65 args) w := Go.Proofs.enters_of Tryz.func65 (by kernel_rfl) rfl
/-- what lies in Ship's memory while it makes a ship -/
structure Sq (w : World) (s : Sh) (m : Mem3) (L : Nat → Bool) (V : Nat → Value) (W : World) : Prop where
  low : Below w.heap.size w W
  c : W.heap[w.heap.size]? = some (.cells (shipA s m) 24 (0, 0))
  z : W.heap[w.heap.size + 1]? = some (.cells (if L 26 = true then #[.int .i64 s.cls, .int .i64 s.pow, .int .i64 s.dra, .int .i64 s.ton, V 10, V 13, V 16, .int .i64 s.slow, .int .i64 s.brash, .int .i64 s.ridge, .int .i64 s.press] else #[.int .i64 0, .int .i64 0, .int .i64 0, .int .i64 0, .slice none 0 0, .slice none 0 0, .slice none 0 0, .int .i64 0, .int .i64 0, .int .i64 0, .int .i64 0]) 36 (0, 0))
  r10 : L 10 = true → CRow W (w.heap.size + 2) (V 10) s.th
  r13 : L 13 = true → CRow W (w.heap.size + 2) (V 13) s.wa
  r16 : L 16 = true → CRow W (w.heap.size + 2) (V 16) s.ic
  v25 : L 25 = true → V 25 = .agg #[.int .i64 s.cls, .int .i64 s.pow, .int .i64 s.dra, .int .i64 s.ton, V 10, V 13, V 16, .int .i64 s.slow, .int .i64 s.brash, .int .i64 s.ridge, .int .i64 s.press]
  n25 : L 25 = true → L 10 = true ∧ L 13 = true ∧ L 16 = true
  n26 : L 26 = true → L 25 = true
section
variable {w : World} {s : Sh} {m : Mem3} {L : Nat → Bool} {V : Nat → Value} {W W' : World}
theorem Sq.sz (h : Sq w s m L V W) : w.heap.size + 2 ≤ W.heap.size := lt_of_block h.z
theorem Sq.later (h : Sq w s m L V W) (hb : Below W.heap.size W W') : Sq w s m L V W' :=
  ⟨h.low.trans (hb.mono h.low.size), (hb.block _ (lt_of_block h.c)).trans h.c, (hb.block _ (lt_of_block h.z)).trans h.z, fun e => (h.r10 e).later hb, fun e => (h.r13 e).later hb, fun e => (h.r16 e).later hb, h.v25, h.n25, h.n26⟩
theorem Sq.set (h : Sq w s m L V W) (i : Nat) (hi : i ∉ [10, 13, 16, 25, 26]) (x : Value) : Sq w s m (fun j => if j = i then true else L j) (fun j => if j = i then x else V j) W := by
  simp only [List.mem_cons, List.not_mem_nil, or_false, not_or] at hi
  obtain ⟨h10, h13, h16, h25, h26⟩ := hi
  refine ⟨h.low, h.c, ?_, ?_, ?_, ?_, ?_, ?_, ?_⟩
  · simp only [if_neg (Ne.symm h10), if_neg (Ne.symm h13), if_neg (Ne.symm h16), if_neg (Ne.symm h26)]; exact h.z
  · simp only [if_neg (Ne.symm h10)]; exact h.r10
  · simp only [if_neg (Ne.symm h13)]; exact h.r13
  · simp only [if_neg (Ne.symm h16)]; exact h.r16
  · simp only [if_neg (Ne.symm h10), if_neg (Ne.symm h13), if_neg (Ne.symm h16), if_neg (Ne.symm h25)]; exact h.v25
  · simp only [if_neg (Ne.symm h10), if_neg (Ne.symm h13), if_neg (Ne.symm h16), if_neg (Ne.symm h25)]; exact h.n25
  · simp only [if_neg (Ne.symm h25), if_neg (Ne.symm h26)]; exact h.n26
theorem Sq.off (h : Sq w s m L V W) {i : Nat} (hi : i = 10 ∨ i = 13 ∨ i = 16) (hL : L i = false) : L 25 = false ∧ L 26 = false := by
  have h25 : L 25 = false := by
    cases e : L 25 with
    | false => rfl
    | true => obtain ⟨a, b, c⟩ := h.n25 e; rcases hi with rfl | rfl | rfl <;> simp_all
  refine ⟨h25, ?_⟩
  cases e : L 26 with
  | false => rfl
  | true => have := h.n26 e; rw [h25] at this; cases this
end
def sqF (s : Sh) (m : Mem3) (B : Nat) : Nat → Value → Prop
  | 0, v => v = .pointer (some ⟨B, 0, none⟩)
  | 1, v => v = .int .i64 s.cls
  | 2, v => v = .pointer (some ⟨B, 1, none⟩)
  | 3, v => v = .int .i64 s.pow
  | 4, v => v = .pointer (some ⟨B, 2, none⟩)
  | 5, v => v = .int .i64 s.dra
  | 6, v => v = .pointer (some ⟨B, 3, none⟩)
  | 7, v => v = .int .i64 s.ton
  | 8, v => v = .pointer (some ⟨B, 4, none⟩)
  | 9, v => v = .slice m.pt s.th.n m.ct
  | 11, v => v = .pointer (some ⟨B, 5, none⟩)
  | 12, v => v = .slice m.pw s.wa.n m.cw
  | 14, v => v = .pointer (some ⟨B, 6, none⟩)
  | 15, v => v = .slice m.pi s.ic.n m.ci
  | 17, v => v = .pointer (some ⟨B, 7, none⟩)
  | 18, v => v = .int .i64 s.slow
  | 19, v => v = .pointer (some ⟨B, 8, none⟩)
  | 20, v => v = .int .i64 s.brash
  | 21, v => v = .pointer (some ⟨B, 9, none⟩)
  | 22, v => v = .int .i64 s.ridge
  | 23, v => v = .pointer (some ⟨B, 10, none⟩)
  | 24, v => v = .int .i64 s.press
  | _, _ => True
set_option maxHeartbeats 8000000 in
theorem Ship_any (s : Sh) (m : Mem3) (n2 : s.th.n ≤ 1000) (n4 : s.wa.n ≤ 1000) (n6 : s.ic.n ≤ 1000) (w : World) (hs : ShipIn w s m) :
    Calls Tryz.prog 12 #[.agg (shipA s m)] w fun e w' => ∃ m' : Mem3, e = .returned (.agg (shipA s m')) ∧ ShipIn w' s m' ∧ Below w.heap.size w w' := by
  have HS := Lib.hid hs
  have HN := Lib.hid (And.intro n2 (And.intro n4 n6))
  clear n2 n4 n6
  obtain ⟨t1, t2, tz, tb⟩ := two_allocs w (.cells (shipA s m) 24) (.cells #[.int .i64 0, .int .i64 0, .int .i64 0, .int .i64 0, .slice none 0 0, .slice none 0 0, .slice none 0 0, .int .i64 0, .int .i64 0, .int .i64 0, .int .i64 0] 36)
  have H1 := Lib.hid t1
  have H2 := Lib.hid t2
  have HB := Lib.hid tb
  clear t1 t2 tb hs
  go_enter Tryz.func12, Tryz.ntmps12
  go_wp2_with fail
  generalize (w.alloc (.cells (shipA s m) 24)).alloc (.cells #[.int .i64 0, .int .i64 0, .int .i64 0, .int .i64 0, .slice none 0 0, .slice none 0 0, .slice none 0 0, .int .i64 0, .int .i64 0, .int .i64 0, .int .i64 0] 36) = X at *
  refine wp_region_fi [3, 4, 5, 6, 7, 8, 9, 10, 11, 12, 13, 14, 15, 16, 17, 18, 19, 20, 21, 22, 23, 24, 25, 26, 27, 28, 1000] (sqF s m w.heap.size) (Sq w s m) (by kernel_rfl) (by kernel_rfl) ?sz ?ts ?z ?val ?fin
  case sz => intro s hs h; simp at hs ⊢; omega
  case ts => simp
  case z => exact Sq.later ⟨HB.out, H1.out, H2.out, (fun e => by cases e), (fun e => by cases e), (fun e => by cases e), (fun e => by cases e), (fun e => by cases e), (fun e => by cases e)⟩ (below_drawn X)
  case val =>
    intro jj
    match jj with
    | 0 => intro o L V ho hL hd a' W hX hfr hdp; obtain rfl := Option.some.inj ho; exact opx_of (op_fa24k rfl (hfr 1 (by decide)) (by decide)) fun W' hb => ⟨rfl, (hX.later hb).set 0 (by decide) _⟩
    | 1 => intro o L V ho hL hd a' W hX hfr hdp; obtain rfl := Option.some.inj ho; exact opx_of (op_load3 rfl (Dp (hdp 0 3 (by decide) rfl (by kernel_rfl)) id) ((cell_of_block hX.c 0).trans rfl)) fun W' hb => ⟨rfl, (hX.later hb).set 1 (by decide) _⟩
    | 2 => intro o L V ho hL hd a' W hX hfr hdp; obtain rfl := Option.some.inj ho; exact opx_of (op_fa24k rfl (hfr 1 (by decide)) (by decide)) fun W' hb => ⟨rfl, (hX.later hb).set 2 (by decide) _⟩
    | 3 => intro o L V ho hL hd a' W hX hfr hdp; obtain rfl := Option.some.inj ho; exact opx_of (op_load3 rfl (Dp (hdp 2 5 (by decide) rfl (by kernel_rfl)) id) ((cell_of_block hX.c 1).trans rfl)) fun W' hb => ⟨rfl, (hX.later hb).set 3 (by decide) _⟩
    | 4 => intro o L V ho hL hd a' W hX hfr hdp; obtain rfl := Option.some.inj ho; exact opx_of (op_fa24k rfl (hfr 1 (by decide)) (by decide)) fun W' hb => ⟨rfl, (hX.later hb).set 4 (by decide) _⟩
    | 5 => intro o L V ho hL hd a' W hX hfr hdp; obtain rfl := Option.some.inj ho; exact opx_of (op_load3 rfl (Dp (hdp 4 7 (by decide) rfl (by kernel_rfl)) id) ((cell_of_block hX.c 2).trans rfl)) fun W' hb => ⟨rfl, (hX.later hb).set 5 (by decide) _⟩
    | 6 => intro o L V ho hL hd a' W hX hfr hdp; obtain rfl := Option.some.inj ho; exact opx_of (op_fa24k rfl (hfr 1 (by decide)) (by decide)) fun W' hb => ⟨rfl, (hX.later hb).set 6 (by decide) _⟩
    | 7 => intro o L V ho hL hd a' W hX hfr hdp; obtain rfl := Option.some.inj ho; exact opx_of (op_load3 rfl (Dp (hdp 6 9 (by decide) rfl (by kernel_rfl)) id) ((cell_of_block hX.c 3).trans rfl)) fun W' hb => ⟨rfl, (hX.later hb).set 7 (by decide) _⟩
    | 8 => intro o L V ho hL hd a' W hX hfr hdp; obtain rfl := Option.some.inj ho; exact opx_of (op_fa24k rfl (hfr 1 (by decide)) (by decide)) fun W' hb => ⟨rfl, (hX.later hb).set 8 (by decide) _⟩
    | 9 => intro o L V ho hL hd a' W hX hfr hdp; obtain rfl := Option.some.inj ho; exact opx_of (op_load22 rfl (Dp (hdp 8 11 (by decide) rfl (by kernel_rfl)) id) ((cell_of_block hX.c 4).trans rfl)) fun W' hb => ⟨rfl, (hX.later hb).set 9 (by decide) _⟩
    | 10 =>
      intro o L V ho hL hd a' W hX hfr hdp; obtain rfl := Option.some.inj ho
      obtain ⟨f25, f26⟩ := hX.off (i := 10) (by decide) hL
      refine opx_callu rfl (Dp (hdp 9 12 (by decide) rfl (by kernel_rfl)) id) eg16 ((points_in m.pt s.th.n _ s.th rfl HN.out.1 W ((by have := HS.out.t; exact this.later hX.low))).mono ?_)
      rintro e W' ⟨v', rfl, hr, hb⟩
      have hz := (hb.block _ (lt_of_block hX.z)).trans hX.z
      rw [f26] at hz
      simp only [if_neg (show ¬ false = true by simp)] at hz
      refine ⟨_, rfl, trivial, hX.low.trans (hb.mono hX.low.size), (hb.block _ (lt_of_block hX.c)).trans hX.c, ?_, fun _ => CRow.weak (by simpa using hr) (by have := hX.sz; omega), by simpa using fun e => (hX.r13 e).later hb, by simpa using fun e => (hX.r16 e).later hb, ?_, ?_, ?_⟩
      · rw [hz]; simp [f26]
      · intro e; simp [f25] at e
      · intro e; simp [f25] at e
      · intro e; simp [f26] at e
    | 11 => intro o L V ho hL hd a' W hX hfr hdp; obtain rfl := Option.some.inj ho; exact opx_of (op_fa24k rfl (hfr 1 (by decide)) (by decide)) fun W' hb => ⟨rfl, (hX.later hb).set 11 (by decide) _⟩
    | 12 => intro o L V ho hL hd a' W hX hfr hdp; obtain rfl := Option.some.inj ho; exact opx_of (op_load22 rfl (Dp (hdp 11 14 (by decide) rfl (by kernel_rfl)) id) ((cell_of_block hX.c 5).trans rfl)) fun W' hb => ⟨rfl, (hX.later hb).set 12 (by decide) _⟩
    | 13 =>
      intro o L V ho hL hd a' W hX hfr hdp; obtain rfl := Option.some.inj ho
      obtain ⟨f25, f26⟩ := hX.off (i := 13) (by decide) hL
      refine opx_callu rfl (Dp (hdp 12 15 (by decide) rfl (by kernel_rfl)) id) eg16 ((points_in m.pw s.wa.n _ s.wa rfl HN.out.2.1 W ((by have := HS.out.w; exact this.later hX.low))).mono ?_)
      rintro e W' ⟨v', rfl, hr, hb⟩
      have hz := (hb.block _ (lt_of_block hX.z)).trans hX.z
      rw [f26] at hz
      simp only [if_neg (show ¬ false = true by simp)] at hz
      refine ⟨_, rfl, trivial, hX.low.trans (hb.mono hX.low.size), (hb.block _ (lt_of_block hX.c)).trans hX.c, ?_, by simpa using fun e => (hX.r10 e).later hb, fun _ => CRow.weak (by simpa using hr) (by have := hX.sz; omega), by simpa using fun e => (hX.r16 e).later hb, ?_, ?_, ?_⟩
      · rw [hz]; simp [f26]
      · intro e; simp [f25] at e
      · intro e; simp [f25] at e
      · intro e; simp [f26] at e
    | 14 => intro o L V ho hL hd a' W hX hfr hdp; obtain rfl := Option.some.inj ho; exact opx_of (op_fa24k rfl (hfr 1 (by decide)) (by decide)) fun W' hb => ⟨rfl, (hX.later hb).set 14 (by decide) _⟩
    | 15 => intro o L V ho hL hd a' W hX hfr hdp; obtain rfl := Option.some.inj ho; exact opx_of (op_load22 rfl (Dp (hdp 14 17 (by decide) rfl (by kernel_rfl)) id) ((cell_of_block hX.c 6).trans rfl)) fun W' hb => ⟨rfl, (hX.later hb).set 15 (by decide) _⟩
    | 16 =>
      intro o L V ho hL hd a' W hX hfr hdp; obtain rfl := Option.some.inj ho
      obtain ⟨f25, f26⟩ := hX.off (i := 16) (by decide) hL
      refine opx_callu rfl (Dp (hdp 15 18 (by decide) rfl (by kernel_rfl)) id) eg16 ((points_in m.pi s.ic.n _ s.ic rfl HN.out.2.2 W ((by have := HS.out.i; exact this.later hX.low))).mono ?_)
      rintro e W' ⟨v', rfl, hr, hb⟩
      have hz := (hb.block _ (lt_of_block hX.z)).trans hX.z
      rw [f26] at hz
      simp only [if_neg (show ¬ false = true by simp)] at hz
      refine ⟨_, rfl, trivial, hX.low.trans (hb.mono hX.low.size), (hb.block _ (lt_of_block hX.c)).trans hX.c, ?_, by simpa using fun e => (hX.r10 e).later hb, by simpa using fun e => (hX.r13 e).later hb, fun _ => CRow.weak (by simpa using hr) (by have := hX.sz; omega), ?_, ?_, ?_⟩
      · rw [hz]; simp [f26]
      · intro e; simp [f25] at e
      · intro e; simp [f25] at e
      · intro e; simp [f26] at e
    | 17 => intro o L V ho hL hd a' W hX hfr hdp; obtain rfl := Option.some.inj ho; exact opx_of (op_fa24k rfl (hfr 1 (by decide)) (by decide)) fun W' hb => ⟨rfl, (hX.later hb).set 17 (by decide) _⟩
    | 18 => intro o L V ho hL hd a' W hX hfr hdp; obtain rfl := Option.some.inj ho; exact opx_of (op_load3 rfl (Dp (hdp 17 20 (by decide) rfl (by kernel_rfl)) id) ((cell_of_block hX.c 7).trans rfl)) fun W' hb => ⟨rfl, (hX.later hb).set 18 (by decide) _⟩
    | 19 => intro o L V ho hL hd a' W hX hfr hdp; obtain rfl := Option.some.inj ho; exact opx_of (op_fa24k rfl (hfr 1 (by decide)) (by decide)) fun W' hb => ⟨rfl, (hX.later hb).set 19 (by decide) _⟩
    | 20 => intro o L V ho hL hd a' W hX hfr hdp; obtain rfl := Option.some.inj ho; exact opx_of (op_load3 rfl (Dp (hdp 19 22 (by decide) rfl (by kernel_rfl)) id) ((cell_of_block hX.c 8).trans rfl)) fun W' hb => ⟨rfl, (hX.later hb).set 20 (by decide) _⟩
    | 21 => intro o L V ho hL hd a' W hX hfr hdp; obtain rfl := Option.some.inj ho; exact opx_of (op_fa24k rfl (hfr 1 (by decide)) (by decide)) fun W' hb => ⟨rfl, (hX.later hb).set 21 (by decide) _⟩
    | 22 => intro o L V ho hL hd a' W hX hfr hdp; obtain rfl := Option.some.inj ho; exact opx_of (op_load3 rfl (Dp (hdp 21 24 (by decide) rfl (by kernel_rfl)) id) ((cell_of_block hX.c 9).trans rfl)) fun W' hb => ⟨rfl, (hX.later hb).set 22 (by decide) _⟩
    | 23 => intro o L V ho hL hd a' W hX hfr hdp; obtain rfl := Option.some.inj ho; exact opx_of (op_fa24k rfl (hfr 1 (by decide)) (by decide)) fun W' hb => ⟨rfl, (hX.later hb).set 23 (by decide) _⟩
    | 24 => intro o L V ho hL hd a' W hX hfr hdp; obtain rfl := Option.some.inj ho; exact opx_of (op_load3 rfl (Dp (hdp 23 26 (by decide) rfl (by kernel_rfl)) id) ((cell_of_block hX.c 10).trans rfl)) fun W' hb => ⟨rfl, (hX.later hb).set 24 (by decide) _⟩
    | 25 =>
      intro o L V ho hL hd a' W hX hfr hdp; obtain rfl := Option.some.inj ho
      have k10 := hd 10 (by kernel_rfl)
      have k13 := hd 13 (by kernel_rfl)
      have k16 := hd 16 (by kernel_rfl)
      have f26 : L 26 = false := by
        cases e : L 26 with
        | false => rfl
        | true => have := hX.n26 e; rw [hL] at this; cases this
      obtain ⟨q4, c4, e4, _⟩ := hX.r10 k10
      obtain ⟨q5, c5, e5, _⟩ := hX.r13 k13
      obtain ⟨q6, c6, e6, _⟩ := hX.r16 k16
      refine opx_of (op_b42 rfl (Dp (hdp 1 4 (by decide) rfl (by kernel_rfl)) id) (Dp (hdp 3 6 (by decide) rfl (by kernel_rfl)) id) (Dp (hdp 5 8 (by decide) rfl (by kernel_rfl)) id) (Dp (hdp 7 10 (by decide) rfl (by kernel_rfl)) id) ((hdp 10 13 (by decide) rfl (by kernel_rfl)).1.trans e4) ((hdp 13 16 (by decide) rfl (by kernel_rfl)).1.trans e5) ((hdp 16 19 (by decide) rfl (by kernel_rfl)).1.trans e6) (Dp (hdp 18 21 (by decide) rfl (by kernel_rfl)) id) (Dp (hdp 20 23 (by decide) rfl (by kernel_rfl)) id) (Dp (hdp 22 25 (by decide) rfl (by kernel_rfl)) id) (Dp (hdp 24 27 (by decide) rfl (by kernel_rfl)) id)) fun W' hb => ⟨trivial, ?_⟩
      have hY := hX.later hb
      have hz := hY.z
      rw [f26] at hz
      simp only [if_neg (show ¬ false = true by simp)] at hz
      refine ⟨hY.low, hY.c, ?_, by simpa using hY.r10, by simpa using hY.r13, by simpa using hY.r16, ?_, ?_, ?_⟩
      · rw [hz]; simp [f26]
      · simp [e4, e5, e6]
      · simp [k10, k13, k16]
      · simp
    | 26 =>
      intro o L V ho hL hd a' W hX hfr hdp; obtain rfl := Option.some.inj ho
      have k25 := hd 25 (by kernel_rfl)
      have hv := (hdp 25 28 (by decide) rfl (by kernel_rfl)).1
      obtain ⟨k10, k13, k16⟩ := hX.n25 k25
      obtain ⟨q4, c4, e4, _⟩ := hX.r10 k10
      obtain ⟨q5, c5, e5, _⟩ := hX.r13 k13
      obtain ⟨q6, c6, e6, _⟩ := hX.r16 k16
      rw [hX.v25 k25, e4, e5, e6] at hv
      have hz := hX.z
      rw [hL] at hz
      simp only [if_neg (show ¬ false = true by simp)] at hz
      have hs2 := hX.sz
      refine opx_store42 rfl rfl (hfr 2 (by decide)) hv hz fun W' hb hc => ⟨trivial, hX.low.trans (hc.below (by omega)), (hc.2.1 _ (by omega)).trans hX.c, ?_, ?_, ?_, ?_, ?_, ?_, ?_⟩
      · rw [hb, ← e4, ← e5, ← e6]; simp
      · simpa using fun e => (hX.r10 e).sto hc (by omega)
      · simpa using fun e => (hX.r13 e).sto hc (by omega)
      · simpa using fun e => (hX.r16 e).sto hc (by omega)
      · simpa using hX.v25
      · simpa using hX.n25
      · simp [k25]
    | j + 27 => intro o L V ho; simp at ho
  case fin =>
    intro W1 L V hL hF hI
    have r2 := hI.r10 (hL 10 (by decide))
    have r5 := hI.r13 (hL 13 (by decide))
    have r8 := hI.r16 (hL 16 (by decide))
    have hz := hI.z
    rw [hL 26 (by decide)] at hz
    simp only [if_true] at hz
    have HL := Lib.hid hI.low
    obtain ⟨q4, c4, f4, _⟩ := id r2
    obtain ⟨q5, c5, f5, _⟩ := id r5
    obtain ⟨q6, c6, f6, _⟩ := id r8
    rw [f4, f5, f6] at hz
    rw [f4] at r2
    rw [f5] at r5
    rw [f6] at r8
    have HR2 := Lib.hid r2
    have HR5 := Lib.hid r5
    have HR8 := Lib.hid r8
    have HZ := Lib.hid hz
    clear hI hF hL hz r2 r5 r8 H1 H2 HB
    simp only [fill, Act.put, List.setIfInBounds_toArray, List.set_cons_zero, List.set_cons_succ, List.set_nil, Nat.reduceAdd]
    generalize V 0 = v0, V 1 = v1, V 2 = v2, V 3 = v3, V 4 = v4, V 5 = v5, V 6 = v6, V 7 = v7, V 8 = v8, V 9 = v9, V 10 = v10, V 11 = v11, V 12 = v12, V 13 = v13, V 14 = v14, V 15 = v15, V 16 = v16, V 17 = v17, V 18 = v18, V 19 = v19, V 20 = v20, V 21 = v21, V 22 = v22, V 23 = v23, V 24 = v24, V 25 = v25, V 26 = v26 at *
    clear V f4 f5 f6
    obtain ⟨m0, m1, m2, m3, m4, m5, m6, m7, m8, m9, m10⟩ := cells11 HZ.out
    go_wp2_with fail
    refine bodyPost_ret (v := .agg (shipA s ⟨q4, q5, q6, c4, c5, c6⟩)) (by simp [results, Tryz.results12, go_sem, m0, m1, m2, m3, m4, m5, m6, m7, m8, m9, m10]) rfl ⟨⟨q4, q5, q6, c4, c5, c6⟩, rfl, ⟨(crow_pts HR2.out).1, (crow_pts HR5.out).1, (crow_pts HR8.out).1, (crow_pts HR2.out).2, (crow_pts HR5.out).2, (crow_pts HR8.out).2, HS.out.nt, HS.out.nw, HS.out.ni⟩, HL.out⟩
end Go.Proofs.YtcoiklolgilhaaaGreatDoor
namespace Go.Proofs.YtcoiklolgilhaaaGreatDoor
open Go.RowKit
set_option maxRecDepth 100000
section
variable {P : Program} {Q : Exit → Act → World → Prop}
def guardB (md : Region.Mode) (ops : Array Oper) (slots : List Nat) (i : Nat) (o : Oper) : Bool := match o.guard with | none => true | some (j, _) => Region.waitsFor md ops i j && decide ((slots[j]?).getD 1000 < 1000)
def slotsG2 (ops : Array Oper) (n : Nat) (slots : List Nat) : Bool :=
  decide (slots.length = n) && decide slots.Nodup && (List.range n).all fun i => match ops[i]? with | some o => guardB .any ops slots i o && (o.dst == slots[i]? || (o.dst == none && decide (1000 ≤ (slots[i]?).getD 0))) | none => false
def allGB (ops : Array Oper) (slots : List Nat) : Bool := backB .any ops ops.size && slotsG2 ops ops.size slots
theorem wp_region_allg {id : Nat} {a : Act} {w : World} {l : List Oper} (slots : List Nat) (Rw : (Nat → Bool) → (Nat → Value) → World → Prop)
    (hm : P.follows .mixedOrders = true) (hB : allGB l.toArray slots = true) (hsz : ∀ s ∈ slots, s < 1000 → s < a.tmps.size) (hts : a.tmps.size ≤ 1000)
    (h0 : Rw (fun _ => false) (fun _ => undef) { w with drawn := w.drawn + 1 })
    (hval : ∀ i o L V, l[i]? = some o → L i = false → (∀ j, Region.waitsFor .any l.toArray i j = true → L j = true) → ∀ a' W, Rw L V W → (∀ t, t ∉ slots → a'.eval (.tmp t) = a.eval (.tmp t)) →
      (∀ j s, s < 1000 → slots[j]? = some s → Region.waitsFor .any l.toArray i j = true → a'.eval (.tmp s) = V j) →
      o.wp P a' W (fun a'' W' => ∃ x, a'' = a'.put o.dst x ∧ Rw (fun j => if j = i then true else L j) (fun j => if j = i then x else V j) W') Q)
    (hgd : ∀ (i : Nat) (o : Oper) (j : Nat) (b : Bool) L V W, l[i]? = some o → o.guard = some (j, b) → L j = true → Rw L V W → V j = .bool b)
    (hend : ∀ (W : World) L V, (∀ i, i < l.length → L i = true) → Rw L V W → Q .normal (fill slots 0 (fun i => some (V i)) a) W) :
    (Code.region id l.toArray true).wp P Q a w := by
  simp only [allGB, Bool.and_eq_true] at hB
  obtain ⟨hback, hsl⟩ := hB
  simp only [slotsG2, Bool.and_eq_true, decide_eq_true_eq] at hsl
  obtain ⟨⟨hlen, hnd⟩, hall⟩ := hsl
  have hszl : l.toArray.size = l.length := by simp
  have hop : ∀ i, i < l.length → ∃ o s, l[i]? = some o ∧ guardB .any l.toArray slots i o = true ∧ (o.dst = some s ∨ (o.dst = none ∧ 1000 ≤ s)) ∧ slots[i]? = some s := by
    intro i hi
    have h1 := List.all_eq_true.1 hall i (List.mem_range.2 (by simpa using hi))
    cases ho : l.toArray[i]? with
    | none => rw [ho] at h1; cases h1
    | some o =>
      rw [ho] at h1
      simp only [Bool.and_eq_true, beq_iff_eq, Bool.or_eq_true, decide_eq_true_eq] at h1
      have hs' : slots[i]? = some (slots[i]'(by rw [hlen, hszl]; exact hi)) := List.getElem?_eq_getElem _
      refine ⟨o, _, by simpa using ho, h1.1, ?_, hs'⟩
      rcases h1.2 with h2 | ⟨h2, h3⟩
      · exact .inl (by rw [h2, hs'])
      · refine .inr ⟨h2, ?_⟩
        rw [hs'] at h3
        simpa using h3
  refine wp_region_any hm ?_
  have main : ∀ f (listed : Array Bool) a' W, listed.size = l.toArray.size → cnt listed l.toArray.size = f → (∃ V, a' = fill slots 0 (uSt V listed) a ∧ Rw (fun i => listed.getD i false) V W) → wpAny P .any l.toArray Q f listed a' W := by
    intro f
    induction f with
    | zero =>
      rintro listed a' W hls hc ⟨V, rfl, hR⟩
      have hd := cnt_zero _ hc
      have hd' : ∀ i, i < l.length → listed.getD i false = true := fun i hi => by
        have := hd i (by rw [hszl]; exact hi)
        have hsz' : i < listed.size := by rw [hls, hszl]; exact hi
        simp [hsz'] at this ⊢
        exact this
      have hrdy : Region.ready .any l.toArray listed = [] := List.eq_nil_iff_forall_not_mem.2 fun i hi => by
        obtain ⟨hu, o, ho, _⟩ := mem_ready.1 hi
        have hi' : i < l.toArray.size := (Array.getElem?_eq_some_iff.1 ho).1
        have := hd i hi'
        rw [this] at hu; cases hu
      have hfill : fill slots 0 (uSt V listed) a = fill slots 0 (fun i => some (V i)) a := by
        have : ∀ (ss : List Nat) (k : Nat) (b : Act), k + ss.length ≤ l.length → fill ss k (uSt V listed) b = fill ss k (fun i => some (V i)) b := by
          intro ss
          induction ss with
          | nil => intro k b _; rfl
          | cons s ss ih =>
            intro k b hk
            simp only [List.length_cons] at hk
            unfold fill
            have e : uSt V listed k = some (V k) := by unfold uSt; rw [hd' k (by omega)]; rfl
            rw [e]
            exact ih (k + 1) _ (by omega)
        exact this slots 0 a (by rw [hlen, hszl]; omega)
      refine ⟨hrdy, ?_⟩
      rw [hfill]
      exact hend W _ V hd' hR
    | succ f ih =>
      rintro listed a' W hls hc ⟨V, rfl, hR⟩
      obtain ⟨i0, hi0, hu0⟩ := cnt_pos (listed := listed) l.toArray.size (by omega)
      refine ⟨fun h0 => ?_, fun i hi => ?_⟩
      · exfalso
        obtain ⟨j, hj, hju, hleast⟩ := least (p := fun i => listed.getD i true = false) i0 hu0
        obtain ⟨o, ho, hdeps⟩ := backB_spec hback (show j < l.toArray.size by omega)
        have : j ∈ Region.ready .any l.toArray listed := mem_ready.2 ⟨hju, o, ho, fun e he hb => by
          have hlt := hdeps e he hb
          have h1 := hleast e.on hlt
          have hsz' : e.on < listed.size := by omega
          simp [hsz'] at h1 ⊢
          exact h1⟩
        rw [h0] at this
        cases this
      · obtain ⟨hun, o, ho', hdeps⟩ := mem_ready.1 hi
        have hi' : i < l.length := by have := (Array.getElem?_eq_some_iff.1 ho').1; rwa [hszl] at this
        obtain ⟨o2, s, ho, hg, hdst, hss⟩ := hop i hi'
        obtain rfl : o = o2 := by simpa [ho] using ho'.symm
        have hun' : listed.getD i false = false := getD_both hun
        have hself : (listed.setIfInBounds i true).getD i false = true := by
          have hsz' : i < listed.size := by rw [hls, hszl]; exact hi'
          simp [hsz']
        have hput : ∀ x, (fill slots 0 (uSt V listed) a).put o.dst x = fill slots 0 (uSt (fun j => if j = i then x else V j) (listed.setIfInBounds i true)) a := by
          intro x
          have hput0 : (fill slots 0 (uSt V listed) a).put o.dst x = (fill slots 0 (uSt V listed) a).put (some s) x := by
            rcases hdst with h | ⟨h, hs⟩
            · rw [h]
            · rw [h]
              have hz := fill_size slots 0 (uSt V listed) a
              have hq : (fill slots 0 (uSt V listed) a).tmps.size ≤ s := by rw [hz]; exact Nat.le_trans hts hs
              simp only [Act.put]
              rw [Array.setIfInBounds_eq_of_size_le hq]
          rw [hput0]
          rw [fill_put_at slots 0 i _ a s x hss hnd (by simp only [Nat.zero_add]; unfold uSt; rw [hun']; rfl)]
          refine fill_congr slots 0 _ _ a (fun j _ => ?_)
          simp only [upd, Nat.zero_add]
          by_cases e : j = i
          · subst e
            simp only [if_true, uSt, hself]
          · rw [if_neg e]
            unfold uSt
            rw [getD_set_ne false (Ne.symm e)]
            simp only [if_neg e]
        unfold wpOp
        simp only [ho']
        have hw : Region.wanted o (yielded l.toArray (fill slots 0 (uSt V listed) a).tmps) = true := by
          unfold Region.wanted
          cases hgo : o.guard with
          | none => rfl
          | some jb =>
            obtain ⟨j, b⟩ := jb
            unfold guardB at hg
            rw [hgo] at hg
            simp only [Bool.and_eq_true, decide_eq_true_eq] at hg
            obtain ⟨hwt, hs1⟩ := hg
            obtain ⟨o3, ho3, e, he, hbd, hon⟩ := Region.waitsFor_spec hwt
            obtain rfl : o = o3 := Option.some.inj (ho'.symm.trans ho3)
            have hl := hdeps e he hbd
            rw [hon] at hl
            have hj : j < l.length := by
              rcases Nat.lt_or_ge j l.length with h | h
              · exact h
              · have : listed.getD j false = false := by
                  have hsz' : ¬ j < listed.size := by rw [hls, hszl]; omega
                  simp [hsz']
                rw [this] at hl; cases hl
            obtain ⟨oj, sj, hoj, _, hdj, hsj⟩ := hop j hj
            rw [hsj] at hs1
            have hs1' : sj < 1000 := by simpa using hs1
            clear hs1
            have hdj' : oj.dst = some sj := by
              rcases hdj with h | ⟨_, h⟩
              · exact h
              · exact absurd h (Nat.not_le_of_lt hs1')
            have hs3 : sj < a.tmps.size := hsz sj (List.mem_of_getElem? hsj) hs1'
            have hv := hgd i o j b (fun i => listed.getD i false) V W ho hgo hl hR
            have hev := fill_eval_at slots 0 j (uSt V listed) a sj (V j) hsj hnd (by simp only [Nat.zero_add]; unfold uSt; rw [hl]; rfl) hs3
            rw [hv] at hev
            have hsz4 : sj < (fill slots 0 (uSt V listed) a).tmps.size := by rw [fill_size]; exact hs3
            have hev2 : (fill slots 0 (uSt V listed) a).tmps[sj]? = some (.bool b) := by
              have h0 : (fill slots 0 (uSt V listed) a).tmps[sj]?.getD undef = .bool b := by simpa [Act.eval] using hev
              rw [Array.getElem?_eq_getElem hsz4] at h0 ⊢
              simpa using h0
            have hoj' : l.toArray[j]? = some oj := by simpa using hoj
            simp [yielded, hoj', hdj', hev2]
        rw [if_pos hw]
        refine .inl ?_
        refine Oper.wp_mono ?_ (hval i o (fun i => listed.getD i false) V ho hun' (fun j hwt => ?_) _ W hR (fun t ht => fill_eval_other slots 0 _ a t ht) (fun j s' hs1 hs' hwt => ?_))
        · rintro a'' W' ⟨x, rfl, hR'⟩
          refine ih _ _ _ (by simp [hls]) ?_ ⟨_, hput x, ?_⟩
          · have := cnt_set hun l.toArray.size (by rw [hszl]; exact hi')
            omega
          · have e : (fun j => (listed.setIfInBounds i true).getD j false) = fun j => if j = i then true else listed.getD j false := by
              funext j
              by_cases e : j = i
              · subst e; simp only [if_true]; exact hself
              · rw [if_neg e, getD_set_ne false (Ne.symm e)]
            rw [e]; exact hR'
        · obtain ⟨o3, ho3, e, he, hbd, hon⟩ := Region.waitsFor_spec hwt
          obtain rfl : o = o3 := Option.some.inj (ho'.symm.trans ho3)
          have hl := hdeps e he hbd
          rw [hon] at hl
          exact hl
        · obtain ⟨o3, ho3, e, he, hbd, hon⟩ := Region.waitsFor_spec hwt
          obtain rfl : o = o3 := Option.some.inj (ho'.symm.trans ho3)
          have hl := hdeps e he hbd
          rw [hon] at hl
          have hs3 : s' < a.tmps.size := hsz s' (List.mem_of_getElem? hs') hs1
          refine fill_eval_at slots 0 j _ a s' (V j) hs' hnd ?_ hs3
          simp only [Nat.zero_add]
          unfold uSt
          rw [hl]
          rfl
  refine main _ _ _ _ (by simp) ?_ ⟨fun _ => undef, ?_, ?_⟩
  · have : ∀ k, k ≤ l.toArray.size → cnt (Array.replicate l.toArray.size false) k = k := by
      intro k
      induction k with
      | zero => intro _; rfl
      | succ k ih =>
        intro hk
        unfold cnt
        rw [ih (by omega), getD_in (listed := Array.replicate l.toArray.size false) (by simp at hk ⊢; omega) (getD_replicate_false _ _)]
        simp
    exact this _ (Nat.le_refl _)
  · have e : ∀ (ss : List Nat) (k : Nat), fill ss k (uSt (fun _ => undef) (Array.replicate l.toArray.size false)) a = a := by
      intro ss
      induction ss with
      | nil => intro k; rfl
      | cons s ss ih =>
        intro k
        unfold fill
        have : uSt (fun _ => undef) (Array.replicate l.toArray.size false) k = none := by unfold uSt; rw [getD_replicate_false]; rfl
        rw [this]
        exact ih (k + 1)
    exact (e slots 0).symm
  · have e : (fun i => (Array.replicate l.toArray.size false).getD i false) = fun _ => false := by funext i; exact getD_replicate_false _ _
    rw [e]; exact h0
theorem wp_region_fig {id : Nat} {a : Act} {w : World} {l : List Oper} (slots : List Nat) (F : Nat → Value → Prop) (I : (Nat → Bool) → (Nat → Value) → World → Prop)
    (hm : P.follows .mixedOrders = true) (hB : allGB l.toArray slots = true) (hsz : ∀ s ∈ slots, s < 1000 → s < a.tmps.size) (hts : a.tmps.size ≤ 1000)
    (h0 : I (fun _ => false) (fun _ => undef) { w with drawn := w.drawn + 1 })
    (hval : ∀ i o L V, l[i]? = some o → L i = false → (∀ j, Region.waitsFor .any l.toArray i j = true → L j = true) → ∀ a' W, I L V W → (∀ t, t ∉ slots → a'.eval (.tmp t) = a.eval (.tmp t)) →
      (∀ j s, s < 1000 → slots[j]? = some s → Region.waitsFor .any l.toArray i j = true → a'.eval (.tmp s) = V j ∧ F j (V j)) →
      o.wp P a' W (fun a'' W' => ∃ x, a'' = a'.put o.dst x ∧ F i x ∧ I (fun j => if j = i then true else L j) (fun j => if j = i then x else V j) W') Q)
    (hgd : ∀ (i : Nat) (o : Oper) (j : Nat) (b : Bool), l[i]? = some o → o.guard = some (j, b) → ∀ v, F j v → v = .bool b)
    (hend : ∀ (W : World) L V, (∀ i, i < l.length → L i = true) → (∀ i, i < l.length → F i (V i)) → I L V W → Q .normal (fill slots 0 (fun i => some (V i)) a) W) :
    (Code.region id l.toArray true).wp P Q a w := by
  refine wp_region_allg slots (fun L V W => (∀ j, L j = true → F j (V j)) ∧ I L V W) hm hB hsz hts ⟨fun j h => (by cases h), h0⟩ ?_ (fun i o j b L V W ho hg hL hR => hgd i o j b ho hg _ (hR.1 j hL)) ?_
  · rintro i o L V ho hL hd a' W ⟨hF, hI⟩ hfr hdp
    refine Oper.wp_mono ?_ (hval i o L V ho hL hd a' W hI hfr (fun j s h1 h2 h3 => ⟨hdp j s h1 h2 h3, hF j (hd j h3)⟩))
    rintro a'' W' ⟨x, rfl, hx, hI'⟩
    refine ⟨x, rfl, fun j hj => ?_, hI'⟩
    by_cases e : j = i
    · subst e
      simp only [if_true]
      exact hx
    · simp only [if_neg e] at hj ⊢
      exact hF j hj
  · rintro W L V hL ⟨hF, hI⟩
    exact hend W L V hL (fun i hi => hF i (hL i hi)) hI
end
end Go.Proofs.YtcoiklolgilhaaaGreatDoor
namespace Go.Proofs.YtcoiklolgilhaaaGreatDoor
open Go.ChangeShapes Go.WideShapes Go.ChangeAt Go.WideMaps Go.WideElems Go.RowKit Go.Deep
set_option maxRecDepth 100000
theorem cells24 : Tryz.prog.cellsOf 24 = 11 := by kernel_rfl
theorem cells22 : Tryz.prog.cellsOf 22 = 1 := by kernel_rfl
theorem cells30 : Tryz.prog.cellsOf 89 = 2 := by kernel_rfl
/-- the points of a slice, with no bound of its length -/
structure ShipAt (W : World) (s : Sh) (m : Mem3) : Prop where
  t : Pts W m.pt s.th
  w : Pts W m.pw s.wa
  i : Pts W m.pi s.ic
  ct : s.th.n ≤ m.ct
  cw : s.wa.n ≤ m.cw
  ci : s.ic.n ≤ m.ci
theorem ShipAt.later {w W : World} {s : Sh} {m : Mem3} (h : ShipAt w s m) (hb : Below w.heap.size w W) : ShipAt W s m :=
  ⟨h.t.later hb, h.w.later hb, h.i.later hb, h.ct, h.cw, h.ci⟩
theorem ShipAt.ship {W : World} {s : Sh} {m : Mem3} (h : ShipAt W s m) (n1 : s.th.n ≤ 1000) (n2 : s.wa.n ≤ 1000) (n3 : s.ic.n ≤ 1000) : ShipIn W s m :=
  ⟨h.t, h.w, h.i, h.ct, h.cw, h.ci, by omega, by omega, by omega⟩
section
variable {H : Type} {enc : TypeId × Value → H} {W : World} {fuel : Nat} {cs : List Value} {x : DataW H × List MemPlace}
theorem points22 (h : DataW.trod enc Tryz.prog W 0 (fun _ => true) true fuel 22 cs = some x) : ∃ (p : Option Addr) (cap : Nat) (c : Cv), cs = [.slice p c.n cap] ∧ c.n ≤ cap ∧ Pts W p c := by
  rcases open_slice_pairs Tryz.underlying22 Tryz.underlying89 cells30 rfl rfl cells3 cells3 h with ⟨rfl, _⟩ | ⟨a, len, cap, m, n, V0, V1, D0, D1, P0, P1, rfl, hb, hl, hm, hmm, _, hx⟩
  · exact ⟨none, 0, ⟨0, fun _ => 0, fun _ => 0⟩, rfl, Nat.le_refl _, fun i hi => by cases hi⟩
  · have hlm : len ≤ m := by rw [hmm]; split <;> omega
    have each : ∀ i, i < len → ∃ z : Int × Int, W.cell? (a.add (i * 2)) = some (.int .i64 z.1) ∧ W.cell? (a.add (i * 2 + 1)) = some (.int .i64 z.2) := by
      intro i hi
      obtain ⟨h0, h1, h2, h3⟩ := hx i (by omega)
      obtain ⟨z0, e0, _, _⟩ := DataW.trod_int Tryz.underlying3 h2
      obtain ⟨z1, e1, _, _⟩ := DataW.trod_int Tryz.underlying3 h3
      simp only [List.cons.injEq, and_true] at e0 e1
      exact ⟨(z0, z1), by rw [h0, e0], by rw [h1, e1]⟩
    obtain ⟨F, hF⟩ := choose_lt each
    refine ⟨some a, cap, ⟨len, fun i => (F i).1, fun i => (F i).2⟩, rfl, hl, fun i hi => ?_⟩
    have hi' : i < len := hi
    have hs : a.spot = none := spot_none (hF 0 (by omega)).1
    obtain ⟨k0, k1⟩ := hF i hi'
    rw [add_plain a hs] at k0 k1
    exact ⟨a.block, a.off, by rw [← hs], lt_of_cell (a := ⟨a.block, a.off + i * 2, none⟩) k0, k0, k1⟩
theorem trod_struct11 {P : Program} {base : Nat} {spare : Nat → Bool} {held : Bool} {t : TypeId} {f0 f1 f2 f3 f4 f5 f6 f7 f8 f9 f10 : Field} (ht : P.underlying t = some (.struct #[f0, f1, f2, f3, f4, f5, f6, f7, f8, f9, f10])) (h : DataW.trod enc P W base spare held fuel t cs = some x) :
    ∃ y0 y1 y2 y3 y4 y5 y6 y7 y8 y9 y10 n, cs.length = P.cellsOf t ∧ DataW.trod enc P W base spare held n f0.type ((cs.drop f0.offset).take (P.cellsOf f0.type)) = some y0 ∧
      DataW.trod enc P W base spare held n f1.type ((cs.drop f1.offset).take (P.cellsOf f1.type)) = some y1 ∧ DataW.trod enc P W base spare held n f2.type ((cs.drop f2.offset).take (P.cellsOf f2.type)) = some y2 ∧
      DataW.trod enc P W base spare held n f3.type ((cs.drop f3.offset).take (P.cellsOf f3.type)) = some y3 ∧ DataW.trod enc P W base spare held n f4.type ((cs.drop f4.offset).take (P.cellsOf f4.type)) = some y4 ∧
      DataW.trod enc P W base spare held n f5.type ((cs.drop f5.offset).take (P.cellsOf f5.type)) = some y5 ∧ DataW.trod enc P W base spare held n f6.type ((cs.drop f6.offset).take (P.cellsOf f6.type)) = some y6 ∧
      DataW.trod enc P W base spare held n f7.type ((cs.drop f7.offset).take (P.cellsOf f7.type)) = some y7 ∧ DataW.trod enc P W base spare held n f8.type ((cs.drop f8.offset).take (P.cellsOf f8.type)) = some y8 ∧
      DataW.trod enc P W base spare held n f9.type ((cs.drop f9.offset).take (P.cellsOf f9.type)) = some y9 ∧ DataW.trod enc P W base spare held n f10.type ((cs.drop f10.offset).take (P.cellsOf f10.type)) = some y10 := by
  obtain ⟨xs, n, _, rfl, hl, hlen, hf⟩ := DataW.trod_struct ht h
  match xs, hlen with
  | [y0, y1, y2, y3, y4, y5, y6, y7, y8, y9, y10], _ => exact ⟨y0, y1, y2, y3, y4, y5, y6, y7, y8, y9, y10, n, hl, by simpa using hf 0 f0 rfl, by simpa using hf 1 f1 rfl, by simpa using hf 2 f2 rfl, by simpa using hf 3 f3 rfl, by simpa using hf 4 f4 rfl, by simpa using hf 5 f5 rfl, by simpa using hf 6 f6 rfl, by simpa using hf 7 f7 rfl, by simpa using hf 8 f8 rfl, by simpa using hf 9 f9 rfl, by simpa using hf 10 f10 rfl⟩
theorem ship24 (h : DataW.trod enc Tryz.prog W 0 (fun _ => true) true fuel 24 cs = some x) : ∃ (s : Sh) (m : Mem3), cs = (shipA s m).toList ∧ ShipAt W s m := by
  obtain ⟨_, _, _, _, _, _, _, _, _, _, _, _, hl, u0, u1, u2, u3, u4, u5, u6, u7, u8, u9, u10⟩ := trod_struct11 Tryz.underlying24 h
  rw [cells24] at hl
  match cs, hl with
  | [v0, v1, v2, v3, v4, v5, v6, v7, v8, v9, v10], _ =>
      simp only [cells3, cells22, List.drop_zero, List.drop_succ_cons, List.take_succ_cons, List.take_zero] at u0 u1 u2 u3 u4 u5 u6 u7 u8 u9 u10
      obtain ⟨n0, k0, _, _⟩ := DataW.trod_int Tryz.underlying3 u0
      obtain ⟨n1, k1, _, _⟩ := DataW.trod_int Tryz.underlying3 u1
      obtain ⟨n2, k2, _, _⟩ := DataW.trod_int Tryz.underlying3 u2
      obtain ⟨n3, k3, _, _⟩ := DataW.trod_int Tryz.underlying3 u3
      obtain ⟨p4, c4, t4, k4, l4, h4⟩ := points22 u4
      obtain ⟨p5, c5, t5, k5, l5, h5⟩ := points22 u5
      obtain ⟨p6, c6, t6, k6, l6, h6⟩ := points22 u6
      obtain ⟨n7, k7, _, _⟩ := DataW.trod_int Tryz.underlying3 u7
      obtain ⟨n8, k8, _, _⟩ := DataW.trod_int Tryz.underlying3 u8
      obtain ⟨n9, k9, _, _⟩ := DataW.trod_int Tryz.underlying3 u9
      obtain ⟨n10, k10, _, _⟩ := DataW.trod_int Tryz.underlying3 u10
      simp only [List.cons.injEq, and_true] at k0 k1 k2 k3 k4 k5 k6 k7 k8 k9 k10
      subst k0 k1 k2 k3 k4 k5 k6 k7 k8 k9 k10
      exact ⟨⟨n0, n1, n2, n3, t4, t5, t6, n7, n8, n9, n10⟩, ⟨p4, p5, p6, c4, c5, c6⟩, rfl, h4, h5, h6, l4, l5, l6⟩
end
theorem open_points {H : Type} {enc : TypeId × Value → H} {W : World} {r : Reach} {b0 : Nat} {v : Value} {d : DataW H} {ps : List MemPlace} (hval : Value.okWide Tryz.prog W r b0 22 v) (h : DataW.Trod enc Tryz.prog W 0 (fun _ => true) true 22 v d ps) :
    ∃ p cap c, v = .slice p c.n cap ∧ c.n ≤ cap ∧ Pts W p c := by
  obtain ⟨p, len, cap, rfl⟩ := okWide_slice Tryz.underlying22 hval
  obtain ⟨fuel, hf⟩ := h
  have e : (Value.slice p len cap).cells.toList = [.slice p len cap] := rfl
  rw [e] at hf
  obtain ⟨p', cap', c, e1, hc, hp⟩ := points22 hf
  exact ⟨p', cap', c, (List.cons.inj e1).1, hc, hp⟩
theorem open_ship {H : Type} {enc : TypeId × Value → H} {W : World} {r : Reach} {b0 : Nat} {v : Value} {d : DataW H} {ps : List MemPlace} (hval : Value.okWide Tryz.prog W r b0 24 v) (h : DataW.Trod enc Tryz.prog W 0 (fun _ => true) true 24 v d ps) :
    ∃ s m, v = .agg (shipA s m) ∧ ShipAt W s m := by
  obtain ⟨cs, rfl, _⟩ := okWide_struct Tryz.underlying24 hval
  obtain ⟨fuel, hf⟩ := h
  have e : (Value.agg cs).cells.toList = cs.toList := rfl
  rw [e] at hf
  obtain ⟨s, m, e1, hs⟩ := ship24 hf
  exact ⟨s, m, by rw [← Array.toArray_toList (xs := cs), e1], hs⟩
end Go.Proofs.YtcoiklolgilhaaaGreatDoor
namespace Go.Proofs.YtcoiklolgilhaaaGreatDoor
open Go.RowKit
set_option maxRecDepth 100000
theorem atRes_ex (c : Cv) (a : Int) : ∃ n d e : Int, atRes c a = .tuple #[.agg #[.int .i64 n, .int .i64 d], .int .i64 e] := by
  unfold atRes
  split
  · split <;> exact ⟨_, _, _, rfl⟩
  · exact ⟨_, _, _, rfl⟩
theorem ThrustRes_ex (s : Sh) (v : Int) : ∃ n e : Int, ThrustRes s v = .tuple #[.int .i64 n, .int .i64 e] := by
  unfold ThrustRes
  split <;> exact ⟨_, _, rfl⟩
section
variable {Q : Exit → Act → World → Prop} {o : Oper} {a' : Act} {W : World}
theorem op_neq32 {s t : Nat} {x y : Int} (hop : o.op = Op.binOp .neq 95 (.tmp s) (.tmp t) 95) (he : a'.eval (.tmp s) = .agg #[.int .i64 x, .int .i64 y]) (ht : a'.eval (.tmp t) = .agg #[.int .i64 x, .int .i64 y]) :
    o.wp Tryz.prog a' W (fun a'' W' => a'' = a'.put o.dst (.bool false) ∧ Below W.heap.size W W') Q := by
  have hr := Below.refl W.heap.size W
  have he' : a'.tmps[s]?.getD undef = .agg #[.int .i64 x, .int .i64 y] := by simpa [Act.eval] using he
  have ht' : a'.tmps[t]?.getD undef = .agg #[.int .i64 x, .int .i64 y] := by simpa [Act.eval] using ht
  unfold Oper.wp execOp
  rw [hop]
  simp [go_sem, he', ht', hr]
theorem op_neq33 {s t : Nat} {x : Int} (hop : o.op = Op.binOp .neq 40 (.tmp s) (.tmp t) 40) (he : a'.eval (.tmp s) = .int .i64 x) (ht : a'.eval (.tmp t) = .int .i64 x) :
    o.wp Tryz.prog a' W (fun a'' W' => a'' = a'.put o.dst (.bool false) ∧ Below W.heap.size W W') Q := by
  have hr := Below.refl W.heap.size W
  have he' : a'.tmps[s]?.getD undef = .int .i64 x := by simpa [Act.eval] using he
  have ht' : a'.tmps[t]?.getD undef = .int .i64 x := by simpa [Act.eval] using ht
  unfold Oper.wp execOp
  rw [hop]
  simp [go_sem, he', ht', hr]
theorem op_pickt {s t : Nat} {v : Value} (hop : o.op = Op.pick (.tmp s) (.const (.bool true)) (.tmp t)) (he : a'.eval (.tmp s) = .bool false) (ht : a'.eval (.tmp t) = v) :
    o.wp Tryz.prog a' W (fun a'' W' => a'' = a'.put o.dst v ∧ Below W.heap.size W W') Q := by
  have hr := Below.refl W.heap.size W
  have he' : a'.tmps[s]?.getD undef = .bool false := by simpa [Act.eval] using he
  have ht' : a'.tmps[t]?.getD undef = v := by simpa [Act.eval] using ht
  unfold Oper.wp execOp
  rw [hop]
  simp [go_sem, he', ht', hr]
theorem op_not4 {s : Nat} {b : Bool} (hop : o.op = Op.unOp .not 4 (.tmp s)) (he : a'.eval (.tmp s) = .bool b) :
    o.wp Tryz.prog a' W (fun a'' W' => a'' = a'.put o.dst (.bool (!b)) ∧ Below W.heap.size W W') Q := by
  have hr := Below.refl W.heap.size W
  have he' : a'.tmps[s]?.getD undef = .bool b := by simpa [Act.eval] using he
  unfold Oper.wp execOp
  rw [hop]
  simp [go_sem, he', hr]
theorem list_store32 {ops : Array Oper} {rest : List Oper} {a : Act} {s r b : Nat} {t : TypeId} {x0 x1 : Value} {y0 y1 : Int} (hg : o.guard = none) (hd : o.dst = none) (hop : o.op = Op.store 95 (.tmp s) (.tmp r))
    (he : a.eval (.tmp s) = .pointer (some ⟨b, 0, none⟩)) (hv : a.eval (.tmp r) = .agg #[.int .i64 y0, .int .i64 y1]) (hb : W.heap[b]? = some (.cells #[x0, x1] t (0, 0)))
    (hK : ∀ W', W'.heap[b]? = some (.cells #[.int .i64 y0, .int .i64 y1] t (0, 0)) → Chg b W W' → wpList Tryz.prog ops Q rest a W') : wpList Tryz.prog ops Q (o :: rest) a W := by
  obtain ⟨⟨k0, k1⟩, _⟩ := cells2 hb
  have f := fun o => frozen_of_block hb o
  have he' : a.tmps[s]?.getD undef = .pointer (some ⟨b, 0, none⟩) := by simpa [Act.eval] using he
  have hv' : a.tmps[r]?.getD undef = .agg #[.int .i64 y0, .int .i64 y1] := by simpa [Act.eval] using hv
  have hb' : ((W.setCell ⟨b, 0, none⟩ (.int .i64 y0)).setCell ⟨b, 1, none⟩ (.int .i64 y1)).heap[b]? = some (.cells #[.int .i64 y0, .int .i64 y1] t (0, 0)) := by
    have h0 := setCell_block hb 0 (.int .i64 y0)
    simp only [List.setIfInBounds_toArray, List.set_cons_zero] at h0
    have h1 := setCell_block h0 1 (.int .i64 y1)
    simp only [List.setIfInBounds_toArray, List.set_cons_zero, List.set_cons_succ] at h1
    exact h1
  refine list_store hg hd ?_ (hK _ hb' ((chg_setCell W b 0 _).trans (chg_setCell _ b 1 _)))
  unfold execOp
  rw [hop]
  simp [go_sem, he', hv', k0, k1, f]
end
theorem eg14 : ∀ args w, (callFunc 50 args).run Tryz.prog w = .ok (.enter 50 args) w := Go.Proofs.enters_of Tryz.func50 (by kernel_rfl) rfl
theorem eg18 : ∀ args w, (callFunc 95 args).run Tryz.prog w = .ok (.enter 95 args) w := Go.Proofs.enters_of Tryz.func95 (by kernel_rfl) rfl
theorem eg19 : ∀ args w, (callFunc 12 args).run Tryz.prog w = .ok (.enter 12 args) w := Go.Proofs.enters_of Tryz.func12 (by kernel_rfl) rfl
theorem eg20 : ∀ args w, (callFunc 92 args).run Tryz.prog w = .ok (.enter 92 args) w := Go.Proofs.enters_of Tryz.func92 (by kernel_rfl) rfl
/-- the values in the comparison of the answers -/
def ckF (s : Sh) (m m' : Mem3) (a d e : Int) (p p' : Option Addr) (cap cap' : Nat) (c : Cv) : Nat → Value → Prop
  | 0, v => v = .agg #[.int .i64 a, .int .i64 d]
  | 1, v => v = .agg #[.int .i64 a, .int .i64 d]
  | 2, v => v = .bool false
  | 3, v => v = .bool false
  | 4, v => v = .int .i64 e
  | 5, v => v = .int .i64 e
  | 6, v => v = .bool false
  | 7, v => v = .bool false
  | 8, v => v = .bool false
  | 9, v => v = .agg (shipA s m')
  | 10, v => v = .int .i64 (chkP s)
  | 11, v => v = .agg (shipA s m)
  | 12, v => ∃ m2, v = .agg (shipA s m2)
  | 13, v => v = .int .i64 (chkP s)
  | 14, v => v = .bool false
  | 15, v => v = .bool false
  | 16, v => v = .bool false
  | 17, v => v = .slice p' c.n cap'
  | 18, v => v = .slice p c.n cap
  | 19, v => v = .bool true
  | 20, v => v = .bool false
  | 21, v => v = .bool false
  | _, _ => True

set_option maxHeartbeats 32000000 in
theorem Checks_law (s : Sh) (m : Mem3) (p : Option Addr) (cap : Nat) (c : Cv) (x v : Int) (w : World) (hl : Lim w) (hst : Str w) (hs : ShipAt w s m) (hp : Pts w p c) :
    Calls Tryz.prog 47 #[.agg (shipA s m), .slice p c.n cap, .int .i64 x, .int .i64 v] w fun e w' => e = .returned (.bool true) ∧ Below w.heap.size w w' := by
  obtain ⟨a, d, er, hE⟩ := atRes_ex c x
  have HE := Lib.hid hE
  obtain ⟨th, te, hT⟩ := ThrustRes_ex s v
  have HT := Lib.hid hT
  have HLM := Lib.hid hl
  have HST := Lib.hid hst
  have hpos := hl.pos
  have hpos1 := hst.pos
  have HB := Lib.hid ((Below.refl w.heap.size w).alloc (Nat.le_refl _) (.cells (shipA s m) 24))
  have HK4 := Lib.hid (block_new w (.cells (shipA s m) 24))
  have HS := Lib.hid (hs.later HB.out)
  have HP := Lib.hid (hp.later HB.out)
  clear hl hst hs hp hE hT
  obtain ⟨m0, m1, m2, m3, m4, m5, m6, m7, m8, m9, m10⟩ := cells11 HK4.out
  go_enter Tryz.func47, Tryz.ntmps47
  go_wp2_with fail
  generalize w.alloc (.cells (shipA s m) 24) = X at *
  refine (heavy_any s m X).mono ?_
  rintro e V1 ⟨rfl, hb⟩
  clear m0 m1 m2 m3 m4 m5 m6 m7 m8 m9 m10
  replace HK4 := Lib.hid ((hb.block _ (lt_of_block HK4.out)).trans HK4.out)
  replace HS := Lib.hid (HS.out.later hb)
  replace HP := Lib.hid (HP.out.later hb)
  replace HB := Lib.hid (HB.out.trans (hb.mono HB.out.size))
  clear hb
  obtain ⟨m0, m1, m2, m3, m4, m5, m6, m7, m8, m9, m10⟩ := cells11 HK4.out
  generalize hv : heavyB s = hv1
  cases hv1 with
  | true =>
    clear hv
    go_wp2_with fail
    refine (awake_any V1 (HLM.out.below hpos HB.out) (HST.out.below hpos1 HB.out)).mono ?_
    rintro e We ⟨rfl, hb⟩
    have HBE := Lib.hid (HB.out.trans (hb.mono HB.out.size))
    clear hb
    go_wp2_with fail
    go_ret
    exact ⟨rfl, HBE.out⟩
  | false =>
    have hv2 := of_decide_eq_false hv
    have n1 : s.th.n ≤ 1000 := by omega
    have n2 : s.wa.n ≤ 1000 := by omega
    have n3 : s.ic.n ≤ 1000 := by omega
    have HN := Lib.hid (And.intro n1 (And.intro n2 n3))
    replace HS := Lib.hid (HS.out.ship n1 n2 n3)
    clear hv hv2 n1 n2 n3
    by_cases hln : 20 < c.n
    · have hln' : (20 : Int) < (c.n : Int) := by omega
      clear hln
      go_wp2_with fail
      refine (awake_any V1 (HLM.out.below hpos HB.out) (HST.out.below hpos1 HB.out)).mono ?_
      rintro e We ⟨rfl, hb⟩
      have HBE := Lib.hid (HB.out.trans (hb.mono HB.out.size))
      clear hb
      go_wp2_with fail
      go_ret
      exact ⟨rfl, HBE.out⟩
    · have hln' : ¬ (20 : Int) < (c.n : Int) := by omega
      have H1K := Lib.hid (show c.n ≤ 1000 by omega)
      have HM := Lib.hid (show c.n ≤ 1000000 by omega)
      clear hln
      go_wp2_with fail
      refine (CopyShip_all s m HN.out.1 HN.out.2.1 HN.out.2.2 _ HS.out).mono ?_
      rintro e V2 ⟨m', rfl, hin, hb⟩
      have Hhin := Lib.hid hin
      clear hin
      clear m0 m1 m2 m3 m4 m5 m6 m7 m8 m9 m10
      replace HK4 := Lib.hid ((hb.block _ (lt_of_block HK4.out)).trans HK4.out)
      replace HS := Lib.hid (HS.out.later hb)
      replace HP := Lib.hid (HP.out.later hb)
      replace HB := Lib.hid (HB.out.trans (hb.mono HB.out.size))
      clear hb
      obtain ⟨m0, m1, m2, m3, m4, m5, m6, m7, m8, m9, m10⟩ := cells11 HK4.out
      go_wp2_with fail
      refine (Clone_in p c.n cap c rfl H1K.out _ HP.out).mono ?_
      rintro e V3 ⟨p', cap', rfl, hk, hp, hnew, hb⟩
      have Hhk := Lib.hid hk
      clear hk
      have Hhp := Lib.hid hp
      clear hp
      have Hhnew := Lib.hid hnew
      clear hnew
      clear m0 m1 m2 m3 m4 m5 m6 m7 m8 m9 m10
      replace HK4 := Lib.hid ((hb.block _ (lt_of_block HK4.out)).trans HK4.out)
      replace HS := Lib.hid (HS.out.later hb)
      replace HP := Lib.hid (HP.out.later hb)
      replace HB := Lib.hid (HB.out.trans (hb.mono HB.out.size))
      replace Hhin := Lib.hid (Hhin.out.later hb)
      clear hb
      obtain ⟨m0, m1, m2, m3, m4, m5, m6, m7, m8, m9, m10⟩ := cells11 HK4.out
      have hba := (Below.refl V3.heap.size V3).alloc (Nat.le_refl _) (.cells #[.int .i64 0, .int .i64 0, .int .i64 0, .int .i64 0, .slice none 0 0, .slice none 0 0, .slice none 0 0, .int .i64 0, .int .i64 0, .int .i64 0, .int .i64 0] 24)
      have HZ := Lib.hid (block_new V3 (.cells #[.int .i64 0, .int .i64 0, .int .i64 0, .int .i64 0, .slice none 0 0, .slice none 0 0, .slice none 0 0, .int .i64 0, .int .i64 0, .int .i64 0, .int .i64 0] 24))
      go_wp2_with (refine list_store24 rfl rfl rfl rfl rfl HZ.out ?_; intro V4 hz hc; have hb := hba.trans (hc.below (Nat.le_refl _)); have HK9 := Lib.hid hz; replace HK4 := Lib.hid ((hb.block _ (lt_of_block HK4.out)).trans HK4.out); replace HS := Lib.hid (HS.out.later hb); replace HP := Lib.hid (HP.out.later hb); replace HB := Lib.hid (HB.out.trans (hb.mono HB.out.size)); replace Hhin := Lib.hid (Hhin.out.later hb); replace Hhp := Lib.hid (Hhp.out.later hb); clear hz hc hb hba HZ m0 m1 m2 m3 m4 m5 m6 m7 m8 m9 m10; obtain ⟨m0, m1, m2, m3, m4, m5, m6, m7, m8, m9, m10⟩ := cells11 HK4.out; obtain ⟨g0, g1, g2, g3, g4, g5, g6, g7, g8, g9, g10⟩ := cells11 HK9.out)
      refine (At_any p' c.n cap' c rfl HM.out x Hhk.out _ Hhp.out).mono ?_
      rw [HE.out]
      rintro e V5 ⟨rfl, hb⟩
      clear m0 m1 m2 m3 m4 m5 m6 m7 m8 m9 m10 g0 g1 g2 g3 g4 g5 g6 g7 g8 g9 g10
      replace HK4 := Lib.hid ((hb.block _ (lt_of_block HK4.out)).trans HK4.out)
      replace HK9 := Lib.hid ((hb.block _ (lt_of_block HK9.out)).trans HK9.out)
      replace HS := Lib.hid (HS.out.later hb)
      replace HP := Lib.hid (HP.out.later hb)
      replace HB := Lib.hid (HB.out.trans (hb.mono HB.out.size))
      replace Hhin := Lib.hid (Hhin.out.later hb)
      replace Hhp := Lib.hid (Hhp.out.later hb)
      clear hb
      obtain ⟨m0, m1, m2, m3, m4, m5, m6, m7, m8, m9, m10⟩ := cells11 HK4.out
      obtain ⟨g0, g1, g2, g3, g4, g5, g6, g7, g8, g9, g10⟩ := cells11 HK9.out
      have hba := (Below.refl V5.heap.size V5).alloc (Nat.le_refl _) (.cells #[.int .i64 0, .int .i64 0] 95)
      have HZ := Lib.hid (block_new V5 (.cells #[.int .i64 0, .int .i64 0] 95))
      go_wp2_with (refine list_store32 rfl rfl rfl rfl rfl HZ.out ?_; intro V6 hz hc; have hb := hba.trans (hc.below (Nat.le_refl _)); have HK11 := Lib.hid hz; replace HK4 := Lib.hid ((hb.block _ (lt_of_block HK4.out)).trans HK4.out); replace HK9 := Lib.hid ((hb.block _ (lt_of_block HK9.out)).trans HK9.out); replace HS := Lib.hid (HS.out.later hb); replace HP := Lib.hid (HP.out.later hb); replace HB := Lib.hid (HB.out.trans (hb.mono HB.out.size)); replace Hhin := Lib.hid (Hhin.out.later hb); replace Hhp := Lib.hid (Hhp.out.later hb); clear hz hc hb hba HZ m0 m1 m2 m3 m4 m5 m6 m7 m8 m9 m10 g0 g1 g2 g3 g4 g5 g6 g7 g8 g9 g10; obtain ⟨m0, m1, m2, m3, m4, m5, m6, m7, m8, m9, m10⟩ := cells11 HK4.out; obtain ⟨g0, g1, g2, g3, g4, g5, g6, g7, g8, g9, g10⟩ := cells11 HK9.out; obtain ⟨⟨a0, a1⟩, _⟩ := cells2 HK11.out)
      refine (points_in p c.n cap c rfl H1K.out _ HP.out).mono ?_
      rintro e V7 ⟨pv, rfl, hrow, hb⟩
      have Hhrow := Lib.hid hrow
      clear hrow
      clear m0 m1 m2 m3 m4 m5 m6 m7 m8 m9 m10 g0 g1 g2 g3 g4 g5 g6 g7 g8 g9 g10 a0 a1
      replace HK4 := Lib.hid ((hb.block _ (lt_of_block HK4.out)).trans HK4.out)
      replace HK9 := Lib.hid ((hb.block _ (lt_of_block HK9.out)).trans HK9.out)
      replace HK11 := Lib.hid ((hb.block _ (lt_of_block HK11.out)).trans HK11.out)
      replace HS := Lib.hid (HS.out.later hb)
      replace HP := Lib.hid (HP.out.later hb)
      replace HB := Lib.hid (HB.out.trans (hb.mono HB.out.size))
      replace Hhin := Lib.hid (Hhin.out.later hb)
      replace Hhp := Lib.hid (Hhp.out.later hb)
      clear hb
      obtain ⟨m0, m1, m2, m3, m4, m5, m6, m7, m8, m9, m10⟩ := cells11 HK4.out
      obtain ⟨g0, g1, g2, g3, g4, g5, g6, g7, g8, g9, g10⟩ := cells11 HK9.out
      obtain ⟨⟨a0, a1⟩, _⟩ := cells2 HK11.out
      obtain ⟨q7, k7, rfl, hk7, hp7, _⟩ := Hhrow.out
      have Hp7 := Lib.hid hp7
      have Hk7 := Lib.hid hk7
      clear Hhrow hp7 hk7
      go_wp2_with fail
      refine (rAt_any q7 c.n k7 c rfl HM.out x Hk7.out _ Hp7.out).mono ?_
      rw [HE.out]
      rintro e V8 ⟨rfl, hb⟩
      clear m0 m1 m2 m3 m4 m5 m6 m7 m8 m9 m10 g0 g1 g2 g3 g4 g5 g6 g7 g8 g9 g10 a0 a1
      replace HK4 := Lib.hid ((hb.block _ (lt_of_block HK4.out)).trans HK4.out)
      replace HK9 := Lib.hid ((hb.block _ (lt_of_block HK9.out)).trans HK9.out)
      replace HK11 := Lib.hid ((hb.block _ (lt_of_block HK11.out)).trans HK11.out)
      replace HS := Lib.hid (HS.out.later hb)
      replace HP := Lib.hid (HP.out.later hb)
      replace HB := Lib.hid (HB.out.trans (hb.mono HB.out.size))
      replace Hhin := Lib.hid (Hhin.out.later hb)
      replace Hhp := Lib.hid (Hhp.out.later hb)
      clear hb
      obtain ⟨m0, m1, m2, m3, m4, m5, m6, m7, m8, m9, m10⟩ := cells11 HK4.out
      obtain ⟨g0, g1, g2, g3, g4, g5, g6, g7, g8, g9, g10⟩ := cells11 HK9.out
      obtain ⟨⟨a0, a1⟩, _⟩ := cells2 HK11.out
      have hba := (Below.refl V8.heap.size V8).alloc (Nat.le_refl _) (.cells #[.int .i64 0, .int .i64 0] 95)
      have HZ := Lib.hid (block_new V8 (.cells #[.int .i64 0, .int .i64 0] 95))
      go_wp2_with (refine list_store32 rfl rfl rfl rfl rfl HZ.out ?_; intro V9 hz hc; have hb := hba.trans (hc.below (Nat.le_refl _)); have HK13 := Lib.hid hz; replace HK4 := Lib.hid ((hb.block _ (lt_of_block HK4.out)).trans HK4.out); replace HK9 := Lib.hid ((hb.block _ (lt_of_block HK9.out)).trans HK9.out); replace HK11 := Lib.hid ((hb.block _ (lt_of_block HK11.out)).trans HK11.out); replace HS := Lib.hid (HS.out.later hb); replace HP := Lib.hid (HP.out.later hb); replace HB := Lib.hid (HB.out.trans (hb.mono HB.out.size)); replace Hhin := Lib.hid (Hhin.out.later hb); replace Hhp := Lib.hid (Hhp.out.later hb); clear hz hc hb hba HZ m0 m1 m2 m3 m4 m5 m6 m7 m8 m9 m10 g0 g1 g2 g3 g4 g5 g6 g7 g8 g9 g10 a0 a1; obtain ⟨m0, m1, m2, m3, m4, m5, m6, m7, m8, m9, m10⟩ := cells11 HK4.out; obtain ⟨g0, g1, g2, g3, g4, g5, g6, g7, g8, g9, g10⟩ := cells11 HK9.out; obtain ⟨⟨a0, a1⟩, _⟩ := cells2 HK11.out; obtain ⟨⟨b0, b1⟩, _⟩ := cells2 HK13.out)
      refine wp_region_fig [42, 43, 44, 45, 46, 47, 48, 49, 50, 51, 52, 53, 54, 55, 56, 57, 58, 59, 60, 61, 62, 63] (ckF s m m' a d er p p' cap cap' c) (fun L V W => Below V9.heap.size V9 W ∧ (L 12 = true → ∃ m2, V 12 = .agg (shipA s m2) ∧ ShipIn W s m2)) (by kernel_rfl) (by kernel_rfl) ?sz ?ts ?z ?val ?gd ?fin
      case sz => intro s hs h; simp at hs ⊢; omega
      case ts => simp
      case z => exact ⟨below_drawn V9, fun e => by cases e⟩
      case gd =>
        intro i o j b ho hg v hv
        match i with
        | 0 => obtain rfl := Option.some.inj ho; cases hg
        | 1 => obtain rfl := Option.some.inj ho; cases hg
        | 2 => obtain rfl := Option.some.inj ho; cases hg
        | 3 => obtain rfl := Option.some.inj ho; cases hg
        | 4 => obtain rfl := Option.some.inj ho; obtain ⟨rfl, rfl⟩ := Prod.mk.inj (Option.some.inj hg); exact hv
        | 5 => obtain rfl := Option.some.inj ho; obtain ⟨rfl, rfl⟩ := Prod.mk.inj (Option.some.inj hg); exact hv
        | 6 => obtain rfl := Option.some.inj ho; obtain ⟨rfl, rfl⟩ := Prod.mk.inj (Option.some.inj hg); exact hv
        | 7 => obtain rfl := Option.some.inj ho; cases hg
        | 8 => obtain rfl := Option.some.inj ho; cases hg
        | 9 => obtain rfl := Option.some.inj ho; obtain ⟨rfl, rfl⟩ := Prod.mk.inj (Option.some.inj hg); exact hv
        | 10 => obtain rfl := Option.some.inj ho; obtain ⟨rfl, rfl⟩ := Prod.mk.inj (Option.some.inj hg); exact hv
        | 11 => obtain rfl := Option.some.inj ho; obtain ⟨rfl, rfl⟩ := Prod.mk.inj (Option.some.inj hg); exact hv
        | 12 => obtain rfl := Option.some.inj ho; obtain ⟨rfl, rfl⟩ := Prod.mk.inj (Option.some.inj hg); exact hv
        | 13 => obtain rfl := Option.some.inj ho; obtain ⟨rfl, rfl⟩ := Prod.mk.inj (Option.some.inj hg); exact hv
        | 14 => obtain rfl := Option.some.inj ho; obtain ⟨rfl, rfl⟩ := Prod.mk.inj (Option.some.inj hg); exact hv
        | 15 => obtain rfl := Option.some.inj ho; cases hg
        | 16 => obtain rfl := Option.some.inj ho; cases hg
        | 17 => obtain rfl := Option.some.inj ho; obtain ⟨rfl, rfl⟩ := Prod.mk.inj (Option.some.inj hg); exact hv
        | 18 => obtain rfl := Option.some.inj ho; obtain ⟨rfl, rfl⟩ := Prod.mk.inj (Option.some.inj hg); exact hv
        | 19 => obtain rfl := Option.some.inj ho; obtain ⟨rfl, rfl⟩ := Prod.mk.inj (Option.some.inj hg); exact hv
        | 20 => obtain rfl := Option.some.inj ho; obtain ⟨rfl, rfl⟩ := Prod.mk.inj (Option.some.inj hg); exact hv
        | 21 => obtain rfl := Option.some.inj ho; cases hg
        | j + 22 => simp at ho
      case val =>
        intro jj
        match jj with
        | 0 => intro o L V ho hL hd a' W hX hfr hdp; obtain rfl := Option.some.inj ho; obtain ⟨hX1, hX2⟩ := hX; exact opx_of (op_load2 rfl (.inl rfl) (hfr 11 (by decide)) ((hX1.block _ (lt_of_block HK11.out)).trans HK11.out)) fun W' hb => ⟨rfl, ⟨hX1.trans (hb.mono hX1.size), by simpa using fun e => (by obtain ⟨m2, e2, h2⟩ := hX2 e; exact ⟨m2, e2, h2.later hb⟩)⟩⟩
        | 1 => intro o L V ho hL hd a' W hX hfr hdp; obtain rfl := Option.some.inj ho; obtain ⟨hX1, hX2⟩ := hX; exact opx_of (op_load2 rfl (.inl rfl) (hfr 13 (by decide)) ((hX1.block _ (lt_of_block HK13.out)).trans HK13.out)) fun W' hb => ⟨rfl, ⟨hX1.trans (hb.mono hX1.size), by simpa using fun e => (by obtain ⟨m2, e2, h2⟩ := hX2 e; exact ⟨m2, e2, h2.later hb⟩)⟩⟩
        | 2 => intro o L V ho hL hd a' W hX hfr hdp; obtain rfl := Option.some.inj ho; obtain ⟨hX1, hX2⟩ := hX; exact opx_of (op_neq32 rfl (Dp (hdp 0 42 (by decide) rfl (by kernel_rfl)) id) (Dp (hdp 1 43 (by decide) rfl (by kernel_rfl)) id)) fun W' hb => ⟨rfl, ⟨hX1.trans (hb.mono hX1.size), by simpa using fun e => (by obtain ⟨m2, e2, h2⟩ := hX2 e; exact ⟨m2, e2, h2.later hb⟩)⟩⟩
        | 3 => intro o L V ho hL hd a' W hX hfr hdp; obtain rfl := Option.some.inj ho; obtain ⟨hX1, hX2⟩ := hX; exact opx_of (op_move rfl (Dp (hdp 2 44 (by decide) rfl (by kernel_rfl)) id)) fun W' hb => ⟨rfl, ⟨hX1.trans (hb.mono hX1.size), by simpa using fun e => (by obtain ⟨m2, e2, h2⟩ := hX2 e; exact ⟨m2, e2, h2.later hb⟩)⟩⟩
        | 4 => intro o L V ho hL hd a' W hX hfr hdp; obtain rfl := Option.some.inj ho; obtain ⟨hX1, hX2⟩ := hX; exact opx_of (op_move rfl (hfr 12 (by decide))) fun W' hb => ⟨rfl, ⟨hX1.trans (hb.mono hX1.size), by simpa using fun e => (by obtain ⟨m2, e2, h2⟩ := hX2 e; exact ⟨m2, e2, h2.later hb⟩)⟩⟩
        | 5 => intro o L V ho hL hd a' W hX hfr hdp; obtain rfl := Option.some.inj ho; obtain ⟨hX1, hX2⟩ := hX; exact opx_of (op_move rfl (hfr 14 (by decide))) fun W' hb => ⟨rfl, ⟨hX1.trans (hb.mono hX1.size), by simpa using fun e => (by obtain ⟨m2, e2, h2⟩ := hX2 e; exact ⟨m2, e2, h2.later hb⟩)⟩⟩
        | 6 => intro o L V ho hL hd a' W hX hfr hdp; obtain rfl := Option.some.inj ho; obtain ⟨hX1, hX2⟩ := hX; exact opx_of (op_neq33 rfl (Dp (hdp 4 46 (by decide) rfl (by kernel_rfl)) id) (Dp (hdp 5 47 (by decide) rfl (by kernel_rfl)) id)) fun W' hb => ⟨rfl, ⟨hX1.trans (hb.mono hX1.size), by simpa using fun e => (by obtain ⟨m2, e2, h2⟩ := hX2 e; exact ⟨m2, e2, h2.later hb⟩)⟩⟩
        | 7 => intro o L V ho hL hd a' W hX hfr hdp; obtain rfl := Option.some.inj ho; obtain ⟨hX1, hX2⟩ := hX; exact opx_of (op_pickt rfl (Dp (hdp 3 45 (by decide) rfl (by kernel_rfl)) id) (Dp (hdp 6 48 (by decide) rfl (by kernel_rfl)) id)) fun W' hb => ⟨rfl, ⟨hX1.trans (hb.mono hX1.size), by simpa using fun e => (by obtain ⟨m2, e2, h2⟩ := hX2 e; exact ⟨m2, e2, h2.later hb⟩)⟩⟩
        | 8 => intro o L V ho hL hd a' W hX hfr hdp; obtain rfl := Option.some.inj ho; obtain ⟨hX1, hX2⟩ := hX; exact opx_of (op_move rfl (Dp (hdp 7 49 (by decide) rfl (by kernel_rfl)) id)) fun W' hb => ⟨rfl, ⟨hX1.trans (hb.mono hX1.size), by simpa using fun e => (by obtain ⟨m2, e2, h2⟩ := hX2 e; exact ⟨m2, e2, h2.later hb⟩)⟩⟩
        | 9 => intro o L V ho hL hd a' W hX hfr hdp; obtain rfl := Option.some.inj ho; obtain ⟨hX1, hX2⟩ := hX; exact opx_of (op_load11 rfl (hfr 9 (by decide)) ((hX1.block _ (lt_of_block HK9.out)).trans HK9.out)) fun W' hb => ⟨rfl, ⟨hX1.trans (hb.mono hX1.size), by simpa using fun e => (by obtain ⟨m2, e2, h2⟩ := hX2 e; exact ⟨m2, e2, h2.later hb⟩)⟩⟩
        | 10 => intro o L V ho hL hd a' W hX hfr hdp; obtain rfl := Option.some.inj ho; obtain ⟨hX1, hX2⟩ := hX; exact opx_of (op_call rfl (Dp (hdp 9 51 (by decide) rfl (by kernel_rfl)) id) eg17 (Check_any s m' W (Hhin.out.later hX1))) fun W' hb => ⟨rfl, ⟨hX1.trans (hb.mono hX1.size), by simpa using fun e => (by obtain ⟨m2, e2, h2⟩ := hX2 e; exact ⟨m2, e2, h2.later hb⟩)⟩⟩
        | 11 => intro o L V ho hL hd a' W hX hfr hdp; obtain rfl := Option.some.inj ho; obtain ⟨hX1, hX2⟩ := hX; exact opx_of (op_load11 rfl (hfr 4 (by decide)) ((hX1.block _ (lt_of_block HK4.out)).trans HK4.out)) fun W' hb => ⟨rfl, ⟨hX1.trans (hb.mono hX1.size), by simpa using fun e => (by obtain ⟨m2, e2, h2⟩ := hX2 e; exact ⟨m2, e2, h2.later hb⟩)⟩⟩
        | 12 =>
          intro o L V ho hL hd a' W hX hfr hdp; obtain rfl := Option.some.inj ho; obtain ⟨hX1, hX2⟩ := hX
          refine opx_callu rfl (Dp (hdp 11 53 (by decide) rfl (by kernel_rfl)) id) eg19 ((Ship_any s m HN.out.1 HN.out.2.1 HN.out.2.2 W (HS.out.later hX1)).mono ?_)
          rintro e W' ⟨m2, rfl, h2, hb⟩
          exact ⟨_, rfl, ⟨m2, rfl⟩, hX1.trans (hb.mono hX1.size), fun _ => ⟨m2, rfl, h2⟩⟩
        | 13 =>
          intro o L V ho hL hd a' W hX hfr hdp; obtain rfl := Option.some.inj ho; obtain ⟨hX1, hX2⟩ := hX
          obtain ⟨m2, e2, h2⟩ := hX2 (hd 12 (by kernel_rfl))
          have hv := (hdp 12 54 (by decide) rfl (by kernel_rfl)).1
          rw [e2] at hv
          exact opx_of (op_call rfl hv eg18 (rCheck_any s m2 W h2)) fun W' hb => ⟨rfl, ⟨hX1.trans (hb.mono hX1.size), by simpa using fun e => (by obtain ⟨m2, e2, h2⟩ := hX2 e; exact ⟨m2, e2, h2.later hb⟩)⟩⟩
        | 14 => intro o L V ho hL hd a' W hX hfr hdp; obtain rfl := Option.some.inj ho; obtain ⟨hX1, hX2⟩ := hX; exact opx_of (op_neq33 rfl (Dp (hdp 10 52 (by decide) rfl (by kernel_rfl)) id) (Dp (hdp 13 55 (by decide) rfl (by kernel_rfl)) id)) fun W' hb => ⟨rfl, ⟨hX1.trans (hb.mono hX1.size), by simpa using fun e => (by obtain ⟨m2, e2, h2⟩ := hX2 e; exact ⟨m2, e2, h2.later hb⟩)⟩⟩
        | 15 => intro o L V ho hL hd a' W hX hfr hdp; obtain rfl := Option.some.inj ho; obtain ⟨hX1, hX2⟩ := hX; exact opx_of (op_pickt rfl (Dp (hdp 8 50 (by decide) rfl (by kernel_rfl)) id) (Dp (hdp 14 56 (by decide) rfl (by kernel_rfl)) id)) fun W' hb => ⟨rfl, ⟨hX1.trans (hb.mono hX1.size), by simpa using fun e => (by obtain ⟨m2, e2, h2⟩ := hX2 e; exact ⟨m2, e2, h2.later hb⟩)⟩⟩
        | 16 => intro o L V ho hL hd a' W hX hfr hdp; obtain rfl := Option.some.inj ho; obtain ⟨hX1, hX2⟩ := hX; exact opx_of (op_move rfl (Dp (hdp 15 57 (by decide) rfl (by kernel_rfl)) id)) fun W' hb => ⟨rfl, ⟨hX1.trans (hb.mono hX1.size), by simpa using fun e => (by obtain ⟨m2, e2, h2⟩ := hX2 e; exact ⟨m2, e2, h2.later hb⟩)⟩⟩
        | 17 => intro o L V ho hL hd a' W hX hfr hdp; obtain rfl := Option.some.inj ho; obtain ⟨hX1, hX2⟩ := hX; exact opx_of (op_move rfl (hfr 10 (by decide))) fun W' hb => ⟨rfl, ⟨hX1.trans (hb.mono hX1.size), by simpa using fun e => (by obtain ⟨m2, e2, h2⟩ := hX2 e; exact ⟨m2, e2, h2.later hb⟩)⟩⟩
        | 18 => intro o L V ho hL hd a' W hX hfr hdp; obtain rfl := Option.some.inj ho; obtain ⟨hX1, hX2⟩ := hX; exact opx_of (op_move rfl (hfr 1 (by decide))) fun W' hb => ⟨rfl, ⟨hX1.trans (hb.mono hX1.size), by simpa using fun e => (by obtain ⟨m2, e2, h2⟩ := hX2 e; exact ⟨m2, e2, h2.later hb⟩)⟩⟩
        | 19 => intro o L V ho hL hd a' W hX hfr hdp; obtain rfl := Option.some.inj ho; obtain ⟨hX1, hX2⟩ := hX; exact opx_of (op_call2 rfl (Dp (hdp 17 59 (by decide) rfl (by kernel_rfl)) id) (Dp (hdp 18 60 (by decide) rfl (by kernel_rfl)) id) eg20 (Equal_same p' p c.n cap' cap c rfl HM.out W (Hhp.out.later hX1) (HP.out.later hX1))) fun W' hb => ⟨rfl, ⟨hX1.trans (hb.mono hX1.size), by simpa using fun e => (by obtain ⟨m2, e2, h2⟩ := hX2 e; exact ⟨m2, e2, h2.later hb⟩)⟩⟩
        | 20 => intro o L V ho hL hd a' W hX hfr hdp; obtain rfl := Option.some.inj ho; obtain ⟨hX1, hX2⟩ := hX; exact opx_of (op_not4 rfl (Dp (hdp 19 61 (by decide) rfl (by kernel_rfl)) id)) fun W' hb => ⟨rfl, ⟨hX1.trans (hb.mono hX1.size), by simpa using fun e => (by obtain ⟨m2, e2, h2⟩ := hX2 e; exact ⟨m2, e2, h2.later hb⟩)⟩⟩
        | 21 => intro o L V ho hL hd a' W hX hfr hdp; obtain rfl := Option.some.inj ho; obtain ⟨hX1, hX2⟩ := hX; exact opx_of (op_pickt rfl (Dp (hdp 16 58 (by decide) rfl (by kernel_rfl)) id) (Dp (hdp 20 62 (by decide) rfl (by kernel_rfl)) id)) fun W' hb => ⟨rfl, ⟨hX1.trans (hb.mono hX1.size), by simpa using fun e => (by obtain ⟨m2, e2, h2⟩ := hX2 e; exact ⟨m2, e2, h2.later hb⟩)⟩⟩
        | j + 22 => intro o L V ho; simp at ho
      case fin =>
        intro W1 L V hL hF hI
        have e21 : V 21 = .bool false := hF 21 (by decide)
        have hb := hI.1
        clear hF hL hI
        clear m0 m1 m2 m3 m4 m5 m6 m7 m8 m9 m10 g0 g1 g2 g3 g4 g5 g6 g7 g8 g9 g10 a0 a1 b0 b1
        replace HK4 := Lib.hid ((hb.block _ (lt_of_block HK4.out)).trans HK4.out)
        replace HK9 := Lib.hid ((hb.block _ (lt_of_block HK9.out)).trans HK9.out)
        replace HK11 := Lib.hid ((hb.block _ (lt_of_block HK11.out)).trans HK11.out)
        replace HK13 := Lib.hid ((hb.block _ (lt_of_block HK13.out)).trans HK13.out)
        replace HS := Lib.hid (HS.out.later hb)
        replace HP := Lib.hid (HP.out.later hb)
        replace HB := Lib.hid (HB.out.trans (hb.mono HB.out.size))
        replace Hhin := Lib.hid (Hhin.out.later hb)
        replace Hhp := Lib.hid (Hhp.out.later hb)
        clear hb
        obtain ⟨m0, m1, m2, m3, m4, m5, m6, m7, m8, m9, m10⟩ := cells11 HK4.out
        obtain ⟨g0, g1, g2, g3, g4, g5, g6, g7, g8, g9, g10⟩ := cells11 HK9.out
        obtain ⟨⟨a0, a1⟩, _⟩ := cells2 HK11.out
        obtain ⟨⟨b0, b1⟩, _⟩ := cells2 HK13.out
        simp only [fill, Act.put, List.setIfInBounds_toArray, List.set_cons_zero, List.set_cons_succ, Nat.reduceAdd]
        rw [e21]
        generalize V 0 = v0, V 1 = v1, V 2 = v2, V 3 = v3, V 4 = v4, V 5 = v5, V 6 = v6, V 7 = v7, V 8 = v8, V 9 = v9, V 10 = v10, V 11 = v11, V 12 = v12, V 13 = v13, V 14 = v14, V 15 = v15, V 16 = v16, V 17 = v17, V 18 = v18, V 19 = v19, V 20 = v20 at *
        clear e21 V
        go_wp2_with fail
        refine (Thrust_any s m' v _ Hhin.out).mono ?_
        rw [HT.out]
        rintro e V10 ⟨rfl, hb⟩
        clear m0 m1 m2 m3 m4 m5 m6 m7 m8 m9 m10 g0 g1 g2 g3 g4 g5 g6 g7 g8 g9 g10 a0 a1 b0 b1
        replace HK4 := Lib.hid ((hb.block _ (lt_of_block HK4.out)).trans HK4.out)
        replace HK9 := Lib.hid ((hb.block _ (lt_of_block HK9.out)).trans HK9.out)
        replace HK11 := Lib.hid ((hb.block _ (lt_of_block HK11.out)).trans HK11.out)
        replace HK13 := Lib.hid ((hb.block _ (lt_of_block HK13.out)).trans HK13.out)
        replace HS := Lib.hid (HS.out.later hb)
        replace HP := Lib.hid (HP.out.later hb)
        replace HB := Lib.hid (HB.out.trans (hb.mono HB.out.size))
        replace Hhin := Lib.hid (Hhin.out.later hb)
        replace Hhp := Lib.hid (Hhp.out.later hb)
        clear hb
        obtain ⟨m0, m1, m2, m3, m4, m5, m6, m7, m8, m9, m10⟩ := cells11 HK4.out
        obtain ⟨g0, g1, g2, g3, g4, g5, g6, g7, g8, g9, g10⟩ := cells11 HK9.out
        obtain ⟨⟨a0, a1⟩, _⟩ := cells2 HK11.out
        obtain ⟨⟨b0, b1⟩, _⟩ := cells2 HK13.out
        go_wp2_with fail
        refine (Ship_any s m HN.out.1 HN.out.2.1 HN.out.2.2 _ HS.out).mono ?_
        rintro e V11 ⟨mm, rfl, h2, hb⟩
        have Hh2 := Lib.hid h2
        clear h2
        clear m0 m1 m2 m3 m4 m5 m6 m7 m8 m9 m10 g0 g1 g2 g3 g4 g5 g6 g7 g8 g9 g10 a0 a1 b0 b1
        replace HK4 := Lib.hid ((hb.block _ (lt_of_block HK4.out)).trans HK4.out)
        replace HK9 := Lib.hid ((hb.block _ (lt_of_block HK9.out)).trans HK9.out)
        replace HK11 := Lib.hid ((hb.block _ (lt_of_block HK11.out)).trans HK11.out)
        replace HK13 := Lib.hid ((hb.block _ (lt_of_block HK13.out)).trans HK13.out)
        replace HS := Lib.hid (HS.out.later hb)
        replace HP := Lib.hid (HP.out.later hb)
        replace HB := Lib.hid (HB.out.trans (hb.mono HB.out.size))
        replace Hhin := Lib.hid (Hhin.out.later hb)
        replace Hhp := Lib.hid (Hhp.out.later hb)
        clear hb
        obtain ⟨m0, m1, m2, m3, m4, m5, m6, m7, m8, m9, m10⟩ := cells11 HK4.out
        obtain ⟨g0, g1, g2, g3, g4, g5, g6, g7, g8, g9, g10⟩ := cells11 HK9.out
        obtain ⟨⟨a0, a1⟩, _⟩ := cells2 HK11.out
        obtain ⟨⟨b0, b1⟩, _⟩ := cells2 HK13.out
        go_wp2_with fail
        refine (rThrust_any s mm v _ Hh2.out).mono ?_
        rw [rThrust_eq, HT.out]
        rintro e V12 ⟨rfl, hb⟩
        clear m0 m1 m2 m3 m4 m5 m6 m7 m8 m9 m10 g0 g1 g2 g3 g4 g5 g6 g7 g8 g9 g10 a0 a1 b0 b1
        replace HK4 := Lib.hid ((hb.block _ (lt_of_block HK4.out)).trans HK4.out)
        replace HK9 := Lib.hid ((hb.block _ (lt_of_block HK9.out)).trans HK9.out)
        replace HK11 := Lib.hid ((hb.block _ (lt_of_block HK11.out)).trans HK11.out)
        replace HK13 := Lib.hid ((hb.block _ (lt_of_block HK13.out)).trans HK13.out)
        replace HS := Lib.hid (HS.out.later hb)
        replace HP := Lib.hid (HP.out.later hb)
        replace HB := Lib.hid (HB.out.trans (hb.mono HB.out.size))
        replace Hhin := Lib.hid (Hhin.out.later hb)
        replace Hhp := Lib.hid (Hhp.out.later hb)
        clear hb
        obtain ⟨m0, m1, m2, m3, m4, m5, m6, m7, m8, m9, m10⟩ := cells11 HK4.out
        obtain ⟨g0, g1, g2, g3, g4, g5, g6, g7, g8, g9, g10⟩ := cells11 HK9.out
        obtain ⟨⟨a0, a1⟩, _⟩ := cells2 HK11.out
        obtain ⟨⟨b0, b1⟩, _⟩ := cells2 HK13.out
        go_wp2_with fail
        refine (sameShip_any s m m' _ HS.out Hhin.out).mono ?_
        rintro e V13 ⟨rfl, hb⟩
        clear m0 m1 m2 m3 m4 m5 m6 m7 m8 m9 m10 g0 g1 g2 g3 g4 g5 g6 g7 g8 g9 g10 a0 a1 b0 b1
        replace HK4 := Lib.hid ((hb.block _ (lt_of_block HK4.out)).trans HK4.out)
        replace HK9 := Lib.hid ((hb.block _ (lt_of_block HK9.out)).trans HK9.out)
        replace HK11 := Lib.hid ((hb.block _ (lt_of_block HK11.out)).trans HK11.out)
        replace HK13 := Lib.hid ((hb.block _ (lt_of_block HK13.out)).trans HK13.out)
        replace HS := Lib.hid (HS.out.later hb)
        replace HP := Lib.hid (HP.out.later hb)
        replace HB := Lib.hid (HB.out.trans (hb.mono HB.out.size))
        replace Hhin := Lib.hid (Hhin.out.later hb)
        replace Hhp := Lib.hid (Hhp.out.later hb)
        clear hb
        obtain ⟨m0, m1, m2, m3, m4, m5, m6, m7, m8, m9, m10⟩ := cells11 HK4.out
        obtain ⟨g0, g1, g2, g3, g4, g5, g6, g7, g8, g9, g10⟩ := cells11 HK9.out
        obtain ⟨⟨a0, a1⟩, _⟩ := cells2 HK11.out
        obtain ⟨⟨b0, b1⟩, _⟩ := cells2 HK13.out
        go_wp2_with fail
        refine (awake_any V13 (HLM.out.below hpos HB.out) (HST.out.below hpos1 HB.out)).mono ?_
        rintro e We ⟨rfl, hb⟩
        have HBE := Lib.hid (HB.out.trans (hb.mono HB.out.size))
        clear hb
        go_wp2_with fail
        go_ret
        exact ⟨rfl, HBE.out⟩
end Go.Proofs.YtcoiklolgilhaaaGreatDoor
