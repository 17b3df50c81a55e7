/- The contracts of ice.firstWrong at reports, and of work.check: at most 400 reports. The table of limits holds 100, 400, 100, 3. -/
import Derived.Test.YtdcpmdigihbdpaaDoorRo
namespace Go.Proofs.YtdcpmdigihbdpaaDoor
open Go.RowKit
set_option maxRecDepth 100000
/-- The first number that is not 0, of n. -/
def fwE (err : Nat → Int) : Nat → Int
  | 0 => 0
  | n + 1 => if fwE err n = 0 then err n else fwE err n
theorem fwE_zero {err : Nat → Int} : ∀ {n : Nat}, (∀ j, j < n → err j = 0) → fwE err n = 0
  | 0, _ => rfl
  | n + 1, h => by unfold fwE; rw [if_pos (fwE_zero (fun j hj => h j (by omega)))]; exact h n (by omega)
theorem fwE_at {err : Nat → Int} {k : Nat} (h : ∀ j, j < k → err j = 0) (hk : err k ≠ 0) : ∀ n, k < n → fwE err n = err k := by
  intro n
  induction n with
  | zero => intro h; omega
  | succ n ih =>
    intro hn
    unfold fwE
    by_cases e : k = n
    · subst e; rw [if_pos (fwE_zero h)]
    · rw [if_neg (by rw [ih (by omega)]; exact hk)]; exact ih (by omega)
theorem fwE_zero' {err : Nat → Int} : ∀ {n : Nat}, fwE err n = 0 → ∀ j, j < n → err j = 0
  | 0, _, j, hj => by omega
  | n + 1, h, j, hj => by
    unfold fwE at h
    by_cases e : fwE err n = 0
    · rw [if_pos e] at h
      by_cases ej : j = n
      · rw [ej]; exact h
      · exact fwE_zero' e j (by omega)
    · rw [if_neg e] at h; exact absurd h e
def Zer (err : Nat → Int) (k : Nat) : Prop := ∀ j, j < k → err j = 0
theorem firstWrong_any (g : Nat) (lb : Array Value) (eg : ∀ args w, (callFunc g args).run Tryd.prog w = .ok (.enter g args) w) (p : Option Addr) (n cap : Nat) (hn : n ≤ 400) (R : Nat → Rep) (Iv : Nat → World → Prop) (Iw : World → Prop) (err : Nat → Int) (w : World)
    (hrep : ∀ k W, Iv k W → Reps W p n R) (hal : ∀ k W o, Iv k W → Iv k (W.alloc o))
    (hstep : ∀ k W, k < n → Iv k W → Calls Tryd.prog g (#[.agg (repA (R k))] ++ lb) W fun e W' => e = .returned (.int .i64 (err k)) ∧ (err k = 0 → Iv (k + 1) W') ∧ (err k ≠ 0 → Iw W'))
    (h0 : Iv 0 w) :
    Calls Tryd.prog 116 #[.slice p n cap, .func (.func g) #[] lb] w fun e w' => e = .returned (.int .i64 (fwE err n)) ∧ (fwE err n = 0 → Iv n w') ∧ (fwE err n ≠ 0 → Iw w') := by
  have H := Lib.hid hstep; clear hstep
  have HR := Lib.hid hrep; clear hrep
  have HA := Lib.hid hal; clear hal
  have H0 := Lib.hid h0; clear h0
  go_enter Tryd.func116, Tryd.ntmps116
  go_wp2_with fail
  go_loopw [10] (fun i wr => ∃ k : Nat, k ≤ n ∧ i = .int .i64 k ∧ Hid (Zer err k) ∧ Hid (Iv k wr)) (fun i _ => n - (intOf i).toNat)
  case atStart => exact ⟨0, by omega, rfl, fun j hj => by omega, H0⟩
  case round =>
    obtain ⟨k, hk, rfl, hz, hI⟩ := hrel
    by_cases hlt : k < n
    · obtain ⟨b, rfl, hb, c0, c1, c2, c3, c4, c5, c6, c7, c8, c9, c10, c11, c12, c13⟩ := (HR.out k wr hI.out).cells hlt
      have hk12 : (k : Int) < 400 := by omega
      have hk0 : (0 : Int) ≤ (k : Int) := by omega
      have HI2 := Lib.hid (HA.out k wr (.cells (repA (R k)) 67) hI.out)
      have hc := H.out k _ hlt HI2.out
      cases hE : decide (err k = 0) with
      | true =>
        have e0 : err k = 0 := of_decide_eq_true hE
        rw [e0] at hc
        have HC := Lib.hid hc
        have HE := Lib.hid e0
        clear hc hE e0
        go_wp2_with fail
        refine HC.out.mono ?_
        rintro e W' ⟨rfl, hI', _⟩
        have HI' := Lib.hid (hI' trivial); clear hI'
        clear c0 c1 c2 c3 c4 c5 c6 c7 c8 c9 c10 c11 c12 c13
        go_wp2_with fail
        go_roundw
        case rel => exact ⟨k + 1, by omega, by go_num, fun j hj => by by_cases e : j = k; (· rw [e]; exact HE.out); (· exact hz.out j (by omega)), HI'⟩
        case measure => simp [intOf]; omega
      | false =>
        have e0 : ¬ err k = 0 := of_decide_eq_false hE
        have HC := Lib.hid hc
        have HE := Lib.hid e0
        clear hc hE
        go_wp2_with fail
        refine HC.out.mono ?_
        rintro e W' ⟨rfl, _, hI'⟩
        have HI' := Lib.hid (hI' HE.out); clear hI'
        have HF := Lib.hid (fwE_at hz.out HE.out n hlt)
        clear c0 c1 c2 c3 c4 c5 c6 c7 c8 c9 c10 c11 c12 c13
        go_wp2_with fail
        go_ret
        exact ⟨by rw [HF.out]; rfl, fun h => absurd (HF.out.symm.trans h) HE.out, fun _ => HI'.out⟩
    · obtain rfl : k = n := by omega
      have HF := Lib.hid (fwE_zero hz.out)
      go_wp2_with fail
      go_ret
      exact ⟨by rw [HF.out]; rfl, fun _ => hI.out, fun h => absurd HF.out h⟩
def seenF (R : Nat → Rep) : Nat → Int → Bool
  | 0 => fun _ => false
  | k + 1 => fun z => seenF R k z || z == (R k).id
def cntF (R : Nat → Rep) : Nat → Int → Int → Int
  | 0 => fun _ _ => 0
  | k + 1 => fun x y => if x = (R k).x ∧ y = (R k).y then cntF R k (R k).x (R k).y + 1 else cntF R k x y
theorem cntF_bd (R : Nat → Rep) : ∀ k x y, 0 ≤ cntF R k x y ∧ cntF R k x y ≤ k
  | 0, _, _ => ⟨Int.le_refl _, Int.le_refl _⟩
  | k + 1, x, y => by
    unfold cntF
    have h1 := cntF_bd R k (R k).x (R k).y
    have h2 := cntF_bd R k x y
    split <;> omega
def errF (R : Nat → Rep) (now : Int) (ast : Rep → Bool) (k : Nat) : Int := errC (R k) now (seenF R k (R k).id) (ast (R k)) (cntF R k (R k).x (R k).y)
theorem eg117 : ∀ args w, (callFunc 117 args).run Tryd.prog w = .ok (.enter 117 args) w := Go.Proofs.enters_of Tryd.func117 (by kernel_rfl) rfl
structure Chk (w W : World) (u d : Nat → Int) (now : Int) (p : Option Addr) (n cap : Nat) (R : Nat → Rep) (g : Nat) (lb : Array Value) (k Bi Ba Bw Bc mi mc : Nat) : Prop where
  lim : Lim W
  bi : W.heap[Bi]? = some (.cells #[.map (some mi)] 172 (0, 0))
  ba : W.heap[Ba]? = some (.cells #[.func (.func g) #[] lb] 141 (0, 0))
  bw : W.heap[Bw]? = some (.cells (workA u d now (.slice p n cap)) 139 (0, 0))
  bc : W.heap[Bc]? = some (.cells #[.map (some mc)] 173 (0, 0))
  ids : Ids W mi k (seenF R k)
  came : Came W mc k (cntF R k)
  reps : Reps W p n R
  below : Below w.heap.size w W
theorem Chk.alloc {w W : World} {u d : Nat → Int} {now : Int} {p : Option Addr} {n cap : Nat} {R : Nat → Rep} {g : Nat} {lb : Array Value} {k Bi Ba Bw Bc mi mc : Nat} (h : Chk w W u d now p n cap R g lb k Bi Ba Bw Bc mi mc) (o : Obj) : Chk w (W.alloc o) u d now p n cap R g lb k Bi Ba Bw Bc mi mc :=
  have b : Below W.heap.size W (W.alloc o) := (Below.refl _ _).alloc (Nat.le_refl _) _
  have q := fun {B : Nat} {o : Obj} (e : W.heap[B]? = some o) => (b.block B (lt_of_block e)).trans e
  ⟨h.lim.below h.lim.pos b, q h.bi, q h.ba, q h.bw, q h.bc, h.ids.heap (b.block _ h.ids.lt), h.came.heap (b.block _ h.came.lt), h.reps.later b, h.below.alloc h.below.size o⟩
theorem Chk.next {w W W' : World} {u d : Nat → Int} {now : Int} {p : Option Addr} {n cap : Nat} {R : Nat → Rep} {g : Nat} {lb : Array Value} {k k' Bi Ba Bw Bc mi mc : Nat} (h : Chk w W u d now p n cap R g lb k Bi Ba Bw Bc mi mc) (hb : But2 mi mc W W')
    (hi : Ids W' mi k' (seenF R k')) (hc : Came W' mc k' (cntF R k')) (hr : Reps w p n R) (hm : w.heap.size ≤ mi ∧ w.heap.size ≤ mc) : Chk w W' u d now p n cap R g lb k' Bi Ba Bw Bc mi mc :=
  have q := fun {B : Nat} {vs : Array Value} {t : TypeId} {x : Nat × Nat} (e : W.heap[B]? = some (.cells vs t x)) => (hb.2.2.2.2 B (lt_of_block e) (ids_ne h.ids e) (came_ne h.came e)).trans e
  have bl := h.below.trans (hb.below hm.1 hm.2 h.below.size)
  have kc := fun {o : Nat} {v : Value} (e : W.cell? ⟨0, o, none⟩ = some v) => show W'.cell? ⟨0, o, none⟩ = some v from by
    obtain ⟨vs, t, x, hb⟩ := cell_block e
    exact (World.cell?_of_block (a := ⟨0, o, none⟩) ((q hb).trans hb.symm)).trans e
  ⟨⟨kc h.lim.1, kc h.lim.2.1, kc h.lim.2.2.1, kc h.lim.2.2.2⟩, q h.bi, q h.ba, q h.bw, q h.bc, hi, hc, hr.later bl, bl⟩
theorem check_any (u d : Nat → Int) (now : Int) (p : Option Addr) (n cap : Nat) (hn : n ≤ 400) (R : Nat → Rep) (ast : Rep → Bool) (g : Nat) (lb : Array Value) (eg : ∀ args w, (callFunc g args).run Tryd.prog w = .ok (.enter g args) w) (w : World) (hl : Lim w) (hR : Reps w p n R)
    (has : ∀ k, k < n → ∀ W, Below w.heap.size w W → Calls Tryd.prog g (#[.agg (repA (R k))] ++ lb) W fun e W' => e = .returned (.bool (ast (R k))) ∧ Below W.heap.size W W') :
    Calls Tryd.prog 87 #[.agg (workA u d now (.slice p n cap)), .func (.func g) #[] lb] w fun e w' => e = .returned (.int .i64 (fwE (errF R now ast) n)) ∧ Below w.heap.size w w' := by
  have HL := Lib.hid hl
  have HR := Lib.hid hR
  have HS := Lib.hid has
  clear hl hR has
  have hmm := @run_makeMap Tryd.prog
  go_enter Tryd.func87, Tryd.ntmps87
  have HC0 : ∀ (V V2 V4 : World), V = (w.alloc (.cells (workA u d now (.slice p n cap)) 139)).alloc (.cells #[.func (.func g) #[] lb] 141) → V2 = (V.alloc (.map #[] 0)).alloc (.map #[] 0) →
      V4 = (V2.alloc (.cells #[.map (some (w.heap.size + 1 + 1))] 172)).alloc (.cells #[.map (some (w.heap.size + 1 + 1 + 1))] 173) →
      Chk w V4 u d now p n cap R g lb 0 (w.heap.size + 1 + 1 + 1 + 1) (w.heap.size + 1) w.heap.size (w.heap.size + 1 + 1 + 1 + 1 + 1) (w.heap.size + 1 + 1) (w.heap.size + 1 + 1 + 1) := by
    intro V V2 V4 eV eV2 eV4
    obtain ⟨a1, a2, a3, a4⟩ := two_allocs w (.cells (workA u d now (.slice p n cap)) 139) (.cells #[.func (.func g) #[] lb] 141)
    rw [← eV] at a1 a2 a3 a4
    obtain ⟨b1, b2, b3, b4⟩ := two_allocs V (.map #[] 0) (.map #[] 0)
    rw [← eV2] at b1 b2 b3 b4
    obtain ⟨d1, d2, d3, d4⟩ := two_allocs V2 (.cells #[.map (some (w.heap.size + 1 + 1))] 172) (.cells #[.map (some (w.heap.size + 1 + 1 + 1))] 173)
    rw [← eV4] at d1 d2 d3 d4
    rw [a3] at b1 b2 b3
    rw [b3] at d1 d2 d3
    have bl := (a4.trans (b4.mono (by omega))).trans (d4.mono (by omega))
    have hids : Ids (V.alloc (.map #[] 0)) (w.heap.size + 1 + 1) 0 (fun _ => false) := a3 ▸ ids_made V
    have hcame : Came V2 (w.heap.size + 1 + 1 + 1) 0 (fun _ _ => 0) := by
      have := came_made (V.alloc (.map #[] 0))
      rw [World.size_alloc, a3] at this
      rw [eV2]; exact this
    have e1 : V4.heap[w.heap.size + 1 + 1]? = (V.alloc (.map #[] 0)).heap[w.heap.size + 1 + 1]? := by
      rw [d4.block _ (by omega), b1, ← a3]; exact (block_new V _).symm
    exact ⟨HL.out.below HL.out.pos bl, d1, (d4.block _ (by omega)).trans ((b4.block _ (by omega)).trans a2), (d4.block _ (by omega)).trans ((b4.block _ (by omega)).trans a1), d2, hids.heap e1,
      hcame.heap (d4.block _ (by omega)), HR.out.later bl, bl⟩
  have HC := Lib.hid (HC0 _ _ _ rfl rfl rfl)
  clear HC0
  obtain ⟨a1, a2, a3, a4⟩ := two_allocs w (.cells (workA u d now (.slice p n cap)) 139) (.cells #[.func (.func g) #[] lb] 141)
  have AW := Lib.hid a1
  have AA := Lib.hid a2
  have AB := Lib.hid a4
  clear a1 a2 a4
  go_wp2_with fail
  generalize ((((((w.alloc (.cells (workA u d now (.slice p n cap)) 139)).alloc (.cells #[.func (.func g) #[] lb] 141)).alloc (.map #[] 0)).alloc (.map #[] 0)).alloc (.cells #[.map (some (w.heap.size + 1 + 1))] 172)).alloc (.cells #[.map (some (w.heap.size + 1 + 1 + 1))] 173)) = V4 at *
  refine (firstWrong_any 117 _ eg117 p n cap hn R (fun k W => Chk w W u d now p n cap R g lb k (w.heap.size + 1 + 1 + 1 + 1) (w.heap.size + 1) w.heap.size (w.heap.size + 1 + 1 + 1 + 1 + 1) (w.heap.size + 1 + 1) (w.heap.size + 1 + 1 + 1))
    (fun W => Below w.heap.size w W) (errF R now ast) V4 (fun k W h => h.reps) (fun k W o h => h.alloc o) ?_ HC.out).mono ?_
  · intro k W hk h
    refine (check1_any (R k) u d now (.slice p n cap) (seenF R k) (cntF R k) k (by omega) (fun x y => ?_) (ast (R k)) g lb eg _ _ _ _ _ _ W h.lim h.bi h.ba h.bw h.bc h.ids h.came (by omega) ?_).mono ?_
    · have := cntF_bd R k x y; omega
    · intro X hX
      exact HS.out k hk X (h.below.trans (hX.mono h.below.size))
    · rintro e W' ⟨rfl, hb, hK⟩
      refine ⟨rfl, fun h0 => ?_, fun _ => h.below.trans (hb.below (by omega) (by omega) h.below.size)⟩
      obtain ⟨h1, h2⟩ := hK h0
      exact h.next hb h1 h2 HR.out ⟨by omega, by omega⟩
  rintro e W ⟨rfl, h1, h2⟩
  have hB : Below w.heap.size w W := by
    by_cases h0 : fwE (errF R now ast) n = 0
    · exact (h1 h0).below
    · exact h2 h0
  have HB := Lib.hid hB
  clear hB h1 h2
  go_wp2_with fail
  go_ret
  exact ⟨rfl, HB.out⟩
end Go.Proofs.YtdcpmdigihbdpaaDoor
