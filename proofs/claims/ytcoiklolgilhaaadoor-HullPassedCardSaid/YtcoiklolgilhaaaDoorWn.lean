/- Pure facts of what HullPassed asks: the pieces of a leg, and the safe speeds in a cell's ices. A rule for regions that draw their order, where an operation reads a slot that a later one writes. Rows of parts and of bytes. The law HullPassed: a drawn part is appended. -/
import Derived.Test.YtcoiklolgilhaaaDoorPw
import Derived.Test.YtcoiklolgilhaaaDoorRi
import Derived.Test.YtcoiklolgilhaaaDoorSh
import Derived.Maps.AppendAt
import Derived.Test.YtcoiklolgilhaaaDoorQd
namespace Go.Proofs.YtcoiklolgilhaaaDoor
open Go.RowKit
set_option maxRecDepth 100000
def offP (P : Nat → Prt) (a : Nat) : Nat → Prt := fun j => P (a + j)
theorem legLo_add (s : Sh) (P : Nat → Prt) (a : Nat) : ∀ b, legLo s P (a + b) = legLo s P a + legLo s (offP P a) b
  | 0 => by simp [legLo]
  | b + 1 => by
    rw [← Nat.add_assoc]
    simp only [legLo]
    rw [legLo_add s P a b]
    simp only [offP]
    omega
theorem legHi_add (s : Sh) (P : Nat → Prt) (a : Nat) : ∀ b, legHi s P (a + b) = legHi s P a + legHi s (offP P a) b
  | 0 => by simp [legHi]
  | b + 1 => by
    rw [← Nat.add_assoc]
    simp only [legHi]
    rw [legHi_add s P a b]
    simp only [offP]
    omega
/-- a right part -/
structure GoodP (q : Prt) : Prop where
  l1 : 1 ≤ q.len
  l2 : q.len ≤ 10000
  c : GoodC q.lo q.hi
theorem partE_no {q : Prt} (h : GoodP q) : partE q = 0 := by
  unfold partE
  rw [if_pos ⟨h.l1, h.l2⟩]
  exact cellE_of h.c
theorem peG_no {P : Nat → Prt} : ∀ f i, (∀ j, i ≤ j → j < i + f → GoodP (P j)) → peG P f i = 0
  | 0, _, _ => rfl
  | f + 1, i, h => by
    unfold peG
    rw [if_pos (partE_no (h i (Nat.le_refl _) (by omega)))]
    exact peG_no f (i + 1) (fun j h1 h2 => h j (by omega) (by omega))
theorem partsE_no {P : Nat → Prt} {n : Nat} (h1 : 1 ≤ n) (h2 : n ≤ 100) (h : ∀ j, j < n → GoodP (P j)) : partsE P n = 0 := by
  unfold partsE
  rw [if_pos ⟨h1, h2⟩]
  exact peG_no n 0 (fun j _ hj => h j (by omega))
theorem pE_some {s : Sh} (g : Good s) {q : Prt} (h : GoodP q) : pE s q = 0 ∨ pE s q = 4 ∨ pE s q = 41 := by
  unfold pE
  by_cases h1 : (speedP s q.hi q.ch : Int) < 10
  · exact .inr (.inl (ss_beset g h.c h1))
  · cases hb : beyP s q.hi q.ch 10 with
    | true => exact .inr (.inr (ss_class g h.c h1 hb))
    | false => exact .inl (ss_ok g h.c h1 hb).1
/-- in each ice of the cell she has a safe speed between those of the cell -/
theorem safe_in {s : Sh} (g : Good s) {lo hi x : Ic} (gc : GoodC lo hi) {ch : Bool} (h : ssE s lo hi ch = 0) (hx : InC lo hi x) :
    ssE s x x ch = 0 ∧ ssLo s lo hi ch ≤ ssLo s x x ch ∧ ssLo s x x ch ≤ ssHi s lo hi ch ∧ 10 ≤ ssLo s lo hi ch ∧ ssHi s lo hi ch ≤ 250 := by
  have hs : ¬ (speedP s hi ch : Int) < 10 := fun e => by rw [ss_beset g gc e] at h; cases h
  have hb : beyP s hi ch 10 = false := by
    cases hb : beyP s hi ch 10 with
    | false => rfl
    | true => rw [ss_class g gc hs hb] at h; cases h
  have gx := hx.good gc
  have gxx : GoodC x x := ⟨gx, gx, ⟨Int.le_refl _, Int.le_refl _, Int.le_refl _, Int.le_refl _⟩⟩
  have k := in_cell (ch := ch) g gc gx hx.l hx.h
  have hs2 : ¬ (speedP s x ch : Int) < 10 := by omega
  have hb2 : beyP s x ch 10 = false := by
    cases e : beyP s x ch 10 with
    | false => rfl
    | true =>
      have := bey_le gx gc.gh hx.h (show (0 : Int) ≤ 10 by omega) (Int.le_refl _) (fun h => h) e
      rw [hb] at this; cases this
  obtain ⟨o1, o2, o3⟩ := ss_ok g gc hs hb
  obtain ⟨p1, p2, p3⟩ := ss_ok g gxx hs2 hb2
  have m1 := safe_le g gx gc.gh hx.h (fun h : ch = true => h)
  have m2 := safe_le g gc.gl gx hx.l (fun h : ch = true => h)
  have b := ss_bounds g gc h
  rw [o2, o3, p2]
  rw [o2, o3] at b
  exact ⟨p1, by omega, by omega, by omega, by omega⟩
theorem takes_anti {q : Prt} (h1 : 1 ≤ q.len) {v w : Int} (hv : 0 < v) (h : v ≤ w) : takesP q w ≤ takesP q v :=
  cdiv_mono (by omega) hv (Int.mul_le_mul_of_nonneg_left h (by omega))
end Go.Proofs.YtcoiklolgilhaaaDoor
namespace Go.Proofs.YtcoiklolgilhaaaDoor
open Go.RowKit
set_option maxRecDepth 100000
theorem fill_eval_skip : ∀ (ss : List Nat) (k i : Nat) (u : Nat → Option Value) (a : Act) (s : Nat), ss[i]? = some s → ss.Nodup → u (k + i) = none → (fill ss k u a).eval (.tmp s) = a.eval (.tmp s)
  | [], _, i, _, _, _, h, _, _ => by simp at h
  | s' :: ss, k, 0, u, a, s, h, hn, hu => by
    simp only [List.getElem?_cons_zero, Option.some.injEq] at h
    subst h
    have hu' : u k = none := hu
    unfold fill
    rw [hu', fill_eval_other ss (k + 1) u _ s' (List.nodup_cons.1 hn).1]
  | s' :: ss, k, i + 1, u, a, s, h, hn, hu => by
    have h' : ss[i]? = some s := by simpa using h
    have hne : s' ≠ s := fun e => (List.nodup_cons.1 hn).1 (by rw [e]; exact List.mem_of_getElem? h')
    unfold fill
    rw [fill_eval_skip ss (k + 1) i u _ s h' (List.nodup_cons.1 hn).2 (by rw [show k + 1 + i = k + (i + 1) by omega]; exact hu)]
    cases u k with
    | none => rfl
    | some v => exact put_eval_ne a v hne
section
variable {P : Program} {Q : Exit → Act → World → Prop}
theorem wp_region_allk {id : Nat} {a : Act} {w : World} {l : List Oper} (slots : List Nat) (Rw : (Nat → Bool) → (Nat → Value) → World → Prop)
    (hm : P.follows .mixedOrders = true) (hB : allSB l.toArray slots = true) (hsz : ∀ s ∈ slots, s < 1000 → s < a.tmps.size) (hts : a.tmps.size ≤ 1000)
    (h0 : Rw (fun _ => false) (fun _ => undef) { w with drawn := w.drawn + 1 })
    (hval : ∀ i o L V, l[i]? = some o → L i = false → (∀ j, Region.waitsFor .any l.toArray i j = true → L j = true) → ∀ a' W, Rw L V W → (∀ t, t ∉ slots → a'.eval (.tmp t) = a.eval (.tmp t)) →
      (∀ j s, s < 1000 → slots[j]? = some s → Region.waitsFor .any l.toArray i j = true → a'.eval (.tmp s) = V j) →
      (∀ j s, slots[j]? = some s → L j = false → a'.eval (.tmp s) = a.eval (.tmp s)) →
      o.wp P a' W (fun a'' W' => ∃ x, a'' = a'.put o.dst x ∧ Rw (fun j => if j = i then true else L j) (fun j => if j = i then x else V j) W') Q)
    (hend : ∀ (W : World) L V, (∀ i, i < l.length → L i = true) → Rw L V W → Q .normal (fill slots 0 (fun i => some (V i)) a) W) :
    (Code.region id l.toArray true).wp P Q a w := by
  simp only [allSB, Bool.and_eq_true] at hB
  obtain ⟨hback, hsl⟩ := hB
  simp only [slotsB2, Bool.and_eq_true, decide_eq_true_eq] at hsl
  obtain ⟨⟨hlen, hnd⟩, hall⟩ := hsl
  have hszl : l.toArray.size = l.length := by simp
  have hop : ∀ i, i < l.length → ∃ o s, l[i]? = some o ∧ o.guard = none ∧ (o.dst = some s ∨ (o.dst = none ∧ 1000 ≤ s)) ∧ slots[i]? = some s := by
    intro i hi
    have h1 := List.all_eq_true.1 hall i (List.mem_range.2 (by simpa using hi))
    cases ho : l.toArray[i]? with
    | none => rw [ho] at h1; cases h1
    | some o =>
      rw [ho] at h1
      simp only [Bool.and_eq_true, beq_iff_eq, Option.isNone_iff_eq_none, Bool.or_eq_true, decide_eq_true_eq] at h1
      have hs' : slots[i]? = some (slots[i]'(by rw [hlen, hszl]; exact hi)) := List.getElem?_eq_getElem _
      refine ⟨o, _, by simpa using ho, h1.1, ?_, hs'⟩
      rcases h1.2 with h2 | ⟨h2, h3⟩
      · exact .inl (by rw [h2, hs'])
      · refine .inr ⟨h2, ?_⟩
        rw [hs'] at h3
        simpa using h3
  refine wp_region_any hm ?_
  have main : ∀ f (listed : Array Bool) a' W, listed.size = l.toArray.size → cnt listed l.toArray.size = f → (∃ V, a' = fill slots 0 (uSt V listed) a ∧ Rw (fun i => listed.getD i false) V W) → wpAny P .any l.toArray Q f listed a' W := by
    intro f
    induction f with
    | zero =>
      rintro listed a' W hls hc ⟨V, rfl, hR⟩
      have hd := cnt_zero _ hc
      have hd' : ∀ i, i < l.length → listed.getD i false = true := fun i hi => by
        have := hd i (by rw [hszl]; exact hi)
        have hsz' : i < listed.size := by rw [hls, hszl]; exact hi
        simp [hsz'] at this ⊢
        exact this
      have hrdy : Region.ready .any l.toArray listed = [] := List.eq_nil_iff_forall_not_mem.2 fun i hi => by
        obtain ⟨hu, o, ho, _⟩ := mem_ready.1 hi
        have hi' : i < l.toArray.size := (Array.getElem?_eq_some_iff.1 ho).1
        have := hd i hi'
        rw [this] at hu; cases hu
      have hfill : fill slots 0 (uSt V listed) a = fill slots 0 (fun i => some (V i)) a := by
        have : ∀ (ss : List Nat) (k : Nat) (b : Act), k + ss.length ≤ l.length → fill ss k (uSt V listed) b = fill ss k (fun i => some (V i)) b := by
          intro ss
          induction ss with
          | nil => intro k b _; rfl
          | cons s ss ih =>
            intro k b hk
            simp only [List.length_cons] at hk
            unfold fill
            have e : uSt V listed k = some (V k) := by unfold uSt; rw [hd' k (by omega)]; rfl
            rw [e]
            exact ih (k + 1) _ (by omega)
        exact this slots 0 a (by rw [hlen, hszl]; omega)
      refine ⟨hrdy, ?_⟩
      rw [hfill]
      exact hend W _ V hd' hR
    | succ f ih =>
      rintro listed a' W hls hc ⟨V, rfl, hR⟩
      obtain ⟨i0, hi0, hu0⟩ := cnt_pos (listed := listed) l.toArray.size (by omega)
      refine ⟨fun h0 => ?_, fun i hi => ?_⟩
      · exfalso
        obtain ⟨j, hj, hju, hleast⟩ := least (p := fun i => listed.getD i true = false) i0 hu0
        obtain ⟨o, ho, hdeps⟩ := backB_spec hback (show j < l.toArray.size by omega)
        have : j ∈ Region.ready .any l.toArray listed := mem_ready.2 ⟨hju, o, ho, fun e he hb => by
          have hlt := hdeps e he hb
          have h1 := hleast e.on hlt
          have hsz' : e.on < listed.size := by omega
          simp [hsz'] at h1 ⊢
          exact h1⟩
        rw [h0] at this
        cases this
      · obtain ⟨hun, o, ho', hdeps⟩ := mem_ready.1 hi
        have hi' : i < l.length := by have := (Array.getElem?_eq_some_iff.1 ho').1; rwa [hszl] at this
        obtain ⟨o2, s, ho, hg, hdst, hss⟩ := hop i hi'
        obtain rfl : o = o2 := by simpa [ho] using ho'.symm
        have hun' : listed.getD i false = false := getD_both hun
        have hself : (listed.setIfInBounds i true).getD i false = true := by
          have hsz' : i < listed.size := by rw [hls, hszl]; exact hi'
          simp [hsz']
        have hput : ∀ x, (fill slots 0 (uSt V listed) a).put o.dst x = fill slots 0 (uSt (fun j => if j = i then x else V j) (listed.setIfInBounds i true)) a := by
          intro x
          have hput0 : (fill slots 0 (uSt V listed) a).put o.dst x = (fill slots 0 (uSt V listed) a).put (some s) x := by
            rcases hdst with h | ⟨h, hs⟩
            · rw [h]
            · rw [h]
              have hz := fill_size slots 0 (uSt V listed) a
              have hq : (fill slots 0 (uSt V listed) a).tmps.size ≤ s := by rw [hz]; exact Nat.le_trans hts hs
              simp only [Act.put]
              rw [Array.setIfInBounds_eq_of_size_le hq]
          rw [hput0]
          rw [fill_put_at slots 0 i _ a s x hss hnd (by simp only [Nat.zero_add]; unfold uSt; rw [hun']; rfl)]
          refine fill_congr slots 0 _ _ a (fun j _ => ?_)
          simp only [upd, Nat.zero_add]
          by_cases e : j = i
          · subst e
            simp only [if_true, uSt, hself]
          · rw [if_neg e]
            unfold uSt
            rw [getD_set_ne false (Ne.symm e)]
            simp only [if_neg e]
        unfold wpOp
        simp only [ho']
        have hw : Region.wanted o (yielded l.toArray (fill slots 0 (uSt V listed) a).tmps) = true := by unfold Region.wanted; rw [hg]
        rw [if_pos hw]
        refine .inl ?_
        refine Oper.wp_mono ?_ (hval i o (fun i => listed.getD i false) V ho hun' (fun j hwt => ?_) _ W hR (fun t ht => fill_eval_other slots 0 _ a t ht) (fun j s' hs1 hs' hwt => ?_) (fun j s' hs' hl0 => fill_eval_skip slots 0 j _ a s' hs' hnd (by simp only [Nat.zero_add]; unfold uSt; rw [show listed.getD j false = false from hl0]; rfl)))
        · rintro a'' W' ⟨x, rfl, hR'⟩
          refine ih _ _ _ (by simp [hls]) ?_ ⟨_, hput x, ?_⟩
          · have := cnt_set hun l.toArray.size (by rw [hszl]; exact hi')
            omega
          · have e : (fun j => (listed.setIfInBounds i true).getD j false) = fun j => if j = i then true else listed.getD j false := by
              funext j
              by_cases e : j = i
              · subst e; simp only [if_true]; exact hself
              · rw [if_neg e, getD_set_ne false (Ne.symm e)]
            rw [e]; exact hR'
        · obtain ⟨o3, ho3, e, he, hbd, hon⟩ := Region.waitsFor_spec hwt
          obtain rfl : o = o3 := Option.some.inj (ho'.symm.trans ho3)
          have hl := hdeps e he hbd
          rw [hon] at hl
          exact hl
        · obtain ⟨o3, ho3, e, he, hbd, hon⟩ := Region.waitsFor_spec hwt
          obtain rfl : o = o3 := Option.some.inj (ho'.symm.trans ho3)
          have hl := hdeps e he hbd
          rw [hon] at hl
          have hs3 : s' < a.tmps.size := hsz s' (List.mem_of_getElem? hs') hs1
          refine fill_eval_at slots 0 j _ a s' (V j) hs' hnd ?_ hs3
          simp only [Nat.zero_add]
          unfold uSt
          rw [hl]
          rfl
  refine main _ _ _ _ (by simp) ?_ ⟨fun _ => undef, ?_, ?_⟩
  · have : ∀ k, k ≤ l.toArray.size → cnt (Array.replicate l.toArray.size false) k = k := by
      intro k
      induction k with
      | zero => intro _; rfl
      | succ k ih =>
        intro hk
        unfold cnt
        rw [ih (by omega), getD_in (listed := Array.replicate l.toArray.size false) (by simp at hk ⊢; omega) (getD_replicate_false _ _)]
        simp
    exact this _ (Nat.le_refl _)
  · have e : ∀ (ss : List Nat) (k : Nat), fill ss k (uSt (fun _ => undef) (Array.replicate l.toArray.size false)) a = a := by
      intro ss
      induction ss with
      | nil => intro k; rfl
      | cons s ss ih =>
        intro k
        unfold fill
        have : uSt (fun _ => undef) (Array.replicate l.toArray.size false) k = none := by unfold uSt; rw [getD_replicate_false]; rfl
        rw [this]
        exact ih (k + 1)
    exact (e slots 0).symm
  · have e : (fun i => (Array.replicate l.toArray.size false).getD i false) = fun _ => false := by funext i; exact getD_replicate_false _ _
    rw [e]; exact h0
theorem wp_region_fik {id : Nat} {a : Act} {w : World} {l : List Oper} (slots : List Nat) (F : Nat → Value → Prop) (I : (Nat → Bool) → (Nat → Value) → World → Prop)
    (hm : P.follows .mixedOrders = true) (hB : allSB l.toArray slots = true) (hsz : ∀ s ∈ slots, s < 1000 → s < a.tmps.size) (hts : a.tmps.size ≤ 1000)
    (h0 : I (fun _ => false) (fun _ => undef) { w with drawn := w.drawn + 1 })
    (hval : ∀ i o L V, l[i]? = some o → L i = false → (∀ j, Region.waitsFor .any l.toArray i j = true → L j = true) → (∀ i j, L i = true → Region.waitsFor .any l.toArray i j = true → L j = true) → ∀ a' W, I L V W → (∀ t, t ∉ slots → a'.eval (.tmp t) = a.eval (.tmp t)) →
      (∀ j s, s < 1000 → slots[j]? = some s → Region.waitsFor .any l.toArray i j = true → a'.eval (.tmp s) = V j ∧ F j (V j)) →
      (∀ j s, slots[j]? = some s → L j = false → a'.eval (.tmp s) = a.eval (.tmp s)) →
      o.wp P a' W (fun a'' W' => ∃ x, a'' = a'.put o.dst x ∧ F i x ∧ I (fun j => if j = i then true else L j) (fun j => if j = i then x else V j) W') Q)
    (hend : ∀ (W : World) L V, (∀ i, i < l.length → L i = true) → (∀ i, i < l.length → F i (V i)) → I L V W → Q .normal (fill slots 0 (fun i => some (V i)) a) W) :
    (Code.region id l.toArray true).wp P Q a w := by
  refine wp_region_allk slots (fun L V W => (∀ i j, L i = true → Region.waitsFor .any l.toArray i j = true → L j = true) ∧ (∀ j, L j = true → F j (V j)) ∧ I L V W) hm hB hsz hts ⟨(fun i j h => by cases h), fun j h => (by cases h), h0⟩ ?_ ?_
  · rintro i o L V ho hL hd a' W ⟨hcl, hF, hI⟩ hfr hdp hsk
    refine Oper.wp_mono ?_ (hval i o L V ho hL hd hcl a' W hI hfr (fun j s h1 h2 h3 => ⟨hdp j s h1 h2 h3, hF j (hd j h3)⟩) hsk)
    rintro a'' W' ⟨x, rfl, hx, hI'⟩
    refine ⟨x, rfl, fun i' j h hw => ?_, fun j hj => ?_, hI'⟩
    · by_cases ej : j = i
      · simp [ej]
      · simp only [if_neg ej]
        by_cases ei : i' = i
        · subst ei; exact hd j hw
        · simp only [if_neg ei] at h; exact hcl i' j h hw
    · by_cases e : j = i
      · subst e
        simp only [if_true]
        exact hx
      · simp only [if_neg e] at hj ⊢
        exact hF j hj
  · rintro W L V hL ⟨_, hF, hI⟩
    exact hend W L V hL (fun i hi => hF i (hL i hi)) hI
end
section
variable {P : Program}
theorem wp_append_w {w : World} {o : Oper} {a : Act} {K : Act → World → Prop} {Q : Exit → Act → World → Prop} (s x : Operand) (t : TypeId)
    (ho : o.op = .call { callee := .builtin .append, args := #[s, x], argTypes := #[t, t] })
    (base : Nat) (e : TypeId) (i : TypeInfo) (z : Value) (size bytes : Nat) (ht : P.underlying t = some (.slice e)) (hi : P.info? e = some i) (hz : i.zero = some z)
    (hsize : i.size = size) (hby : i.bytes = bytes) (hzs : z.cells.size = size) (hsz : 0 < size)
    (v : Value) (n : Nat) (xs : List Value) (hs : a.eval s = v) (hown : w.ownsRow base e size v n xs)
    (ad : Addr) (m c : Nat) (news : List Value) (hx : a.eval x = .slice (some ad) m c) (hl : news.length = m * size) (hnews : ∀ j u, news[j]? = some u → w.cell? (ad.add j) = some u) (h1 : ∀ u ∈ news, u.oneCell' = true)
    (h63 : n + m ≤ maxLen) (hbytes : (n + m) * bytes ≤ 140737488355328) (hbase : base ≤ w.heap.size)
    (h : ∀ v' w', w'.ownsRow base e size v' (n + m) (xs ++ news) → w.grownBy w' v.ownBlock → (v'.ownBlock = v.ownBlock ∨ v'.ownBlock = some w.heap.size) → K (a.put o.dst v') w') : o.wp P a w K Q := by
  obtain ⟨v', w', hr, h2, h3, _, h5⟩ := run_append_own_at (P := P) w base t o.type e i z size bytes ht hi hz hsize hby hzs hsz v n xs hown ad m c news hl hnews h1 h63 hbytes hbase
  unfold Oper.wp execOp
  simp only [ho, resolve, invoke, builtin, Sem.run_bind, Sem.run_pure, Result.andThen_ok, List.map_toArray, List.map_cons, List.map_nil, hs, hx, hr]
  exact h v' w' h2 h3 h5
end
section
variable {Q : Exit → Act → World → Prop} {o : Oper} {a' : Act} {W : World} {Rq : Value → World → Prop}
theorem opx_callu_w {f s : Nat} {v : Value} {ts : Array TypeId} (hop : o.op = Op.call { callee := .value (.func f), args := #[.tmp s], argTypes := ts })
    (he : a'.eval (.tmp s) = v) (eg : ∀ args w, (callFunc f args).run Tryd.prog w = .ok (.enter f args) w) (hc : Calls Tryd.prog f #[v] W fun e W' => ∃ r, e = .returned r ∧ Rq r W') :
    o.wp Tryd.prog a' W (fun a'' W' => ∃ x, a'' = a'.put o.dst x ∧ Rq x W') Q := by
  have he' : a'.tmps[s]?.getD undef = v := by simpa [Act.eval] using he
  unfold Oper.wp execOp
  rw [hop]
  simp [go_sem, he', eg]
  refine hc.mono ?_
  rintro e w' ⟨r, rfl, hb⟩
  exact ⟨r, rfl, hb⟩
end
theorem op_addcl_w {Q : Exit → Act → World → Prop} {o : Oper} {a' : Act} {W : World} {s : Nat} {c x : Int} (hop : o.op = Op.binOp .add 3 (.const (.int .i64 c)) (.tmp s) 3) (he : a'.eval (.tmp s) = .int .i64 x) (hw : -9223372036854775808 ≤ c + x ∧ c + x ≤ 9223372036854775807) :
    o.wp Tryd.prog a' W (fun a'' W' => a'' = a'.put o.dst (.int .i64 (c + x)) ∧ Below W.heap.size W W') Q := by
  have hr := Below.refl W.heap.size W
  have he' : a'.tmps[s]?.getD undef = .int .i64 x := by simpa [Act.eval] using he
  have hw' := i64w _ hw
  unfold Oper.wp execOp
  rw [hop]
  simp [go_sem, he', hw', hr]
theorem und84 : Tryd.prog.underlying 84 = some (.slice 86) := by kernel_rfl
theorem info86 : (Tryd.prog.info? 86).map (fun i => (i.zero, i.size, i.bytes)) = some (some (.agg #[.int .i64 0, .int .i64 0, .int .i64 0, .int .i64 0, .int .i64 0, .int .i64 0, .int .i64 0, .int .i64 0, .bool false, .int .i64 0]), 10, 80) := by kernel_rfl
theorem und50 : Tryd.prog.underlying 50 = some (.slice 5) := by kernel_rfl
theorem info5 : (Tryd.prog.info? 5).map (fun i => (i.zero, i.size, i.bytes)) = some (some (.int .u8 0), 1, 1) := by kernel_rfl
def flatPt (l : List Prt) : List Value := l.flatMap fun q => (partV q).toList
theorem flatPt_len : ∀ l : List Prt, (flatPt l).length = l.length * 10
  | [] => rfl
  | q :: l => by
    have h := flatPt_len l
    have e : flatPt (q :: l) = (partV q).toList ++ flatPt l := by simp [flatPt]
    rw [e, List.length_append, h]
    simp
    omega
theorem flatPt_snoc (l : List Prt) (q : Prt) : flatPt (l ++ [q]) = flatPt l ++ (partV q).toList := by simp [flatPt]
def noPrt : Prt := ⟨⟨0, 0, 0, 0⟩, ⟨0, 0, 0, 0⟩, false, 1⟩
def prtOf (l : List Prt) : Nat → Prt := fun i => l.getD i noPrt
theorem flatPt_get : ∀ (l : List Prt) (i : Nat), i < l.length → ∀ c, c < 10 → (flatPt l)[i * 10 + c]? = (partV (prtOf l i))[c]?
  | [], i, h, _, _ => by simp at h
  | q :: l, 0, _, c, hc => by
    have e : flatPt (q :: l) = (partV q).toList ++ flatPt l := by simp [flatPt]
    rw [e, List.getElem?_append_left (by simpa using hc)]
    simp [prtOf]
  | q :: l, i + 1, h, c, hc => by
    have h1 : i < l.length := by simpa using h
    have e : flatPt (q :: l) = (partV q).toList ++ flatPt l := by simp [flatPt]
    have hl : (partV q).toList.length = 10 := rfl
    rw [e, List.getElem?_append_right (by rw [hl]; omega), hl, show (i + 1) * 10 + c - 10 = i * 10 + c by omega, flatPt_get l i h1 c hc]
    simp [prtOf]
/-- a row of parts -/
abbrev PtRow (W : World) (base : Nat) (v : Value) (l : List Prt) : Prop := W.ownsRow base 86 10 v l.length (flatPt l)
theorem PtRow.parts {W : World} {base : Nat} {p : Option Addr} {n c : Nat} {l : List Prt} (h : PtRow W base (.slice p n c) l) : PartsIn W p l.length (prtOf l) := fun i hi => by
  rcases h.2 with ⟨_, e2⟩ | ⟨g, cap, cur, e1, _, hg, hn, _, hsz, htk⟩
  · rw [e2] at hi; omega
  · simp only [Value.slice.injEq] at e1
    obtain ⟨rfl, _, _⟩ := e1
    have hlen : (flatPt l).length = l.length * 10 := flatPt_len l
    have get : ∀ j, j < l.length * 10 → cur[j]? = (flatPt l)[j]? := fun j hj => by
      rw [← htk, List.getElem?_take_of_lt hj, Array.getElem?_toList]
    have hc : ∀ c v, (partV (prtOf l i))[c]? = some v → W.cell? ⟨g, 0 + i * 10 + c, none⟩ = some v := fun c v hv => by
      have hcl : c < 10 := by have := (Array.getElem?_eq_some_iff.1 hv).1; simpa using this
      rw [Nat.zero_add]
      exact (cell_of_block hg _).trans ((get _ (by omega)).trans ((flatPt_get l i hi c hcl).trans hv))
    exact ⟨g, 0, rfl, lt_of_block hg, hc 0 _ rfl, hc 1 _ rfl, hc 2 _ rfl, hc 3 _ rfl, hc 4 _ rfl, hc 5 _ rfl, hc 6 _ rfl, hc 7 _ rfl, hc 8 _ rfl, hc 9 _ rfl⟩
theorem row_base {W : World} {base size n : Nat} {e : TypeId} {v : Value} {xs : List Value} (h : W.ownsRow base e size v n xs) : ∀ j, v.ownBlock = some j → base ≤ j := fun j e => by
  rcases h.2 with ⟨rfl, _⟩ | ⟨g, cap, cur, rfl, hbg, hg, _⟩
  · simp [Value.ownBlock] at e
  · obtain rfl : g = j := by simpa [Value.ownBlock] using e
    exact hbg
theorem row_lt {W : World} {base size n : Nat} {e : TypeId} {v : Value} {xs : List Value} (h : W.ownsRow base e size v n xs) : ∀ j, v.ownBlock = some j → j < W.heap.size := fun j e => by
  rcases h.2 with ⟨rfl, _⟩ | ⟨g, cap, cur, rfl, hbg, hg, _⟩
  · simp [Value.ownBlock] at e
  · obtain rfl : g = j := by simpa [Value.ownBlock] using e
    exact (Array.getElem?_eq_some_iff.1 hg).1
theorem row_sto {W W' : World} {base size n b : Nat} {e : TypeId} {v : Value} {xs : List Value} (h : W.ownsRow base e size v n xs) (hc : Chg b W W') (hb : b < base) : W'.ownsRow base e size v n xs := by
  refine h.kept (row := some b) ⟨hc.2.2.1, hc.2.2.2.1, hc.2.2.2.2, Nat.le_of_eq hc.1.symm, fun k _ hk => hc.2.1 k (fun e => hk (by rw [e]))⟩ (.inr fun e => ?_)
  have := row_base h b e
  omega
theorem row_grow {W W' : World} {base size n lim : Nat} {e : TypeId} {v : Value} {xs : List Value} {row : Option Nat} (h : W.ownsRow base e size v n xs) (hg : W.grownBy W' row) (hr : ∀ j, row = some j → lim ≤ j) (hv : ∀ j, v.ownBlock = some j → j < lim) : W'.ownsRow base e size v n xs := by
  refine h.kept hg ?_
  cases hvb : v.ownBlock with
  | none => exact .inl rfl
  | some j =>
    right
    intro e
    have h1 := hr j e.symm
    have h2 := hv j hvb
    omega
theorem row_shape {W : World} {base size n : Nat} {e : TypeId} {v : Value} {xs : List Value} (h : W.ownsRow base e size v n xs) : ∃ q c, v = .slice q n c := by
  rcases h.2 with ⟨rfl, e2⟩ | ⟨g, cap, cur, rfl, _⟩
  · exact ⟨none, 0, by rw [e2]⟩
  · exact ⟨_, _, rfl⟩
/-- a row of bytes -/
def byteV (z : Int) : Value := .int .u8 z
abbrev BRow (W : World) (base : Nat) (v : Value) (l : List Int) : Prop := W.ownsRow base 5 1 v l.length (l.map byteV)
theorem BRow.bytes {W : World} {base : Nat} {p : Option Addr} {n c : Nat} {l : List Int} (h : BRow W base (.slice p n c) l) (hb : ∀ z ∈ l, 0 ≤ z ∧ z ≤ 255) : BytesIn W p l.length := fun i hi => by
  rcases h.2 with ⟨_, e2⟩ | ⟨g, cap, cur, e1, _, hg, hn, _, hsz, htk⟩
  · rw [e2] at hi; omega
  · simp only [Value.slice.injEq] at e1
    obtain ⟨rfl, _, _⟩ := e1
    have get : ∀ j, j < l.length * 1 → cur[j]? = (l.map byteV)[j]? := fun j hj => by
      rw [← htk, List.getElem?_take_of_lt hj, Array.getElem?_toList]
    have hz := hb (l[i]) (List.getElem_mem hi)
    refine ⟨g, 0, l[i], rfl, lt_of_block hg, hz.1, hz.2, ?_⟩
    rw [Nat.zero_add]
    refine (cell_of_block hg _).trans ((get _ (by omega)).trans ?_)
    simp [byteV, hi]
end Go.Proofs.YtcoiklolgilhaaaDoor
namespace Go.Proofs.YtcoiklolgilhaaaDoor
open Go.RowKit
set_option maxRecDepth 100000
section
variable {Q : Exit → Act → World → Prop} {o : Oper} {a' : Act} {W : World}
theorem opx_eqlc {s : Nat} {x c : Int} {Rq : Value → World → Prop} (hop : o.op = Op.binOp .eql 3 (.tmp s) (.const (.int .i64 c)) 3) (he : a'.eval (.tmp s) = .int .i64 x) (hR : ∀ b, Rq (.bool b) W) :
    o.wp Tryd.prog a' W (fun a'' W' => ∃ x, a'' = a'.put o.dst x ∧ Rq x W') Q := by
  have he' : a'.tmps[s]?.getD undef = .int .i64 x := by simpa [Act.eval] using he
  unfold Oper.wp execOp
  rw [hop]
  simp [go_sem, he']
  exact ⟨_, rfl, hR _⟩
theorem op_b86 {s t r : Nat} {lo hi : Ic} {b : Bool} {x : Int} (hop : o.op = Op.build 86 #[(0, .tmp s), (1, .tmp t), (2, .tmp r)]) (hs : a'.eval (.tmp s) = .agg (cellV lo hi)) (ht : a'.eval (.tmp t) = .bool b) (hr : a'.eval (.tmp r) = .int .i64 x) :
    o.wp Tryd.prog a' W (fun a'' W' => a'' = a'.put o.dst (.agg (partV ⟨lo, hi, b, x⟩)) ∧ Below W.heap.size W W') Q := by
  have hb := Below.refl W.heap.size W
  have hs' : a'.tmps[s]?.getD undef = .agg (cellV lo hi) := by simpa [Act.eval] using hs
  have ht' : a'.tmps[t]?.getD undef = .bool b := by simpa [Act.eval] using ht
  have hr' : a'.tmps[r]?.getD undef = .int .i64 x := by simpa [Act.eval] using hr
  unfold Oper.wp execOp
  rw [hop]
  simp [go_sem, hs', ht', hr', hb]
end
structure W14 (w1 : World) (p : Option Addr) (k cap B13 M9 : Nat) (lo hi : Ic) (v11 : Value) (l : List Prt) (L : Nat → Bool) (V : Nat → Value) (W : World) : Prop where
  nx : NxIn w1 p k cap (w1.heap.size + 1) w1.heap.size W
  c : W.heap[B13]? = some (.cells (cellV lo hi) 59 (0, 0))
  m : M9 ≤ W.heap.size
  r : L 11 = false → PtRow W (w1.heap.size + 1 + 1) v11 l
  a : L 10 = true → L 11 = false → ∃ (gb : Nat) (ch : Bool) (ln : Int), V 10 = .slice (some ⟨gb, 0, none⟩) 1 1 ∧ M9 ≤ gb ∧ W.heap[gb]? = some (.cells (partV ⟨lo, hi, ch, ln⟩) 86 (0, 0)) ∧ 1 ≤ ln ∧ ln ≤ 10000
  n : L 11 = true → ∃ (ch : Bool) (ln : Int), 1 ≤ ln ∧ ln ≤ 10000 ∧ PtRow W (w1.heap.size + 1 + 1) (V 11) (l ++ [⟨lo, hi, ch, ln⟩])
  d : L 12 = true → V 12 = V 11
  d1 : L 12 = true → L 11 = true
section
variable {w1 : World} {p : Option Addr} {k cap B13 M9 : Nat} {lo hi : Ic} {v11 : Value} {l : List Prt} {L : Nat → Bool} {V : Nat → Value} {W W' : World}
theorem W14.later (h : W14 w1 p k cap B13 M9 lo hi v11 l L V W) (hb : Below W.heap.size W W') : W14 w1 p k cap B13 M9 lo hi v11 l L V W' := by
  refine ⟨h.nx.later hb, (hb.block _ (lt_of_block h.c)).trans h.c, Nat.le_trans h.m hb.size, fun e => row_later (h.r e) hb, fun e e' => ?_, fun e => ?_, h.d, h.d1⟩
  · obtain ⟨gb, ch, ln, h1, h2, h3, h4⟩ := h.a e e'
    exact ⟨gb, ch, ln, h1, h2, (hb.block _ (lt_of_block h3)).trans h3, h4⟩
  · obtain ⟨ch, ln, h1, h2, h3⟩ := h.n e
    exact ⟨ch, ln, h1, h2, row_later h3 hb⟩
theorem W14.set (h : W14 w1 p k cap B13 M9 lo hi v11 l L V W) (i : Nat) (hi' : i ∉ [10, 11, 12]) (x : Value) : W14 w1 p k cap B13 M9 lo hi v11 l (fun j => if j = i then true else L j) (fun j => if j = i then x else V j) W := by
  simp only [List.mem_cons, List.not_mem_nil, or_false, not_or] at hi'
  obtain ⟨h10, h11, h12⟩ := hi'
  refine ⟨h.nx, h.c, h.m, ?_, ?_, ?_, ?_, ?_⟩
  · simp only [if_neg (Ne.symm h11)]; exact h.r
  · simp only [if_neg (Ne.symm h10), if_neg (Ne.symm h11)]; exact h.a
  · simp only [if_neg (Ne.symm h11)]; exact h.n
  · simp only [if_neg (Ne.symm h11), if_neg (Ne.symm h12)]; exact h.d
  · simp only [if_neg (Ne.symm h11), if_neg (Ne.symm h12)]; exact h.d1
theorem W14.next (h : W14 w1 p k cap B13 M9 lo hi v11 l L V W) (hN : NxIn w1 p k cap (w1.heap.size + 1) w1.heap.size W') (hC : Chg (w1.heap.size + 1) W W') (hne : w1.heap.size + 1 < B13) (hm : B13 < M9) : W14 w1 p k cap B13 M9 lo hi v11 l L V W' := by
  refine ⟨hN, (hC.2.1 _ (by omega)).trans h.c, Nat.le_trans h.m (Nat.le_of_eq hC.1.symm), fun e => row_sto (h.r e) hC (by omega), fun e e' => ?_, fun e => ?_, h.d, h.d1⟩
  · obtain ⟨gb, ch, ln, h1, h2, h3, h4⟩ := h.a e e'
    exact ⟨gb, ch, ln, h1, h2, (hC.2.1 _ (by omega)).trans h3, h4⟩
  · obtain ⟨ch, ln, h1, h2, h3⟩ := h.n e
    exact ⟨ch, ln, h1, h2, row_sto h3 hC (by omega)⟩
end
def pF14 (lo hi : Ic) (v11 fv : Value) : Nat → Value → Prop
  | 0, v => v = v11
  | 1, v => v = .agg (cellV lo hi)
  | 2, v => v = fv
  | 3, v => ∃ r : Int, v = .int .i64 r
  | 4, v => ∃ b : Bool, v = .bool b
  | 5, v => v = fv
  | 6, v => ∃ r : Int, v = .int .i64 r ∧ 0 ≤ r ∧ r < 256
  | 7, v => ∃ r : Int, v = .int .i64 (5 * r) ∧ 0 ≤ r ∧ r < 256
  | 8, v => ∃ r : Int, v = .int .i64 (1 + 5 * r) ∧ 0 ≤ r ∧ r < 256
  | 9, v => ∃ (ch : Bool) (r : Int), v = .agg (partV ⟨lo, hi, ch, 1 + 5 * r⟩) ∧ 0 ≤ r ∧ r < 256
  | _, _ => True
/-- The region alone. -/
def findOne (id : Nat) : Code → Option Code
  | .region i ops d => if i = id then some (.region i ops d) else none
  | .seq a b => match findOne id a with
    | some c => some c
    | none => findOne id b
  | .block _ c => findOne id c
  | .loop c => findOne id c
  | .scope c => findOne id c
  | .cond _ a b => match findOne id a with
    | some c => some c
    | none => findOne id b
  | _ => none
noncomputable def passed14 : Code := ((Tryd.f8.body.bind (findOne 14)).getD .skip)

set_option maxHeartbeats 32000000 in
theorem Passed_14 (w1 : World) (p : Option Addr) (k cap : Nat) (hk : k ≤ 9223372036854775807) (hB : BytesIn w1 p k) (B13 : Nat) (v11 : Value) (l : List Prt) (lo hi : Ic) (w : World) (hl7 : l.length ≤ 7)
    (hnx : NxIn w1 p k cap (w1.heap.size + 1) w1.heap.size w) (hpt : PtRow w (w1.heap.size + 1 + 1) v11 l) (hk13 : w.heap[B13]? = some (.cells (cellV lo hi) 59 (0, 0))) (hb13 : w1.heap.size + 1 < B13) (hne : v11.ownBlock ≠ some B13) (Q : Exit → Act → World → Prop)
    (x0 x1 x2 x3 x4 x5 x6 x7 x8 x9 x12 x14 x15 x16 x17 x18 x19 x20 x21 x22 x23 x24 x25 x26 x27 x28 x29 x30 x31 x32 x33 x34 x35 x36 x37 x38 x39 x40 x41 x42 x43 x44 x45 x46 x47 x48 x49 x50 x51 x52 x53 x54 x55 x56 x57 x58 x59 x60 x61 x62 x63 x64 x65 x66 x67 x68 x69 x70 x71 x72 x73 x74 x75 x76 x77 x78 x79 x80 x81 x82 x83 x84 x85 x86 x87 x88 x89 x90 x91 x92 x93 x94 x95 x96 x97 x98 x99 x100 x101 x102 x103 x104 x105 x106 x107 x108 x109 x110 x111 x112 x113 x114 x115 x116 x117 x118 x119 x120 x121 x122 x123 x124 x125 x126 x127 x128 x129 x130 x131 x132 x133 x134 x135 x136 x137 x138 x139 x140 x141 x142 x143 x144 x145 x146 x147 x148 x149 x150 x151 x152 x153 x154 x155 x156 x157 x158 x159 x160 x161 x162 x163 x164 x165 x166 x167 x168 x169 x170 x171 x172 x173 x174 x175 x176 x177 x178 x179 x180 x181 x182 x183 x184 x185 x186 x187 x188 x189 x190 x191 x192 x193 x194 x195 x196 x197 x198 x199 x200 x201 x202 x203 x204 x205 x206 x207 x208 x209 x210 x211 x212 x213 x214 x215 x216 x217 x218 x219 x220 x221 x222 x223 x224 x225 x226 x227 x228 x229 x230 x231 x232 x233 x234 x235 x236 x237 x238 x239 x240 x241 x242 x243 x244 x245 x246 x247 x248 x249 x250 x251 x252 x253 x254 x255 x256 x257 x258 x259 x260 x261 x262 x263 x264 x265 x266 x267 x268 x269 x270 x271 x272 x273 x274 x275 x276 x277 x278 x279 x280 x281 x282 x283 x284 x285 x286 x287 x288 x289 x290 x291 x292 : Value)
    (hQ : ∀ (ch : Bool) (ln : Int) (v' : Value) (W : World) (y69 y70 y71 y72 y73 y74 y75 y76 y77 y78 y79 y80 : Value), 1 ≤ ln → ln ≤ 10000 → NxIn w1 p k cap (w1.heap.size + 1) w1.heap.size W → PtRow W (w1.heap.size + 1 + 1) v' (l ++ [⟨lo, hi, ch, ln⟩]) → Q .normal ⟨#[x0, x1, x2, x3, x4, x5, x6, x7, x8, x9, .func (.func 73) #[] #[.pointer (some ⟨w1.heap.size + 1, 0, none⟩), .pointer (some ⟨w1.heap.size, 0, none⟩)], v', x12, .pointer (some ⟨B13, 0, none⟩), x14, x15, x16, x17, x18, x19, x20, x21, x22, x23, x24, x25, x26, x27, x28, x29, x30, x31, x32, x33, x34, x35, x36, x37, x38, x39, x40, x41, x42, x43, x44, x45, x46, x47, x48, x49, x50, x51, x52, x53, x54, x55, x56, x57, x58, x59, x60, x61, x62, x63, x64, x65, x66, x67, x68, y69, y70, y71, y72, y73, y74, y75, y76, y77, y78, y79, y80, x81, x82, x83, x84, x85, x86, x87, x88, x89, x90, x91, x92, x93, x94, x95, x96, x97, x98, x99, x100, x101, x102, x103, x104, x105, x106, x107, x108, x109, x110, x111, x112, x113, x114, x115, x116, x117, x118, x119, x120, x121, x122, x123, x124, x125, x126, x127, x128, x129, x130, x131, x132, x133, x134, x135, x136, x137, x138, x139, x140, x141, x142, x143, x144, x145, x146, x147, x148, x149, x150, x151, x152, x153, x154, x155, x156, x157, x158, x159, x160, x161, x162, x163, x164, x165, x166, x167, x168, x169, x170, x171, x172, x173, x174, x175, x176, x177, x178, x179, x180, x181, x182, x183, x184, x185, x186, x187, x188, x189, x190, x191, x192, x193, x194, x195, x196, x197, x198, x199, x200, x201, x202, x203, x204, x205, x206, x207, x208, x209, x210, x211, x212, x213, x214, x215, x216, x217, x218, x219, x220, x221, x222, x223, x224, x225, x226, x227, x228, x229, x230, x231, x232, x233, x234, x235, x236, x237, x238, x239, x240, x241, x242, x243, x244, x245, x246, x247, x248, x249, x250, x251, x252, x253, x254, x255, x256, x257, x258, x259, x260, x261, x262, x263, x264, x265, x266, x267, x268, x269, x270, x271, x272, x273, x274, x275, x276, x277, x278, x279, x280, x281, x282, x283, x284, x285, x286, x287, x288, x289, x290, x291, x292], []⟩ W) :
    Code.wp Tryd.prog passed14 Q ⟨#[x0, x1, x2, x3, x4, x5, x6, x7, x8, x9, .func (.func 73) #[] #[.pointer (some ⟨w1.heap.size + 1, 0, none⟩), .pointer (some ⟨w1.heap.size, 0, none⟩)], v11, x12, .pointer (some ⟨B13, 0, none⟩), x14, x15, x16, x17, x18, x19, x20, x21, x22, x23, x24, x25, x26, x27, x28, x29, x30, x31, x32, x33, x34, x35, x36, x37, x38, x39, x40, x41, x42, x43, x44, x45, x46, x47, x48, x49, x50, x51, x52, x53, x54, x55, x56, x57, x58, x59, x60, x61, x62, x63, x64, x65, x66, x67, x68, x69, x70, x71, x72, x73, x74, x75, x76, x77, x78, x79, x80, x81, x82, x83, x84, x85, x86, x87, x88, x89, x90, x91, x92, x93, x94, x95, x96, x97, x98, x99, x100, x101, x102, x103, x104, x105, x106, x107, x108, x109, x110, x111, x112, x113, x114, x115, x116, x117, x118, x119, x120, x121, x122, x123, x124, x125, x126, x127, x128, x129, x130, x131, x132, x133, x134, x135, x136, x137, x138, x139, x140, x141, x142, x143, x144, x145, x146, x147, x148, x149, x150, x151, x152, x153, x154, x155, x156, x157, x158, x159, x160, x161, x162, x163, x164, x165, x166, x167, x168, x169, x170, x171, x172, x173, x174, x175, x176, x177, x178, x179, x180, x181, x182, x183, x184, x185, x186, x187, x188, x189, x190, x191, x192, x193, x194, x195, x196, x197, x198, x199, x200, x201, x202, x203, x204, x205, x206, x207, x208, x209, x210, x211, x212, x213, x214, x215, x216, x217, x218, x219, x220, x221, x222, x223, x224, x225, x226, x227, x228, x229, x230, x231, x232, x233, x234, x235, x236, x237, x238, x239, x240, x241, x242, x243, x244, x245, x246, x247, x248, x249, x250, x251, x252, x253, x254, x255, x256, x257, x258, x259, x260, x261, x262, x263, x264, x265, x266, x267, x268, x269, x270, x271, x272, x273, x274, x275, x276, x277, x278, x279, x280, x281, x282, x283, x284, x285, x286, x287, x288, x289, x290, x291, x292], []⟩ w := by
  obtain ⟨i0, hi0, hz0, hz1, hz2⟩ := info_parts info86
  have HNA := Lib.hid (fun (n : Int) (hn : 1 ≤ n) (hn' : n ≤ 1000000) (W : World) (hW : NxIn w1 p k cap (w1.heap.size + 1) w1.heap.size W) => next_any w1 p k cap hk hB (w1.heap.size + 1) w1.heap.size (by omega) n hn hn' W hW)
  have hbm := lt_of_block hk13
  have HLT := Lib.hid (row_lt hpt)
  conv => arg 2; whnf
  refine wp_region_fik [69, 70, 71, 72, 73, 74, 75, 76, 77, 78, 79, 80, 11] (pF14 lo hi v11 (.func (.func 73) #[] #[.pointer (some ⟨w1.heap.size + 1, 0, none⟩), .pointer (some ⟨w1.heap.size, 0, none⟩)])) (W14 w1 p k cap B13 w.heap.size lo hi v11 l) (by kernel_rfl) (by kernel_rfl) ?sz ?ts ?z ?val ?fin
  case sz => intro s hs h; simp at hs ⊢; omega
  case ts => simp
  case z => exact W14.later ⟨hnx, hk13, Nat.le_refl _, (fun _ => hpt), (fun e => by cases e), (fun e => by cases e), (fun e => by cases e), (fun e => by cases e)⟩ (below_drawn w)
  case val =>
    intro jj
    match jj with
    | 0 =>
      intro o L V ho hL hd hcl a' W hX hfr hdp hsk; obtain rfl := Option.some.inj ho
      have u2 : L 12 = false := by cases h : L 12 <;> first | rfl | (have k := hcl 11 0 (hcl 12 11 h (by kernel_rfl)) (by kernel_rfl); rw [hL] at k; cases k)
      exact opx_of (op_move rfl (hsk 12 11 rfl u2)) fun W' hb => ⟨rfl, (hX.later hb).set 0 (by decide) _⟩
    | 1 => intro o L V ho hL hd hcl a' W hX hfr hdp hsk; obtain rfl := Option.some.inj ho; exact opx_of (op_load8 rfl (hfr 13 (by decide)) hX.c) fun W' hb => ⟨rfl, (hX.later hb).set 1 (by decide) _⟩
    | 2 => intro o L V ho hL hd hcl a' W hX hfr hdp hsk; obtain rfl := Option.some.inj ho; exact opx_of (op_move rfl (hfr 10 (by decide))) fun W' hb => ⟨rfl, (hX.later hb).set 2 (by decide) _⟩
    | 3 =>
      intro o L V ho hL hd hcl a' W hX hfr hdp hsk; obtain rfl := Option.some.inj ho
      refine opx_callk rfl (Dp (hdp 2 71 (by decide) rfl (by kernel_rfl)) id) eg73 ((HNA.out 2 (by decide) (by decide) _ hX.nx).mono ?_)
      rintro e W' ⟨r, rfl, r0, r1, hN, hC⟩
      exact ⟨_, rfl, ⟨r, rfl⟩, (hX.next hN hC hb13 hbm).set 3 (by decide) _⟩
    | 4 =>
      intro o L V ho hL hd hcl a' W hX hfr hdp hsk; obtain rfl := Option.some.inj ho
      obtain ⟨e, r, e'⟩ := (hdp 3 72 (by decide) rfl (by kernel_rfl))
      exact opx_eqlc rfl (e.trans e') fun b => ⟨⟨b, rfl⟩, hX.set 4 (by decide) _⟩
    | 5 => intro o L V ho hL hd hcl a' W hX hfr hdp hsk; obtain rfl := Option.some.inj ho; exact opx_of (op_move rfl (hfr 10 (by decide))) fun W' hb => ⟨rfl, (hX.later hb).set 5 (by decide) _⟩
    | 6 =>
      intro o L V ho hL hd hcl a' W hX hfr hdp hsk; obtain rfl := Option.some.inj ho
      refine opx_callk rfl (Dp (hdp 5 74 (by decide) rfl (by kernel_rfl)) id) eg73 ((HNA.out 256 (by decide) (by decide) _ hX.nx).mono ?_)
      rintro e W' ⟨r, rfl, r0, r1, hN, hC⟩
      exact ⟨_, rfl, ⟨r, rfl, r0, r1⟩, (hX.next hN hC hb13 hbm).set 6 (by decide) _⟩
    | 7 =>
      intro o L V ho hL hd hcl a' W hX hfr hdp hsk; obtain rfl := Option.some.inj ho
      obtain ⟨e, r, e', r0, r1⟩ := (hdp 6 75 (by decide) rfl (by kernel_rfl))
      exact opx_of (op_mulc rfl (e.trans e') (by omega)) fun W' hb => ⟨⟨r, rfl, r0, r1⟩, (hX.later hb).set 7 (by decide) _⟩
    | 8 =>
      intro o L V ho hL hd hcl a' W hX hfr hdp hsk; obtain rfl := Option.some.inj ho
      obtain ⟨e, r, e', r0, r1⟩ := (hdp 7 76 (by decide) rfl (by kernel_rfl))
      exact opx_of (op_addcl_w rfl (e.trans e') (by omega)) fun W' hb => ⟨⟨r, rfl, r0, r1⟩, (hX.later hb).set 8 (by decide) _⟩
    | 9 =>
      intro o L V ho hL hd hcl a' W hX hfr hdp hsk; obtain rfl := Option.some.inj ho
      obtain ⟨e1, ch, e1'⟩ := (hdp 4 73 (by decide) rfl (by kernel_rfl))
      obtain ⟨e, r, e', r0, r1⟩ := (hdp 8 77 (by decide) rfl (by kernel_rfl))
      exact opx_of (op_b86 rfl (Dp (hdp 1 70 (by decide) rfl (by kernel_rfl)) id) (e1.trans e1') (e.trans e')) fun W' hb => ⟨⟨ch, r, rfl, r0, r1⟩, (hX.later hb).set 9 (by decide) _⟩
    | 10 =>
      intro o L V ho hL hd hcl a' W hX hfr hdp hsk; obtain rfl := Option.some.inj ho
      obtain ⟨e, ch, r, e', r0, r1⟩ := (hdp 9 78 (by decide) rfl (by kernel_rfl))
      have u1 : L 11 = false := by cases h : L 11 <;> first | rfl | (have k := hcl 11 10 h (by kernel_rfl); rw [hL] at k; cases k)
      have u2 : L 12 = false := by cases h : L 12 <;> first | rfl | (have k := hX.d1 h; rw [u1] at k; cases k)
      have hbl := (Below.refl W.heap.size W).alloc (Nat.le_refl _) (.cells (partV ⟨lo, hi, ch, 1 + 5 * r⟩) 86)
      have hX2 := hX.later hbl
      exact opx_bs84 rfl (e.trans e') ⟨trivial, hX2.nx, hX2.c, hX2.m, by simpa using hX2.r, fun _ _ => ⟨W.heap.size, ch, 1 + 5 * r, by simp, hX.m, block_new W _, by omega, by omega⟩, by simpa using hX2.n, (fun e => by simp [u2] at e), (fun e => by simp [u2] at e)⟩
    | 11 =>
      intro o L V ho hL hd hcl a' W hX hfr hdp hsk; obtain rfl := Option.some.inj ho
      obtain ⟨gb, ch, ln, e19, hgb, hbb, r0, r1⟩ := hX.a (hd 10 (by kernel_rfl)) hL
      have hr4 := hX.r hL
      have u2 : L 12 = false := by cases h : L 12 <;> first | rfl | (have k := hX.d1 h; rw [hL] at k; cases k)
      have hm := hX.m
      obtain ⟨i, _, hii⟩ := hX.nx.i
      have hil := lt_of_block hii
      refine wp_append_w (.tmp 69) (.tmp 79) 84 rfl (w1.heap.size + 1 + 1) 86 i0 _ 10 80 und84 hi0 hz0 hz1 hz2 rfl (by decide) v11 l.length (flatPt l) (Dp (hdp 0 69 (by decide) rfl (by kernel_rfl)) id) hr4 ⟨gb, 0, none⟩ 1 1 (partV ⟨lo, hi, ch, ln⟩).toList ((hdp 10 79 (by decide) rfl (by kernel_rfl)).1.trans e19) rfl (World.news_of_block hbb) (by simp [Value.oneCell']) (by unfold maxLen; omega) (by omega) (by omega) ?_
      intro v' W' hown hgrow hblk
      have hrow : PtRow W' (w1.heap.size + 1 + 1) v' (l ++ [⟨lo, hi, ch, ln⟩]) := by unfold PtRow; rw [flatPt_snoc, List.length_append]; exact hown
      have zb := (Below.refl (w1.heap.size + 1 + 1) W).grown hgrow (by omega) (row_base hr4)
      have c13 := hgrow.block B13 (by omega) (fun e => hne e.symm)
      exact ⟨v', rfl, trivial, hX.nx.keep (hX.nx.low.trans (zb.mono (by omega))) (zb.block _ (by omega)) (zb.block _ (by omega)), c13.trans hX.c, Nat.le_trans hm hgrow.size, (fun e => by simp at e), (fun _ e => by simp at e), fun _ => ⟨ch, ln, r0, r1, by simpa using hrow⟩, (fun e => by simp [u2] at e), (fun e => by simp)⟩
    | 12 =>
      intro o L V ho hL hd hcl a' W hX hfr hdp hsk; obtain rfl := Option.some.inj ho
      have h11 := hd 11 (by kernel_rfl)
      have hv := (hdp 11 80 (by decide) rfl (by kernel_rfl)).1
      refine opx_of (op_assign rfl hv) fun W' hb => ⟨trivial, ?_⟩
      have hX2 := hX.later hb
      exact ⟨hX2.nx, hX2.c, hX2.m, by simpa using hX2.r, by simpa using hX2.a, by simpa using hX2.n, by simp, by simp [h11]⟩
    | j + 13 => intro o L V ho; simp at ho
  case fin =>
    intro W1 L V hL hF hI
    obtain ⟨ch, ln, r0, r1, hrow⟩ := hI.n (hL 11 (by decide))
    have e12 := hI.d (hL 12 (by decide))
    have hnx1 := hI.nx
    clear hI hF hL
    simp only [fill, Act.put, List.setIfInBounds_toArray, List.set_cons_zero, List.set_cons_succ, Nat.reduceAdd]
    rw [e12]
    exact hQ ch ln (V 11) W1 _ _ _ _ _ _ _ _ _ _ _ _ r0 r1 hnx1 hrow
end Go.Proofs.YtcoiklolgilhaaaDoor
