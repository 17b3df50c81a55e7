/- A lemma of the model: a region that draws its order, by what is known of the memory and of all values. Conditions: the closed check allSB. -/
import Derived.Test.YtcoiklolgilhaaaGreatDoorMulti
import Derived.StillTail
import Derived.Below
import Derived.KernelRfl
import Derived.OrdersIn
namespace Go.Proofs.YtcoiklolgilhaaaGreatDoor
open Go.RowKit
set_option maxRecDepth 100000
section
variable {P : Program} {Q : Exit → Act → World → Prop}
def uSt (vals : Nat → Value) (listed : Array Bool) : Nat → Option Value := fun i => if listed.getD i false = true then some (vals i) else none
/-- .. an operation that yields nothing bears a number from 1000 on. -/
def slotsB2 (ops : Array Oper) (n : Nat) (slots : List Nat) : Bool :=
  decide (slots.length = n) && decide slots.Nodup && (List.range n).all fun i => match ops[i]? with | some o => o.guard.isNone && (o.dst == slots[i]? || (o.dst == none && decide (1000 ≤ (slots[i]?).getD 0))) | none => false
def multiB2 (ops : Array Oper) (n : Nat) (slots : List Nat) : Bool :=
  Region.sinkB .any ops n && Region.chainB .any ops n && decide (n < ops.size) && backB .any ops n && slotsB2 ops n slots && Region.seqB .any ops (ops.size - n) n (headDone n ops.size)
theorem fill_size : ∀ (ss : List Nat) (k : Nat) (u : Nat → Option Value) (a : Act), (fill ss k u a).tmps.size = a.tmps.size
  | [], _, _, _ => rfl
  | s :: ss, k, u, a => by
    unfold fill
    rw [fill_size ss]
    cases u k with
    | none => rfl
    | some v => exact put_size a s v
def allSB (ops : Array Oper) (slots : List Nat) : Bool := backB .any ops ops.size && slotsB2 ops ops.size slots
theorem wp_region_all {id : Nat} {a : Act} {w : World} {l : List Oper} (slots : List Nat) (Rw : (Nat → Bool) → (Nat → Value) → World → Prop)
    (hm : P.follows .mixedOrders = true) (hB : allSB l.toArray slots = true) (hsz : ∀ s ∈ slots, s < 1000 → s < a.tmps.size) (hts : a.tmps.size ≤ 1000)
    (h0 : Rw (fun _ => false) (fun _ => undef) { w with drawn := w.drawn + 1 })
    (hval : ∀ i o L V, l[i]? = some o → L i = false → (∀ j, Region.waitsFor .any l.toArray i j = true → L j = true) → ∀ a' W, Rw L V W → (∀ t, t ∉ slots → a'.eval (.tmp t) = a.eval (.tmp t)) →
      (∀ j s, s < 1000 → slots[j]? = some s → Region.waitsFor .any l.toArray i j = true → a'.eval (.tmp s) = V j) →
      o.wp P a' W (fun a'' W' => ∃ x, a'' = a'.put o.dst x ∧ Rw (fun j => if j = i then true else L j) (fun j => if j = i then x else V j) W') Q)
    (hend : ∀ (W : World) L V, (∀ i, i < l.length → L i = true) → Rw L V W → Q .normal (fill slots 0 (fun i => some (V i)) a) W) :
    (Code.region id l.toArray true).wp P Q a w := by
  simp only [allSB, Bool.and_eq_true] at hB
  obtain ⟨hback, hsl⟩ := hB
  simp only [slotsB2, Bool.and_eq_true, decide_eq_true_eq] at hsl
  obtain ⟨⟨hlen, hnd⟩, hall⟩ := hsl
  have hszl : l.toArray.size = l.length := by simp
  have hop : ∀ i, i < l.length → ∃ o s, l[i]? = some o ∧ o.guard = none ∧ (o.dst = some s ∨ (o.dst = none ∧ 1000 ≤ s)) ∧ slots[i]? = some s := by
    intro i hi
    have h1 := List.all_eq_true.1 hall i (List.mem_range.2 (by simpa using hi))
    cases ho : l.toArray[i]? with
    | none => rw [ho] at h1; cases h1
    | some o =>
      rw [ho] at h1
      simp only [Bool.and_eq_true, beq_iff_eq, Option.isNone_iff_eq_none, Bool.or_eq_true, decide_eq_true_eq] at h1
      have hs' : slots[i]? = some (slots[i]'(by rw [hlen, hszl]; exact hi)) := List.getElem?_eq_getElem _
      refine ⟨o, _, by simpa using ho, h1.1, ?_, hs'⟩
      rcases h1.2 with h2 | ⟨h2, h3⟩
      · exact .inl (by rw [h2, hs'])
      · refine .inr ⟨h2, ?_⟩
        rw [hs'] at h3
        simpa using h3
  refine wp_region_any hm ?_
  have main : ∀ f (listed : Array Bool) a' W, listed.size = l.toArray.size → cnt listed l.toArray.size = f → (∃ V, a' = fill slots 0 (uSt V listed) a ∧ Rw (fun i => listed.getD i false) V W) → wpAny P .any l.toArray Q f listed a' W := by
    intro f
    induction f with
    | zero =>
      rintro listed a' W hls hc ⟨V, rfl, hR⟩
      have hd := cnt_zero _ hc
      have hd' : ∀ i, i < l.length → listed.getD i false = true := fun i hi => by
        have := hd i (by rw [hszl]; exact hi)
        have hsz' : i < listed.size := by rw [hls, hszl]; exact hi
        simp [hsz'] at this ⊢
        exact this
      have hrdy : Region.ready .any l.toArray listed = [] := List.eq_nil_iff_forall_not_mem.2 fun i hi => by
        obtain ⟨hu, o, ho, _⟩ := mem_ready.1 hi
        have hi' : i < l.toArray.size := (Array.getElem?_eq_some_iff.1 ho).1
        have := hd i hi'
        rw [this] at hu; cases hu
      have hfill : fill slots 0 (uSt V listed) a = fill slots 0 (fun i => some (V i)) a := by
        have : ∀ (ss : List Nat) (k : Nat) (b : Act), k + ss.length ≤ l.length → fill ss k (uSt V listed) b = fill ss k (fun i => some (V i)) b := by
          intro ss
          induction ss with
          | nil => intro k b _; rfl
          | cons s ss ih =>
            intro k b hk
            simp only [List.length_cons] at hk
            unfold fill
            have e : uSt V listed k = some (V k) := by unfold uSt; rw [hd' k (by omega)]; rfl
            rw [e]
            exact ih (k + 1) _ (by omega)
        exact this slots 0 a (by rw [hlen, hszl]; omega)
      refine ⟨hrdy, ?_⟩
      rw [hfill]
      exact hend W _ V hd' hR
    | succ f ih =>
      rintro listed a' W hls hc ⟨V, rfl, hR⟩
      obtain ⟨i0, hi0, hu0⟩ := cnt_pos (listed := listed) l.toArray.size (by omega)
      refine ⟨fun h0 => ?_, fun i hi => ?_⟩
      · exfalso
        obtain ⟨j, hj, hju, hleast⟩ := least (p := fun i => listed.getD i true = false) i0 hu0
        obtain ⟨o, ho, hdeps⟩ := backB_spec hback (show j < l.toArray.size by omega)
        have : j ∈ Region.ready .any l.toArray listed := mem_ready.2 ⟨hju, o, ho, fun e he hb => by
          have hlt := hdeps e he hb
          have h1 := hleast e.on hlt
          have hsz' : e.on < listed.size := by omega
          simp [hsz'] at h1 ⊢
          exact h1⟩
        rw [h0] at this
        cases this
      · obtain ⟨hun, o, ho', hdeps⟩ := mem_ready.1 hi
        have hi' : i < l.length := by have := (Array.getElem?_eq_some_iff.1 ho').1; rwa [hszl] at this
        obtain ⟨o2, s, ho, hg, hdst, hss⟩ := hop i hi'
        obtain rfl : o = o2 := by simpa [ho] using ho'.symm
        have hun' : listed.getD i false = false := getD_both hun
        have hself : (listed.setIfInBounds i true).getD i false = true := by
          have hsz' : i < listed.size := by rw [hls, hszl]; exact hi'
          simp [hsz']
        have hput : ∀ x, (fill slots 0 (uSt V listed) a).put o.dst x = fill slots 0 (uSt (fun j => if j = i then x else V j) (listed.setIfInBounds i true)) a := by
          intro x
          have hput0 : (fill slots 0 (uSt V listed) a).put o.dst x = (fill slots 0 (uSt V listed) a).put (some s) x := by
            rcases hdst with h | ⟨h, hs⟩
            · rw [h]
            · rw [h]
              have hz := fill_size slots 0 (uSt V listed) a
              have hq : (fill slots 0 (uSt V listed) a).tmps.size ≤ s := by rw [hz]; exact Nat.le_trans hts hs
              simp only [Act.put]
              rw [Array.setIfInBounds_eq_of_size_le hq]
          rw [hput0]
          rw [fill_put_at slots 0 i _ a s x hss hnd (by simp only [Nat.zero_add]; unfold uSt; rw [hun']; rfl)]
          refine fill_congr slots 0 _ _ a (fun j _ => ?_)
          simp only [upd, Nat.zero_add]
          by_cases e : j = i
          · subst e
            simp only [if_true, uSt, hself]
          · rw [if_neg e]
            unfold uSt
            rw [getD_set_ne false (Ne.symm e)]
            simp only [if_neg e]
        unfold wpOp
        simp only [ho']
        have hw : Region.wanted o (yielded l.toArray (fill slots 0 (uSt V listed) a).tmps) = true := by unfold Region.wanted; rw [hg]
        rw [if_pos hw]
        refine .inl ?_
        refine Oper.wp_mono ?_ (hval i o (fun i => listed.getD i false) V ho hun' (fun j hwt => ?_) _ W hR (fun t ht => fill_eval_other slots 0 _ a t ht) (fun j s' hs1 hs' hwt => ?_))
        · rintro a'' W' ⟨x, rfl, hR'⟩
          refine ih _ _ _ (by simp [hls]) ?_ ⟨_, hput x, ?_⟩
          · have := cnt_set hun l.toArray.size (by rw [hszl]; exact hi')
            omega
          · have e : (fun j => (listed.setIfInBounds i true).getD j false) = fun j => if j = i then true else listed.getD j false := by
              funext j
              by_cases e : j = i
              · subst e; simp only [if_true]; exact hself
              · rw [if_neg e, getD_set_ne false (Ne.symm e)]
            rw [e]; exact hR'
        · obtain ⟨o3, ho3, e, he, hbd, hon⟩ := Region.waitsFor_spec hwt
          obtain rfl : o = o3 := Option.some.inj (ho'.symm.trans ho3)
          have hl := hdeps e he hbd
          rw [hon] at hl
          exact hl
        · obtain ⟨o3, ho3, e, he, hbd, hon⟩ := Region.waitsFor_spec hwt
          obtain rfl : o = o3 := Option.some.inj (ho'.symm.trans ho3)
          have hl := hdeps e he hbd
          rw [hon] at hl
          have hs3 : s' < a.tmps.size := hsz s' (List.mem_of_getElem? hs') hs1
          refine fill_eval_at slots 0 j _ a s' (V j) hs' hnd ?_ hs3
          simp only [Nat.zero_add]
          unfold uSt
          rw [hl]
          rfl
  refine main _ _ _ _ (by simp) ?_ ⟨fun _ => undef, ?_, ?_⟩
  · have : ∀ k, k ≤ l.toArray.size → cnt (Array.replicate l.toArray.size false) k = k := by
      intro k
      induction k with
      | zero => intro _; rfl
      | succ k ih =>
        intro hk
        unfold cnt
        rw [ih (by omega), getD_in (listed := Array.replicate l.toArray.size false) (by simp at hk ⊢; omega) (getD_replicate_false _ _)]
        simp
    exact this _ (Nat.le_refl _)
  · have e : ∀ (ss : List Nat) (k : Nat), fill ss k (uSt (fun _ => undef) (Array.replicate l.toArray.size false)) a = a := by
      intro ss
      induction ss with
      | nil => intro k; rfl
      | cons s ss ih =>
        intro k
        unfold fill
        have : uSt (fun _ => undef) (Array.replicate l.toArray.size false) k = none := by unfold uSt; rw [getD_replicate_false]; rfl
        rw [this]
        exact ih (k + 1)
    exact (e slots 0).symm
  · have e : (fun i => (Array.replicate l.toArray.size false).getD i false) = fun _ => false := by funext i; exact getD_replicate_false _ _
    rw [e]; exact h0
end
end Go.Proofs.YtcoiklolgilhaaaGreatDoor
