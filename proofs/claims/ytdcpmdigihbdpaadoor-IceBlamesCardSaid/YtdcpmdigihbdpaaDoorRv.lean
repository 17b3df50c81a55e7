/- A lemma of the model: a region that draws its order, stores among its operations. No condition. -/
import Derived.Test.YtdcpmdigihbdpaaDoorRm
namespace Go.Proofs.YtdcpmdigihbdpaaDoor
open Go.RowKit
set_option maxRecDepth 100000
section
variable {P : Program} {Q : Exit → Act → World → Prop}
/-- .. an operation that yields nothing bears a number from 1000 on. -/
def slotsB2 (ops : Array Oper) (n : Nat) (slots : List Nat) : Bool :=
  decide (slots.length = n) && decide slots.Nodup && (List.range n).all fun i => match ops[i]? with | some o => o.guard.isNone && (o.dst == slots[i]? || (o.dst == none && decide (1000 ≤ (slots[i]?).getD 0))) | none => false
def multiB2 (ops : Array Oper) (n : Nat) (slots : List Nat) : Bool :=
  Region.sinkB .any ops n && Region.chainB .any ops n && decide (n < ops.size) && backB .any ops n && slotsB2 ops n slots && Region.seqB .any ops (ops.size - n) n (headDone n ops.size)
theorem fill_size : ∀ (ss : List Nat) (k : Nat) (u : Nat → Option Value) (a : Act), (fill ss k u a).tmps.size = a.tmps.size
  | [], _, _, _ => rfl
  | s :: ss, k, u, a => by
    unfold fill
    rw [fill_size ss]
    cases u k with
    | none => rfl
    | some v => exact put_size a s v
theorem wp_region_stores {id : Nat} {a : Act} {w : World} {l : List Oper} (n : Nat) (slots : List Nat) (vals : Nat → Value) (Rw : (Nat → Bool) → World → Prop)
    (hm : P.follows .mixedOrders = true) (hB : multiB2 l.toArray n slots = true) (hsz : ∀ s ∈ slots, s < 1000 → s < a.tmps.size) (hts : a.tmps.size ≤ 1000)
    (h0 : Rw (fun _ => false) { w with drawn := w.drawn + 1 })
    (hval : ∀ i o L, i < n → l[i]? = some o → L i = false → ∀ a' W, Rw L W → (∀ t, t ∉ slots → a'.eval (.tmp t) = a.eval (.tmp t)) →
      (∀ j s, j < n → s < 1000 → slots[j]? = some s → Region.waitsFor .any l.toArray i j = true → a'.eval (.tmp s) = vals j) →
      o.wp P a' W (fun a'' W' => a'' = a'.put o.dst (vals i) ∧ Rw (fun j => if j = i then true else L j) W') Q)
    (hend : ∀ (W : World) L, (∀ i, i < n → L i = true) → Rw L W → wpList P l.toArray Q (l.drop n) (fill slots 0 (fun i => some (vals i)) a) W) :
    (Code.region id l.toArray true).wp P Q a w := by
  simp only [multiB2, Bool.and_eq_true, decide_eq_true_eq] at hB
  obtain ⟨⟨⟨⟨⟨hs, hc⟩, hn⟩, hback⟩, hsl⟩, hseq⟩ := hB
  simp only [slotsB2, Bool.and_eq_true, decide_eq_true_eq] at hsl
  obtain ⟨⟨hlen, hnd⟩, hall⟩ := hsl
  have hop : ∀ i, i < n → ∃ o s, l[i]? = some o ∧ o.guard = none ∧ (o.dst = some s ∨ (o.dst = none ∧ 1000 ≤ s)) ∧ slots[i]? = some s := by
    intro i hi
    have h1 := List.all_eq_true.1 hall i (List.mem_range.2 hi)
    cases ho : l.toArray[i]? with
    | none => rw [ho] at h1; cases h1
    | some o =>
      rw [ho] at h1
      simp only [Bool.and_eq_true, beq_iff_eq, Option.isNone_iff_eq_none, Bool.or_eq_true, decide_eq_true_eq] at h1
      have hs' : slots[i]? = some slots[i] := List.getElem?_eq_getElem (by omega)
      refine ⟨o, slots[i], by simpa using ho, h1.1, ?_, hs'⟩
      rcases h1.2 with h2 | ⟨h2, h3⟩
      · exact .inl (by rw [h2, hs'])
      · refine .inr ⟨h2, ?_⟩
        rw [hs'] at h3
        simpa using h3
  have inv0 : HeadInv .any l.toArray n (Array.replicate l.toArray.size false) :=
    ⟨by simp, fun j oj _ hl => (by rw [getD_replicate_false] at hl; cases hl), fun t _ ht => getD_in (by simpa using ht) (getD_replicate_false _ _)⟩
  let J : Array Bool → Act → World → Prop := fun listed a' W => a' = fill slots 0 (uSt vals listed) a ∧ Rw (fun i => listed.getD i false) W
  refine wp_region_any hm ?_
  have hcnt : cnt (Array.replicate l.toArray.size false) n = n := by
    have : ∀ k, k ≤ n → cnt (Array.replicate l.toArray.size false) k = k := by
      intro k
      induction k with
      | zero => intro _; rfl
      | succ k ih =>
        intro hk
        unfold cnt
        rw [ih (by omega), getD_in (listed := Array.replicate l.toArray.size false) (by simp at hn ⊢; omega) (getD_replicate_false _ _)]
        simp
    exact this n (Nat.le_refl _)
  have main := wpAny_multi (P := P) (Q := Q) (md := .any) (ops := l.toArray) (n := n) (g := l.toArray.size - n) (J := J) hs hc hn hback ?step ?fin n _ a { w with drawn := w.drawn + 1 } inv0 ?init hcnt
  · rw [show n + (l.toArray.size - n) = l.toArray.size by omega] at main
    exact main
  case init =>
    refine ⟨?_, ?_⟩
    · have e : ∀ (ss : List Nat) (k : Nat), fill ss k (uSt vals (Array.replicate l.toArray.size false)) a = a := by
        intro ss
        induction ss with
        | nil => intro k; rfl
        | cons s ss ih =>
          intro k
          unfold fill
          have : uSt vals (Array.replicate l.toArray.size false) k = none := by unfold uSt; rw [getD_replicate_false]; rfl
          rw [this]
          exact ih (k + 1)
      exact (e slots 0).symm
    · have e : (fun i => (Array.replicate l.toArray.size false).getD i false) = fun _ => false := by funext i; exact getD_replicate_false _ _
      rw [e]; exact h0
  case fin =>
    rintro listed a' W inv ⟨rfl, hR⟩ hd
    have hd' : ∀ i, i < n → listed.getD i false = true := fun i hi => by
      have := hd i hi
      have hsz' : i < listed.size := by rw [inv.size]; omega
      simp [hsz'] at this ⊢
      exact this
    have eL := headDone_eq hn inv hd
    have hfill : fill slots 0 (uSt vals listed) a = fill slots 0 (fun i => some (vals i)) a := by
      have : ∀ (ss : List Nat) (k : Nat) (b : Act), k + ss.length ≤ n → fill ss k (uSt vals listed) b = fill ss k (fun i => some (vals i)) b := by
        intro ss
        induction ss with
        | nil => intro k b _; rfl
        | cons s ss ih =>
          intro k b hk
          simp only [List.length_cons] at hk
          unfold fill
          have e : uSt vals listed k = some (vals k) := by unfold uSt; rw [hd' k (by omega)]; rfl
          rw [e]
          exact ih (k + 1) _ (by omega)
      exact this slots 0 a (by omega)
    rw [hfill]
    have hdl : (l.drop n).length = l.toArray.size - n := by simp
    have := wpAny_of_seq (P := P) (md := .any) (ops := l.toArray) (Q' := Q) (l.drop n) n listed (fill slots 0 (fun i => some (vals i)) a) W (fun j => by simp [List.getElem?_drop])
      (by rw [hdl, eL]; exact hseq) (hend W _ hd' hR)
    rwa [hdl] at this
  case step =>
    rintro listed a' W i inv ⟨rfl, hR⟩ hi hr
    obtain ⟨o, s, ho, hg, hdst, hss⟩ := hop i hi
    have ho' : l.toArray[i]? = some o := by simpa using ho
    obtain ⟨hun, o2, ho2, hdeps⟩ := mem_ready.1 hr
    obtain rfl : o = o2 := Option.some.inj (ho'.symm.trans ho2)
    have hun' : listed.getD i false = false := getD_both hun
    have hself : (listed.setIfInBounds i true).getD i false = true := by
      have hsz' : i < listed.size := by rw [inv.size]; omega
      simp [hsz']
    have hput : (fill slots 0 (uSt vals listed) a).put o.dst (vals i) = fill slots 0 (uSt vals (listed.setIfInBounds i true)) a := by
      have hput0 : (fill slots 0 (uSt vals listed) a).put o.dst (vals i) = (fill slots 0 (uSt vals listed) a).put (some s) (vals i) := by
        rcases hdst with h | ⟨h, hs⟩
        · rw [h]
        · rw [h]
          have hz := fill_size slots 0 (uSt vals listed) a
          have hq : (fill slots 0 (uSt vals listed) a).tmps.size ≤ s := by rw [hz]; exact Nat.le_trans hts hs
          simp only [Act.put]
          rw [Array.setIfInBounds_eq_of_size_le hq]
      rw [hput0]
      rw [fill_put_at slots 0 i _ a s (vals i) hss hnd (by simp only [Nat.zero_add]; unfold uSt; rw [hun']; rfl)]
      refine fill_congr slots 0 _ _ a (fun j _ => ?_)
      simp only [upd, Nat.zero_add]
      by_cases e : j = i
      · subst e
        simp only [if_true, uSt, hself]
      · rw [if_neg e]
        unfold uSt
        rw [getD_set_ne false (Ne.symm e)]
    unfold wpOp
    simp only [ho']
    have hw : Region.wanted o (yielded l.toArray (fill slots 0 (uSt vals listed) a).tmps) = true := by unfold Region.wanted; rw [hg]
    rw [if_pos hw]
    refine .inl ?_
    refine Oper.wp_mono ?_ (hval i o (fun i => listed.getD i false) hi ho hun' _ W hR (fun t ht => fill_eval_other slots 0 _ a t ht) (fun j s' hj hs1 hs' hwt => ?_))
    · rintro a'' W' ⟨rfl, hR'⟩
      refine ⟨hput, ?_⟩
      have e : (fun j => (listed.setIfInBounds i true).getD j false) = fun j => if j = i then true else listed.getD j false := by
        funext j
        by_cases e : j = i
        · subst e; simp only [if_true]; exact hself
        · rw [if_neg e, getD_set_ne false (Ne.symm e)]
      rw [e]; exact hR'
    · obtain ⟨o3, ho3, e, he, hbd, hon⟩ := Region.waitsFor_spec hwt
      obtain rfl : o = o3 := Option.some.inj (ho'.symm.trans ho3)
      have hl := hdeps e he hbd
      rw [hon] at hl
      have hs3 : s' < a.tmps.size := hsz s' (List.mem_of_getElem? hs') hs1
      refine fill_eval_at slots 0 j _ a s' (vals j) hs' hnd ?_ hs3
      simp only [Nat.zero_add]
      unfold uSt
      rw [hl]
      rfl
end
end Go.Proofs.YtdcpmdigihbdpaaDoor
