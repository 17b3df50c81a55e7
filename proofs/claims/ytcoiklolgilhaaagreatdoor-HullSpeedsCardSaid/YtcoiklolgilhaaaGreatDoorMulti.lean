/- A lemma of the model: a region that draws its order, whose operations but the last ones yield known values or make new blocks, and whose last ones stand in one order: one walk serves every order. Conditions: the closed check multiB; what each operation yields. -/
import Derived.StillTail
import Derived.Below
import Derived.KernelRfl
namespace Go.Proofs.YtcoiklolgilhaaaGreatDoor
open Go.RowKit

def upd (u : Nat → Option Value) (i : Nat) (x : Value) : Nat → Option Value := fun j => if j = i then some x else u j
def fill : List Nat → Nat → (Nat → Option Value) → Act → Act
  | [], _, _, a => a
  | s :: ss, k, u, a => fill ss (k + 1) u (match u k with | some v => a.put (some s) v | none => a)

theorem put_put (a : Act) {s t : Nat} (x y : Value) (h : s ≠ t) : (a.put (some s) x).put (some t) y = (a.put (some t) y).put (some s) x :=
  Act.put_comm a x y (fun d e => by cases e; intro e'; cases e'; exact h rfl)
theorem fill_put_other : ∀ (ss : List Nat) (k : Nat) (u : Nat → Option Value) (a : Act) (s : Nat) (x : Value), s ∉ ss → (fill ss k u a).put (some s) x = fill ss k u (a.put (some s) x)
  | [], _, _, _, _, _, _ => rfl
  | s' :: ss, k, u, a, s, x, h => by
    have h1 : s ≠ s' := fun e => h (by simp [e])
    have h2 : s ∉ ss := fun e => h (by simp [e])
    unfold fill
    rw [fill_put_other ss (k + 1) u _ s x h2]
    cases u k with
    | none => rfl
    | some v => simp only; rw [put_put a v x (Ne.symm h1)]
theorem fill_congr : ∀ (ss : List Nat) (k : Nat) (u u' : Nat → Option Value) (a : Act), (∀ j, k ≤ j → u j = u' j) → fill ss k u a = fill ss k u' a
  | [], _, _, _, _, _ => rfl
  | s :: ss, k, u, u', a, h => by
    unfold fill
    rw [h k (Nat.le_refl _)]
    exact fill_congr ss (k + 1) u u' _ (fun j hj => h j (by omega))
theorem fill_put_at : ∀ (ss : List Nat) (k i : Nat) (u : Nat → Option Value) (a : Act) (s : Nat) (x : Value), ss[i]? = some s → ss.Nodup → u (k + i) = none →
    (fill ss k u a).put (some s) x = fill ss k (upd u (k + i) x) a
  | [], _, i, _, _, _, _, h, _, _ => by simp at h
  | s' :: ss, k, 0, u, a, s, x, h, hn, hu => by
    simp only [List.getElem?_cons_zero, Option.some.injEq] at h
    subst h
    have hnot : s' ∉ ss := (List.nodup_cons.1 hn).1
    have hu' : u k = none := hu
    unfold fill
    rw [hu']
    simp only [upd, Nat.add_zero, if_true]
    rw [fill_put_other ss (k + 1) u a s' x hnot]
    exact fill_congr ss (k + 1) _ _ _ (fun j hj => by unfold upd; rw [if_neg (by omega)])
  | s' :: ss, k, i + 1, u, a, s, x, h, hn, hu => by
    have h' : ss[i]? = some s := by simpa using h
    unfold fill
    have e : upd u (k + (i + 1)) x k = u k := by simp [upd]
    rw [e, show k + (i + 1) = (k + 1) + i by omega]
    exact fill_put_at ss (k + 1) i u _ s x h' (List.nodup_cons.1 hn).2 (by rw [show k + 1 + i = k + (i + 1) by omega]; exact hu)
theorem put_eval_ne (a : Act) {s t : Nat} (v : Value) (h : s ≠ t) : (a.put (some s) v).eval (.tmp t) = a.eval (.tmp t) := by
  simp [Act.eval, Act.put, Array.getElem?_setIfInBounds_ne h]
theorem put_eval_eq (a : Act) {s : Nat} (v : Value) (h : s < a.tmps.size) : (a.put (some s) v).eval (.tmp s) = v := by
  simp [Act.eval, Act.put, h]
theorem put_size (a : Act) (s : Nat) (v : Value) : (a.put (some s) v).tmps.size = a.tmps.size := by simp [Act.put]
theorem fill_eval_other : ∀ (ss : List Nat) (k : Nat) (u : Nat → Option Value) (a : Act) (t : Nat), t ∉ ss → (fill ss k u a).eval (.tmp t) = a.eval (.tmp t)
  | [], _, _, _, _, _ => rfl
  | s :: ss, k, u, a, t, h => by
    have h1 : s ≠ t := fun e => h (by simp [e])
    have h2 : t ∉ ss := fun e => h (by simp [e])
    unfold fill
    rw [fill_eval_other ss (k + 1) u _ t h2]
    cases u k with
    | none => rfl
    | some v => exact put_eval_ne a v h1
theorem fill_eval_at : ∀ (ss : List Nat) (k i : Nat) (u : Nat → Option Value) (a : Act) (s : Nat) (v : Value), ss[i]? = some s → ss.Nodup → u (k + i) = some v → s < a.tmps.size →
    (fill ss k u a).eval (.tmp s) = v
  | [], _, i, _, _, _, _, h, _, _, _ => by simp at h
  | s' :: ss, k, 0, u, a, s, v, h, hn, hu, hs => by
    simp only [List.getElem?_cons_zero, Option.some.injEq] at h
    subst h
    have hu' : u k = some v := hu
    unfold fill
    rw [hu', fill_eval_other ss (k + 1) u _ s' (List.nodup_cons.1 hn).1]
    exact put_eval_eq a v hs
  | s' :: ss, k, i + 1, u, a, s, v, h, hn, hu, hs => by
    unfold fill
    refine fill_eval_at ss (k + 1) i u _ s v (by simpa using h) (List.nodup_cons.1 hn).2 (by rw [show k + 1 + i = k + (i + 1) by omega]; exact hu) ?_
    cases u k with
    | none => exact hs
    | some v' => simp only; rw [put_size]; exact hs

/-- How many of the first n are not listed yet. -/
def cnt (listed : Array Bool) : Nat → Nat
  | 0 => 0
  | n + 1 => cnt listed n + (if listed.getD n true = true then 0 else 1)
theorem set_getD_self (listed : Array Bool) (i : Nat) : (listed.setIfInBounds i true).getD i true = true := by
  by_cases h : i < listed.size <;> simp [h]
theorem cnt_same {listed : Array Bool} {i : Nat} : ∀ n, n ≤ i → cnt (listed.setIfInBounds i true) n = cnt listed n
  | 0, _ => rfl
  | n + 1, h => by
    unfold cnt
    rw [cnt_same n (by omega), getD_set_ne true (show i ≠ n by omega)]
theorem cnt_set {listed : Array Bool} {i : Nat} (hu : listed.getD i true = false) : ∀ n, i < n → cnt listed n = cnt (listed.setIfInBounds i true) n + 1
  | 0, h => by omega
  | n + 1, h => by
    unfold cnt
    by_cases e : i = n
    · subst e
      rw [cnt_same i (Nat.le_refl _), set_getD_self, hu]
      simp
    · rw [cnt_set hu n (by omega), getD_set_ne true e]
      omega
theorem cnt_zero {listed : Array Bool} : ∀ n, cnt listed n = 0 → ∀ i, i < n → listed.getD i true = true
  | 0, _, i, h => by omega
  | n + 1, h, i, hi => by
    unfold cnt at h
    by_cases e : i = n
    · subst e
      cases hh : listed.getD i true with
      | true => rfl
      | false => rw [hh] at h; simp at h
    · exact cnt_zero n (by omega) i (by omega)
theorem cnt_pos {listed : Array Bool} : ∀ n, cnt listed n ≠ 0 → ∃ i, i < n ∧ listed.getD i true = false
  | 0, h => absurd rfl h
  | n + 1, h => by
    unfold cnt at h
    by_cases e : cnt listed n = 0
    · refine ⟨n, by omega, ?_⟩
      cases hh : listed.getD n true with
      | true => rw [hh] at h; simp [e] at h
      | false => rfl
    · obtain ⟨i, hi, h'⟩ := cnt_pos n e
      exact ⟨i, by omega, h'⟩
theorem least {p : Nat → Prop} [DecidablePred p] : ∀ i, p i → ∃ j, j ≤ i ∧ p j ∧ ∀ k, k < j → ¬ p k := by
  intro i
  induction i using Nat.strongRecOn with
  | _ i ih =>
    intro hi
    by_cases h : ∃ k, k < i ∧ p k
    · obtain ⟨k, hk, hp⟩ := h
      obtain ⟨j, hj, h1, h2⟩ := ih k hk hp
      exact ⟨j, by omega, h1, h2⟩
    · exact ⟨i, Nat.le_refl _, hi, fun k hk hp => h ⟨k, hk, hp⟩⟩

section
variable {P : Program} {ops : Array Oper} {md : Region.Mode} {Q : Exit → Act → World → Prop}

def backB (md : Region.Mode) (ops : Array Oper) (n : Nat) : Bool :=
  (List.range n).all fun i => match ops[i]? with | some o => o.after.all fun e => !Region.binds md e || decide (e.on < i) | none => false
theorem backB_spec {n i : Nat} (h : backB md ops n = true) (hi : i < n) : ∃ o, ops[i]? = some o ∧ ∀ e ∈ o.after, Region.binds md e = true → e.on < i := by
  have h1 := List.all_eq_true.1 h i (List.mem_range.2 hi)
  cases ho : ops[i]? with
  | none => rw [ho] at h1; cases h1
  | some o =>
    rw [ho] at h1
    refine ⟨o, rfl, fun e he hb => ?_⟩
    have h2 := (Array.all_eq_true_iff_forall_mem.1 h1) e he
    simp only [hb, Bool.not_true, Bool.false_or, decide_eq_true_eq] at h2
    exact h2

theorem wpAny_multi {n g : Nat} {J : Array Bool → Act → World → Prop}
    (hs : Region.sinkB md ops n = true) (hc : Region.chainB md ops n = true) (hn : n < ops.size) (hback : backB md ops n = true)
    (hstep : ∀ listed a w i, HeadInv md ops n listed → J listed a w → i < n → i ∈ Region.ready md ops listed → wpOp P ops Q i (fun a' w' => J (listed.setIfInBounds i true) a' w') a w)
    (hend : ∀ listed a w, HeadInv md ops n listed → J listed a w → (∀ i, i < n → listed.getD i true = true) → wpAny P md ops Q g listed a w) :
    ∀ f listed a w, HeadInv md ops n listed → J listed a w → cnt listed n = f → wpAny P md ops Q (f + g) listed a w := by
  intro f
  induction f with
  | zero =>
    intro listed a w inv hJ h0
    rw [Nat.zero_add]
    exact hend _ _ _ inv hJ (cnt_zero n h0)
  | succ f ih =>
    intro listed a w inv hJ hf
    obtain ⟨i0, hi0, hu0⟩ := cnt_pos (listed := listed) n (by omega)
    rw [show f + 1 + g = (f + g) + 1 by omega]
    refine ⟨fun h0 => ?_, fun i hi => ?_⟩
    · exfalso
      obtain ⟨j, hj, hju, hleast⟩ := least (p := fun i => listed.getD i true = false) i0 hu0
      obtain ⟨o, ho, hdeps⟩ := backB_spec hback (show j < n by omega)
      have : j ∈ Region.ready md ops listed := mem_ready.2 ⟨hju, o, ho, fun e he hb => by
        have hlt := hdeps e he hb
        have h1 := hleast e.on hlt
        have hsz : e.on < listed.size := by rw [inv.size]; omega
        simp [hsz] at h1 ⊢
        exact h1⟩
      rw [h0] at this
      cases this
    · have hin : i < n := by
        rcases Nat.lt_or_ge i n with h | h
        · exact h
        · exact absurd hi (tail_waits hs hc hn inv _ i0 rfl hi0 hu0 i h)
      refine wpOp_mono (fun a' w' h' => ?_) (hstep listed a w i inv hJ hin hi)
      refine ih _ _ _ (inv.set hi hin) h' ?_
      have := cnt_set (mem_ready.1 hi).1 n hin
      omega

/-- All of the head is listed, nothing else. -/
def headDone (n m : Nat) : Array Bool := (List.replicate n true ++ List.replicate (m - n) false).toArray
theorem headDone_eq {n : Nat} {listed : Array Bool} (hn : n < ops.size) (inv : HeadInv md ops n listed) (h : ∀ i, i < n → listed.getD i true = true) : listed = headDone n ops.size := by
  apply Array.ext
  · simp [headDone, inv.size]; omega
  · intro i h1 h2
    have hs : listed.size = ops.size := inv.size
    by_cases hi : i < n
    · have := h i hi
      simp [h1] at this
      rw [this]
      simp [headDone, hi]
    · have := inv.tail i (by omega) (by omega)
      simp [h1] at this
      rw [this]
      simp [headDone, List.getElem_append, hi]

def slotsB (ops : Array Oper) (n : Nat) (slots : List Nat) : Bool :=
  decide (slots.length = n) && decide slots.Nodup && (List.range n).all fun i => match ops[i]? with | some o => o.guard.isNone && o.dst == slots[i]? | none => false
def multiB (ops : Array Oper) (n : Nat) (slots : List Nat) : Bool :=
  Region.sinkB .any ops n && Region.chainB .any ops n && decide (n < ops.size) && backB .any ops n && slotsB ops n slots && Region.seqB .any ops (ops.size - n) n (headDone n ops.size)

def ptr (b : Nat) : Value := .pointer (some ⟨b, 0, none⟩)
def uOf (isAl : Nat → Bool) (vals : Nat → Value) (B : Nat → Nat) (listed : Array Bool) : Nat → Option Value :=
  fun i => if listed.getD i false = true then some (if isAl i = true then ptr (B i) else vals i) else none
def uAll (isAl : Nat → Bool) (vals : Nat → Value) (B : Nat → Nat) : Nat → Option Value := fun i => some (if isAl i = true then ptr (B i) else vals i)

theorem wp_region_multi {id : Nat} {a : Act} {w : World} {l : List Oper} (n : Nat) (slots : List Nat) (isAl : Nat → Bool) (vals : Nat → Value) (objs : Nat → Obj)
    (hm : P.follows .mixedOrders = true) (hB : multiB l.toArray n slots = true) (hsz : ∀ s ∈ slots, s < a.tmps.size)
    (hval : ∀ i o, i < n → isAl i = false → l[i]? = some o → ∀ a' W, Below w.heap.size w W → (∀ t, t ∉ slots → a'.eval (.tmp t) = a.eval (.tmp t)) →
      (∀ j s, j < n → isAl j = false → slots[j]? = some s → Region.waitsFor .any l.toArray i j = true → a'.eval (.tmp s) = vals j) →
      o.wp P a' W (fun a'' W' => a'' = a'.put o.dst (vals i) ∧ Below W.heap.size W W') Q)
    (hal : ∀ i o, i < n → isAl i = true → l[i]? = some o → ∀ a' W, o.wp P a' W (fun a'' W' => a'' = a'.put o.dst (ptr W.heap.size) ∧ W' = W.alloc (objs i)) Q)
    (hend : ∀ (W : World) (B : Nat → Nat), Below w.heap.size w W → (∀ i, i < n → isAl i = true → w.heap.size ≤ B i ∧ W.heap[B i]? = some (objs i)) →
      (∀ i j, i < n → j < n → isAl i = true → isAl j = true → i ≠ j → B i ≠ B j) → wpList P l.toArray Q (l.drop n) (fill slots 0 (uAll isAl vals B) a) W) :
    (Code.region id l.toArray true).wp P Q a w := by
  simp only [multiB, Bool.and_eq_true, decide_eq_true_eq] at hB
  obtain ⟨⟨⟨⟨⟨hs, hc⟩, hn⟩, hback⟩, hsl⟩, hseq⟩ := hB
  simp only [slotsB, Bool.and_eq_true, decide_eq_true_eq] at hsl
  obtain ⟨⟨hlen, hnd⟩, hall⟩ := hsl
  have hop : ∀ i, i < n → ∃ o s, l[i]? = some o ∧ o.guard = none ∧ o.dst = some s ∧ slots[i]? = some s := by
    intro i hi
    have h1 := List.all_eq_true.1 hall i (List.mem_range.2 hi)
    cases ho : l.toArray[i]? with
    | none => rw [ho] at h1; cases h1
    | some o =>
      rw [ho] at h1
      simp only [Bool.and_eq_true, beq_iff_eq, Option.isNone_iff_eq_none] at h1
      have hs' : slots[i]? = some slots[i] := List.getElem?_eq_getElem (by omega)
      refine ⟨o, slots[i], by simpa using ho, h1.1, by rw [h1.2, hs'], hs'⟩
  have inv0 : HeadInv .any l.toArray n (Array.replicate l.toArray.size false) :=
    ⟨by simp, fun j oj _ hl => (by rw [getD_replicate_false] at hl; cases hl), fun t _ ht => getD_in (by simpa using ht) (getD_replicate_false _ _)⟩
  let J : Array Bool → Act → World → Prop := fun listed a' W => ∃ B : Nat → Nat, a' = fill slots 0 (uOf isAl vals B listed) a ∧ Below w.heap.size w W ∧
    (∀ i, i < n → isAl i = true → listed.getD i false = true → w.heap.size ≤ B i ∧ W.heap[B i]? = some (objs i)) ∧
    (∀ i j, i < n → j < n → isAl i = true → isAl j = true → listed.getD i false = true → listed.getD j false = true → i ≠ j → B i ≠ B j)
  refine wp_region_any hm ?_
  have hcnt : cnt (Array.replicate l.toArray.size false) n = n := by
    have : ∀ k, k ≤ n → cnt (Array.replicate l.toArray.size false) k = k := by
      intro k
      induction k with
      | zero => intro _; rfl
      | succ k ih =>
        intro hk
        unfold cnt
        rw [ih (by omega), getD_in (listed := Array.replicate l.toArray.size false) (by simp at hn ⊢; omega) (getD_replicate_false _ _)]
        simp
    exact this n (Nat.le_refl _)
  have main := wpAny_multi (P := P) (Q := Q) (md := .any) (ops := l.toArray) (n := n) (g := l.toArray.size - n) (J := J) hs hc hn hback ?step ?fin n _ a { w with drawn := w.drawn + 1 } inv0 ?init hcnt
  · rw [show n + (l.toArray.size - n) = l.toArray.size by omega] at main
    exact main
  case init =>
    refine ⟨fun _ => 0, ?_, ⟨rfl, rfl, rfl, Nat.le_refl _, fun _ _ => rfl⟩, fun i _ _ h => ?_, fun i j _ _ _ _ h => ?_⟩
    · have e : ∀ (ss : List Nat) (k : Nat), fill ss k (uOf isAl vals (fun _ => 0) (Array.replicate l.toArray.size false)) a = a := by
        intro ss
        induction ss with
        | nil => intro k; rfl
        | cons s ss ih =>
          intro k
          unfold fill
          have : uOf isAl vals (fun _ => 0) (Array.replicate l.toArray.size false) k = none := by unfold uOf; rw [getD_replicate_false]; rfl
          rw [this]
          exact ih (k + 1)
      exact (e slots 0).symm
    · rw [getD_replicate_false] at h; cases h
    · rw [getD_replicate_false] at h; cases h
  case fin =>
    rintro listed a' W inv ⟨B, rfl, hb, h1, h2⟩ hd
    have hd' : ∀ i, i < n → listed.getD i false = true := fun i hi => by
      have := hd i hi
      have hsz' : i < listed.size := by rw [inv.size]; omega
      simp [hsz'] at this ⊢
      exact this
    have eL := headDone_eq hn inv hd
    have hfill : fill slots 0 (uOf isAl vals B listed) a = fill slots 0 (uAll isAl vals B) a := by
      have : ∀ (ss : List Nat) (k : Nat) (b : Act), k + ss.length ≤ n → fill ss k (uOf isAl vals B listed) b = fill ss k (uAll isAl vals B) b := by
        intro ss
        induction ss with
        | nil => intro k b _; rfl
        | cons s ss ih =>
          intro k b hk
          simp only [List.length_cons] at hk
          unfold fill
          have e : uOf isAl vals B listed k = uAll isAl vals B k := by unfold uOf uAll; rw [hd' k (by omega)]; rfl
          rw [e]
          exact ih (k + 1) _ (by omega)
      exact this slots 0 a (by omega)
    rw [hfill]
    have hdl : (l.drop n).length = l.toArray.size - n := by simp
    have := wpAny_of_seq (P := P) (md := .any) (ops := l.toArray) (Q' := Q) (l.drop n) n listed (fill slots 0 (uAll isAl vals B) a) W (fun j => by simp [List.getElem?_drop])
      (by rw [hdl, eL]; exact hseq) (hend W B hb (fun i hi hA => h1 i hi hA (hd' i hi)) (fun i j hi hj hA hA' hne => h2 i j hi hj hA hA' (hd' i hi) (hd' j hj) hne))
    rwa [hdl] at this
  case step =>
    rintro listed a' W i inv ⟨B, rfl, hb, h1, h2⟩ hi hr
    obtain ⟨o, s, ho, hg, hdst, hss⟩ := hop i hi
    have ho' : l.toArray[i]? = some o := by simpa using ho
    obtain ⟨hun, o2, ho2, hdeps⟩ := mem_ready.1 hr
    obtain rfl : o = o2 := Option.some.inj (ho'.symm.trans ho2)
    have hun' : listed.getD i false = false := getD_both hun
    have hset : ∀ j, (listed.setIfInBounds i true).getD j false = true → j ≠ i → listed.getD j false = true := fun j hj hne => by rwa [getD_set_ne false (Ne.symm hne)] at hj
    have hself : (listed.setIfInBounds i true).getD i false = true := by
      have hsz' : i < listed.size := by rw [inv.size]; omega
      simp [hsz']
    have hput : ∀ (B' : Nat → Nat) (x : Value), (∀ j, j ≠ i → B' j = B j) → x = (if isAl i = true then ptr (B' i) else vals i) →
        (fill slots 0 (uOf isAl vals B listed) a).put o.dst x = fill slots 0 (uOf isAl vals B' (listed.setIfInBounds i true)) a := by
      intro B' x hB' hx
      rw [hdst]
      rw [fill_put_at slots 0 i _ a s x hss hnd (by simp only [Nat.zero_add]; unfold uOf; rw [hun']; rfl)]
      refine fill_congr slots 0 _ _ a (fun j _ => ?_)
      simp only [upd, Nat.zero_add]
      by_cases e : j = i
      · subst e
        simp only [if_true, uOf, hself, hx]
      · rw [if_neg e]
        unfold uOf
        rw [getD_set_ne false (Ne.symm e), hB' j e]
    unfold wpOp
    simp only [ho']
    have hw : Region.wanted o (yielded l.toArray (fill slots 0 (uOf isAl vals B listed) a).tmps) = true := by unfold Region.wanted; rw [hg]
    rw [if_pos hw]
    refine .inl ?_
    cases hA : isAl i with
    | true =>
      refine Oper.wp_mono ?_ (hal i o hi hA ho _ W)
      rintro a'' W' ⟨rfl, rfl⟩
      refine ⟨fun j => if j = i then W.heap.size else B j, hput _ _ (fun j hj => by simp [hj]) (by simp [hA]), hb.alloc hb.size _, fun j hj hjA hjl => ?_, fun j k hj hk hjA hkA hjl hkl hne => ?_⟩
      · by_cases e : j = i
        · subst e
          simp only [if_true]
          refine ⟨hb.size, ?_⟩
          show (W.heap.push _)[W.heap.size]? = _
          simp
        · simp only [if_neg e]
          obtain ⟨g1, g2⟩ := h1 j hj hjA (hset j hjl e)
          exact ⟨g1, by rw [Below.heap_alloc W _ _ (Array.getElem?_eq_some_iff.1 g2).1]; exact g2⟩
      · by_cases e : j = i
        · subst e
          simp only [if_true, if_neg (Ne.symm hne)]
          have := (Array.getElem?_eq_some_iff.1 (h1 k hk hkA (hset k hkl (Ne.symm hne))).2).1
          omega
        · by_cases e' : k = i
          · subst e'
            simp only [if_true, if_neg hne]
            have := (Array.getElem?_eq_some_iff.1 (h1 j hj hjA (hset j hjl hne)).2).1
            omega
          · simp only [if_neg e, if_neg e']
            exact h2 j k hj hk hjA hkA (hset j hjl e) (hset k hkl e') hne
    | false =>
      refine Oper.wp_mono ?_ (hval i o hi hA ho _ W hb (fun t ht => fill_eval_other slots 0 _ a t ht) (fun j s' hj hjA hs' hwt => ?_))
      · rintro a'' W' ⟨rfl, hb'⟩
        refine ⟨B, hput _ _ (fun _ _ => rfl) (by simp [hA]), hb.trans (hb'.mono hb.size), fun j hj hjA hjl => ?_, fun j k hj hk hjA hkA hjl hkl hne => ?_⟩
        · have e : j ≠ i := fun e => by subst e; rw [hA] at hjA; cases hjA
          obtain ⟨g1, g2⟩ := h1 j hj hjA (hset j hjl e)
          exact ⟨g1, by rw [hb'.block _ (Array.getElem?_eq_some_iff.1 g2).1]; exact g2⟩
        · have e : j ≠ i := fun e => by subst e; rw [hA] at hjA; cases hjA
          have e' : k ≠ i := fun e => by subst e; rw [hA] at hkA; cases hkA
          exact h2 j k hj hk hjA hkA (hset j hjl e) (hset k hkl e') hne
      · obtain ⟨o3, ho3, e, he, hbd, hon⟩ := Region.waitsFor_spec hwt
        obtain rfl : o = o3 := Option.some.inj (ho'.symm.trans ho3)
        have hl := hdeps e he hbd
        rw [hon] at hl
        have hs3 : s' < a.tmps.size := hsz s' (List.mem_of_getElem? hs')
        refine fill_eval_at slots 0 j _ a s' (vals j) hs' hnd ?_ hs3
        simp only [Nat.zero_add]
        unfold uOf
        rw [hl, hjA]
        rfl
end
end Go.Proofs.YtcoiklolgilhaaaGreatDoor
