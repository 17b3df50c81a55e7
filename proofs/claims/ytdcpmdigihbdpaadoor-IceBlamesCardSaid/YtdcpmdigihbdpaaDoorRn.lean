/- The maps of work.check: which Ids there are, how many reports of each cell. Conditions: numbers of 64 bits. -/
import Derived.Test.YtdcpmdigihbdpaaDoorRm
namespace Go.Proofs.YtdcpmdigihbdpaaDoor
open Go.RowKit Go.WideElems Go.ChangeMaps Go.WideShapes
set_option maxRecDepth 100000
def Ids (W : World) (b k : Nat) (f : Int → Bool) : Prop := ∃ D : D0, W.ownsMap Tryd.prog 3 (plainElem Tryd.prog 4) b k D ∧ ∀ x, i64 x → D.atKey (.int .i64 x) (.lit (.bool false)) = .lit (.bool (f x))
def Came (W : World) (b k : Nat) (f : Int → Int → Int) : Prop := ∃ D : D0, W.ownsMap Tryd.prog 77 (plainElem Tryd.prog 3) b k D ∧ ∀ x y, i64 x → i64 y → D.atKey (pairK x y) (.lit (.int .i64 0)) = .lit (.int .i64 (f x y))
theorem isMap_of {W : World} {k : TypeId} {R : Value → Option (D0 × List MemPlace)} {b n : Nat} {D : D0} (h : W.ownsMap Tryd.prog k R b n D) : Maps.IsMap D := by
  obtain ⟨es, clock, _, _, _, rfl⟩ := h
  exact ⟨_, rfl⟩
theorem Ids.kept {w W : World} {row : Option Nat} {b k : Nat} {f : Int → Bool} (h : Ids w b k f) (hg : w.grownBy W row) (hne : some b ≠ row) : Ids W b k f := by
  obtain ⟨D, h1, h2⟩ := h; exact ⟨D, h1.kept hg hne, h2⟩
theorem Came.kept {w W : World} {row : Option Nat} {b k : Nat} {f : Int → Int → Int} (h : Came w b k f) (hg : w.grownBy W row) (hne : some b ≠ row) : Came W b k f := by
  obtain ⟨D, h1, h2⟩ := h; exact ⟨D, h1.kept hg hne, h2⟩
theorem ownsMap_heap {w W : World} {k : TypeId} {R : Value → Option (D0 × List MemPlace)} {b n : Nat} {D : D0} (h : w.ownsMap Tryd.prog k R b n D) (e : W.heap[b]? = w.heap[b]?) : W.ownsMap Tryd.prog k R b n D := by
  obtain ⟨es, clock, hb, r⟩ := h; exact ⟨es, clock, e.trans hb, r⟩
theorem Ids.heap {w W : World} {b k : Nat} {f : Int → Bool} (h : Ids w b k f) (e : W.heap[b]? = w.heap[b]?) : Ids W b k f := by
  obtain ⟨D, h1, h2⟩ := h; exact ⟨D, ownsMap_heap h1 e, h2⟩
theorem Came.heap {w W : World} {b k : Nat} {f : Int → Int → Int} (h : Came w b k f) (e : W.heap[b]? = w.heap[b]?) : Came W b k f := by
  obtain ⟨D, h1, h2⟩ := h; exact ⟨D, ownsMap_heap h1 e, h2⟩
theorem Ids.lt {w : World} {b k : Nat} {f : Int → Bool} (h : Ids w b k f) : b < w.heap.size := by obtain ⟨D, h1, h2⟩ := h; exact h1.lt
theorem Came.lt {w : World} {b k : Nat} {f : Int → Int → Int} (h : Came w b k f) : b < w.heap.size := by obtain ⟨D, h1, h2⟩ := h; exact h1.lt
theorem ids_made (w : World) : Ids (w.alloc (.map #[] 0)) w.heap.size 0 (fun _ => false) := ⟨.map [], World.ownsMap_made _ _ _ _, fun _ _ => rfl⟩
theorem came_made (w : World) : Came (w.alloc (.map #[] 0)) w.heap.size 0 (fun _ _ => 0) := ⟨.map [], World.ownsMap_made _ _ _ _, fun _ _ _ _ => rfl⟩
theorem int3 : Maps.Keyed Tryd.prog 3 := Maps.int_keyed und3
theorem pair77 : Maps.Keyed Tryd.prog 77 := Maps.Keyed.of_law law77
theorem Ids.look {w : World} {b k : Nat} {f : Int → Bool} (h : Ids w b k f) {x : Int} (hx : i64 x) : (Instr.lookup 172 (.map (some b)) (.int .i64 x) false).run Tryd.prog w = .ok (.bool (f x)) w := by
  obtain ⟨D, h1, h2⟩ := h
  obtain ⟨v, ps, hr, hv⟩ := h1.lookup int3 und172 (zero4 w) (plainElem_bool und4 false) (keyInt hx)
  rw [h2 x hx] at hv
  unfold plainElem at hv
  rw [und4] at hv
  split at hv
  · rename_i hd; simp at hv; rw [hr, hv.1]
  · rename_i hd; cases hd
  · rename_i hd; cases hd
  · cases hv
theorem Came.look {w : World} {b k : Nat} {f : Int → Int → Int} (h : Came w b k f) {x y : Int} (hx : i64 x) (hy : i64 y) : (Instr.lookup 173 (.map (some b)) (.agg #[.int .i64 x, .int .i64 y]) false).run Tryd.prog w = .ok (.int .i64 (f x y)) w := by
  obtain ⟨D, h1, h2⟩ := h
  obtain ⟨c, hr, hat, _⟩ := h1.lookup_int pair77 und173 und3 (zero3 w) (keyPair hx hy)
  rw [h2 x y hx hy] at hat
  simp at hat
  rw [hr, hat]
theorem Ids.put {w : World} {b k : Nat} {f : Int → Bool} (h : Ids w b k f) (hk : k ≤ 1000) {x : Int} (hx : i64 x) : ∃ W, (Instr.mapUpdate 172 (.map (some b)) (.int .i64 x) (.bool true)).run Tryd.prog w = .ok () W ∧ Ids W b (k + 1) (fun z => f z || z == x) ∧ w.grownBy W (some b) := by
  obtain ⟨D, h1, h2⟩ := h
  obtain ⟨W, hr, ho, hg⟩ := h1.update int3 und172 (by simp [maxLen]; omega) (keyInt hx) (plainElem_bool und4 true)
  refine ⟨W, hr, ⟨_, ho, fun z hz => ?_⟩, hg⟩
  by_cases e : z = x
  · subst e
    rw [Maps.atKey_put_same (isMap_of h1) (int3.key (keyInt hx))]
    simp
  · rw [Maps.atKey_put_other (by simpa using e), h2 z hz]
    simp [e]
theorem entry_more {H : Type} {P : Program} {w : World} {t k e : TypeId} {R : Value → Option (DataW H × List MemPlace)} {b : Nat} {es : Array MapEntry} {clock : Nat} (K : WideMaps.KeyLaw P k) (ht : P.underlying t = some (.map k e)) {z : Value} (hz : ∀ u : World, (zeroValue e).run P u = .ok z u)
    (hb : w.heap[b]? = some (.map es clock)) (F : Fit P k R es clock) {key : Value} {kl : Lit} (hkey : keyOf P k key = some kl) :
    ∃ (v : Value) (es1 : Array MapEntry) (clock1 : Nat), (Instr.mapEntry t (.map (some b)) key).run P w = .ok v (setBlock w b (.map es1 clock1)) ∧
      (es1 = es ∧ clock1 = clock ∨ (∀ x ∈ es.toList, x.key ≠ key) ∧ es1 = es.push ⟨key, z, clock⟩) := by
  rcases K.find w hkey es.toList F.keys with ⟨h1, h2⟩ | ⟨j, e0, h1, h2, h3⟩
  · refine ⟨.tuple #[z, goInt clock], es.push ⟨key, z, clock⟩, clock + 1, ?_, .inr ⟨h2, rfl⟩⟩
    simp [Instr.mapEntry, run_underlying ht, MapKept.run_getObj_map hb, K.check w false hkey, h1, hz, MapKept.run_setObj_map _ hb, Result.andThen, setBlock]
  · have hj : es[j]? = some e0 := by simpa using h2
    have hsame : es.modify j (fun e => { e with key := key }) = es := by
      apply Array.ext'
      rw [Array.toList_modify, modify_eq_set _ _ _ _ h2]
      have : ({ e0 with key := key } : MapEntry) = e0 := by rw [← h3]
      rw [this]
      exact set_self _ _ _ h2
    refine ⟨.tuple #[e0.val, goInt e0.born], es, clock, ?_, .inl ⟨rfl, rfl⟩⟩
    simp [Instr.mapEntry, run_underlying ht, MapKept.run_getObj_map hb, K.check w false hkey, h1, hj, h3, K.stays w hkey, hsame, MapKept.run_setObj_map _ hb, Result.andThen, setBlock]
theorem Came.count {w : World} {b k : Nat} {f : Int → Int → Int} (h : Came w b k f) (hk : k ≤ 1000) {x y : Int} (hx : i64 x) (hy : i64 y) (hf : i64 (f x y + 1)) :
    ∃ (v0 : Value) (st : Nat) (W1 W2 : World), (Instr.mapEntry 173 (.map (some b)) (.agg #[.int .i64 x, .int .i64 y])).run Tryd.prog w = .ok (.tuple #[v0, goInt st]) W1 ∧
      (Instr.lookup 173 (.map (some b)) (.agg #[.int .i64 x, .int .i64 y]) false).run Tryd.prog W1 = .ok (.int .i64 (f x y)) W1 ∧ w.grownBy W1 (some b) ∧
      (Instr.entryStore 173 (.map (some b)) (goInt st) (.int .i64 (f x y + 1))).run Tryd.prog W1 = .ok () W2 ∧
      Came W2 b (k + 1) (fun x' y' => if x' = x ∧ y' = y then f x y + 1 else f x' y') ∧ w.grownBy W2 (some b) := by
  have hlook := h.look hx hy
  obtain ⟨D, h1, h2⟩ := h
  have h1' := h1
  obtain ⟨es, clock, hb, F, hs, rfl⟩ := h1'
  obtain ⟨v0, st, es1, clock1, hE, hcase, hS⟩ := entry_then_store (w := w) law77 und173 (z := .int .i64 0) zero3 hb F (keyPair hx hy)
  have hb1 : (setBlock w b (.map es1 clock1)).heap[b]? = some (.map es1 clock1) := heap_setBlock_same hb _
  obtain ⟨es', clock', hS', hU⟩ := hS _ (.int .i64 (f x y + 1)) hb1
  obtain ⟨W2, hr2, ho2, hg2⟩ := h1.update pair77 und173 (val := .int .i64 (f x y + 1)) (d := .lit (.int .i64 (f x y + 1))) (ps := []) (by simp [maxLen]; omega) (keyPair hx hy) (plainElem_int und3 (wf64 hf))
  have e2 : setBlock w b (.map es' clock') = W2 := by
    rw [hU] at hr2
    cases hr2; rfl
  have e3 : setBlock (setBlock w b (.map es1 clock1)) b (.map es' clock') = W2 := by rw [← e2]; simp [setBlock]
  rw [e3] at hS'
  -- what a value already there at the entry reads as: store f x y itself
  obtain ⟨es3, clock3, hS3, hU3⟩ := hS _ v0 hb1
  refine ⟨v0, st, _, W2, hE, ?_, ⟨rfl, rfl, rfl, by simp [setBlock], fun i _ hi => heap_setBlock_other hb _ (fun e => hi (by rw [e]))⟩, hS', ⟨_, ho2, fun x' y' hx' hy' => ?_⟩, hg2⟩
  · obtain ⟨v3, es3, clock3, hE3, h3⟩ := entry_more law77 und173 (z := .int .i64 0) zero3 hb F (keyPair hx hy)
    rw [hE3] at hE
    have hW : setBlock w b (.map es3 clock3) = setBlock w b (.map es1 clock1) := (Result.ok.inj hE).2
    rw [← hW]
    rcases h3 with ⟨rfl, rfl⟩ | ⟨hno, rfl⟩
    · exact Came.look ⟨_, ownsMap_heap h1 ((heap_setBlock_same hb _).trans hb.symm), h2⟩ hx hy
    · have hb3 : (setBlock w b (.map (es.push ⟨.agg #[.int .i64 x, .int .i64 y], .int .i64 0, clock⟩) clock3)).heap[b]? = some (.map (es.push ⟨.agg #[.int .i64 x, .int .i64 y], .int .i64 0, clock⟩) clock3) := heap_setBlock_same hb _
      have h0 : f x y = 0 := by
        rcases law77.find w (keyPair hx hy) es.toList F.keys with ⟨g1, g2⟩ | ⟨j, e0, g1, g2, g3⟩
        · simp [Instr.lookup, run_underlying und173, MapKept.run_getObj_map hb, law77.check w _ (keyPair hx hy), g1, Result.andThen] at hlook
          exact hlook.symm
        · exact absurd g3 (hno e0 (List.mem_of_getElem? g2))
      rcases law77.find (setBlock w b (.map (es.push ⟨.agg #[.int .i64 x, .int .i64 y], .int .i64 0, clock⟩) clock3)) (keyPair hx hy) (es.push ⟨.agg #[.int .i64 x, .int .i64 y], .int .i64 0, clock⟩).toList (fun e he => by
        simp only [Array.toList_push, List.mem_append, List.mem_singleton] at he
        rcases he with he | rfl
        · exact F.keys e he
        · exact ⟨_, keyPair hx hy⟩) with ⟨g1, g2⟩ | ⟨j, e0, g1, g2, g3⟩
      · exact absurd rfl (g2 ⟨.agg #[.int .i64 x, .int .i64 y], .int .i64 0, clock⟩ (by simp))
      · have hv : e0.val = .int .i64 0 := by
          have hm := List.mem_of_getElem? g2
          simp only [Array.toList_push, List.mem_append, List.mem_singleton] at hm
          rcases hm with hm | rfl
          · exact absurd g3 (hno e0 hm)
          · rfl
        have hl : (Instr.lookup 173 (.map (some b)) (.agg #[.int .i64 x, .int .i64 y]) false).run Tryd.prog (setBlock w b (.map (es.push ⟨.agg #[.int .i64 x, .int .i64 y], .int .i64 0, clock⟩) clock3)) = .ok e0.val (setBlock w b (.map (es.push ⟨.agg #[.int .i64 x, .int .i64 y], .int .i64 0, clock⟩) clock3)) := by
          simp only [Array.toList_push] at g1
          simp [Instr.lookup, run_underlying und173, MapKept.run_getObj_map hb3, law77.check _ _ (keyPair hx hy), g1, Result.andThen]
        rw [hl, hv, h0]
  · by_cases e : x' = x ∧ y' = y
    · obtain ⟨rfl, rfl⟩ := e
      rw [Maps.atKey_put_same (isMap_of h1) (pair77.key (keyPair hx hy))]
      simp
    · rw [Maps.atKey_put_other (fun he => e (pairK_inj hx' hy' hx hy he)), h2 x' y' hx' hy']
      simp only [if_neg e]
end Go.Proofs.YtdcpmdigihbdpaaDoor
