/- What the law IceBlames needs: truths in memory; what is known of blamed sets. The table of limits holds 100, 400, 100, 3. -/
import Derived.Test.YtdcpmdigihbdpaaDoorWc
import Derived.Deep.DeepCutAuto
namespace Go.Proofs.YtdcpmdigihbdpaaDoor
open Go.RowKit
set_option maxRecDepth 100000
def BoolsB (W : World) (g n : Nat) (f : Nat → Bool) : Prop := ∃ arr : Array Value, W.heap[g]? = some (.cells arr 4 (0, 0)) ∧ arr.size = n ∧ ∀ i, i < n → arr[i]? = some (.bool (f i))
theorem BoolsB.cell {W : World} {g n : Nat} {f : Nat → Bool} (h : BoolsB W g n f) {i : Nat} (hi : i < n) : W.cell? ⟨g, i, none⟩ = some (.bool (f i)) ∧ W.frozen? ⟨g, i, none⟩ = false := by
  obtain ⟨arr, hb, _, ha⟩ := h
  exact ⟨(cell_of_block hb i).trans (ha i hi), frozen_of_block hb i⟩
theorem BoolsB.of_heap {w W : World} {g n : Nat} {f : Nat → Bool} (h : BoolsB w g n f) (e : W.heap[g]? = w.heap[g]?) : BoolsB W g n f := by
  obtain ⟨arr, hb, hs, ha⟩ := h
  exact ⟨arr, e.trans hb, hs, ha⟩
theorem BoolsB.congr {W : World} {g n : Nat} {f f' : Nat → Bool} (h : BoolsB W g n f) (e : ∀ i, i < n → f' i = f i) : BoolsB W g n f' := by
  obtain ⟨arr, hb, hs, ha⟩ := h
  exact ⟨arr, hb, hs, fun i hi => by rw [e i hi]; exact ha i hi⟩
theorem BoolsB.set {W : World} {g n : Nat} {f : Nat → Bool} (h : BoolsB W g n f) (k : Nat) (x : Bool) : BoolsB (W.setCell ⟨g, k, none⟩ (.bool x)) g n (fun i => if i = k then x else f i) := by
  obtain ⟨arr, hb, hs, ha⟩ := h
  refine ⟨_, setCell_block hb k (.bool x), by simp [hs], fun i hi => ?_⟩
  rw [Array.getElem?_setIfInBounds]
  by_cases e : k = i
  · subst e
    rw [if_pos rfl, if_pos (by omega)]
    simp
  · rw [if_neg e, ha i hi]
    simp only [if_neg (Ne.symm e)]
theorem BoolsB.made {W : World} {g n : Nat} (h : W.heap[g]? = some (.cells (madeCells (Value.bool false).cells (n * 1)) 4 (0, 0))) : BoolsB W g n (fun _ => false) :=
  ⟨_, h, by rw [size_madeCells]; omega, fun i hi => by
    have : (madeCells (Value.bool false).cells (n * 1)) = Array.replicate n (Value.bool false) := by
      apply Array.ext
      · rw [size_madeCells]; simp
      · intro j h1 h2
        simp [madeCells, Value.cells, Nat.mod_one]
    rw [this]
    simp [hi]⟩
/-- Truths in a slice. -/
def TruAt (W : World) (p : Option Addr) (n : Nat) (f : Nat → Bool) : Prop := ∀ i, i < n → ∃ b, p = some ⟨b, 0, none⟩ ∧ b < W.heap.size ∧ W.cell? ⟨b, i, none⟩ = some (.bool (f i))
theorem TruAt.later {w W : World} {p : Option Addr} {n : Nat} {f : Nat → Bool} (h : TruAt w p n f) (hb : Below w.heap.size w W) : TruAt W p n f := fun i hi => by
  obtain ⟨b, e, h1, h2⟩ := h i hi
  exact ⟨b, e, Nat.lt_of_lt_of_le h1 hb.size, (hb.cell (p := ⟨b, i, none⟩) h1).trans h2⟩
theorem tru_at {W : World} {base n : Nat} {v : Value} {f : Nat → Bool} (h : W.ownsRow base 4 1 v n (boolL f n)) : ∃ p c, v = .slice p n c ∧ TruAt W p n f := by
  have hr := h
  rcases h.2 with ⟨rfl, e⟩ | ⟨g, cap, cur, rfl, _, hg, _⟩
  · exact ⟨none, 0, by rw [e], fun i hi => by omega⟩
  · refine ⟨_, cap, rfl, fun i hi => ⟨g, rfl, lt_of_block hg, ?_⟩⟩
    have := hr.cells (g := g) rfl i (.bool (f i)) (by simp [boolL, hi])
    have hadd : (⟨g, 0, none⟩ : Addr).add i = ⟨g, i, none⟩ := by unfold Addr.add; split <;> simp_all
    rwa [hadd] at this
/-- Whether one of the first numbers of a list is this one. -/
def tk (l : List Nat) : Nat → Nat → Bool
  | 0, _ => false
  | z + 1, j => tk l z j || (l[z]?.getD 0 == j)
theorem tk_mem {l : List Nat} {j : Nat} : ∀ {z : Nat}, z ≤ l.length → (tk l z j = true ↔ ∃ a, a < z ∧ l[a]?.getD 0 = j)
  | 0, _ => by simp [tk]
  | z + 1, hz => by
    unfold tk
    rw [Bool.or_eq_true, tk_mem (by omega), beq_iff_eq]
    constructor
    · rintro (⟨a, ha, e⟩ | e)
      · exact ⟨a, by omega, e⟩
      · exact ⟨z, by omega, e⟩
    · rintro ⟨a, ha, e⟩
      by_cases c : a = z
      · subst c; exact .inr e
      · exact .inl ⟨a, by omega, e⟩
theorem tk_outs {s : Nat → Bool} {n j : Nat} (hj : j < n) : tk (outs s n) (outs s n).length j = !s j := by
  have h : tk (outs s n) (outs s n).length j = true ↔ s j = false := by
    rw [tk_mem (Nat.le_refl _)]
    constructor
    · rintro ⟨a, ha, e⟩
      rw [List.getElem?_eq_getElem ha] at e
      have := mem_outs.1 (List.getElem_mem ha)
      rw [show (outs s n)[a] = j from e] at this
      exact this.2
    · intro h
      obtain ⟨a, ha, e⟩ := List.mem_iff_getElem.1 (mem_outs.2 ⟨hj, h⟩)
      exact ⟨a, ha, by rw [List.getElem?_eq_getElem ha]; exact e⟩
  cases e : s j with
  | true =>
    cases e2 : tk (outs s n) (outs s n).length j with
    | false => rfl
    | true => rw [h.1 e2] at e; cases e
  | false => rw [h.2 e]; rfl
/-- What a set leaves out increases. -/
theorem outs_incr {s : Nat → Bool} : ∀ {n a b : Nat}, a < b → (hb : b < (outs s n).length) → (outs s n)[a]?.getD 0 < (outs s n)[b]?.getD 0
  | n + 1, a, b, hab, hb => by
    by_cases e : s n = true
    · have h : outs s (n + 1) = outs s n := by show (if s n = true then outs s n else outs s n ++ [n]) = _; rw [if_pos e]
      rw [h] at hb ⊢
      exact outs_incr hab hb
    · have h : outs s (n + 1) = outs s n ++ [n] := by show (if s n = true then outs s n else outs s n ++ [n]) = _; rw [if_neg e]
      rw [h] at hb ⊢
      simp only [List.length_append, List.length_cons, List.length_nil] at hb
      by_cases c : b < (outs s n).length
      · rw [List.getElem?_append_left (by omega), List.getElem?_append_left c]
        exact outs_incr hab c
      · rw [List.getElem?_append_left (by omega), List.getElem?_append_right (by omega), show b - (outs s n).length = 0 by omega]
        have h2 : a < (outs s n).length := by omega
        rw [List.getElem?_eq_getElem h2]
        have := (mem_outs.1 (List.getElem_mem h2)).1
        simpa using this
/-- Whether two lists of truths differ everywhere. -/
def smB (o t : Nat → Bool) : Nat → Bool
  | 0 => true
  | k + 1 => smB o t k && (o k != t k)
theorem smB_true {o t : Nat → Bool} : ∀ {k : Nat}, (∀ j, j < k → o j = !t j) → smB o t k = true
  | 0, _ => rfl
  | k + 1, h => by
    unfold smB
    rw [smB_true (fun j hj => h j (by omega)), h k (by omega)]
    cases t k <;> rfl
/-- Whether a list has come. -/
def fnd (ls : List (List Nat)) (x : List Nat) : Nat → Bool
  | 0 => false
  | i + 1 => fnd ls x i || decide (ls[i]?.getD [] = x)
theorem fnd_true {ls : List (List Nat)} {x : List Nat} (h : x ∈ ls) : fnd ls x ls.length = true := by
  obtain ⟨a, ha, e⟩ := List.mem_iff_getElem.1 h
  have : ∀ i, a < i → fnd ls x i = true := by
    intro i hi
    induction i with
    | zero => omega
    | succ i ih =>
      unfold fnd
      by_cases c : a = i
      · subst c
        rw [List.getElem?_eq_getElem ha]
        simp [e]
      · rw [ih (by omega)]; rfl
  exact this _ ha
/-- Reports at a set's places agree. -/
def AgreeS (u d : Nat → Int) (R : Nat → Rep) (n : Nat) (s : Nat → Bool) : Prop := cmOK allT (tdLo (fun j => R (fs s n j)) d 100) (tdHi (fun j => R (fs s n j)) u 100) (sizeTo s n) = true
/-- What the law asks of blamed sets. -/
structure BlameOk (u d : Nat → Int) (R : Nat → Rep) (n : Nat) (ls : List (List Nat)) (ps : List (Nat × Nat)) (hd : Nat → Bool) (z : Nat) : Prop where
  pos : 0 < ls.length
  most : ls.length ≤ 4096
  pairs : ps.length ≤ 144
  small : z ≤ n
  head : ∀ (h : 0 < ls.length), (ls[0]'h).length = z
  pr : ∀ p ∈ ps, p.1 < p.2 ∧ p.2 < n
  sets : ∀ l ∈ ls, ∃ s : Nat → Bool, l = outs s n ∧ l.length = z ∧ (∀ p ∈ ps, s p.1 = false ∨ s p.2 = false) ∧ AgreeS u d R n s
  any : ∀ s, AgreeS u d R n s → z ≤ n - sizeTo s n
  hdm : outs hd n ∈ ls
  none : ps.length = 0 ↔ z = 0
theorem blame_ok {u d : Nat → Int} (R : Nat → Rep) {n : Nat} (hn : n ≤ 8) (hf : Fine u d 100 R n) : BlameOk u d R n (blameL (tdLo R d 100) (tdHi R u 100) n) (cfOut (tdLo R d 100) (tdHi R u 100) n n) (headS (tdLo R d 100) (tdHi R u 100) n) (n - sizeTo (headS (tdLo R d 100) (tdHi R u 100) n) n) := by
  have ho := fine_ok hf
  have hl := cfOut_len (tdLo R d 100) (tdHi R u 100) n n
  have hne := found_ne (tdLo R d 100) (tdHi R u 100) n
  have hm : (foundL (tdLo R d 100) (tdHi R u 100) n).headD 0 ∈ foundL (tdLo R d 100) (tdHi R u 100) n := by
    cases e : foundL (tdLo R d 100) (tdHi R u 100) n with
    | nil => exact absurd e hne
    | cons x r => simp
  have hh : outs (headS (tdLo R d 100) (tdHi R u 100) n) n ∈ blameL (tdLo R d 100) (tdHi R u 100) n := blame_of hm
  have hz := outs_size (headS (tdLo R d 100) (tdHi R u 100) n) n
  have hag : ∀ s, AgreeS u d R n s ↔ cmOK s (tdLo R d 100) (tdHi R u 100) n = true := fun s => cm_sel ho
  have hmx := found_max (by omega) hm
  refine ⟨blame_ne _ _ _, ?_, ?_, by omega, fun h => ?_, fun p hp => ?_, fun l hl' => ?_, fun s hs => ?_, hh, ?_⟩
  · unfold blameL; rw [List.length_map, List.length_range]; exact found_len _ _ n (by omega)
  · have : n * n ≤ 8 * 8 := Nat.mul_le_mul hn hn
    omega
  · rw [blame_same (by omega) (List.getElem_mem h) hh]; omega
  · have := mem_cfOut.1 hp; exact ⟨this.2.1, this.2.2.1⟩
  · obtain ⟨x, hx, rfl⟩ := blame_mem hl'
    refine ⟨_, rfl, by rw [blame_same (by omega) hl' hh]; omega, fun p hp => pair_out (by omega) ho hx hp, (hag _).2 (found_max (by omega) hx).1⟩
  · have := hmx.2 s ((hag s).1 hs)
    show n - sizeTo (setF n ((foundL (tdLo R d 100) (tdHi R u 100) n).headD 0)) n ≤ _
    omega
  · have hni := none_iff (by omega) ho hh
    rw [List.length_eq_zero_iff, hni, ← List.length_eq_zero_iff]
    omega
theorem list_append63 {ops : Array Oper} {o : Oper} {rest : List Oper} {a : Act} {W : World} {Q : Exit → Act → World → Prop} {s t g n : Nat} {base : Nat} {v : Value} {xs : List Value} {us : Array Value} (hgd : o.guard = none) (hop : o.op = Op.call { callee := .builtin .append, args := #[.tmp s, .tmp t], argTypes := #[63, 63] })
    (he : a.eval (.tmp s) = v) (ht : a.eval (.tmp t) = .slice (some ⟨g, 0, none⟩) 1 1) (hown : W.ownsRow base 67 14 v n xs) (hg : W.heap[g]? = some (.cells us 67 (0, 0))) (h1 : us.size = 14) (hn : n ≤ 5000) (hb : base ≤ W.heap.size) (hu : ∀ u ∈ us.toList, u.oneCell' = true)
    (hK : ∀ p' c' W', W'.ownsRow base 67 14 (.slice p' (n + 1) c') (n + 1) (xs ++ us.toList) → W.grownBy W' v.ownBlock → wpList Tryd.prog ops Q rest (a.put o.dst (.slice p' (n + 1) c')) W') : wpList Tryd.prog ops Q (o :: rest) a W := by
  obtain ⟨i0, hi, hz0, hz1, hz2⟩ := info_parts info67
  refine wpList_append_own _ hgd (.tmp s) (.tmp t) 63 hop base 67 i0 (.agg #[.int .i64 0, .int .i64 0, .int .i64 0, .int .i64 0, .int .i64 0, .int .i64 0, .int .i64 0, .int .i64 0, .int .i64 0, .int .i64 0, .int .i64 0, .int .i64 0, .int .i64 0, .int .i64 0]) 14 112 und63 hi hz0 hz1 hz2 rfl (by decide) v n xs he hown ⟨g, 0, none⟩ 1 1 us.toList ht (by simp [h1]) (World.news_of_block hg) hu (by simp only [maxLen]; omega) (by omega) hb ?_
  intro v' w1 h2 h3 _
  obtain ⟨p', c', rfl⟩ := row_slice h2
  exact hK p' c' w1 h2 h3
theorem below_own {w W W' : World} {base n size : Nat} {e : TypeId} {v : Value} {xs : List Value} (hB : Below base w W) (hs : base ≤ W.heap.size) (hO : W.ownsRow base e size v n xs) (hg : W.grownBy W' v.ownBlock) : Below base w W' := hB.grown hg hs (fun j e => (hO.lt j e).1)
/-- Whether a number of a set is not there. -/
def bitB (set : Int) (k : Nat) : Bool := bits BinOp.and IntKind.i64 (set / 2 ^ k) 1 == 0
theorem ratesBox {W : World} {b : Nat} {u d : Nat → Int} (h : W.heap[b]? = some (.cells (ratesA u d) 41 (0, 0))) : W.cell? ⟨b, 0, none⟩ = some (.int .i64 (u 0)) ∧ W.cell? ⟨b, 1, none⟩ = some (.int .i64 (u 1)) ∧ W.cell? ⟨b, 2, none⟩ = some (.int .i64 (u 2)) ∧ W.cell? ⟨b, 3, none⟩ = some (.int .i64 (u 3)) ∧ W.cell? ⟨b, 4, none⟩ = some (.int .i64 (d 0)) ∧ W.cell? ⟨b, 5, none⟩ = some (.int .i64 (d 1)) ∧ W.cell? ⟨b, 6, none⟩ = some (.int .i64 (d 2)) ∧ W.cell? ⟨b, 7, none⟩ = some (.int .i64 (d 3)) := (cells8 h).1
theorem fs_fine {u d : Nat → Int} (R : Nat → Rep) {n : Nat} (hr : okRates u d = true) (hn : n ≤ 8) (s : Nat → Bool) : Fine u d 100 (fun j => rgRep R (fs s n j)) (sizeTo s n) :=
  rg_fine R (fs s n) hr (by have := sizeTo_le s n; omega) (fun a b h k => fs_mono h k) (fun j hj => by have := (fs_mem hj).1; omega)
/-- The code that begins with a region. -/
def findReg (id : Nat) : Code → Option Code
  | .seq (.region i ops d) b => if i = id then some (.seq (.region i ops d) b) else findReg id b
  | .seq a b => match findReg id a with
    | some c => some c
    | none => findReg id b
  | .block _ c => findReg id c
  | .loop c => findReg id c
  | .scope c => findReg id c
  | .cond _ a b => match findReg id a with
    | some c => some c
    | none => findReg id b
  | _ => none
noncomputable def tail43 : Code := ((Tryd.f6.body.bind (findReg 43)).getD .skip)
set_option maxHeartbeats 32000000 in
theorem Blames_tail (u d : Nat → Int) (R : Nat → Rep) (n c1 B cl cp zn : Nat) (set : Int) (p1 pl pp : Option Addr) (ls : List (List Nat)) (ps : List (Nat × Nat)) (hd : Nat → Bool) (w wo : World)
    (hl : Lim w) (KB0 : Below w.heap.size w wo) (K10 : wo.heap[B]? = some (.cells (ratesA u d) 41 (0, 0))) (HX0 : Reps wo p1 n (rgRep R)) (HLA0 : ListsAt wo pl ls) (HG00 : BlameOk u d (rgRep R) n ls ps hd zn) (HS0 : ∀ s, Fine u d 100 (fun j => rgRep R (fs s n j)) (sizeTo s n)) (h8 : n ≤ 8)
    (x0 x1 x3 x4 x5 x6 x10 x12 x13 x14 x15 x17 x18 x19 x20 x21 x22 x23 x24 x25 x26 x27 x28 x29 x30 x31 x32 x33 x34 x35 x36 x37 x38 x39 x40 x41 x42 x43 x44 x45 : Value) (x46 x47 x48 x49 x50 x51 x52 x53 x54 x55 x56 x57 x58 x59 x60 x61 x62 x63 x64 x65 x66 x67 x68 x69 x70 x71 x72 x73 x74 x75 x76 x77 x78 x79 x80 x81 x82 x83 x84 x85 : Value) (x86 x87 x88 x89 x90 x91 x92 x93 x94 x95 x96 x97 x98 x99 x100 x101 x102 x103 x104 x105 x106 x107 x108 x109 x110 x111 x112 x113 x114 x115 x116 x117 x118 x119 x120 x121 x122 x123 x124 x125 : Value) (x126 x127 x128 x129 x130 x131 x132 x133 x134 x135 x136 x137 x138 x139 x140 x141 x142 x143 x144 x145 x146 x147 x148 x149 x150 x151 x152 x153 x154 x155 x156 x157 x158 x159 x160 x161 x162 x163 x164 x165 : Value) (x166 x167 x168 x169 x170 x171 x172 x173 x174 x175 x176 x177 x178 x179 x180 x181 x182 x183 x184 x185 x186 x187 x188 x189 x190 x191 x192 x193 x194 x195 x196 x197 x198 x199 x200 x201 x202 x203 x204 x205 : Value) (x206 x207 x208 x209 x210 x211 x212 x213 x214 x215 x216 x217 x218 x219 x220 x221 x222 x223 x224 x225 x226 x227 x228 x229 x230 x231 x232 x233 x234 x235 x236 x237 x238 x239 x240 x241 x242 x243 x244 x245 : Value) (x246 x247 x248 x249 x250 x251 x252 x253 x254 x255 x256 x257 x258 x259 x260 x261 x262 x263 x264 x265 x266 x267 x268 x269 x270 x271 x272 x273 x274 x275 x276 x277 x278 x279 x280 x281 x282 x283 x284 x285 : Value) (x286 x287 x288 x289 x290 x291 x292 x293 x294 x295 x296 x297 x298 x299 x300 x301 x302 x303 : Value) :
    Code.wp Tryd.prog tail43 (bodyPost Tryd.prog Tryd.f6 fun e w' => e = .returned (.bool true) ∧ Below w.heap.size w w') ⟨#[x0, x1, .int .i64 set, x3, x4, x5, x6, .pointer (some ⟨B, 0, none⟩), .slice p1 n c1, .slice pl ls.length cl, x10, .slice pp ps.length cp, x12, x13, x14, x15, .bool true, x17, x18, x19, x20, x21, x22, x23, x24, x25, x26, x27, x28, x29, x30, x31, x32, x33, x34, x35, x36, x37, x38, x39, x40, x41, x42, x43, x44, x45, x46, x47, x48, x49, x50, x51, x52, x53, x54, x55, x56, x57, x58, x59, x60, x61, x62, x63, x64, x65, x66, x67, x68, x69, x70, x71, x72, x73, x74, x75, x76, x77, x78, x79, x80, x81, x82, x83, x84, x85, x86, x87, x88, x89, x90, x91, x92, x93, x94, x95, x96, x97, x98, x99, x100, x101, x102, x103, x104, x105, x106, x107, x108, x109, x110, x111, x112, x113, x114, x115, x116, x117, x118, x119, x120, x121, x122, x123, x124, x125, x126, x127, x128, x129, x130, x131, x132, x133, x134, x135, x136, x137, x138, x139, x140, x141, x142, x143, x144, x145, x146, x147, x148, x149, x150, x151, x152, x153, x154, x155, x156, x157, x158, x159, x160, x161, x162, x163, x164, x165, x166, x167, x168, x169, x170, x171, x172, x173, x174, x175, x176, x177, x178, x179, x180, x181, x182, x183, x184, x185, x186, x187, x188, x189, x190, x191, x192, x193, x194, x195, x196, x197, x198, x199, x200, x201, x202, x203, x204, x205, x206, x207, x208, x209, x210, x211, x212, x213, x214, x215, x216, x217, x218, x219, x220, x221, x222, x223, x224, x225, x226, x227, x228, x229, x230, x231, x232, x233, x234, x235, x236, x237, x238, x239, x240, x241, x242, x243, x244, x245, x246, x247, x248, x249, x250, x251, x252, x253, x254, x255, x256, x257, x258, x259, x260, x261, x262, x263, x264, x265, x266, x267, x268, x269, x270, x271, x272, x273, x274, x275, x276, x277, x278, x279, x280, x281, x282, x283, x284, x285, x286, x287, x288, x289, x290, x291, x292, x293, x294, x295, x296, x297, x298, x299, x300, x301, x302, x303], []⟩ wo := by
  have hpos := hl.pos
  have HL := Lib.hid hl
  have KB := Lib.hid KB0
  have K1 := Lib.hid K10
  have HX := Lib.hid HX0
  have HLA := Lib.hid HLA0
  have HG0 := Lib.hid HG00
  have HS := Lib.hid HS0
  clear hl KB0 K10 HX0 HLA0 HG00 HS0
  have hlp := HG0.out.pos
  have hpm := HG0.out.pairs
  have hzn8 : zn ≤ n := HG0.out.small
  conv => arg 2; whnf
  go_wp2_with fail
  go_loopw [27, 28] (fun v i wr => ∃ (j m : Nat) (pr : Option Addr) (cr : Nat), j ≤ n ∧ m ≤ j ∧ i = .int .i64 j ∧ v = .slice pr m cr ∧ Hid (m = sizeTo (bitB set) j) ∧ Hid (wr.ownsRow wo.heap.size 67 14 (.slice pr m cr) m (repRow (fun j => rgRep R (fs (bitB set) n j)) m)) ∧ Hid (Below wo.heap.size wo wr)) (fun _ i _ => n - (intOf i).toNat)
  case atStart => exact ⟨0, 0, none, 0, by omega, by omega, rfl, rfl, Lib.hid rfl, World.ownsRow_nil _ _ _ _, Lib.hid (Below.refl _ _)⟩
  case round =>
    obtain ⟨j, m, pr, cr, hj, hmj, rfl, rfl, hm, hO, hB3⟩ := hrel
    by_cases hjl : j < n
    · have hjn : (j : Int) < (n : Int) := by omega
      have hj0 : (0 : Int) ≤ (j : Int) := by omega
      obtain ⟨bx, rfl, _, x0, x1, x2, x3, x4, x5, x6, x7, x8, x9, x10, x11, x12, x13⟩ := (HX.out.later hB3.out).cells hjl
      have HFS := Lib.hid (fun (e : bitB set j = true) => (by show sizeTo (bitB set) j + (if bitB set j = true then 1 else 0) = m + 1 ∧ fs (bitB set) n m = j; rw [if_pos e, hm.out]; exact ⟨rfl, fs_at hjl e⟩ : sizeTo (bitB set) (j + 1) = m + 1 ∧ fs (bitB set) n m = j))
      have HFN := Lib.hid (fun (e : bitB set j = false) => (by show sizeTo (bitB set) j + (if bitB set j = true then 1 else 0) = m; rw [e, hm.out]; rfl : sizeTo (bitB set) (j + 1) = m))
      clear hm
      cases hsj : bitB set j with
      | true =>
        have HSZ := Lib.hid (HFS.out hsj)
        have hbit : (bits BinOp.and IntKind.i64 (set / 2 ^ j) 1 == 0) = true := hsj
        clear HFS HFN hsj
        have hBz := hB3.out.alloc hB3.out.size (.cells (repA (rgRep R j)) 67)
        go_wp2_with (at_builtin; refine Hid.out ?_)
        refine Lib.hid ?_
        refine list_append63 (n := m) (us := repA (rgRep R j)) rfl rfl rfl rfl (hO.out.alloc _) (block_new _ _) rfl (by omega) hBz.size (by simp [Value.oneCell']) ?_
        intro p' c' w1 hown' hgrow
        have HB1 := Lib.hid (below_own hBz hBz.size (hO.out.alloc _) hgrow)
        have HO1 := Lib.hid (show w1.ownsRow wo.heap.size 67 14 (.slice p' (m + 1) c') (m + 1) (repRow (fun j => rgRep R (fs (bitB set) n j)) (m + 1)) by
          show w1.ownsRow wo.heap.size 67 14 (.slice p' (m + 1) c') (m + 1) (repRow (fun j => rgRep R (fs (bitB set) n j)) m ++ (repA (rgRep R (fs (bitB set) n m))).toList)
          rw [HSZ.out.2]; exact hown')
        clear hown' hgrow hBz
        go_wp2_with fail
        go_roundw
        case rel => exact ⟨j + 1, m + 1, p', c', by omega, by omega, by go_num, rfl, Lib.hid HSZ.out.1.symm, HO1, HB1⟩
        case measure => simp [intOf]; omega
      | false =>
        have HSZ := Lib.hid (HFN.out hsj)
        have hbit : (bits BinOp.and IntKind.i64 (set / 2 ^ j) 1 == 0) = false := hsj
        clear HFS HFN hsj
        go_wp2_with fail
        go_roundw
        case rel => exact ⟨j + 1, m, pr, cr, by omega, by omega, by go_num, rfl, Lib.hid HSZ.out.symm, hO, hB3⟩
        case measure => simp [intOf]; omega
    · obtain rfl : j = n := by omega
      have HM := Lib.hid hm.out
      have HRR := Lib.hid (show Reps wr pr m (fun i => rgRep R (fs (bitB set) j i)) from reps_of_row hO.out)
      have K4 := Lib.hid (keep_blk1 K1.out hB3.out)
      have KE := Lib.hid (keep_bl1 KB.out hB3.out)
      have L4 := Lib.hid (HLA.out.later hB3.out)
      have HS2 := Lib.hid (show Fine u d 100 (fun i => rgRep R (fs (bitB set) j i)) m by rw [HM.out]; exact HS.out (bitB set))
      have HANY := Lib.hid (fun (e : cmOK allT (tdLo (fun i => rgRep R (fs (bitB set) j i)) d 100) (tdHi (fun i => rgRep R (fs (bitB set) j i)) u 100) m = true) => (by
        rw [HM.out] at e ⊢
        exact HG0.out.any (bitB set) e : zn ≤ j - m))
      clear hm hO hB3
      obtain ⟨r0, r1, r2, r3, r4, r5, r6, r7⟩ := ratesBox K4.out
      go_wp2_with fail
      clear r0 r1 r2 r3 r4 r5 r6 r7
      refine (Fuse_fine u d 100 pr m cr (fun i => rgRep R (fs (bitB set) j i)) HS2.out wr (HL.out.below hpos KE.out) HRR.out).mono ?_
      rintro e W9 ⟨rfl, hb⟩
      replace KE := Lib.hid (keep_bl1 KE.out hb)
      obtain ⟨b0, pi0, ci0, rfl, hc0⟩ := (L4.out.later hb).head hlp
      rw [HG0.out.head hlp] at hc0
      have hpz := HG0.out.none
      have HPZ := Lib.hid hpz
      clear hb hpz HRR K4 L4 HLA
      by_cases hag : cmOK allT (tdLo (fun i => rgRep R (fs (bitB set) j i)) d 100) (tdHi (fun i => rgRep R (fs (bitB set) j i)) u 100) m = true
      · have hany := HANY.out hag
        rw [show fuRes (tdLo (fun i => rgRep R (fs (bitB set) j i)) d 100) (tdHi (fun i => rgRep R (fs (bitB set) j i)) u 100) m = .tuple #[.agg (cellA (cmLo allT (tdLo (fun i => rgRep R (fs (bitB set) j i)) d 100) m) (cmHi allT (tdHi (fun i => rgRep R (fs (bitB set) j i)) u 100) m)), .int .i64 0] from by unfold fuRes; rw [if_pos hag]]
        generalize cmLo allT (tdLo (fun i => rgRep R (fs (bitB set) j i)) d 100) m = fl
        generalize cmHi allT (tdHi (fun i => rgRep R (fs (bitB set) j i)) u 100) m = fh
        clear hag
        have hsub : ¬ ((j : Int) - (m : Int) < (zn : Int)) := by omega
        have hsubb : decide ((j : Int) - (m : Int) < (zn : Int)) = false := decide_eq_false hsub
        have hw : IntKind.i64.wrap ((j : Int) - (m : Int)) = (j : Int) - (m : Int) := by rw [IntKind.wrap_i64]; omega
        by_cases hp0 : ps.length = 0
        · have hzz := HPZ.out.1 hp0
          have h1 : ((ps.length : Int) == 0) = true := by rw [beq_iff_eq]; omega
          have h2 : ((zn : Int) == 0) = true := by rw [beq_iff_eq]; omega
          replace hzz := Lib.hid hzz
          replace hp0 := Lib.hid hp0
          go_wp2_with fail
          refine (awake_any W9 (HL.out.below hpos KE.out)).mono ?_
          rintro e W ⟨rfl, hb⟩
          replace KE := Lib.hid (keep_bl1 KE.out hb)
          clear hb
          go_wp2_with fail
          go_ret
          exact ⟨rfl, KE.out⟩
        · have hzz : ¬ zn = 0 := fun e => hp0 (HPZ.out.2 e)
          have h1 : ((ps.length : Int) == 0) = false := by rw [beq_eq_false_iff_ne]; omega
          have h2 : ((zn : Int) == 0) = false := by rw [beq_eq_false_iff_ne]; omega
          go_wp2_with fail
          refine (awake_any W9 (HL.out.below hpos KE.out)).mono ?_
          rintro e W ⟨rfl, hb⟩
          replace KE := Lib.hid (keep_bl1 KE.out hb)
          clear hb
          go_wp2_with fail
          go_ret
          exact ⟨rfl, KE.out⟩
      · rw [show fuRes (tdLo (fun i => rgRep R (fs (bitB set) j i)) d 100) (tdHi (fun i => rgRep R (fs (bitB set) j i)) u 100) m = .tuple #[.agg zero8, .int .i64 21] from by unfold fuRes; rw [if_neg hag]]
        clear hag
        by_cases hp0 : ps.length = 0
        · have hzz := HPZ.out.1 hp0
          have h1 : ((ps.length : Int) == 0) = true := by rw [beq_iff_eq]; omega
          have h2 : ((zn : Int) == 0) = true := by rw [beq_iff_eq]; omega
          replace hzz := Lib.hid hzz
          replace hp0 := Lib.hid hp0
          go_wp2_with fail
          refine (awake_any W9 (HL.out.below hpos KE.out)).mono ?_
          rintro e W ⟨rfl, hb⟩
          replace KE := Lib.hid (keep_bl1 KE.out hb)
          clear hb
          go_wp2_with fail
          go_ret
          exact ⟨rfl, KE.out⟩
        · have hzz : ¬ zn = 0 := fun e => hp0 (HPZ.out.2 e)
          have h1 : ((ps.length : Int) == 0) = false := by rw [beq_eq_false_iff_ne]; omega
          have h2 : ((zn : Int) == 0) = false := by rw [beq_eq_false_iff_ne]; omega
          go_wp2_with fail
          refine (awake_any W9 (HL.out.below hpos KE.out)).mono ?_
          rintro e W ⟨rfl, hb⟩
          replace KE := Lib.hid (keep_bl1 KE.out hb)
          clear hb
          go_wp2_with fail
          go_ret
          exact ⟨rfl, KE.out⟩
end Go.Proofs.YtdcpmdigihbdpaaDoor
