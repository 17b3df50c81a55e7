/- What a leg of right parts answers, in whole and in pieces; single operations on parts. The law HullPassed: the pieces of the leg. The law HullPassed: the safe speed of a part's cell, and of an ice of it. -/
import Derived.Test.YtcoiklolgilhaaaDoorWn
namespace Go.Proofs.YtcoiklolgilhaaaDoor
open Go.RowKit
set_option maxRecDepth 100000
theorem first_bad (s : Sh) (P : Nat → Prt) : ∀ n, LegTo s P n ∨ ∃ k, k < n ∧ LegTo s P k ∧ pE s (P k) ≠ 0
  | 0 => .inl fun j hj => by omega
  | n + 1 => by
    rcases first_bad s P n with h | ⟨k, hk, h1, h2⟩
    · by_cases e : pE s (P n) = 0
      · refine .inl fun j hj => ?_
        by_cases ej : j = n
        · rw [ej]; exact e
        · exact h j (by omega)
      · exact .inr ⟨n, by omega, h, e⟩
    · exact .inr ⟨k, by omega, h1, h2⟩
theorem orL2_zero {a b : Int} (ha : a = 0) (hb : b = 0) : orL [a, b] = 0 := by subst ha hb; rfl
section
variable (s : Sh) (m : Mem3) (p : Option Addr) (n cap : Nat) (P : Nat → Prt) (w : World) (hc : chkP s = 0) (h1 : 1 ≤ n) (h100 : n ≤ 100) (gp : ∀ j, j < n → GoodP (P j)) (h : ShipIn w s m) (hp : PartsIn w p n P) (hl : Lim w) (hst : Str w)
include hc h1 h100 gp h hp hl hst
theorem Leg_bad (k : Nat) (hk : k < n) (hto : LegTo s P k) (hne : pE s (P k) ≠ 0) :
    Calls Tryd.prog 40 #[.agg (shipA s m), .slice p n cap] w fun e w' => ∃ q9 c9, e = .returned (.tuple #[.slice q9 0 c9, .agg #[.int .i64 (k : Int), .int .i64 0], .int .i64 (pE s (P k))]) ∧ Below w.heap.size w w' := by
  refine (Leg_any s m p n cap P (by omega) w h hp hl hst).mono ?_
  rintro e w' ⟨hpost, hb⟩
  have hz := orL2_zero hc (partsE_no h1 h100 gp)
  rcases hpost with ⟨e1, _⟩ | ⟨_, k', hk', hto', hne', rfl⟩ | ⟨_, hto', _⟩
  · exact absurd hz e1
  · have : k' = k := by
      rcases Nat.lt_trichotomy k' k with h | h | h
      · exact absurd (hto k' h) hne'
      · exact h
      · exact absurd (hto' k h) hne
    subst this
    exact ⟨none, 0, rfl, hb⟩
  · exact absurd (hto' k hk) hne
theorem Leg_good (hto : LegTo s P n) :
    Calls Tryd.prog 40 #[.agg (shipA s m), .slice p n cap] w fun e w' => ∃ q9 c9, e = .returned (.tuple #[.slice q9 n c9, .agg #[.int .i64 (legLo s P n), .int .i64 (legHi s P n)], .int .i64 0]) ∧ w'.ownsRow w.heap.size 3 1 (.slice q9 n c9) n (spdL s P n) ∧ Below w.heap.size w w' := by
  refine (Leg_any s m p n cap P (by omega) w h hp hl hst).mono ?_
  rintro e w' ⟨hpost, hb⟩
  have hz := orL2_zero hc (partsE_no h1 h100 gp)
  rcases hpost with ⟨e1, _⟩ | ⟨_, k', hk', hto', hne', rfl⟩ | ⟨_, _, v, hv, rfl⟩
  · exact absurd hz e1
  · exact absurd (hto k' hk') hne'
  · obtain ⟨q9, c9, rfl⟩ := row_shape hv
    exact ⟨q9, c9, rfl, hv, hb⟩
end
theorem PartsIn.pre {W : World} {p : Option Addr} {n n' : Nat} {P : Nat → Prt} (h : PartsIn W p n P) (hn : n' ≤ n) : PartsIn W p n' P := fun i hi => h i (by omega)
theorem PartsIn.suf {W : World} {g o n a : Nat} {P : Nat → Prt} (h : PartsIn W (some ⟨g, o, none⟩) n P) (ha : a ≤ n) : PartsIn W (some ⟨g, o + a * 10, none⟩) (n - a) (offP P a) := fun i hi => by
  obtain ⟨b, o', e, hlt, h0, h1, h2, h3, h4, h5, h6, h7, h8, h9⟩ := h (a + i) (by omega)
  simp only [Option.some.injEq, Addr.mk.injEq, and_true] at e
  obtain ⟨rfl, rfl⟩ := e
  have ea : o + (a + i) * 10 = o + a * 10 + i * 10 := by omega
  rw [ea] at h0 h1 h2 h3 h4 h5 h6 h7 h8 h9
  exact ⟨g, o + a * 10, rfl, hlt, h0, h1, h2, h3, h4, h5, h6, h7, h8, h9⟩
section
variable {Q : Exit → Act → World → Prop} {o : Oper} {a' : Act} {W : World}
theorem op_slhi {s t g n cap x : Nat} (hx : x ≤ cap) (hop : o.op = Op.slice 84 (.tmp s) none (some (.tmp t)) none) (he : a'.eval (.tmp s) = .slice (some ⟨g, 0, none⟩) n cap) (ht : a'.eval (.tmp t) = .int .i64 x) :
    o.wp Tryd.prog a' W (fun a'' W' => a'' = a'.put o.dst (.slice (some ⟨g, 0, none⟩) x cap) ∧ Below W.heap.size W W') Q := by
  have hr := Below.refl W.heap.size W
  have he' : a'.tmps[s]?.getD undef = .slice (some ⟨g, 0, none⟩) n cap := by simpa [Act.eval] using he
  have ht' : a'.tmps[t]?.getD undef = .int .i64 x := by simpa [Act.eval] using ht
  have hx' : (x : Int) ≤ (cap : Int) := by omega
  have hx0 : (0 : Int) ≤ (x : Int) := by omega
  unfold Oper.wp execOp
  rw [hop]
  simp [go_sem, he', ht', hx', hx0, hr]
theorem op_sllo {s t g n cap x : Nat} (hx : x < n) (hn : n ≤ cap) (hop : o.op = Op.slice 84 (.tmp s) (some (.tmp t)) none none) (he : a'.eval (.tmp s) = .slice (some ⟨g, 0, none⟩) n cap) (ht : a'.eval (.tmp t) = .int .i64 x) :
    o.wp Tryd.prog a' W (fun a'' W' => a'' = a'.put o.dst (.slice (some ⟨g, 0 + x * 10, none⟩) (n - x) (cap - x)) ∧ Below W.heap.size W W') Q := by
  have hr := Below.refl W.heap.size W
  have he' : a'.tmps[s]?.getD undef = .slice (some ⟨g, 0, none⟩) n cap := by simpa [Act.eval] using he
  have ht' : a'.tmps[t]?.getD undef = .int .i64 x := by simpa [Act.eval] using ht
  have hx' : (x : Int) ≤ (cap : Int) := by omega
  have hx1 : (x : Int) ≤ (n : Int) := by omega
  have hx0 : (0 : Int) ≤ (x : Int) := by omega
  have hn' : (n : Int) ≤ (cap : Int) := by omega
  have hne : ¬ cap = x := by omega
  unfold Oper.wp execOp
  rw [hop]
  simp [go_sem, he', ht', hx1, hx0, hne, hr]
theorem op_idx84 {s t g ob n cap i : Nat} (hi : i < n) (hop : o.op = Op.indexAddr 84 (.tmp s) (.tmp t)) (he : a'.eval (.tmp s) = .slice (some ⟨g, ob, none⟩) n cap) (ht : a'.eval (.tmp t) = .int .i64 i) :
    o.wp Tryd.prog a' W (fun a'' W' => a'' = a'.put o.dst (.pointer (some ⟨g, ob + i * 10, none⟩)) ∧ Below W.heap.size W W') Q := by
  have hr := Below.refl W.heap.size W
  have he' : a'.tmps[s]?.getD undef = .slice (some ⟨g, ob, none⟩) n cap := by simpa [Act.eval] using he
  have ht' : a'.tmps[t]?.getD undef = .int .i64 i := by simpa [Act.eval] using ht
  have hi' : (i : Int) < (n : Int) := by omega
  have hi0 : (0 : Int) ≤ (i : Int) := by omega
  unfold Oper.wp execOp
  rw [hop]
  simp [go_sem, he', ht', hi', hi0, hr]
theorem op_fa86 {s g ob c k : Nat} (hk : (k = 0 ∧ c = 0) ∨ (k = 1 ∧ c = 8) ∨ (k = 2 ∧ c = 9)) (hop : o.op = Op.fieldAddr 86 (.tmp s) k) (he : a'.eval (.tmp s) = .pointer (some ⟨g, ob, none⟩)) :
    o.wp Tryd.prog a' W (fun a'' W' => a'' = a'.put o.dst (.pointer (some ⟨g, ob + c, none⟩)) ∧ Below W.heap.size W W') Q := by
  have hr := Below.refl W.heap.size W
  have he' : a'.tmps[s]?.getD undef = .pointer (some ⟨g, ob, none⟩) := by simpa [Act.eval] using he
  unfold Oper.wp execOp
  rw [hop]
  rcases hk with ⟨rfl, rfl⟩ | ⟨rfl, rfl⟩ | ⟨rfl, rfl⟩ <;> simp [go_sem, he', hr]
theorem op_load8o {s g ob : Nat} {x0 x1 x2 x3 x4 x5 x6 x7 : Value} (hop : o.op = Op.load 59 (.tmp s)) (he : a'.eval (.tmp s) = .pointer (some ⟨g, ob, none⟩))
    (c0 : W.cell? ⟨g, ob, none⟩ = some x0) (c1 : W.cell? ⟨g, ob + 1, none⟩ = some x1) (c2 : W.cell? ⟨g, ob + 2, none⟩ = some x2) (c3 : W.cell? ⟨g, ob + 3, none⟩ = some x3) (c4 : W.cell? ⟨g, ob + 4, none⟩ = some x4) (c5 : W.cell? ⟨g, ob + 5, none⟩ = some x5) (c6 : W.cell? ⟨g, ob + 6, none⟩ = some x6) (c7 : W.cell? ⟨g, ob + 7, none⟩ = some x7) :
    o.wp Tryd.prog a' W (fun a'' W' => a'' = a'.put o.dst (.agg #[x0, x1, x2, x3, x4, x5, x6, x7]) ∧ Below W.heap.size W W') Q := by
  have hr := Below.refl W.heap.size W
  have he' : a'.tmps[s]?.getD undef = .pointer (some ⟨g, ob, none⟩) := by simpa [Act.eval] using he
  unfold Oper.wp execOp
  rw [hop]
  simp [go_sem, he', c0, c1, c2, c3, c4, c5, c6, c7, hr]
theorem op_load4o {s g ob : Nat} {x : Value} (hop : o.op = Op.load 4 (.tmp s)) (he : a'.eval (.tmp s) = .pointer (some ⟨g, ob, none⟩)) (c0 : W.cell? ⟨g, ob, none⟩ = some x) :
    o.wp Tryd.prog a' W (fun a'' W' => a'' = a'.put o.dst x ∧ Below W.heap.size W W') Q := by
  have hr := Below.refl W.heap.size W
  have he' : a'.tmps[s]?.getD undef = .pointer (some ⟨g, ob, none⟩) := by simpa [Act.eval] using he
  unfold Oper.wp execOp
  rw [hop]
  simp [go_sem, he', c0, hr]
end
end Go.Proofs.YtcoiklolgilhaaaDoor
namespace Go.Proofs.YtcoiklolgilhaaaDoor
open Go.RowKit
set_option maxRecDepth 100000
structure W18 (w : World) (a b : Int) (L : Nat → Bool) (V : Nat → Value) (W : World) : Prop where
  low : Below w.heap.size w W
  bl : L 9 = true → ∃ B : Nat, V 9 = .pointer (some ⟨B, 0, none⟩) ∧ w.heap.size ≤ B ∧ ∃ y z : Int, W.heap[B]? = some (.cells #[.int .i64 y, .int .i64 z] 57 (0, 0)) ∧ (L 11 = true → y = a ∧ z = b)
  d : L 11 = true → L 9 = true
section
variable {w : World} {a b : Int} {L : Nat → Bool} {V : Nat → Value} {W W' : World}
theorem W18.later (h : W18 w a b L V W) (hb : Below W.heap.size W W') : W18 w a b L V W' := by
  refine ⟨h.low.trans (hb.mono h.low.size), fun e => ?_, h.d⟩
  obtain ⟨B, h1, h2, y, z, h3, h4⟩ := h.bl e
  exact ⟨B, h1, h2, y, z, (hb.block _ (lt_of_block h3)).trans h3, h4⟩
theorem W18.set (h : W18 w a b L V W) (i : Nat) (hi : i ≠ 9 ∧ i ≠ 11) (x : Value) : W18 w a b (fun j => if j = i then true else L j) (fun j => if j = i then x else V j) W := by
  obtain ⟨h9, h11⟩ := hi
  refine ⟨h.low, ?_, ?_⟩
  · simp only [if_neg (Ne.symm h9), if_neg (Ne.symm h11)]; exact h.bl
  · simp only [if_neg (Ne.symm h9), if_neg (Ne.symm h11)]; exact h.d
end

def pF18 (s : Sh) (m : Mem3) (g n cap pt ln : Nat) (a b er : Int) : Nat → Value → Prop
  | 0, v => v = .agg (shipA s m)
  | 1, v => v = .slice (some ⟨g, 0, none⟩) n cap
  | 2, v => v = .int .i64 (pt : Int)
  | 3, v => v = .slice (some ⟨g, 0, none⟩) pt cap
  | 4, v => ∃ q9 c9, v = .tuple #[.slice q9 ln c9, .agg #[.int .i64 a, .int .i64 b], .int .i64 er]
  | 5, v => ∃ q9 c9, v = .tuple #[.slice q9 ln c9, .agg #[.int .i64 a, .int .i64 b], .int .i64 er]
  | 6, v => ∃ q9 c9, v = .slice q9 ln c9
  | 7, v => v = .agg #[.int .i64 a, .int .i64 b]
  | 8, v => v = .int .i64 er
  | 10, v => ∃ q9 c9, v = .slice q9 ln c9
  | 12, v => v = .int .i64 er
  | _, _ => True
noncomputable def passed18 : Code := ((Tryd.f8.body.bind (findOne 18)).getD .skip)
theorem egf40_18 : ∀ args w, (callFunc 40 args).run Tryd.prog w = .ok (.enter 40 args) w := Go.Proofs.enters_of Tryd.func40 (by kernel_rfl) rfl
set_option maxHeartbeats 32000000 in
theorem Passed_18 (s : Sh) (m : Mem3) (B9 g n cap pt ln : Nat) (a b er : Int) (w : World) (hpt : pt ≤ cap) (hK9 : w.heap[B9]? = some (.cells (shipA s m) 24 (0, 0)))
    (hcall : ∀ W, Below w.heap.size w W → Calls Tryd.prog 40 #[.agg (shipA s m), .slice (some ⟨g, 0, none⟩) pt cap] W fun e W' => ∃ q9 c9, e = .returned (.tuple #[.slice q9 ln c9, .agg #[.int .i64 a, .int .i64 b], .int .i64 er]) ∧ Below W.heap.size W W')
    (Q : Exit → Act → World → Prop) (x0 x1 x2 x3 x4 x5 x6 x7 x8 x10 x12 x13 x14 x15 x16 x18 x19 x20 x21 x22 x23 x24 x25 x26 x27 x28 x29 x30 x31 x32 x33 x34 x35 x36 x37 x38 x39 x40 x41 x42 x43 x44 x45 x46 x47 x48 x49 x50 x51 x52 x53 x54 x55 x56 x57 x58 x59 x60 x61 x62 x63 x64 x65 x66 x67 x68 x69 x70 x71 x72 x73 x74 x75 x76 x77 x78 x79 x80 x81 x82 x83 x84 x85 x86 x87 x88 x89 x90 x91 x92 x93 x94 x95 x96 x97 x98 x99 x100 x101 x102 x103 x104 x105 x106 x107 x108 x109 x110 x111 x112 x113 x114 x115 x116 x117 x118 x119 x120 x121 x122 x123 x124 x125 x126 x127 x128 x129 x130 x131 x132 x133 x134 x135 x136 x137 x138 x139 x140 x141 x142 x143 x144 x145 x146 x147 x148 x149 x150 x151 x152 x153 x154 x155 x156 x157 x158 x159 x160 x161 x162 x163 x164 x165 x166 x167 x168 x169 x170 x171 x172 x173 x174 x175 x176 x177 x178 x179 x180 x181 x182 x183 x184 x185 x186 x187 x188 x189 x190 x191 x192 x193 x194 x195 x196 x197 x198 x199 x200 x201 x202 x203 x204 x205 x206 x207 x208 x209 x210 x211 x212 x213 x214 x215 x216 x217 x218 x219 x220 x221 x222 x223 x224 x225 x226 x227 x228 x229 x230 x231 x232 x233 x234 x235 x236 x237 x238 x239 x240 x241 x242 x243 x244 x245 x246 x247 x248 x249 x250 x251 x252 x253 x254 x255 x256 x257 x258 x259 x260 x261 x262 x263 x264 x265 x266 x267 x268 x269 x270 x271 x272 x273 x274 x275 x276 x277 x278 x279 x280 x281 x282 x283 x284 x285 x286 x287 x288 x289 x290 x291 x292 : Value)
    (hQ : ∀ (q9 : Option Addr) (c9 B : Nat) (W : World) (y96 y97 y98 y99 y100 y95 y101 y102 y103 : Value), w.heap.size ≤ B → W.heap[B]? = some (.cells #[.int .i64 a, .int .i64 b] 57 (0, 0)) → Below w.heap.size w W → Q .normal ⟨#[x0, x1, x2, x3, x4, x5, x6, x7, x8, .pointer (some ⟨B9, 0, none⟩), x10, .slice (some ⟨g, 0, none⟩) n cap, x12, x13, x14, x15, x16, .int .i64 (pt : Int), .slice q9 ln c9, .pointer (some ⟨B, 0, none⟩), .int .i64 er, x21, x22, x23, x24, x25, x26, x27, x28, x29, x30, x31, x32, x33, x34, x35, x36, x37, x38, x39, x40, x41, x42, x43, x44, x45, x46, x47, x48, x49, x50, x51, x52, x53, x54, x55, x56, x57, x58, x59, x60, x61, x62, x63, x64, x65, x66, x67, x68, x69, x70, x71, x72, x73, x74, x75, x76, x77, x78, x79, x80, x81, x82, x83, x84, x85, x86, x87, x88, x89, x90, x91, x92, x93, x94, y95, y96, y97, y98, y99, y100, y101, y102, y103, x104, x105, x106, x107, x108, x109, x110, x111, x112, x113, x114, x115, x116, x117, x118, x119, x120, x121, x122, x123, x124, x125, x126, x127, x128, x129, x130, x131, x132, x133, x134, x135, x136, x137, x138, x139, x140, x141, x142, x143, x144, x145, x146, x147, x148, x149, x150, x151, x152, x153, x154, x155, x156, x157, x158, x159, x160, x161, x162, x163, x164, x165, x166, x167, x168, x169, x170, x171, x172, x173, x174, x175, x176, x177, x178, x179, x180, x181, x182, x183, x184, x185, x186, x187, x188, x189, x190, x191, x192, x193, x194, x195, x196, x197, x198, x199, x200, x201, x202, x203, x204, x205, x206, x207, x208, x209, x210, x211, x212, x213, x214, x215, x216, x217, x218, x219, x220, x221, x222, x223, x224, x225, x226, x227, x228, x229, x230, x231, x232, x233, x234, x235, x236, x237, x238, x239, x240, x241, x242, x243, x244, x245, x246, x247, x248, x249, x250, x251, x252, x253, x254, x255, x256, x257, x258, x259, x260, x261, x262, x263, x264, x265, x266, x267, x268, x269, x270, x271, x272, x273, x274, x275, x276, x277, x278, x279, x280, x281, x282, x283, x284, x285, x286, x287, x288, x289, x290, x291, x292], []⟩ W) :
    Code.wp Tryd.prog passed18 Q ⟨#[x0, x1, x2, x3, x4, x5, x6, x7, x8, .pointer (some ⟨B9, 0, none⟩), x10, .slice (some ⟨g, 0, none⟩) n cap, x12, x13, x14, x15, x16, .int .i64 (pt : Int), x18, x19, x20, x21, x22, x23, x24, x25, x26, x27, x28, x29, x30, x31, x32, x33, x34, x35, x36, x37, x38, x39, x40, x41, x42, x43, x44, x45, x46, x47, x48, x49, x50, x51, x52, x53, x54, x55, x56, x57, x58, x59, x60, x61, x62, x63, x64, x65, x66, x67, x68, x69, x70, x71, x72, x73, x74, x75, x76, x77, x78, x79, x80, x81, x82, x83, x84, x85, x86, x87, x88, x89, x90, x91, x92, x93, x94, x95, x96, x97, x98, x99, x100, x101, x102, x103, x104, x105, x106, x107, x108, x109, x110, x111, x112, x113, x114, x115, x116, x117, x118, x119, x120, x121, x122, x123, x124, x125, x126, x127, x128, x129, x130, x131, x132, x133, x134, x135, x136, x137, x138, x139, x140, x141, x142, x143, x144, x145, x146, x147, x148, x149, x150, x151, x152, x153, x154, x155, x156, x157, x158, x159, x160, x161, x162, x163, x164, x165, x166, x167, x168, x169, x170, x171, x172, x173, x174, x175, x176, x177, x178, x179, x180, x181, x182, x183, x184, x185, x186, x187, x188, x189, x190, x191, x192, x193, x194, x195, x196, x197, x198, x199, x200, x201, x202, x203, x204, x205, x206, x207, x208, x209, x210, x211, x212, x213, x214, x215, x216, x217, x218, x219, x220, x221, x222, x223, x224, x225, x226, x227, x228, x229, x230, x231, x232, x233, x234, x235, x236, x237, x238, x239, x240, x241, x242, x243, x244, x245, x246, x247, x248, x249, x250, x251, x252, x253, x254, x255, x256, x257, x258, x259, x260, x261, x262, x263, x264, x265, x266, x267, x268, x269, x270, x271, x272, x273, x274, x275, x276, x277, x278, x279, x280, x281, x282, x283, x284, x285, x286, x287, x288, x289, x290, x291, x292], []⟩ w := by
  conv => arg 2; whnf
  refine wp_region_fi [96, 97, 98, 99, 100, 95, 101, 102, 103, 19, 18, 1000, 20] (pF18 s m g n cap pt ln a b er) (W18 w a b) (by kernel_rfl) (by kernel_rfl) ?sz ?ts ?z ?val ?fin
  case sz => intro s hs h; simp at hs ⊢; omega
  case ts => simp
  case z => exact ⟨below_drawn w, (fun e => by cases e), (fun e => by cases e)⟩
  case val =>
    intro jj
    match jj with
    | 0 => intro o L V ho hL hd a' W hX hfr hdp; obtain rfl := Option.some.inj ho; exact opx_of (op_load11 rfl (hfr 9 (by decide)) ((hX.low.block _ (lt_of_block hK9)).trans hK9)) fun W' hb => ⟨rfl, (hX.later hb).set 0 (by decide) _⟩
    | 1 => intro o L V ho hL hd a' W hX hfr hdp; obtain rfl := Option.some.inj ho; exact opx_of (op_move rfl (hfr 11 (by decide))) fun W' hb => ⟨rfl, (hX.later hb).set 1 (by decide) _⟩
    | 2 => intro o L V ho hL hd a' W hX hfr hdp; obtain rfl := Option.some.inj ho; exact opx_of (op_move rfl (hfr 17 (by decide))) fun W' hb => ⟨rfl, (hX.later hb).set 2 (by decide) _⟩
    | 3 => intro o L V ho hL hd a' W hX hfr hdp; obtain rfl := Option.some.inj ho; exact opx_of (op_slhi hpt rfl (Dp (hdp 1 97 (by decide) rfl (by kernel_rfl)) id) (Dp (hdp 2 98 (by decide) rfl (by kernel_rfl)) id)) fun W' hb => ⟨rfl, (hX.later hb).set 3 (by decide) _⟩
    | 4 =>
      intro o L V ho hL hd a' W hX hfr hdp; obtain rfl := Option.some.inj ho
      refine opx_call2g rfl (Dp (hdp 0 96 (by decide) rfl (by kernel_rfl)) id) (Dp (hdp 3 99 (by decide) rfl (by kernel_rfl)) id) egf40_18 ((hcall W hX.low).mono ?_)
      rintro e W' ⟨q9, c9, rfl, hb⟩
      exact ⟨_, rfl, ⟨q9, c9, rfl⟩, (hX.later hb).set 4 (by decide) _⟩
    | 5 =>
      intro o L V ho hL hd a' W hX hfr hdp; obtain rfl := Option.some.inj ho
      obtain ⟨e, q9, c9, e'⟩ := (hdp 4 100 (by decide) rfl (by kernel_rfl))
      exact opx_of (op_move rfl (e.trans e')) fun W' hb => ⟨⟨q9, c9, rfl⟩, (hX.later hb).set 5 (by decide) _⟩
    | 6 =>
      intro o L V ho hL hd a' W hX hfr hdp; obtain rfl := Option.some.inj ho
      obtain ⟨e, q9, c9, e'⟩ := (hdp 5 95 (by decide) rfl (by kernel_rfl))
      exact opx_extract rfl (e.trans e') rfl ⟨⟨q9, c9, rfl⟩, hX.set 6 (by decide) _⟩
    | 7 =>
      intro o L V ho hL hd a' W hX hfr hdp; obtain rfl := Option.some.inj ho
      obtain ⟨e, q9, c9, e'⟩ := (hdp 5 95 (by decide) rfl (by kernel_rfl))
      exact opx_extract rfl (e.trans e') rfl ⟨rfl, hX.set 7 (by decide) _⟩
    | 8 =>
      intro o L V ho hL hd a' W hX hfr hdp; obtain rfl := Option.some.inj ho
      obtain ⟨e, q9, c9, e'⟩ := (hdp 5 95 (by decide) rfl (by kernel_rfl))
      exact opx_extract rfl (e.trans e') rfl ⟨rfl, hX.set 8 (by decide) _⟩
    | 9 =>
      intro o L V ho hL hd a' W hX hfr hdp; obtain rfl := Option.some.inj ho
      have u1 : L 11 = false := by cases h : L 11 <;> first | rfl | (have k := hX.d h; rw [hL] at k; cases k)
      have hbl := (Below.refl W.heap.size W).alloc (Nat.le_refl _) (.cells #[.int .i64 0, .int .i64 0] 57)
      exact opx_alloc57 rfl ⟨trivial, hX.low.trans (hbl.mono hX.low.size), fun _ => ⟨W.heap.size, by simp, hX.low.size, 0, 0, block_new W _, fun e => by simp [u1] at e⟩, fun e => by simp⟩
    | 10 =>
      intro o L V ho hL hd a' W hX hfr hdp; obtain rfl := Option.some.inj ho
      obtain ⟨e, q9, c9, e'⟩ := (hdp 6 101 (by decide) rfl (by kernel_rfl))
      exact opx_of (op_assign rfl (e.trans e')) fun W' hb => ⟨⟨q9, c9, rfl⟩, (hX.later hb).set 10 (by decide) _⟩
    | 11 =>
      intro o L V ho hL hd a' W hX hfr hdp; obtain rfl := Option.some.inj ho
      have k9 := hd 9 (by kernel_rfl)
      obtain ⟨B, h1, h2, y, z, h3, h4⟩ := hX.bl k9
      have hv := (hdp 9 19 (by decide) rfl (by kernel_rfl)).1
      rw [h1] at hv
      exact opx_store57 rfl rfl hv (Dp (hdp 7 102 (by decide) rfl (by kernel_rfl)) id) h3 fun W' hb' hc => ⟨trivial, hX.low.trans (hc.below h2), fun _ => ⟨B, by simpa using h1, h2, a, b, hb', fun _ => ⟨rfl, rfl⟩⟩, fun _ => by simpa using k9⟩
    | 12 => intro o L V ho hL hd a' W hX hfr hdp; obtain rfl := Option.some.inj ho; exact opx_of (op_assign rfl (Dp (hdp 8 103 (by decide) rfl (by kernel_rfl)) id)) fun W' hb => ⟨rfl, (hX.later hb).set 12 (by decide) _⟩
    | j + 13 => intro o L V ho; simp at ho
  case fin =>
    intro W1 L V hL hF hI
    obtain ⟨B, h1, h2, y, z, h3, h4⟩ := hI.bl (hL 9 (by decide))
    obtain ⟨rfl, rfl⟩ := h4 (hL 11 (by decide))
    obtain ⟨q9, c9, h10⟩ : ∃ q9 c9, V 10 = .slice q9 ln c9 := hF 10 (by decide)
    have h12 : V 12 = .int .i64 er := hF 12 (by decide)
    have hlow := hI.low
    clear hI hF hL
    simp only [fill, Act.put, List.setIfInBounds_toArray, List.set_cons_zero, List.set_cons_succ, Nat.reduceAdd]
    rw [h1, h10, h12]
    exact hQ q9 c9 B W1 _ _ _ _ _ _ _ _ _ h2 h3 hlow
def pF27 (s : Sh) (m : Mem3) (g n cap pt ln : Nat) (a b er : Int) : Nat → Value → Prop
  | 0, v => v = .agg (shipA s m)
  | 1, v => v = .slice (some ⟨g, 0, none⟩) n cap
  | 2, v => v = .int .i64 (pt : Int)
  | 3, v => v = .slice (some ⟨g, 0 + pt * 10, none⟩) (n - pt) (cap - pt)
  | 4, v => ∃ q9 c9, v = .tuple #[.slice q9 ln c9, .agg #[.int .i64 a, .int .i64 b], .int .i64 er]
  | 5, v => ∃ q9 c9, v = .tuple #[.slice q9 ln c9, .agg #[.int .i64 a, .int .i64 b], .int .i64 er]
  | 6, v => ∃ q9 c9, v = .slice q9 ln c9
  | 7, v => v = .agg #[.int .i64 a, .int .i64 b]
  | 8, v => v = .int .i64 er
  | 10, v => ∃ q9 c9, v = .slice q9 ln c9
  | 12, v => v = .int .i64 er
  | _, _ => True
noncomputable def passed27 : Code := ((Tryd.f8.body.bind (findOne 27)).getD .skip)
theorem egf40_27 : ∀ args w, (callFunc 40 args).run Tryd.prog w = .ok (.enter 40 args) w := Go.Proofs.enters_of Tryd.func40 (by kernel_rfl) rfl
set_option maxHeartbeats 32000000 in
theorem Passed_27 (s : Sh) (m : Mem3) (B9 g n cap pt ln : Nat) (a b er : Int) (w : World) (hpt : pt < n) (hnc : n ≤ cap) (hK9 : w.heap[B9]? = some (.cells (shipA s m) 24 (0, 0)))
    (hcall : ∀ W, Below w.heap.size w W → Calls Tryd.prog 40 #[.agg (shipA s m), .slice (some ⟨g, 0 + pt * 10, none⟩) (n - pt) (cap - pt)] W fun e W' => ∃ q9 c9, e = .returned (.tuple #[.slice q9 ln c9, .agg #[.int .i64 a, .int .i64 b], .int .i64 er]) ∧ Below W.heap.size W W')
    (Q : Exit → Act → World → Prop) (x0 x1 x2 x3 x4 x5 x6 x7 x8 x10 x12 x13 x14 x15 x16 x18 x19 x20 x21 x22 x23 x24 x25 x26 x27 x28 x29 x30 x31 x32 x33 x34 x35 x36 x37 x38 x39 x40 x41 x42 x43 x44 x45 x46 x47 x48 x49 x50 x51 x52 x53 x54 x55 x56 x57 x58 x59 x60 x61 x62 x63 x64 x65 x66 x67 x68 x69 x70 x71 x72 x73 x74 x75 x76 x77 x78 x79 x80 x81 x82 x83 x84 x85 x86 x87 x88 x89 x90 x91 x92 x93 x94 x95 x96 x97 x98 x99 x100 x101 x102 x103 x104 x105 x106 x107 x108 x109 x110 x111 x112 x113 x114 x115 x116 x117 x118 x119 x120 x121 x122 x123 x124 x125 x126 x127 x128 x129 x130 x131 x132 x133 x134 x135 x136 x137 x138 x139 x140 x141 x142 x143 x144 x145 x146 x147 x148 x149 x150 x151 x152 x153 x154 x155 x156 x157 x158 x159 x160 x161 x162 x163 x164 x165 x166 x167 x168 x169 x170 x171 x172 x173 x174 x175 x176 x177 x178 x179 x180 x181 x182 x183 x184 x185 x186 x187 x188 x189 x190 x191 x192 x193 x194 x195 x196 x197 x198 x199 x200 x201 x202 x203 x204 x205 x206 x207 x208 x209 x210 x211 x212 x213 x214 x215 x216 x217 x218 x219 x220 x221 x222 x223 x224 x225 x226 x227 x228 x229 x230 x231 x232 x233 x234 x235 x236 x237 x238 x239 x240 x241 x242 x243 x244 x245 x246 x247 x248 x249 x250 x251 x252 x253 x254 x255 x256 x257 x258 x259 x260 x261 x262 x263 x264 x265 x266 x267 x268 x269 x270 x271 x272 x273 x274 x275 x276 x277 x278 x279 x280 x281 x282 x283 x284 x285 x286 x287 x288 x289 x290 x291 x292 : Value)
    (hQ : ∀ (q9 : Option Addr) (c9 B : Nat) (W : World) (y193 y194 y195 y196 y197 y192 y198 y199 y200 : Value), w.heap.size ≤ B → W.heap[B]? = some (.cells #[.int .i64 a, .int .i64 b] 57 (0, 0)) → Below w.heap.size w W → Q .normal ⟨#[x0, x1, x2, x3, x4, x5, x6, x7, x8, .pointer (some ⟨B9, 0, none⟩), x10, .slice (some ⟨g, 0, none⟩) n cap, x12, x13, x14, x15, x16, .int .i64 (pt : Int), x18, x19, x20, x21, x22, .slice q9 ln c9, .pointer (some ⟨B, 0, none⟩), .int .i64 er, x26, x27, x28, x29, x30, x31, x32, x33, x34, x35, x36, x37, x38, x39, x40, x41, x42, x43, x44, x45, x46, x47, x48, x49, x50, x51, x52, x53, x54, x55, x56, x57, x58, x59, x60, x61, x62, x63, x64, x65, x66, x67, x68, x69, x70, x71, x72, x73, x74, x75, x76, x77, x78, x79, x80, x81, x82, x83, x84, x85, x86, x87, x88, x89, x90, x91, x92, x93, x94, x95, x96, x97, x98, x99, x100, x101, x102, x103, x104, x105, x106, x107, x108, x109, x110, x111, x112, x113, x114, x115, x116, x117, x118, x119, x120, x121, x122, x123, x124, x125, x126, x127, x128, x129, x130, x131, x132, x133, x134, x135, x136, x137, x138, x139, x140, x141, x142, x143, x144, x145, x146, x147, x148, x149, x150, x151, x152, x153, x154, x155, x156, x157, x158, x159, x160, x161, x162, x163, x164, x165, x166, x167, x168, x169, x170, x171, x172, x173, x174, x175, x176, x177, x178, x179, x180, x181, x182, x183, x184, x185, x186, x187, x188, x189, x190, x191, y192, y193, y194, y195, y196, y197, y198, y199, y200, x201, x202, x203, x204, x205, x206, x207, x208, x209, x210, x211, x212, x213, x214, x215, x216, x217, x218, x219, x220, x221, x222, x223, x224, x225, x226, x227, x228, x229, x230, x231, x232, x233, x234, x235, x236, x237, x238, x239, x240, x241, x242, x243, x244, x245, x246, x247, x248, x249, x250, x251, x252, x253, x254, x255, x256, x257, x258, x259, x260, x261, x262, x263, x264, x265, x266, x267, x268, x269, x270, x271, x272, x273, x274, x275, x276, x277, x278, x279, x280, x281, x282, x283, x284, x285, x286, x287, x288, x289, x290, x291, x292], []⟩ W) :
    Code.wp Tryd.prog passed27 Q ⟨#[x0, x1, x2, x3, x4, x5, x6, x7, x8, .pointer (some ⟨B9, 0, none⟩), x10, .slice (some ⟨g, 0, none⟩) n cap, x12, x13, x14, x15, x16, .int .i64 (pt : Int), x18, x19, x20, x21, x22, x23, x24, x25, x26, x27, x28, x29, x30, x31, x32, x33, x34, x35, x36, x37, x38, x39, x40, x41, x42, x43, x44, x45, x46, x47, x48, x49, x50, x51, x52, x53, x54, x55, x56, x57, x58, x59, x60, x61, x62, x63, x64, x65, x66, x67, x68, x69, x70, x71, x72, x73, x74, x75, x76, x77, x78, x79, x80, x81, x82, x83, x84, x85, x86, x87, x88, x89, x90, x91, x92, x93, x94, x95, x96, x97, x98, x99, x100, x101, x102, x103, x104, x105, x106, x107, x108, x109, x110, x111, x112, x113, x114, x115, x116, x117, x118, x119, x120, x121, x122, x123, x124, x125, x126, x127, x128, x129, x130, x131, x132, x133, x134, x135, x136, x137, x138, x139, x140, x141, x142, x143, x144, x145, x146, x147, x148, x149, x150, x151, x152, x153, x154, x155, x156, x157, x158, x159, x160, x161, x162, x163, x164, x165, x166, x167, x168, x169, x170, x171, x172, x173, x174, x175, x176, x177, x178, x179, x180, x181, x182, x183, x184, x185, x186, x187, x188, x189, x190, x191, x192, x193, x194, x195, x196, x197, x198, x199, x200, x201, x202, x203, x204, x205, x206, x207, x208, x209, x210, x211, x212, x213, x214, x215, x216, x217, x218, x219, x220, x221, x222, x223, x224, x225, x226, x227, x228, x229, x230, x231, x232, x233, x234, x235, x236, x237, x238, x239, x240, x241, x242, x243, x244, x245, x246, x247, x248, x249, x250, x251, x252, x253, x254, x255, x256, x257, x258, x259, x260, x261, x262, x263, x264, x265, x266, x267, x268, x269, x270, x271, x272, x273, x274, x275, x276, x277, x278, x279, x280, x281, x282, x283, x284, x285, x286, x287, x288, x289, x290, x291, x292], []⟩ w := by
  conv => arg 2; whnf
  refine wp_region_fi [193, 194, 195, 196, 197, 192, 198, 199, 200, 24, 23, 1000, 25] (pF27 s m g n cap pt ln a b er) (W18 w a b) (by kernel_rfl) (by kernel_rfl) ?sz ?ts ?z ?val ?fin
  case sz => intro s hs h; simp at hs ⊢; omega
  case ts => simp
  case z => exact ⟨below_drawn w, (fun e => by cases e), (fun e => by cases e)⟩
  case val =>
    intro jj
    match jj with
    | 0 => intro o L V ho hL hd a' W hX hfr hdp; obtain rfl := Option.some.inj ho; exact opx_of (op_load11 rfl (hfr 9 (by decide)) ((hX.low.block _ (lt_of_block hK9)).trans hK9)) fun W' hb => ⟨rfl, (hX.later hb).set 0 (by decide) _⟩
    | 1 => intro o L V ho hL hd a' W hX hfr hdp; obtain rfl := Option.some.inj ho; exact opx_of (op_move rfl (hfr 11 (by decide))) fun W' hb => ⟨rfl, (hX.later hb).set 1 (by decide) _⟩
    | 2 => intro o L V ho hL hd a' W hX hfr hdp; obtain rfl := Option.some.inj ho; exact opx_of (op_move rfl (hfr 17 (by decide))) fun W' hb => ⟨rfl, (hX.later hb).set 2 (by decide) _⟩
    | 3 => intro o L V ho hL hd a' W hX hfr hdp; obtain rfl := Option.some.inj ho; exact opx_of (op_sllo hpt hnc rfl (Dp (hdp 1 194 (by decide) rfl (by kernel_rfl)) id) (Dp (hdp 2 195 (by decide) rfl (by kernel_rfl)) id)) fun W' hb => ⟨rfl, (hX.later hb).set 3 (by decide) _⟩
    | 4 =>
      intro o L V ho hL hd a' W hX hfr hdp; obtain rfl := Option.some.inj ho
      refine opx_call2g rfl (Dp (hdp 0 193 (by decide) rfl (by kernel_rfl)) id) (Dp (hdp 3 196 (by decide) rfl (by kernel_rfl)) id) egf40_27 ((hcall W hX.low).mono ?_)
      rintro e W' ⟨q9, c9, rfl, hb⟩
      exact ⟨_, rfl, ⟨q9, c9, rfl⟩, (hX.later hb).set 4 (by decide) _⟩
    | 5 =>
      intro o L V ho hL hd a' W hX hfr hdp; obtain rfl := Option.some.inj ho
      obtain ⟨e, q9, c9, e'⟩ := (hdp 4 197 (by decide) rfl (by kernel_rfl))
      exact opx_of (op_move rfl (e.trans e')) fun W' hb => ⟨⟨q9, c9, rfl⟩, (hX.later hb).set 5 (by decide) _⟩
    | 6 =>
      intro o L V ho hL hd a' W hX hfr hdp; obtain rfl := Option.some.inj ho
      obtain ⟨e, q9, c9, e'⟩ := (hdp 5 192 (by decide) rfl (by kernel_rfl))
      exact opx_extract rfl (e.trans e') rfl ⟨⟨q9, c9, rfl⟩, hX.set 6 (by decide) _⟩
    | 7 =>
      intro o L V ho hL hd a' W hX hfr hdp; obtain rfl := Option.some.inj ho
      obtain ⟨e, q9, c9, e'⟩ := (hdp 5 192 (by decide) rfl (by kernel_rfl))
      exact opx_extract rfl (e.trans e') rfl ⟨rfl, hX.set 7 (by decide) _⟩
    | 8 =>
      intro o L V ho hL hd a' W hX hfr hdp; obtain rfl := Option.some.inj ho
      obtain ⟨e, q9, c9, e'⟩ := (hdp 5 192 (by decide) rfl (by kernel_rfl))
      exact opx_extract rfl (e.trans e') rfl ⟨rfl, hX.set 8 (by decide) _⟩
    | 9 =>
      intro o L V ho hL hd a' W hX hfr hdp; obtain rfl := Option.some.inj ho
      have u1 : L 11 = false := by cases h : L 11 <;> first | rfl | (have k := hX.d h; rw [hL] at k; cases k)
      have hbl := (Below.refl W.heap.size W).alloc (Nat.le_refl _) (.cells #[.int .i64 0, .int .i64 0] 57)
      exact opx_alloc57 rfl ⟨trivial, hX.low.trans (hbl.mono hX.low.size), fun _ => ⟨W.heap.size, by simp, hX.low.size, 0, 0, block_new W _, fun e => by simp [u1] at e⟩, fun e => by simp⟩
    | 10 =>
      intro o L V ho hL hd a' W hX hfr hdp; obtain rfl := Option.some.inj ho
      obtain ⟨e, q9, c9, e'⟩ := (hdp 6 198 (by decide) rfl (by kernel_rfl))
      exact opx_of (op_assign rfl (e.trans e')) fun W' hb => ⟨⟨q9, c9, rfl⟩, (hX.later hb).set 10 (by decide) _⟩
    | 11 =>
      intro o L V ho hL hd a' W hX hfr hdp; obtain rfl := Option.some.inj ho
      have k9 := hd 9 (by kernel_rfl)
      obtain ⟨B, h1, h2, y, z, h3, h4⟩ := hX.bl k9
      have hv := (hdp 9 24 (by decide) rfl (by kernel_rfl)).1
      rw [h1] at hv
      exact opx_store57 rfl rfl hv (Dp (hdp 7 199 (by decide) rfl (by kernel_rfl)) id) h3 fun W' hb' hc => ⟨trivial, hX.low.trans (hc.below h2), fun _ => ⟨B, by simpa using h1, h2, a, b, hb', fun _ => ⟨rfl, rfl⟩⟩, fun _ => by simpa using k9⟩
    | 12 => intro o L V ho hL hd a' W hX hfr hdp; obtain rfl := Option.some.inj ho; exact opx_of (op_assign rfl (Dp (hdp 8 200 (by decide) rfl (by kernel_rfl)) id)) fun W' hb => ⟨rfl, (hX.later hb).set 12 (by decide) _⟩
    | j + 13 => intro o L V ho; simp at ho
  case fin =>
    intro W1 L V hL hF hI
    obtain ⟨B, h1, h2, y, z, h3, h4⟩ := hI.bl (hL 9 (by decide))
    obtain ⟨rfl, rfl⟩ := h4 (hL 11 (by decide))
    obtain ⟨q9, c9, h10⟩ : ∃ q9 c9, V 10 = .slice q9 ln c9 := hF 10 (by decide)
    have h12 : V 12 = .int .i64 er := hF 12 (by decide)
    have hlow := hI.low
    clear hI hF hL
    simp only [fill, Act.put, List.setIfInBounds_toArray, List.set_cons_zero, List.set_cons_succ, Nat.reduceAdd]
    rw [h1, h10, h12]
    exact hQ q9 c9 B W1 _ _ _ _ _ _ _ _ _ h2 h3 hlow
end Go.Proofs.YtcoiklolgilhaaaDoor
namespace Go.Proofs.YtcoiklolgilhaaaDoor
open Go.RowKit
set_option maxRecDepth 100000
theorem eg30w : ∀ args w, (callFunc 30 args).run Tryd.prog w = .ok (.enter 30 args) w := Go.Proofs.enters_of Tryd.func30 (by kernel_rfl) rfl
theorem eg34w : ∀ args w, (callFunc 34 args).run Tryd.prog w = .ok (.enter 34 args) w := Go.Proofs.enters_of Tryd.func34 (by kernel_rfl) rfl
theorem eg35w : ∀ args w, (callFunc 35 args).run Tryd.prog w = .ok (.enter 35 args) w := Go.Proofs.enters_of Tryd.func35 (by kernel_rfl) rfl

def pF22 (s : Sh) (m : Mem3) (B15 g n cap k0 : Nat) (q : Prt) : Nat → Value → Prop
  | 0, v => v = .agg (shipA s m)
  | 1, v => v = .slice (some ⟨g, 0, none⟩) n cap
  | 2, v => v = .pointer (some ⟨B15, 0, none⟩)
  | 3, v => v = .int .i64 (k0 : Int)
  | 4, v => v = .pointer (some ⟨g, 0 + k0 * 10, none⟩)
  | 5, v => v = .pointer (some ⟨g, 0 + k0 * 10 + 0, none⟩)
  | 6, v => v = .agg (cellV q.lo q.hi)
  | 7, v => v = .slice (some ⟨g, 0, none⟩) n cap
  | 8, v => v = .pointer (some ⟨B15, 0, none⟩)
  | 9, v => v = .int .i64 (k0 : Int)
  | 10, v => v = .pointer (some ⟨g, 0 + k0 * 10, none⟩)
  | 11, v => v = .pointer (some ⟨g, 0 + k0 * 10 + 8, none⟩)
  | 12, v => v = .bool q.ch
  | 13, v => v = .tuple #[.int .i64 (ssLo s q.lo q.hi q.ch), .int .i64 (pE s q)]
  | 14, v => v = .tuple #[.int .i64 (ssLo s q.lo q.hi q.ch), .int .i64 (pE s q)]
  | 15, v => v = .int .i64 (ssLo s q.lo q.hi q.ch)
  | 16, v => v = .int .i64 (pE s q)
  | 17, v => v = .int .i64 (ssLo s q.lo q.hi q.ch)
  | 18, v => v = .int .i64 (pE s q)
  | _, _ => True
noncomputable def passed22 : Code := ((Tryd.f8.body.bind (findOne 22)).getD .skip)
set_option maxHeartbeats 32000000 in
theorem Passed_22 (s : Sh) (m : Mem3) (B9 B15 g n cap k0 : Nat) (z : Int) (P : Nat → Prt) (w : World) (hk : k0 < n) (hc : chkP s = 0) (gp : GoodP (P k0)) (hK9 : w.heap[B9]? = some (.cells (shipA s m) 24 (0, 0))) (hK15 : w.heap[B15]? = some (.cells #[.int .i64 (k0 : Int), .int .i64 z] 57 (0, 0)))
    (hp : PartsIn w (some ⟨g, 0, none⟩) n P) (hS : ShipIn w s m) (hl : Lim w) (hst : Str w) (Q : Exit → Act → World → Prop) (x0 x1 x2 x3 x4 x5 x6 x7 x8 x10 x12 x13 x14 x16 x17 x18 x19 x20 x21 x22 x23 x24 x25 x26 x27 x28 x29 x30 x31 x32 x33 x34 x35 x36 x37 x38 x39 x40 x41 x42 x43 x44 x45 x46 x47 x48 x49 x50 x51 x52 x53 x54 x55 x56 x57 x58 x59 x60 x61 x62 x63 x64 x65 x66 x67 x68 x69 x70 x71 x72 x73 x74 x75 x76 x77 x78 x79 x80 x81 x82 x83 x84 x85 x86 x87 x88 x89 x90 x91 x92 x93 x94 x95 x96 x97 x98 x99 x100 x101 x102 x103 x104 x105 x106 x107 x108 x109 x110 x111 x112 x113 x114 x115 x116 x117 x118 x119 x120 x121 x122 x123 x124 x125 x126 x127 x128 x129 x130 x131 x132 x133 x134 x135 x136 x137 x138 x139 x140 x141 x142 x143 x144 x145 x146 x147 x148 x149 x150 x151 x152 x153 x154 x155 x156 x157 x158 x159 x160 x161 x162 x163 x164 x165 x166 x167 x168 x169 x170 x171 x172 x173 x174 x175 x176 x177 x178 x179 x180 x181 x182 x183 x184 x185 x186 x187 x188 x189 x190 x191 x192 x193 x194 x195 x196 x197 x198 x199 x200 x201 x202 x203 x204 x205 x206 x207 x208 x209 x210 x211 x212 x213 x214 x215 x216 x217 x218 x219 x220 x221 x222 x223 x224 x225 x226 x227 x228 x229 x230 x231 x232 x233 x234 x235 x236 x237 x238 x239 x240 x241 x242 x243 x244 x245 x246 x247 x248 x249 x250 x251 x252 x253 x254 x255 x256 x257 x258 x259 x260 x261 x262 x263 x264 x265 x266 x267 x268 x269 x270 x271 x272 x273 x274 x275 x276 x277 x278 x279 x280 x281 x282 x283 x284 x285 x286 x287 x288 x289 x290 x291 x292 : Value)
    (hQ : ∀ (W : World) (y125 y126 y127 y128 y129 y130 y131 y132 y133 y134 y135 y136 y137 y138 y124 y139 y140 : Value), Below w.heap.size w W → Q .normal ⟨#[x0, x1, x2, x3, x4, x5, x6, x7, x8, .pointer (some ⟨B9, 0, none⟩), x10, .slice (some ⟨g, 0, none⟩) n cap, x12, x13, x14, .pointer (some ⟨B15, 0, none⟩), x16, x17, x18, x19, x20, .int .i64 (ssLo s (P k0).lo (P k0).hi (P k0).ch), .int .i64 (pE s (P k0)), x23, x24, x25, x26, x27, x28, x29, x30, x31, x32, x33, x34, x35, x36, x37, x38, x39, x40, x41, x42, x43, x44, x45, x46, x47, x48, x49, x50, x51, x52, x53, x54, x55, x56, x57, x58, x59, x60, x61, x62, x63, x64, x65, x66, x67, x68, x69, x70, x71, x72, x73, x74, x75, x76, x77, x78, x79, x80, x81, x82, x83, x84, x85, x86, x87, x88, x89, x90, x91, x92, x93, x94, x95, x96, x97, x98, x99, x100, x101, x102, x103, x104, x105, x106, x107, x108, x109, x110, x111, x112, x113, x114, x115, x116, x117, x118, x119, x120, x121, x122, x123, y124, y125, y126, y127, y128, y129, y130, y131, y132, y133, y134, y135, y136, y137, y138, y139, y140, x141, x142, x143, x144, x145, x146, x147, x148, x149, x150, x151, x152, x153, x154, x155, x156, x157, x158, x159, x160, x161, x162, x163, x164, x165, x166, x167, x168, x169, x170, x171, x172, x173, x174, x175, x176, x177, x178, x179, x180, x181, x182, x183, x184, x185, x186, x187, x188, x189, x190, x191, x192, x193, x194, x195, x196, x197, x198, x199, x200, x201, x202, x203, x204, x205, x206, x207, x208, x209, x210, x211, x212, x213, x214, x215, x216, x217, x218, x219, x220, x221, x222, x223, x224, x225, x226, x227, x228, x229, x230, x231, x232, x233, x234, x235, x236, x237, x238, x239, x240, x241, x242, x243, x244, x245, x246, x247, x248, x249, x250, x251, x252, x253, x254, x255, x256, x257, x258, x259, x260, x261, x262, x263, x264, x265, x266, x267, x268, x269, x270, x271, x272, x273, x274, x275, x276, x277, x278, x279, x280, x281, x282, x283, x284, x285, x286, x287, x288, x289, x290, x291, x292], []⟩ W) :
    Code.wp Tryd.prog passed22 Q ⟨#[x0, x1, x2, x3, x4, x5, x6, x7, x8, .pointer (some ⟨B9, 0, none⟩), x10, .slice (some ⟨g, 0, none⟩) n cap, x12, x13, x14, .pointer (some ⟨B15, 0, none⟩), x16, x17, x18, x19, x20, x21, x22, x23, x24, x25, x26, x27, x28, x29, x30, x31, x32, x33, x34, x35, x36, x37, x38, x39, x40, x41, x42, x43, x44, x45, x46, x47, x48, x49, x50, x51, x52, x53, x54, x55, x56, x57, x58, x59, x60, x61, x62, x63, x64, x65, x66, x67, x68, x69, x70, x71, x72, x73, x74, x75, x76, x77, x78, x79, x80, x81, x82, x83, x84, x85, x86, x87, x88, x89, x90, x91, x92, x93, x94, x95, x96, x97, x98, x99, x100, x101, x102, x103, x104, x105, x106, x107, x108, x109, x110, x111, x112, x113, x114, x115, x116, x117, x118, x119, x120, x121, x122, x123, x124, x125, x126, x127, x128, x129, x130, x131, x132, x133, x134, x135, x136, x137, x138, x139, x140, x141, x142, x143, x144, x145, x146, x147, x148, x149, x150, x151, x152, x153, x154, x155, x156, x157, x158, x159, x160, x161, x162, x163, x164, x165, x166, x167, x168, x169, x170, x171, x172, x173, x174, x175, x176, x177, x178, x179, x180, x181, x182, x183, x184, x185, x186, x187, x188, x189, x190, x191, x192, x193, x194, x195, x196, x197, x198, x199, x200, x201, x202, x203, x204, x205, x206, x207, x208, x209, x210, x211, x212, x213, x214, x215, x216, x217, x218, x219, x220, x221, x222, x223, x224, x225, x226, x227, x228, x229, x230, x231, x232, x233, x234, x235, x236, x237, x238, x239, x240, x241, x242, x243, x244, x245, x246, x247, x248, x249, x250, x251, x252, x253, x254, x255, x256, x257, x258, x259, x260, x261, x262, x263, x264, x265, x266, x267, x268, x269, x270, x271, x272, x273, x274, x275, x276, x277, x278, x279, x280, x281, x282, x283, x284, x285, x286, x287, x288, x289, x290, x291, x292], []⟩ w := by
  have hpos := hl.pos
  have hpos1 := hst.pos
  have HPI := fun (W : World) (hW : Below w.heap.size w W) => (hp.later hW) k0 hk
  conv => arg 2; whnf
  refine wp_region_fi [125, 126, 127, 128, 129, 130, 131, 132, 133, 134, 135, 136, 137, 138, 124, 139, 140, 21, 22] (pF22 s m B15 g n cap k0 (P k0)) (fun _ _ W => Below w.heap.size w W) (by kernel_rfl) (by kernel_rfl) ?sz ?ts ?z ?val ?fin
  case sz => intro s hs h; simp at hs ⊢; omega
  case ts => simp
  case z => exact below_drawn w
  case val =>
    intro jj
    match jj with
    | 0 => intro o L V ho hL hd a' W hX hfr hdp; obtain rfl := Option.some.inj ho; exact opx_of (op_load11 rfl (hfr 9 (by decide)) ((hX.block _ (lt_of_block hK9)).trans hK9)) fun W' hb => ⟨rfl, hX.trans (hb.mono hX.size)⟩
    | 1 => intro o L V ho hL hd a' W hX hfr hdp; obtain rfl := Option.some.inj ho; exact opx_of (op_move rfl (hfr 11 (by decide))) fun W' hb => ⟨rfl, hX.trans (hb.mono hX.size)⟩
    | 2 => intro o L V ho hL hd a' W hX hfr hdp; obtain rfl := Option.some.inj ho; exact opx_of (op_fa57 rfl (hfr 15 (by decide)) (by decide)) fun W' hb => ⟨rfl, hX.trans (hb.mono hX.size)⟩
    | 3 => intro o L V ho hL hd a' W hX hfr hdp; obtain rfl := Option.some.inj ho; exact opx_of (op_load3o rfl (Dp (hdp 2 127 (by decide) rfl (by kernel_rfl)) id) ((cell_of_block ((hX.block _ (lt_of_block hK15)).trans hK15) 0).trans rfl)) fun W' hb => ⟨rfl, hX.trans (hb.mono hX.size)⟩
    | 4 => intro o L V ho hL hd a' W hX hfr hdp; obtain rfl := Option.some.inj ho; exact opx_of (op_idx84 hk rfl (Dp (hdp 1 126 (by decide) rfl (by kernel_rfl)) id) (Dp (hdp 3 128 (by decide) rfl (by kernel_rfl)) id)) fun W' hb => ⟨rfl, hX.trans (hb.mono hX.size)⟩
    | 5 => intro o L V ho hL hd a' W hX hfr hdp; obtain rfl := Option.some.inj ho; exact opx_of (op_fa86 (.inl ⟨rfl, rfl⟩) rfl (Dp (hdp 4 129 (by decide) rfl (by kernel_rfl)) id)) fun W' hb => ⟨rfl, hX.trans (hb.mono hX.size)⟩
    | 6 =>
      intro o L V ho hL hd a' W hX hfr hdp; obtain rfl := Option.some.inj ho
      obtain ⟨b, o, eq, hlt, h0, h1, h2, h3, h4, h5, h6, h7, h8, h9⟩ := HPI W hX
      simp only [Option.some.injEq, Addr.mk.injEq, and_true] at eq
      obtain ⟨rfl, rfl⟩ := eq
      exact opx_of (op_load8o rfl (Dp (hdp 5 130 (by decide) rfl (by kernel_rfl)) id) h0 h1 h2 h3 h4 h5 h6 h7) fun W' hb => ⟨rfl, hX.trans (hb.mono hX.size)⟩
    | 7 => intro o L V ho hL hd a' W hX hfr hdp; obtain rfl := Option.some.inj ho; exact opx_of (op_move rfl (hfr 11 (by decide))) fun W' hb => ⟨rfl, hX.trans (hb.mono hX.size)⟩
    | 8 => intro o L V ho hL hd a' W hX hfr hdp; obtain rfl := Option.some.inj ho; exact opx_of (op_fa57 rfl (hfr 15 (by decide)) (by decide)) fun W' hb => ⟨rfl, hX.trans (hb.mono hX.size)⟩
    | 9 => intro o L V ho hL hd a' W hX hfr hdp; obtain rfl := Option.some.inj ho; exact opx_of (op_load3o rfl (Dp (hdp 8 133 (by decide) rfl (by kernel_rfl)) id) ((cell_of_block ((hX.block _ (lt_of_block hK15)).trans hK15) 0).trans rfl)) fun W' hb => ⟨rfl, hX.trans (hb.mono hX.size)⟩
    | 10 => intro o L V ho hL hd a' W hX hfr hdp; obtain rfl := Option.some.inj ho; exact opx_of (op_idx84 hk rfl (Dp (hdp 7 132 (by decide) rfl (by kernel_rfl)) id) (Dp (hdp 9 134 (by decide) rfl (by kernel_rfl)) id)) fun W' hb => ⟨rfl, hX.trans (hb.mono hX.size)⟩
    | 11 => intro o L V ho hL hd a' W hX hfr hdp; obtain rfl := Option.some.inj ho; exact opx_of (op_fa86 (.inr (.inl ⟨rfl, rfl⟩)) rfl (Dp (hdp 10 135 (by decide) rfl (by kernel_rfl)) id)) fun W' hb => ⟨rfl, hX.trans (hb.mono hX.size)⟩
    | 12 =>
      intro o L V ho hL hd a' W hX hfr hdp; obtain rfl := Option.some.inj ho
      obtain ⟨b, o, eq, hlt, h0, h1, h2, h3, h4, h5, h6, h7, h8, h9⟩ := HPI W hX
      simp only [Option.some.injEq, Addr.mk.injEq, and_true] at eq
      obtain ⟨rfl, rfl⟩ := eq
      exact opx_of (op_load4o rfl (Dp (hdp 11 136 (by decide) rfl (by kernel_rfl)) id) h8) fun W' hb => ⟨rfl, hX.trans (hb.mono hX.size)⟩
    | 13 =>
      intro o L V ho hL hd a' W hX hfr hdp; obtain rfl := Option.some.inj ho
      refine opx_call3g rfl (Dp (hdp 0 125 (by decide) rfl (by kernel_rfl)) id) (Dp (hdp 6 131 (by decide) rfl (by kernel_rfl)) id) (Dp (hdp 12 137 (by decide) rfl (by kernel_rfl)) id) eg35w ((Safe_ex s m (P k0).lo (P k0).hi (P k0).ch W (hS.later hX) (hl.below hpos hX) (hst.below hpos1 hX) hc gp.c).mono ?_)
      rintro e W' ⟨A, E, rfl, rfl, rfl, hb⟩
      exact ⟨_, rfl, rfl, hX.trans (hb.mono hX.size)⟩
    | 14 => intro o L V ho hL hd a' W hX hfr hdp; obtain rfl := Option.some.inj ho; exact opx_of (op_move rfl (Dp (hdp 13 138 (by decide) rfl (by kernel_rfl)) id)) fun W' hb => ⟨rfl, hX.trans (hb.mono hX.size)⟩
    | 15 => intro o L V ho hL hd a' W hX hfr hdp; obtain rfl := Option.some.inj ho; exact opx_extract rfl (Dp (hdp 14 124 (by decide) rfl (by kernel_rfl)) id) rfl ⟨rfl, hX⟩
    | 16 => intro o L V ho hL hd a' W hX hfr hdp; obtain rfl := Option.some.inj ho; exact opx_extract rfl (Dp (hdp 14 124 (by decide) rfl (by kernel_rfl)) id) rfl ⟨rfl, hX⟩
    | 17 => intro o L V ho hL hd a' W hX hfr hdp; obtain rfl := Option.some.inj ho; exact opx_of (op_assign rfl (Dp (hdp 15 139 (by decide) rfl (by kernel_rfl)) id)) fun W' hb => ⟨rfl, hX.trans (hb.mono hX.size)⟩
    | 18 => intro o L V ho hL hd a' W hX hfr hdp; obtain rfl := Option.some.inj ho; exact opx_of (op_assign rfl (Dp (hdp 16 140 (by decide) rfl (by kernel_rfl)) id)) fun W' hb => ⟨rfl, hX.trans (hb.mono hX.size)⟩
    | j + 19 => intro o L V ho; simp at ho
  case fin =>
    intro W1 L V hL hF hI
    have h17 : V 17 = .int .i64 (ssLo s (P k0).lo (P k0).hi (P k0).ch) := hF 17 (by decide)
    have h18 : V 18 = .int .i64 (pE s (P k0)) := hF 18 (by decide)
    clear hF hL
    simp only [fill, Act.put, List.setIfInBounds_toArray, List.set_cons_zero, List.set_cons_succ, Nat.reduceAdd]
    rw [h17, h18]
    exact hQ W1 _ _ _ _ _ _ _ _ _ _ _ _ _ _ _ _ _ hI
def pF39 (s : Sh) (m : Mem3) (B28 : Nat) (pk : Option Addr) (kk ck : Nat) (q : Prt) : Nat → Value → Prop
  | 0, v => v = .agg (shipA s m)
  | 1, v => v = .pointer (some ⟨B28, 0 + 0, none⟩)
  | 2, v => v = .agg (cellV q.lo q.hi)
  | 3, v => v = .slice pk kk ck
  | 4, v => ∃ x, v = .agg (iceV x) ∧ InC q.lo q.hi x
  | 5, v => ∃ x, v = .agg (cellV x x) ∧ InC q.lo q.hi x
  | 6, v => v = .pointer (some ⟨B28, 0 + 8, none⟩)
  | 7, v => v = .bool q.ch
  | 8, v => ∃ u : Int, v = .tuple #[.int .i64 u, .int .i64 0] ∧ ssLo s q.lo q.hi q.ch ≤ u ∧ u ≤ ssHi s q.lo q.hi q.ch ∧ 10 ≤ u ∧ u ≤ 250
  | 9, v => ∃ u : Int, v = .tuple #[.int .i64 u, .int .i64 0] ∧ ssLo s q.lo q.hi q.ch ≤ u ∧ u ≤ ssHi s q.lo q.hi q.ch ∧ 10 ≤ u ∧ u ≤ 250
  | 10, v => ∃ u : Int, v = .int .i64 u ∧ ssLo s q.lo q.hi q.ch ≤ u ∧ u ≤ ssHi s q.lo q.hi q.ch ∧ 10 ≤ u ∧ u ≤ 250
  | 11, v => v = .int .i64 0
  | 12, v => ∃ u : Int, v = .int .i64 u ∧ ssLo s q.lo q.hi q.ch ≤ u ∧ u ≤ ssHi s q.lo q.hi q.ch ∧ 10 ≤ u ∧ u ≤ 250
  | 13, v => v = .int .i64 0
  | _, _ => True
noncomputable def passed39 : Code := ((Tryd.f8.body.bind (findOne 39)).getD .skip)
set_option maxHeartbeats 32000000 in
theorem Passed_39 (s : Sh) (m : Mem3) (B9 B28 : Nat) (pk : Option Addr) (kk ck : Nat) (q : Prt) (w : World) (hkk : kk ≤ 9223372036854775807) (hc : chkP s = 0) (gc : GoodC q.lo q.hi) (h0 : ssE s q.lo q.hi q.ch = 0) (hK9 : w.heap[B9]? = some (.cells (shipA s m) 24 (0, 0))) (hK28 : w.heap[B28]? = some (.cells (partV q) 86 (0, 0)))
    (hby : BytesIn w pk kk) (hS : ShipIn w s m) (hl : Lim w) (hst : Str w) (Q : Exit → Act → World → Prop) (x0 x1 x2 x3 x4 x5 x6 x7 x8 x10 x11 x12 x13 x14 x15 x16 x17 x18 x19 x20 x21 x22 x23 x24 x25 x26 x27 x30 x31 x32 x33 x34 x35 x36 x37 x38 x39 x40 x41 x42 x43 x44 x45 x46 x47 x48 x49 x50 x51 x52 x53 x54 x55 x56 x57 x58 x59 x60 x61 x62 x63 x64 x65 x66 x67 x68 x69 x70 x71 x72 x73 x74 x75 x76 x77 x78 x79 x80 x81 x82 x83 x84 x85 x86 x87 x88 x89 x90 x91 x92 x93 x94 x95 x96 x97 x98 x99 x100 x101 x102 x103 x104 x105 x106 x107 x108 x109 x110 x111 x112 x113 x114 x115 x116 x117 x118 x119 x120 x121 x122 x123 x124 x125 x126 x127 x128 x129 x130 x131 x132 x133 x134 x135 x136 x137 x138 x139 x140 x141 x142 x143 x144 x145 x146 x147 x148 x149 x150 x151 x152 x153 x154 x155 x156 x157 x158 x159 x160 x161 x162 x163 x164 x165 x166 x167 x168 x169 x170 x171 x172 x173 x174 x175 x176 x177 x178 x179 x180 x181 x182 x183 x184 x185 x186 x187 x188 x189 x190 x191 x192 x193 x194 x195 x196 x197 x198 x199 x200 x201 x202 x203 x204 x205 x206 x207 x208 x209 x210 x211 x212 x213 x214 x215 x216 x217 x218 x219 x220 x221 x222 x223 x224 x225 x226 x227 x228 x229 x230 x231 x232 x233 x234 x235 x236 x237 x238 x239 x240 x241 x242 x243 x244 x245 x246 x247 x248 x249 x250 x251 x252 x253 x254 x255 x256 x257 x258 x259 x260 x261 x262 x263 x264 x265 x266 x267 x268 x269 x270 x271 x272 x273 x274 x275 x276 x277 x278 x279 x280 x281 x282 x283 x284 x285 x286 x287 x288 x289 x290 x291 x292 : Value)
    (hQ : ∀ (v : Int) (W : World) (y244 y245 y246 y247 y248 y249 y250 y251 y252 y243 y253 y254 : Value), ssLo s q.lo q.hi q.ch ≤ v ∧ v ≤ ssHi s q.lo q.hi q.ch ∧ 10 ≤ v ∧ v ≤ 250 → Below w.heap.size w W → Q .normal ⟨#[x0, x1, x2, x3, x4, x5, x6, x7, x8, .pointer (some ⟨B9, 0, none⟩), x10, x11, x12, x13, x14, x15, x16, x17, x18, x19, x20, x21, x22, x23, x24, x25, x26, x27, .pointer (some ⟨B28, 0, none⟩), .slice pk kk ck, .int .i64 v, .int .i64 0, x32, x33, x34, x35, x36, x37, x38, x39, x40, x41, x42, x43, x44, x45, x46, x47, x48, x49, x50, x51, x52, x53, x54, x55, x56, x57, x58, x59, x60, x61, x62, x63, x64, x65, x66, x67, x68, x69, x70, x71, x72, x73, x74, x75, x76, x77, x78, x79, x80, x81, x82, x83, x84, x85, x86, x87, x88, x89, x90, x91, x92, x93, x94, x95, x96, x97, x98, x99, x100, x101, x102, x103, x104, x105, x106, x107, x108, x109, x110, x111, x112, x113, x114, x115, x116, x117, x118, x119, x120, x121, x122, x123, x124, x125, x126, x127, x128, x129, x130, x131, x132, x133, x134, x135, x136, x137, x138, x139, x140, x141, x142, x143, x144, x145, x146, x147, x148, x149, x150, x151, x152, x153, x154, x155, x156, x157, x158, x159, x160, x161, x162, x163, x164, x165, x166, x167, x168, x169, x170, x171, x172, x173, x174, x175, x176, x177, x178, x179, x180, x181, x182, x183, x184, x185, x186, x187, x188, x189, x190, x191, x192, x193, x194, x195, x196, x197, x198, x199, x200, x201, x202, x203, x204, x205, x206, x207, x208, x209, x210, x211, x212, x213, x214, x215, x216, x217, x218, x219, x220, x221, x222, x223, x224, x225, x226, x227, x228, x229, x230, x231, x232, x233, x234, x235, x236, x237, x238, x239, x240, x241, x242, y243, y244, y245, y246, y247, y248, y249, y250, y251, y252, y253, y254, x255, x256, x257, x258, x259, x260, x261, x262, x263, x264, x265, x266, x267, x268, x269, x270, x271, x272, x273, x274, x275, x276, x277, x278, x279, x280, x281, x282, x283, x284, x285, x286, x287, x288, x289, x290, x291, x292], []⟩ W) :
    Code.wp Tryd.prog passed39 Q ⟨#[x0, x1, x2, x3, x4, x5, x6, x7, x8, .pointer (some ⟨B9, 0, none⟩), x10, x11, x12, x13, x14, x15, x16, x17, x18, x19, x20, x21, x22, x23, x24, x25, x26, x27, .pointer (some ⟨B28, 0, none⟩), .slice pk kk ck, x30, x31, x32, x33, x34, x35, x36, x37, x38, x39, x40, x41, x42, x43, x44, x45, x46, x47, x48, x49, x50, x51, x52, x53, x54, x55, x56, x57, x58, x59, x60, x61, x62, x63, x64, x65, x66, x67, x68, x69, x70, x71, x72, x73, x74, x75, x76, x77, x78, x79, x80, x81, x82, x83, x84, x85, x86, x87, x88, x89, x90, x91, x92, x93, x94, x95, x96, x97, x98, x99, x100, x101, x102, x103, x104, x105, x106, x107, x108, x109, x110, x111, x112, x113, x114, x115, x116, x117, x118, x119, x120, x121, x122, x123, x124, x125, x126, x127, x128, x129, x130, x131, x132, x133, x134, x135, x136, x137, x138, x139, x140, x141, x142, x143, x144, x145, x146, x147, x148, x149, x150, x151, x152, x153, x154, x155, x156, x157, x158, x159, x160, x161, x162, x163, x164, x165, x166, x167, x168, x169, x170, x171, x172, x173, x174, x175, x176, x177, x178, x179, x180, x181, x182, x183, x184, x185, x186, x187, x188, x189, x190, x191, x192, x193, x194, x195, x196, x197, x198, x199, x200, x201, x202, x203, x204, x205, x206, x207, x208, x209, x210, x211, x212, x213, x214, x215, x216, x217, x218, x219, x220, x221, x222, x223, x224, x225, x226, x227, x228, x229, x230, x231, x232, x233, x234, x235, x236, x237, x238, x239, x240, x241, x242, x243, x244, x245, x246, x247, x248, x249, x250, x251, x252, x253, x254, x255, x256, x257, x258, x259, x260, x261, x262, x263, x264, x265, x266, x267, x268, x269, x270, x271, x272, x273, x274, x275, x276, x277, x278, x279, x280, x281, x282, x283, x284, x285, x286, x287, x288, x289, x290, x291, x292], []⟩ w := by
  have hpos := hl.pos
  have hpos1 := hst.pos
  have g := good_of hc
  have HC28 := fun (W : World) (hW : Below w.heap.size w W) => cells10 ((hW.block _ (lt_of_block hK28)).trans hK28)
  conv => arg 2; whnf
  refine wp_region_fi [244, 245, 246, 247, 248, 249, 250, 251, 252, 243, 253, 254, 30, 31] (pF39 s m B28 pk kk ck q) (fun _ _ W => Below w.heap.size w W) (by kernel_rfl) (by kernel_rfl) ?sz ?ts ?z ?val ?fin
  case sz => intro s hs h; simp at hs ⊢; omega
  case ts => simp
  case z => exact below_drawn w
  case val =>
    intro jj
    match jj with
    | 0 => intro o L V ho hL hd a' W hX hfr hdp; obtain rfl := Option.some.inj ho; exact opx_of (op_load11 rfl (hfr 9 (by decide)) ((hX.block _ (lt_of_block hK9)).trans hK9)) fun W' hb => ⟨rfl, hX.trans (hb.mono hX.size)⟩
    | 1 => intro o L V ho hL hd a' W hX hfr hdp; obtain rfl := Option.some.inj ho; exact opx_of (op_fa86 (.inl ⟨rfl, rfl⟩) rfl (hfr 28 (by decide))) fun W' hb => ⟨rfl, hX.trans (hb.mono hX.size)⟩
    | 2 =>
      intro o L V ho hL hd a' W hX hfr hdp; obtain rfl := Option.some.inj ho
      obtain ⟨c0, c1, c2, c3, c4, c5, c6, c7, c8, c9⟩ := HC28 W hX
      exact opx_of (op_load8o rfl (Dp (hdp 1 245 (by decide) rfl (by kernel_rfl)) id) c0 c1 c2 c3 c4 c5 c6 c7) fun W' hb => ⟨rfl, hX.trans (hb.mono hX.size)⟩
    | 3 => intro o L V ho hL hd a' W hX hfr hdp; obtain rfl := Option.some.inj ho; exact opx_of (op_move rfl (hfr 29 (by decide))) fun W' hb => ⟨rfl, hX.trans (hb.mono hX.size)⟩
    | 4 =>
      intro o L V ho hL hd a' W hX hfr hdp; obtain rfl := Option.some.inj ho
      refine opx_call2g rfl (Dp (hdp 2 246 (by decide) rfl (by kernel_rfl)) id) (Dp (hdp 3 247 (by decide) rfl (by kernel_rfl)) id) eg30w ((Some_any q.lo q.hi gc pk kk ck hkk W (hby.later hX)).mono ?_)
      rintro e W' ⟨x, rfl, hx, hb⟩
      exact ⟨_, rfl, ⟨x, rfl, hx⟩, hX.trans (hb.mono hX.size)⟩
    | 5 =>
      intro o L V ho hL hd a' W hX hfr hdp; obtain rfl := Option.some.inj ho
      obtain ⟨e, x, e', hx⟩ := (hdp 4 248 (by decide) rfl (by kernel_rfl))
      refine opx_callu_w rfl (e.trans e') eg34w ((Just_any x W).mono ?_)
      rintro e W' ⟨rfl, hb⟩
      exact ⟨_, rfl, ⟨x, rfl, hx⟩, hX.trans (hb.mono hX.size)⟩
    | 6 => intro o L V ho hL hd a' W hX hfr hdp; obtain rfl := Option.some.inj ho; exact opx_of (op_fa86 (.inr (.inl ⟨rfl, rfl⟩)) rfl (hfr 28 (by decide))) fun W' hb => ⟨rfl, hX.trans (hb.mono hX.size)⟩
    | 7 =>
      intro o L V ho hL hd a' W hX hfr hdp; obtain rfl := Option.some.inj ho
      obtain ⟨c0, c1, c2, c3, c4, c5, c6, c7, c8, c9⟩ := HC28 W hX
      exact opx_of (op_load4o rfl (Dp (hdp 6 250 (by decide) rfl (by kernel_rfl)) id) c8) fun W' hb => ⟨rfl, hX.trans (hb.mono hX.size)⟩
    | 8 =>
      intro o L V ho hL hd a' W hX hfr hdp; obtain rfl := Option.some.inj ho
      obtain ⟨e, x, e', hx⟩ := (hdp 5 249 (by decide) rfl (by kernel_rfl))
      have gx := hx.good gc
      have gxx : GoodC x x := ⟨gx, gx, ⟨Int.le_refl _, Int.le_refl _, Int.le_refl _, Int.le_refl _⟩⟩
      obtain ⟨z1, z2, z3, z4, z5⟩ := safe_in g gc h0 hx
      refine opx_call3g rfl (Dp (hdp 0 244 (by decide) rfl (by kernel_rfl)) id) (e.trans e') (Dp (hdp 7 251 (by decide) rfl (by kernel_rfl)) id) eg35w ((Safe_ex s m x x q.ch W (hS.later hX) (hl.below hpos hX) (hst.below hpos1 hX) hc gxx).mono ?_)
      rintro e W' ⟨A, E, rfl, rfl, rfl, hb⟩
      rw [z1]
      exact ⟨_, rfl, ⟨_, rfl, z2, z3, by omega, by omega⟩, hX.trans (hb.mono hX.size)⟩
    | 9 =>
      intro o L V ho hL hd a' W hX hfr hdp; obtain rfl := Option.some.inj ho
      obtain ⟨e, u, e', hu⟩ := (hdp 8 252 (by decide) rfl (by kernel_rfl))
      exact opx_of (op_move rfl (e.trans e')) fun W' hb => ⟨⟨u, rfl, hu⟩, hX.trans (hb.mono hX.size)⟩
    | 10 =>
      intro o L V ho hL hd a' W hX hfr hdp; obtain rfl := Option.some.inj ho
      obtain ⟨e, u, e', hu⟩ := (hdp 9 243 (by decide) rfl (by kernel_rfl))
      exact opx_extract rfl (e.trans e') rfl ⟨⟨u, rfl, hu⟩, hX⟩
    | 11 =>
      intro o L V ho hL hd a' W hX hfr hdp; obtain rfl := Option.some.inj ho
      obtain ⟨e, u, e', hu⟩ := (hdp 9 243 (by decide) rfl (by kernel_rfl))
      exact opx_extract rfl (e.trans e') rfl ⟨rfl, hX⟩
    | 12 =>
      intro o L V ho hL hd a' W hX hfr hdp; obtain rfl := Option.some.inj ho
      obtain ⟨e, u, e', hu⟩ := (hdp 10 253 (by decide) rfl (by kernel_rfl))
      exact opx_of (op_assign rfl (e.trans e')) fun W' hb => ⟨⟨u, rfl, hu⟩, hX.trans (hb.mono hX.size)⟩
    | 13 => intro o L V ho hL hd a' W hX hfr hdp; obtain rfl := Option.some.inj ho; exact opx_of (op_assign rfl (Dp (hdp 11 254 (by decide) rfl (by kernel_rfl)) id)) fun W' hb => ⟨rfl, hX.trans (hb.mono hX.size)⟩
    | j + 14 => intro o L V ho; simp at ho
  case fin =>
    intro W1 L V hL hF hI
    obtain ⟨u, h12, hu⟩ : ∃ u : Int, V 12 = .int .i64 u ∧ ssLo s q.lo q.hi q.ch ≤ u ∧ u ≤ ssHi s q.lo q.hi q.ch ∧ 10 ≤ u ∧ u ≤ 250 := hF 12 (by decide)
    have h13 : V 13 = .int .i64 0 := hF 13 (by decide)
    clear hF hL
    simp only [fill, Act.put, List.setIfInBounds_toArray, List.set_cons_zero, List.set_cons_succ, Nat.reduceAdd]
    rw [h12, h13]
    exact hQ u W1 _ _ _ _ _ _ _ _ _ _ _ _ hu hI
end Go.Proofs.YtcoiklolgilhaaaDoor
