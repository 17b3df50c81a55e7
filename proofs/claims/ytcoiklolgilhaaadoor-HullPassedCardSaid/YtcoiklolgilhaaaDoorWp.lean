/- The law HullPassed where a part has no safe speed. The law HullPassed, its end: whatever ice of its cell each part has. The law HullPassed where all parts have a safe speed: the pieces of the leg. The law HullPassed, its beginning: the parts are drawn. How a slice of bytes among the arguments is opened, with its capacity. -/
import Derived.Test.YtcoiklolgilhaaaDoorWo
import Derived.Test.YtcoiklolgilhaaaDoorQl
namespace Go.Proofs.YtcoiklolgilhaaaDoor
open Go.RowKit
set_option maxRecDepth 100000
noncomputable def passed16 : Code := ((Tryd.f8.body.bind (findReg 16)).getD .skip)
/-- what the law knows where the parts are drawn -/
structure PassIn (s : Sh) (m : Mem3) (B9 g n cap : Nat) (P : Nat → Prt) (w : World) : Prop where
  S : ShipIn w s m
  K9 : w.heap[B9]? = some (.cells (shipA s m) 24 (0, 0))
  p : PartsIn w (some ⟨g, 0, none⟩) n P
theorem PassIn.later {s : Sh} {m : Mem3} {B9 g n cap : Nat} {P : Nat → Prt} {w W : World} (h : PassIn s m B9 g n cap P w) (hb : Below w.heap.size w W) : PassIn s m B9 g n cap P W :=
  ⟨h.S.later hb, (hb.block _ (lt_of_block h.K9)).trans h.K9, h.p.later hb⟩
set_option maxHeartbeats 32000000 in
theorem Passed_err (s : Sh) (m : Mem3) (B9 g n cap : Nat) (P : Nat → Prt) (k0 : Nat) (E ct : Int) (w0 w : World) (hl : Lim w0) (hst : Str w0) (hc : chkP s = 0) (hB : Below w0.heap.size w0 w) (hin : PassIn s m B9 g n cap P w) (h1 : 1 ≤ n) (h8 : n ≤ 8) (hnc : n ≤ cap) (gp : ∀ j, j < n → GoodP (P j)) (hk : k0 < n) (hto : LegTo s P k0) (hE : pE s (P k0) = E) (hE2 : E = 4 ∨ E = 41) (pt : Nat) (hpt : wrap64 (1 + ct % (n : Int)) = (pt : Int)) (hpt1 : 1 ≤ pt) (hptn : pt ≤ n) (ht : 0 ≤ ct ∧ ct < 256)
    (x0 x1 x2 x4 x5 x6 x7 x8 x10 x12 x13 x14 x15 x16 x17 x18 x19 x20 x21 x22 x23 x24 x25 x26 x27 x28 x29 x30 x31 x32 x33 x34 x35 x36 x37 x38 x39 x40 x41 x42 x43 x44 x45 x46 x47 x48 x49 x50 x51 x52 x53 x54 x55 x56 x57 x58 x59 x60 x61 x62 x63 x64 x65 x66 x67 x68 x69 x70 x71 x72 x73 x74 x75 x76 x77 x78 x79 x80 x81 x82 x83 x84 x85 x86 x87 x88 x89 x90 x91 x92 x93 x94 x95 x96 x97 x98 x99 x100 x101 x102 x103 x104 x105 x106 x107 x108 x109 x110 x111 x112 x113 x114 x115 x116 x117 x118 x119 x120 x121 x122 x123 x124 x125 x126 x127 x128 x129 x130 x131 x132 x133 x134 x135 x136 x137 x138 x139 x140 x141 x142 x143 x144 x145 x146 x147 x148 x149 x150 x151 x152 x153 x154 x155 x156 x157 x158 x159 x160 x161 x162 x163 x164 x165 x166 x167 x168 x169 x170 x171 x172 x173 x174 x175 x176 x177 x178 x179 x180 x181 x182 x183 x184 x185 x186 x187 x188 x189 x190 x191 x192 x193 x194 x195 x196 x197 x198 x199 x200 x201 x202 x203 x204 x205 x206 x207 x208 x209 x210 x211 x212 x213 x214 x215 x216 x217 x218 x219 x220 x221 x222 x223 x224 x225 x226 x227 x228 x229 x230 x231 x232 x233 x234 x235 x236 x237 x238 x239 x240 x241 x242 x243 x244 x245 x246 x247 x248 x249 x250 x251 x252 x253 x254 x255 x256 x257 x258 x259 x260 x261 x262 x263 x264 x265 x266 x267 x268 x269 x270 x271 x272 x273 x274 x275 x276 x277 x278 x279 x280 x281 x282 x283 x284 x285 x286 x287 x288 x289 x290 x291 x292 : Value) :
    Code.wp Tryd.prog passed16 (bodyPost Tryd.prog Tryd.f8 fun e w' => e = .returned (.bool true) ∧ Below w0.heap.size w0 w') ⟨#[x0, x1, x2, .int .u8 ct, x4, x5, x6, x7, x8, .pointer (some ⟨B9, 0, none⟩), x10, .slice (some ⟨g, 0, none⟩) n cap, x12, x13, x14, x15, x16, x17, x18, x19, x20, x21, x22, x23, x24, x25, x26, x27, x28, x29, x30, x31, x32, x33, x34, x35, x36, x37, x38, x39, x40, x41, x42, x43, x44, x45, x46, x47, x48, x49, x50, x51, x52, x53, x54, x55, x56, x57, x58, x59, x60, x61, x62, x63, x64, x65, x66, x67, x68, x69, x70, x71, x72, x73, x74, x75, x76, x77, x78, x79, x80, x81, x82, x83, x84, x85, x86, x87, x88, x89, x90, x91, x92, x93, x94, x95, x96, x97, x98, x99, x100, x101, x102, x103, x104, x105, x106, x107, x108, x109, x110, x111, x112, x113, x114, x115, x116, x117, x118, x119, x120, x121, x122, x123, x124, x125, x126, x127, x128, x129, x130, x131, x132, x133, x134, x135, x136, x137, x138, x139, x140, x141, x142, x143, x144, x145, x146, x147, x148, x149, x150, x151, x152, x153, x154, x155, x156, x157, x158, x159, x160, x161, x162, x163, x164, x165, x166, x167, x168, x169, x170, x171, x172, x173, x174, x175, x176, x177, x178, x179, x180, x181, x182, x183, x184, x185, x186, x187, x188, x189, x190, x191, x192, x193, x194, x195, x196, x197, x198, x199, x200, x201, x202, x203, x204, x205, x206, x207, x208, x209, x210, x211, x212, x213, x214, x215, x216, x217, x218, x219, x220, x221, x222, x223, x224, x225, x226, x227, x228, x229, x230, x231, x232, x233, x234, x235, x236, x237, x238, x239, x240, x241, x242, x243, x244, x245, x246, x247, x248, x249, x250, x251, x252, x253, x254, x255, x256, x257, x258, x259, x260, x261, x262, x263, x264, x265, x266, x267, x268, x269, x270, x271, x272, x273, x274, x275, x276, x277, x278, x279, x280, x281, x282, x283, x284, x285, x286, x287, x288, x289, x290, x291, x292], []⟩ w := by
  have HLM := Lib.hid hl
  have HST := Lib.hid hst
  have hpos := hl.pos
  have hpos1 := hst.pos
  have HC := Lib.hid hc
  have HB := Lib.hid hB
  have HI := Lib.hid hin
  have HK9 := Lib.hid hin.K9
  have HGP := Lib.hid gp
  have HTO := Lib.hid hto
  have HE := Lib.hid hE
  have HE2 := Lib.hid hE2
  have HPT := Lib.hid hpt
  clear hl hst hc hB hin gp hto hE hE2 hpt
  conv => arg 2; whnf
  obtain ⟨m0, m1, m2, m3, m4, m5, m6, m7, m8, m9, m10⟩ := cells11 HK9.out
  have hne0 : pE s (P k0) ≠ 0 := by rw [HE.out]; rcases HE2.out with h | h <;> rw [h] <;> decide
  have HNE := Lib.hid hne0
  clear hne0
  have hn0 : (0 : Int) < (n : Int) := by omega
  go_wp2_with fail
  refine (Leg_bad s m _ n cap P _ HC.out h1 (by omega) HGP.out HI.out.S HI.out.p (HLM.out.below hpos HB.out) (HST.out.below hpos1 HB.out) k0 hk HTO.out HNE.out).mono ?_
  rw [HE.out]
  rintro e V1 ⟨q9, c9, rfl, hb⟩
  clear m0 m1 m2 m3 m4 m5 m6 m7 m8 m9 m10
  replace HK9 := Lib.hid ((hb.block _ (lt_of_block HK9.out)).trans HK9.out)
  replace HI := Lib.hid (HI.out.later hb)
  replace HB := Lib.hid (HB.out.trans (hb.mono HB.out.size))
  clear hb
  have hba := (Below.refl V1.heap.size V1).alloc (Nat.le_refl _) Z57
  have HZ := Lib.hid (block_new V1 Z57)
  go_wp2_with (refine list_store2 rfl rfl rfl (.inr (.inr rfl)) rfl rfl HZ.out ?_; intro V2 hz hc; have hb := hba.trans (hc.below (Nat.le_refl _)); have HK15 := Lib.hid hz; replace HK9 := Lib.hid ((hb.block _ (lt_of_block HK9.out)).trans HK9.out); replace HI := Lib.hid (HI.out.later hb); replace HB := Lib.hid (HB.out.trans (hb.mono HB.out.size)); clear hb hz hc HZ hba; obtain ⟨⟨t0, t1⟩, _⟩ := cells2 HK15.out)
  rw [HPT.out]
  by_cases hkp : k0 < pt
  · clear t0 t1
    show Code.wp Tryd.prog passed18 _ _ _
    apply Passed_18 s m B9 g n cap pt 0 ((k0 : Int)) (0) (E) _ (by omega) HK9.out (fun W hW => by have z := Leg_bad s m (some ⟨g, 0, none⟩) pt cap P W HC.out hpt1 (by omega) (fun j hj => HGP.out j (by omega)) (HI.out.S.later hW) ((HI.out.p.later hW).pre hptn) (HLM.out.below hpos (HB.out.trans (hW.mono HB.out.size))) (HST.out.below hpos1 (HB.out.trans (hW.mono HB.out.size))) k0 hkp HTO.out HNE.out; rw [HE.out] at z; exact z)
    intro q8 c8 B19 V3 y96 y97 y98 y99 y100 y95 y101 y102 y103 hB19 hK19 hb
    replace HK9 := Lib.hid ((hb.block _ (lt_of_block HK9.out)).trans HK9.out)
    replace HK15 := Lib.hid ((hb.block _ (lt_of_block HK15.out)).trans HK15.out)
    replace HI := Lib.hid (HI.out.later hb)
    replace HB := Lib.hid (HB.out.trans (hb.mono HB.out.size))
    clear hb
    have HK19 := Lib.hid hK19
    clear hK19
    have f0 : ¬ ((k0 : Int) < 0) := by omega
    have f1 : ¬ ((n : Int) ≤ (k0 : Int)) := by omega
    have f2 : (k0 : Int) < (n : Int) := by omega
    have f3 : (k0 : Int) < (pt : Int) := by omega
    rcases HE2.out with rfl | rfl
    all_goals
      clear HE2
      obtain ⟨⟨t0, t1⟩, _⟩ := cells2 HK15.out
      go_wp2_with fail
      clear t0 t1
      show Code.wp Tryd.prog passed22 _ _ _
      apply Passed_22 s m B9 _ g n cap k0 0 P _ hk HC.out (HGP.out k0 hk) HK9.out HK15.out HI.out.p HI.out.S (HLM.out.below hpos HB.out) (HST.out.below hpos1 HB.out)
      rw [HE.out]
      intro V4 y125 y126 y127 y128 y129 y130 y131 y132 y133 y134 y135 y136 y137 y138 y124 y139 y140 hb
      replace HK9 := Lib.hid ((hb.block _ (lt_of_block HK9.out)).trans HK9.out)
      replace HK15 := Lib.hid ((hb.block _ (lt_of_block HK15.out)).trans HK15.out)
      replace HK19 := Lib.hid ((hb.block _ (lt_of_block HK19.out)).trans HK19.out)
      replace HI := Lib.hid (HI.out.later hb)
      replace HB := Lib.hid (HB.out.trans (hb.mono HB.out.size))
      clear hb
      obtain ⟨⟨t0, t1⟩, _⟩ := cells2 HK15.out
      obtain ⟨⟨u0, u1⟩, _⟩ := cells2 HK19.out
      go_wp2_with fail
      refine (awake_any V4 (HLM.out.below hpos HB.out) (HST.out.below hpos1 HB.out)).mono ?_
      rintro e We ⟨rfl, hb⟩
      have HBE := Lib.hid (HB.out.trans (hb.mono HB.out.size))
      clear hb
      go_wp2_with fail
      go_ret
      exact ⟨by first | rfl | (have z : decide (pt ≤ k0) = false := decide_eq_false (by omega); show Ending.returned (Value.bool (!decide (pt ≤ k0))) = _; rw [z]; rfl), HBE.out⟩
  · clear t0 t1
    show Code.wp Tryd.prog passed18 _ _ _
    apply Passed_18 s m B9 g n cap pt pt (legLo s P pt) (legHi s P pt) (0) _ (by omega) HK9.out (fun W hW => (Leg_good s m (some ⟨g, 0, none⟩) pt cap P W HC.out hpt1 (by omega) (fun j hj => HGP.out j (by omega)) (HI.out.S.later hW) ((HI.out.p.later hW).pre hptn) (HLM.out.below hpos (HB.out.trans (hW.mono HB.out.size))) (HST.out.below hpos1 (HB.out.trans (hW.mono HB.out.size))) (fun j hj => HTO.out j (by omega))).mono (fun e w' ⟨q9, c9, h1, _, h3⟩ => ⟨q9, c9, h1, h3⟩))
    intro q8 c8 B19 V3 y96 y97 y98 y99 y100 y95 y101 y102 y103 hB19 hK19 hb
    replace HK9 := Lib.hid ((hb.block _ (lt_of_block HK9.out)).trans HK9.out)
    replace HK15 := Lib.hid ((hb.block _ (lt_of_block HK15.out)).trans HK15.out)
    replace HI := Lib.hid (HI.out.later hb)
    replace HB := Lib.hid (HB.out.trans (hb.mono HB.out.size))
    clear hb
    have HK19 := Lib.hid hK19
    clear hK19
    have f0 : ¬ ((k0 : Int) < 0) := by omega
    have f1 : ¬ ((n : Int) ≤ (k0 : Int)) := by omega
    have f2 : (k0 : Int) < (n : Int) := by omega
    have f3 : ¬ (k0 : Int) < (pt : Int) := by omega
    rcases HE2.out with rfl | rfl
    all_goals
      clear HE2
      obtain ⟨⟨t0, t1⟩, _⟩ := cells2 HK15.out
      go_wp2_with fail
      clear t0 t1
      show Code.wp Tryd.prog passed22 _ _ _
      apply Passed_22 s m B9 _ g n cap k0 0 P _ hk HC.out (HGP.out k0 hk) HK9.out HK15.out HI.out.p HI.out.S (HLM.out.below hpos HB.out) (HST.out.below hpos1 HB.out)
      rw [HE.out]
      intro V4 y125 y126 y127 y128 y129 y130 y131 y132 y133 y134 y135 y136 y137 y138 y124 y139 y140 hb
      replace HK9 := Lib.hid ((hb.block _ (lt_of_block HK9.out)).trans HK9.out)
      replace HK15 := Lib.hid ((hb.block _ (lt_of_block HK15.out)).trans HK15.out)
      replace HK19 := Lib.hid ((hb.block _ (lt_of_block HK19.out)).trans HK19.out)
      replace HI := Lib.hid (HI.out.later hb)
      replace HB := Lib.hid (HB.out.trans (hb.mono HB.out.size))
      clear hb
      obtain ⟨⟨t0, t1⟩, _⟩ := cells2 HK15.out
      obtain ⟨⟨u0, u1⟩, _⟩ := cells2 HK19.out
      go_wp2_with fail
      refine (awake_any V4 (HLM.out.below hpos HB.out) (HST.out.below hpos1 HB.out)).mono ?_
      rintro e We ⟨rfl, hb⟩
      have HBE := Lib.hid (HB.out.trans (hb.mono HB.out.size))
      clear hb
      go_wp2_with fail
      go_ret
      exact ⟨by first | rfl | (have z : decide (pt ≤ k0) = false := decide_eq_false (by omega); show Ending.returned (Value.bool (!decide (pt ≤ k0))) = _; rw [z]; rfl), HBE.out⟩
end Go.Proofs.YtcoiklolgilhaaaDoor
namespace Go.Proofs.YtcoiklolgilhaaaDoor
open Go.RowKit
set_option maxRecDepth 100000
noncomputable def passed32 : Code := ((Tryd.f8.body.bind (findReg 32)).getD .skip)
/-- the speeds of a leg lie in memory -/
def SpdIn (W : World) (q : Option Addr) (n : Nat) (s : Sh) (P : Nat → Prt) : Prop := ∀ j, j < n → ∃ b o, q = some ⟨b, o, none⟩ ∧ b < W.heap.size ∧ W.cell? ⟨b, o + j, none⟩ = some (.int .i64 (ssLo s (P j).lo (P j).hi (P j).ch))
theorem SpdIn.later {w W : World} {q : Option Addr} {n : Nat} {s : Sh} {P : Nat → Prt} (h : SpdIn w q n s P) (hb : Below w.heap.size w W) : SpdIn W q n s P := fun j hj => by
  obtain ⟨b, o, e, hlt, h1⟩ := h j hj
  exact ⟨b, o, e, Nat.lt_of_lt_of_le hlt hb.size, (hb.cell (p := ⟨b, o + j, none⟩) hlt).trans h1⟩
theorem spdL_get (s : Sh) (P : Nat → Prt) : ∀ n j, j < n → (spdL s P n)[j]? = some (.int .i64 (ssLo s (P j).lo (P j).hi (P j).ch))
  | 0, j, h => by omega
  | n + 1, j, h => by
    unfold spdL
    by_cases e : j < n
    · rw [List.getElem?_append_left (by rw [spdL_len]; exact e)]
      exact spdL_get s P n j e
    · obtain rfl : j = n := by omega
      rw [List.getElem?_append_right (by rw [spdL_len]; omega), spdL_len]
      simp
theorem spd_in {W : World} {base n c : Nat} {q : Option Addr} {s : Sh} {P : Nat → Prt} (h : W.ownsRow base 3 1 (.slice q n c) n (spdL s P n)) : SpdIn W q n s P := fun j hj => by
  rcases h.2 with ⟨_, e2⟩ | ⟨g, cap, cur, e1, _, hg, hn, _, hsz, htk⟩
  · rw [e2] at hj; omega
  · simp only [Value.slice.injEq] at e1
    obtain ⟨rfl, _, _⟩ := e1
    have get : ∀ j, j < n * 1 → cur[j]? = (spdL s P n)[j]? := fun j hj => by
      rw [← htk, List.getElem?_take_of_lt hj, Array.getElem?_toList]
    refine ⟨g, 0, rfl, lt_of_block hg, ?_⟩
    rw [Nat.zero_add]
    exact (cell_of_block hg _).trans ((get _ (by omega)).trans (spdL_get s P n j hj))
theorem BytesIn.suf {W : World} {b o k a : Nat} (h : BytesIn W (some ⟨b, o, none⟩) k) (ha : a ≤ k) : BytesIn W (some ⟨b, o + a, none⟩) (k - a) := fun i hi => by
  obtain ⟨b', o', x, e, hlt, h0, h1, h2⟩ := h (a + i) (by omega)
  simp only [Option.some.injEq, Addr.mk.injEq, and_true] at e
  obtain ⟨rfl, rfl⟩ := e
  exact ⟨b, o + a, x, rfl, hlt, h0, h1, by rw [Nat.add_assoc]; exact h2⟩
set_option maxHeartbeats 32000000 in
theorem Passed_32 (s : Sh) (m : Mem3) (B9 B15 g n cap cs : Nat) (qs : Option Addr) (P : Nat → Prt) (p3 : Option Addr) (k3 cap3 : Nat) (w0 w : World) (hl : Lim w0) (hst : Str w0) (hc : chkP s = 0) (hB : Below w0.heap.size w0 w) (hin : PassIn s m B9 g n cap P w) (h8 : n ≤ 8) (gp : ∀ j, j < n → GoodP (P j)) (hto : LegTo s P n)
    (hk3 : k3 ≤ 9223372036854775807) (hkc : k3 ≤ cap3) (h3 : BytesIn w p3 k3) (hK15 : w.heap[B15]? = some (.cells #[.int .i64 (legLo s P n), .int .i64 (legHi s P n)] 57 (0, 0))) (hsp : SpdIn w qs n s P)
    (x0 x1 x3 x4 x5 x6 x7 x8 x10 x12 x13 x16 x17 x18 x19 x20 x21 x22 x23 x24 x25 x26 x27 x28 x29 x30 x31 x32 x33 x34 x35 x36 x37 x38 x39 x40 x41 x42 x43 x44 x45 x46 x47 x48 x49 x50 x51 x52 x53 x54 x55 x56 x57 x58 x59 x60 x61 x62 x63 x64 x65 x66 x67 x68 x69 x70 x71 x72 x73 x74 x75 x76 x77 x78 x79 x80 x81 x82 x83 x84 x85 x86 x87 x88 x89 x90 x91 x92 x93 x94 x95 x96 x97 x98 x99 x100 x101 x102 x103 x104 x105 x106 x107 x108 x109 x110 x111 x112 x113 x114 x115 x116 x117 x118 x119 x120 x121 x122 x123 x124 x125 x126 x127 x128 x129 x130 x131 x132 x133 x134 x135 x136 x137 x138 x139 x140 x141 x142 x143 x144 x145 x146 x147 x148 x149 x150 x151 x152 x153 x154 x155 x156 x157 x158 x159 x160 x161 x162 x163 x164 x165 x166 x167 x168 x169 x170 x171 x172 x173 x174 x175 x176 x177 x178 x179 x180 x181 x182 x183 x184 x185 x186 x187 x188 x189 x190 x191 x192 x193 x194 x195 x196 x197 x198 x199 x200 x201 x202 x203 x204 x205 x206 x207 x208 x209 x210 x211 x212 x213 x214 x215 x216 x217 x218 x219 x220 x221 x222 x223 x224 x225 x226 x227 x228 x229 x230 x231 x232 x233 x234 x235 x236 x237 x238 x239 x240 x241 x242 x243 x244 x245 x246 x247 x248 x249 x250 x251 x252 x253 x254 x255 x256 x257 x258 x259 x260 x261 x262 x263 x264 x265 x266 x267 x268 x269 x270 x271 x272 x273 x274 x275 x276 x277 x278 x279 x280 x281 x282 x283 x284 x285 x286 x287 x288 x289 x290 x291 x292 : Value) :
    Code.wp Tryd.prog passed32 (bodyPost Tryd.prog Tryd.f8 fun e w' => e = .returned (.bool true) ∧ Below w0.heap.size w0 w') ⟨#[x0, x1, .slice p3 k3 cap3, x3, x4, x5, x6, x7, x8, .pointer (some ⟨B9, 0, none⟩), x10, .slice (some ⟨g, 0, none⟩) n cap, x12, x13, .slice qs n cs, .pointer (some ⟨B15, 0, none⟩), x16, x17, x18, x19, x20, x21, x22, x23, x24, x25, x26, x27, x28, x29, x30, x31, x32, x33, x34, x35, x36, x37, x38, x39, x40, x41, x42, x43, x44, x45, x46, x47, x48, x49, x50, x51, x52, x53, x54, x55, x56, x57, x58, x59, x60, x61, x62, x63, x64, x65, x66, x67, x68, x69, x70, x71, x72, x73, x74, x75, x76, x77, x78, x79, x80, x81, x82, x83, x84, x85, x86, x87, x88, x89, x90, x91, x92, x93, x94, x95, x96, x97, x98, x99, x100, x101, x102, x103, x104, x105, x106, x107, x108, x109, x110, x111, x112, x113, x114, x115, x116, x117, x118, x119, x120, x121, x122, x123, x124, x125, x126, x127, x128, x129, x130, x131, x132, x133, x134, x135, x136, x137, x138, x139, x140, x141, x142, x143, x144, x145, x146, x147, x148, x149, x150, x151, x152, x153, x154, x155, x156, x157, x158, x159, x160, x161, x162, x163, x164, x165, x166, x167, x168, x169, x170, x171, x172, x173, x174, x175, x176, x177, x178, x179, x180, x181, x182, x183, x184, x185, x186, x187, x188, x189, x190, x191, x192, x193, x194, x195, x196, x197, x198, x199, x200, x201, x202, x203, x204, x205, x206, x207, x208, x209, x210, x211, x212, x213, x214, x215, x216, x217, x218, x219, x220, x221, x222, x223, x224, x225, x226, x227, x228, x229, x230, x231, x232, x233, x234, x235, x236, x237, x238, x239, x240, x241, x242, x243, x244, x245, x246, x247, x248, x249, x250, x251, x252, x253, x254, x255, x256, x257, x258, x259, x260, x261, x262, x263, x264, x265, x266, x267, x268, x269, x270, x271, x272, x273, x274, x275, x276, x277, x278, x279, x280, x281, x282, x283, x284, x285, x286, x287, x288, x289, x290, x291, x292], []⟩ w := by
  have HLM := Lib.hid hl
  have HST := Lib.hid hst
  have hpos := hl.pos
  have hpos1 := hst.pos
  have HC := Lib.hid hc
  have HB := Lib.hid hB
  have HI := Lib.hid hin
  have HGP := Lib.hid gp
  have HTO := Lib.hid hto
  have H3 := Lib.hid h3
  have HK15 := Lib.hid hK15
  have HSP := Lib.hid hsp
  have HBD := Lib.hid (fun j (hj : j ≤ n) => leg_bd (good_of hc) (fun i hi => ⟨(gp i hi).l1, (gp i hi).l2, (gp i hi).c⟩) j hj (fun i hi => hto i (by omega)))
  clear hl hst hc hB hin gp hto h3 hK15 hsp
  conv => arg 2; whnf
  go_wp2_with fail
  rename_i K hK
  have HKT := Lib.hid hK
  clear hK
  go_loopw [26, 228] (fun tk i wr => ∃ (j : Nat) (T : Int), tk = .int .i64 T ∧ i = .int .i64 j ∧ j ≤ n ∧ Hid (legLo s P j ≤ T ∧ T ≤ legHi s P j) ∧ Hid (Below w0.heap.size w0 wr) ∧ Hid (PassIn s m B9 g n cap P wr) ∧ Hid (wr.heap[B15]? = some (.cells #[.int .i64 (legLo s P n), .int .i64 (legHi s P n)] 57 (0, 0))) ∧ Hid (SpdIn wr qs n s P) ∧ Hid (BytesIn wr p3 k3)) (fun _ i _ => n - (intOf i).toNat)
  case atStart => exact ⟨0, 0, rfl, rfl, Nat.zero_le _, Lib.hid ⟨Int.le_refl _, Int.le_refl _⟩, HB, HI, HK15, HSP, H3⟩
  case round =>
    clear HB HI HK15 HSP H3
    obtain ⟨j, T, rfl, rfl, hj, hT, hB, hI, hK15, hSP, h3⟩ := hrel
    have HT := Lib.hid hT.out
    have HB := Lib.hid hB.out
    have HI := Lib.hid hI.out
    have HK15 := Lib.hid hK15.out
    have HSP := Lib.hid hSP.out
    have H3 := Lib.hid h3.out
    clear hT hB hI hK15 hSP h3
    by_cases hlt : j < n
    · have hjn : (j : Int) < (n : Int) := by omega
      have hj0 : (0 : Int) ≤ (j : Int) := by omega
      obtain ⟨b, o, eq, hltk, c0, c1, c2, c3, c4, c5, c6, c7, c8, c9⟩ := HI.out.p j hlt
      simp only [Option.some.injEq, Addr.mk.injEq, and_true] at eq
      obtain ⟨rfl, rfl⟩ := eq
      simp only [Nat.zero_add] at c0 c1 c2 c3 c4 c5 c6 c7 c8 c9
      have hss := HTO.out j hlt
      have hgp := HGP.out j hlt
      have HSS := Lib.hid hss
      have HSL := Lib.hid (ss_bounds (good_of HC.out) hgp.c hss).1
      have HGJ := Lib.hid hgp
      clear hss hgp
      have hba := (Below.refl wr.heap.size wr).alloc (Nat.le_refl _) (.cells (partV (P j)) 86)
      have HK28 := Lib.hid (block_new wr (.cells (partV (P j)) 86))
      have HI2 := Lib.hid (HI.out.later hba)
      have HB2 := Lib.hid (HB.out.trans (hba.mono HB.out.size))
      have HK152 := Lib.hid ((hba.block _ (lt_of_block HK15.out)).trans HK15.out)
      have HSP2 := Lib.hid (HSP.out.later hba)
      have H32 := Lib.hid (H3.out.later hba)
      clear hba HI HB HK15 HSP H3
      obtain ⟨bs, os, eqs, _, _⟩ := HSP2.out j hlt
      subst eqs
      rcases Nat.eq_zero_or_pos k3 with hz | hz
      · have hz' : ¬ ((0 : Int) < (k3 : Int)) := by omega
        clear hz
        go_wp2_with fail
        generalize wr.alloc (.cells (partV (P j)) 86) = X1 at *
        show Code.wp Tryd.prog passed39 _ _ _
        apply Passed_39 s m B9 wr.heap.size p3 (k3) (cap3) (P j) X1 (by omega) HC.out HGJ.out.c HSS.out HI2.out.K9 HK28.out (H32.out) HI2.out.S (HLM.out.below hpos HB2.out) (HST.out.below hpos1 HB2.out)
        intro v X2 y244 y245 y246 y247 y248 y249 y250 y251 y252 y243 y253 y254 hv hb
        have HI := Lib.hid (HI2.out.later hb)
        have HB := Lib.hid (HB2.out.trans (hb.mono HB2.out.size))
        have HK15 := Lib.hid ((hb.block _ (lt_of_block HK152.out)).trans HK152.out)
        have HSP := Lib.hid (HSP2.out.later hb)
        have H3 := Lib.hid (H32.out.later hb)
        replace HK28 := Lib.hid ((hb.block _ (lt_of_block HK28.out)).trans HK28.out)
        clear hb HI2 HB2 HK152 HSP2 H32
        obtain ⟨bs', os', e', hlts, cS⟩ := HSP.out j hlt
        simp only [Option.some.injEq, Addr.mk.injEq, and_true] at e'
        obtain ⟨rfl, rfl⟩ := e'
        obtain ⟨d0, d1, d2, d3, d4, d5, d6, d7, d8, d9⟩ := cells10 HK28.out
        obtain ⟨v1, v2, v3, v4⟩ := hv
        have f1 : ¬ v < ssLo s (P j).lo (P j).hi (P j).ch := by omega
        have f2 : ¬ v < 1 := by omega
        have f3 : 0 < v := by omega
        have f4 : v ≠ 0 := by omega
        have f5 := HGJ.out.l1
        have f6 := HGJ.out.l2
        have tk : takesP (P j) v = (60 * (P j).len + v - 1) / v := rfl
        have bd := HBD.out j (by omega)
        have t1 := takes_anti f5 f3 v2
        have t2 := takes_anti f5 (show 0 < ssLo s (P j).lo (P j).hi (P j).ch from by have := HSL.out; omega) v1
        have t3 := takes_bd f5 f6 v3
        have HTK := Lib.hid (And.intro tk (And.intro bd (And.intro t1 (And.intro t2 t3))))
        clear tk bd t1 t2 t3
        go_wp2_with fail
        obtain ⟨tk, bd, t1, t2, t3⟩ := HTK.out
        have hT := HT.out
        refine ⟨⟨j + 1, T + takesP (P j) v, by rw [← tk, w64 _ (by omega)], by go_num, by omega, Lib.hid ⟨by simp only [legLo]; omega, by simp only [legHi]; omega⟩, HB, HI, HK15, HSP, H3⟩, by simp only [intOf]; omega⟩
      · have hz' : (0 : Int) < (k3 : Int) := by omega
        obtain ⟨b3, o3, z3, e3, _⟩ := H32.out 0 hz
        subst e3
        obtain ⟨jm, hjm⟩ : ∃ jm : Nat, (j : Int) % (k3 : Int) = (jm : Int) := ⟨j % k3, by omega⟩
        have hjm1 : (jm : Int) < (k3 : Int) := by have := Int.emod_lt_of_pos (j : Int) hz'; omega
        have hjm2 : (jm : Int) ≤ (cap3 : Int) := by omega
        have hkc' : (k3 : Int) ≤ (cap3 : Int) := by omega
        have hne3 : ¬ cap3 = jm := by omega
        go_wp2_with fail
        clear hjm
        generalize wr.alloc (.cells (partV (P j)) 86) = X1 at *
        show Code.wp Tryd.prog passed39 _ _ _
        apply Passed_39 s m B9 wr.heap.size (some ⟨b3, o3 + jm, none⟩) (k3 - jm) (cap3 - jm) (P j) X1 (by omega) HC.out HGJ.out.c HSS.out HI2.out.K9 HK28.out (H32.out.suf (by omega)) HI2.out.S (HLM.out.below hpos HB2.out) (HST.out.below hpos1 HB2.out)
        intro v X2 y244 y245 y246 y247 y248 y249 y250 y251 y252 y243 y253 y254 hv hb
        have HI := Lib.hid (HI2.out.later hb)
        have HB := Lib.hid (HB2.out.trans (hb.mono HB2.out.size))
        have HK15 := Lib.hid ((hb.block _ (lt_of_block HK152.out)).trans HK152.out)
        have HSP := Lib.hid (HSP2.out.later hb)
        have H3 := Lib.hid (H32.out.later hb)
        replace HK28 := Lib.hid ((hb.block _ (lt_of_block HK28.out)).trans HK28.out)
        clear hb HI2 HB2 HK152 HSP2 H32
        obtain ⟨bs', os', e', hlts, cS⟩ := HSP.out j hlt
        simp only [Option.some.injEq, Addr.mk.injEq, and_true] at e'
        obtain ⟨rfl, rfl⟩ := e'
        obtain ⟨d0, d1, d2, d3, d4, d5, d6, d7, d8, d9⟩ := cells10 HK28.out
        obtain ⟨v1, v2, v3, v4⟩ := hv
        have f1 : ¬ v < ssLo s (P j).lo (P j).hi (P j).ch := by omega
        have f2 : ¬ v < 1 := by omega
        have f3 : 0 < v := by omega
        have f4 : v ≠ 0 := by omega
        have f5 := HGJ.out.l1
        have f6 := HGJ.out.l2
        have tk : takesP (P j) v = (60 * (P j).len + v - 1) / v := rfl
        have bd := HBD.out j (by omega)
        have t1 := takes_anti f5 f3 v2
        have t2 := takes_anti f5 (show 0 < ssLo s (P j).lo (P j).hi (P j).ch from by have := HSL.out; omega) v1
        have t3 := takes_bd f5 f6 v3
        have HTK := Lib.hid (And.intro tk (And.intro bd (And.intro t1 (And.intro t2 t3))))
        clear tk bd t1 t2 t3
        go_wp2_with fail
        obtain ⟨tk, bd, t1, t2, t3⟩ := HTK.out
        have hT := HT.out
        refine ⟨⟨j + 1, T + takesP (P j) v, by rw [← tk, w64 _ (by omega)], by go_num, by omega, Lib.hid ⟨by simp only [legLo]; omega, by simp only [legHi]; omega⟩, HB, HI, HK15, HSP, H3⟩, by simp only [intOf]; omega⟩
    · obtain rfl : j = n := by omega
      have hjj : ¬ ((j : Int) < (j : Int)) := by omega
      obtain ⟨hT1, hT2⟩ := HT.out
      obtain ⟨⟨t0, t1⟩, _⟩ := cells2 HK15.out
      go_wp2_with fail
      refine HKT.out _ _ ?_
      go_wp2_with fail
      refine (awake_any wr (HLM.out.below hpos HB.out) (HST.out.below hpos1 HB.out)).mono ?_
      rintro e We ⟨rfl, hb⟩
      have HBE := Lib.hid (HB.out.trans (hb.mono HB.out.size))
      clear hb
      go_wp2_with fail
      go_ret
      exact ⟨rfl, HBE.out⟩
end Go.Proofs.YtcoiklolgilhaaaDoor
namespace Go.Proofs.YtcoiklolgilhaaaDoor
open Go.RowKit
set_option maxRecDepth 100000
set_option maxHeartbeats 32000000 in
theorem Passed_ok (s : Sh) (m : Mem3) (B9 g n cap : Nat) (P : Nat → Prt) (ct : Int) (p3 : Option Addr) (k3 cap3 : Nat) (w0 w : World) (hl : Lim w0) (hst : Str w0) (hc : chkP s = 0) (hB : Below w0.heap.size w0 w) (hin : PassIn s m B9 g n cap P w) (h1 : 1 ≤ n) (h8 : n ≤ 8) (hnc : n ≤ cap) (gp : ∀ j, j < n → GoodP (P j)) (hto : LegTo s P n)
    (hk3 : k3 ≤ 9223372036854775807) (hkc : k3 ≤ cap3) (h3 : BytesIn w p3 k3) (pt : Nat) (hpt : wrap64 (1 + ct % (n : Int)) = (pt : Int)) (hpt1 : 1 ≤ pt) (hptn : pt ≤ n) (ht : 0 ≤ ct ∧ ct < 256)
    (x0 x1 x4 x5 x6 x7 x8 x10 x12 x13 x14 x15 x16 x17 x18 x19 x20 x21 x22 x23 x24 x25 x26 x27 x28 x29 x30 x31 x32 x33 x34 x35 x36 x37 x38 x39 x40 x41 x42 x43 x44 x45 x46 x47 x48 x49 x50 x51 x52 x53 x54 x55 x56 x57 x58 x59 x60 x61 x62 x63 x64 x65 x66 x67 x68 x69 x70 x71 x72 x73 x74 x75 x76 x77 x78 x79 x80 x81 x82 x83 x84 x85 x86 x87 x88 x89 x90 x91 x92 x93 x94 x95 x96 x97 x98 x99 x100 x101 x102 x103 x104 x105 x106 x107 x108 x109 x110 x111 x112 x113 x114 x115 x116 x117 x118 x119 x120 x121 x122 x123 x124 x125 x126 x127 x128 x129 x130 x131 x132 x133 x134 x135 x136 x137 x138 x139 x140 x141 x142 x143 x144 x145 x146 x147 x148 x149 x150 x151 x152 x153 x154 x155 x156 x157 x158 x159 x160 x161 x162 x163 x164 x165 x166 x167 x168 x169 x170 x171 x172 x173 x174 x175 x176 x177 x178 x179 x180 x181 x182 x183 x184 x185 x186 x187 x188 x189 x190 x191 x192 x193 x194 x195 x196 x197 x198 x199 x200 x201 x202 x203 x204 x205 x206 x207 x208 x209 x210 x211 x212 x213 x214 x215 x216 x217 x218 x219 x220 x221 x222 x223 x224 x225 x226 x227 x228 x229 x230 x231 x232 x233 x234 x235 x236 x237 x238 x239 x240 x241 x242 x243 x244 x245 x246 x247 x248 x249 x250 x251 x252 x253 x254 x255 x256 x257 x258 x259 x260 x261 x262 x263 x264 x265 x266 x267 x268 x269 x270 x271 x272 x273 x274 x275 x276 x277 x278 x279 x280 x281 x282 x283 x284 x285 x286 x287 x288 x289 x290 x291 x292 : Value) :
    Code.wp Tryd.prog passed16 (bodyPost Tryd.prog Tryd.f8 fun e w' => e = .returned (.bool true) ∧ Below w0.heap.size w0 w') ⟨#[x0, x1, .slice p3 k3 cap3, .int .u8 ct, x4, x5, x6, x7, x8, .pointer (some ⟨B9, 0, none⟩), x10, .slice (some ⟨g, 0, none⟩) n cap, x12, x13, x14, x15, x16, x17, x18, x19, x20, x21, x22, x23, x24, x25, x26, x27, x28, x29, x30, x31, x32, x33, x34, x35, x36, x37, x38, x39, x40, x41, x42, x43, x44, x45, x46, x47, x48, x49, x50, x51, x52, x53, x54, x55, x56, x57, x58, x59, x60, x61, x62, x63, x64, x65, x66, x67, x68, x69, x70, x71, x72, x73, x74, x75, x76, x77, x78, x79, x80, x81, x82, x83, x84, x85, x86, x87, x88, x89, x90, x91, x92, x93, x94, x95, x96, x97, x98, x99, x100, x101, x102, x103, x104, x105, x106, x107, x108, x109, x110, x111, x112, x113, x114, x115, x116, x117, x118, x119, x120, x121, x122, x123, x124, x125, x126, x127, x128, x129, x130, x131, x132, x133, x134, x135, x136, x137, x138, x139, x140, x141, x142, x143, x144, x145, x146, x147, x148, x149, x150, x151, x152, x153, x154, x155, x156, x157, x158, x159, x160, x161, x162, x163, x164, x165, x166, x167, x168, x169, x170, x171, x172, x173, x174, x175, x176, x177, x178, x179, x180, x181, x182, x183, x184, x185, x186, x187, x188, x189, x190, x191, x192, x193, x194, x195, x196, x197, x198, x199, x200, x201, x202, x203, x204, x205, x206, x207, x208, x209, x210, x211, x212, x213, x214, x215, x216, x217, x218, x219, x220, x221, x222, x223, x224, x225, x226, x227, x228, x229, x230, x231, x232, x233, x234, x235, x236, x237, x238, x239, x240, x241, x242, x243, x244, x245, x246, x247, x248, x249, x250, x251, x252, x253, x254, x255, x256, x257, x258, x259, x260, x261, x262, x263, x264, x265, x266, x267, x268, x269, x270, x271, x272, x273, x274, x275, x276, x277, x278, x279, x280, x281, x282, x283, x284, x285, x286, x287, x288, x289, x290, x291, x292], []⟩ w := by
  have HLM := Lib.hid hl
  have HST := Lib.hid hst
  have hpos := hl.pos
  have hpos1 := hst.pos
  have HC := Lib.hid hc
  have HB := Lib.hid hB
  have HI := Lib.hid hin
  have HK9 := Lib.hid hin.K9
  have HGP := Lib.hid gp
  have HTO := Lib.hid hto
  have HPT := Lib.hid hpt
  have H3 := Lib.hid h3
  have HBD := Lib.hid (fun j (hj : j ≤ n) => leg_bd (good_of hc) (fun i hi => ⟨(gp i hi).l1, (gp i hi).l2, (gp i hi).c⟩) j hj (fun i hi => hto i (by omega)))
  clear hl hst hc hB hin gp hto hpt h3
  conv => arg 2; whnf
  obtain ⟨m0, m1, m2, m3, m4, m5, m6, m7, m8, m9, m10⟩ := cells11 HK9.out
  have hn0 : (0 : Int) < (n : Int) := by omega
  go_wp2_with fail
  refine (Leg_good s m _ n cap P _ HC.out h1 (by omega) HGP.out HI.out.S HI.out.p (HLM.out.below hpos HB.out) (HST.out.below hpos1 HB.out) HTO.out).mono ?_
  rintro e V1 ⟨q9, c9, rfl, hrow, hb⟩
  have HSP := Lib.hid (spd_in hrow)
  clear hrow
  clear m0 m1 m2 m3 m4 m5 m6 m7 m8 m9 m10
  replace HK9 := Lib.hid ((hb.block _ (lt_of_block HK9.out)).trans HK9.out)
  replace HI := Lib.hid (HI.out.later hb)
  replace H3 := Lib.hid (H3.out.later hb)
  replace HB := Lib.hid (HB.out.trans (hb.mono HB.out.size))
  clear hb
  have hba := (Below.refl V1.heap.size V1).alloc (Nat.le_refl _) Z57
  have HZ := Lib.hid (block_new V1 Z57)
  go_wp2_with (refine list_store2 rfl rfl rfl (.inr (.inr rfl)) rfl rfl HZ.out ?_; intro V2 hz hc; have hb := hba.trans (hc.below (Nat.le_refl _)); have HK15 := Lib.hid hz; replace HK9 := Lib.hid ((hb.block _ (lt_of_block HK9.out)).trans HK9.out); replace HI := Lib.hid (HI.out.later hb); replace H3 := Lib.hid (H3.out.later hb); replace HB := Lib.hid (HB.out.trans (hb.mono HB.out.size)); replace HSP := Lib.hid (HSP.out.later hb); clear hb hz hc HZ hba; obtain ⟨⟨t0, t1⟩, _⟩ := cells2 HK15.out)
  clear t0 t1
  rw [HPT.out]
  show Code.wp Tryd.prog passed18 _ _ _
  apply Passed_18 s m B9 g n cap pt pt (legLo s P pt) (legHi s P pt) 0 _ (by omega) HK9.out (fun W hW => (Leg_good s m (some ⟨g, 0, none⟩) pt cap P W HC.out hpt1 (by omega) (fun j hj => HGP.out j (by omega)) (HI.out.S.later hW) ((HI.out.p.later hW).pre hptn) (HLM.out.below hpos (HB.out.trans (hW.mono HB.out.size))) (HST.out.below hpos1 (HB.out.trans (hW.mono HB.out.size))) (fun j hj => HTO.out j (by omega))).mono (fun e w' ⟨q9, c9, h1, _, h3⟩ => ⟨q9, c9, h1, h3⟩))
  intro q8 c8 B19 V3 y96 y97 y98 y99 y100 y95 y101 y102 y103 hB19 hK19 hb
  replace HK9 := Lib.hid ((hb.block _ (lt_of_block HK9.out)).trans HK9.out)
  replace HK15 := Lib.hid ((hb.block _ (lt_of_block HK15.out)).trans HK15.out)
  replace HI := Lib.hid (HI.out.later hb)
  replace H3 := Lib.hid (H3.out.later hb)
  replace HB := Lib.hid (HB.out.trans (hb.mono HB.out.size))
  replace HSP := Lib.hid (HSP.out.later hb)
  clear hb
  have HK19 := Lib.hid hK19
  clear hK19
  rename_i K hK
  have HKA := Lib.hid hK
  clear hK
  refine HKA.out _ _ ?_
  clear HKA
  refine wp_seq_k ?_
  intro K2 hK
  have HKB := Lib.hid hK
  clear hK
  go_wp2_with fail
  refine HKB.out _ _ ?_
  clear HKB
  refine wp_seq_k ?_
  intro K3 hK
  have HKC := Lib.hid hK
  clear hK
  go_wp2_with fail
  refine HKC.out _ _ ?_
  clear HKC
  refine wp_seq_k ?_
  intro K4 hK
  have HKD := Lib.hid hK
  clear hK
  by_cases hpn : pt < n
  · have hpn' : (pt : Int) < (n : Int) := by omega
    go_wp2_with fail
    show Code.wp Tryd.prog passed27 _ _ _
    apply Passed_27 s m B9 g n cap pt (n - pt) (legLo s (offP P pt) (n - pt)) (legHi s (offP P pt) (n - pt)) 0 _ hpn hnc HK9.out (fun W hW => (Leg_good s m _ (n - pt) (cap - pt) (offP P pt) W HC.out (by omega) (by omega) (fun j hj => HGP.out (pt + j) (by omega)) (HI.out.S.later hW) ((HI.out.p.later hW).suf hptn) (HLM.out.below hpos (HB.out.trans (hW.mono HB.out.size))) (HST.out.below hpos1 (HB.out.trans (hW.mono HB.out.size))) (fun j hj => HTO.out (pt + j) (by omega))).mono (fun e w' ⟨q9, c9, h1, _, h3⟩ => ⟨q9, c9, h1, h3⟩))
    intro q7 c7 B24 V4 y193 y194 y195 y196 y197 y192 y198 y199 y200 hB24 hK24 hb
    replace HK9 := Lib.hid ((hb.block _ (lt_of_block HK9.out)).trans HK9.out)
    replace HK15 := Lib.hid ((hb.block _ (lt_of_block HK15.out)).trans HK15.out)
    replace HK19 := Lib.hid ((hb.block _ (lt_of_block HK19.out)).trans HK19.out)
    replace HI := Lib.hid (HI.out.later hb)
    replace H3 := Lib.hid (H3.out.later hb)
    replace HB := Lib.hid (HB.out.trans (hb.mono HB.out.size))
    replace HSP := Lib.hid (HSP.out.later hb)
    clear hb
    have HK24 := Lib.hid hK24
    clear hK24
    have hs1 := legLo_add s P pt (n - pt)
    have hs2 := legHi_add s P pt (n - pt)
    rw [show pt + (n - pt) = n by omega] at hs1 hs2
    have bd := HBD.out pt hptn
    have bd2 := HBD.out n (Nat.le_refl _)
    rw [hs1, hs2] at bd2
    have HK15' := Lib.hid HK15.out
    have hk := HK15.out
    rw [hs1, hs2] at hk
    replace HK15 := Lib.hid hk
    have r1 : wrap64 (legLo s P pt + legLo s (offP P pt) (n - pt)) = legLo s P pt + legLo s (offP P pt) (n - pt) := w64 _ (by omega)
    have r2 : wrap64 (legHi s P pt + legHi s (offP P pt) (n - pt)) = legHi s P pt + legHi s (offP P pt) (n - pt) := w64 _ (by omega)
    clear hk hs1 hs2 bd bd2
    obtain ⟨⟨t0, t1⟩, _⟩ := cells2 HK15.out
    obtain ⟨⟨u0, u1⟩, _⟩ := cells2 HK19.out
    obtain ⟨⟨v0, v1⟩, _⟩ := cells2 HK24.out
    go_wp2_with fail
    replace HK15 := HK15'
    clear HK15'
    refine HKD.out _ _ ?_
    show Code.wp Tryd.prog passed32 _ _ _
    apply Passed_32 s m B9 _ g n cap c9 q9 P p3 k3 cap3 w0 _ HLM.out HST.out HC.out HB.out HI.out h8 HGP.out HTO.out hk3 hkc H3.out HK15.out HSP.out
  · obtain rfl : pt = n := by omega
    have hpn' : ¬ ((pt : Int) < (pt : Int)) := by omega
    obtain ⟨⟨t0, t1⟩, _⟩ := cells2 HK15.out
    obtain ⟨⟨u0, u1⟩, _⟩ := cells2 HK19.out
    go_wp2_with fail
    refine HKD.out _ _ ?_
    show Code.wp Tryd.prog passed32 _ _ _
    apply Passed_32 s m B9 _ g pt cap c9 q9 P p3 k3 cap3 w0 _ HLM.out HST.out HC.out HB.out HI.out h8 HGP.out HTO.out hk3 hkc H3.out HK15.out HSP.out
end Go.Proofs.YtcoiklolgilhaaaDoor
namespace Go.Proofs.YtcoiklolgilhaaaDoor
open Go.RowKit
set_option maxRecDepth 100000
def thin (i : Ic) : Ic := ⟨i.conc, i.thick / 8, i.ridge, 0⟩
theorem thin_good {lo hi : Ic} (g : GoodC lo hi) : GoodC (thin lo) (thin hi) := by
  have a := g.gl.thick
  have b := g.gh.thick
  have c := g.le.thick
  refine ⟨⟨g.gl.conc, ?_, g.gl.ridge, ⟨Int.le_refl _, by show (0 : Int) ≤ 3; omega⟩⟩, ⟨g.gh.conc, ?_, g.gh.ridge, ⟨Int.le_refl _, by show (0 : Int) ≤ 3; omega⟩⟩, ⟨g.le.conc, ?_, g.le.ridge, Int.le_refl _⟩⟩
  · show 0 ≤ lo.thick / 8 ∧ lo.thick / 8 ≤ 400; omega
  · show 0 ≤ hi.thick / 8 ∧ hi.thick / 8 ≤ 400; omega
  · show lo.thick / 8 ≤ hi.thick / 8; omega
theorem row_sto_ne {W W' : World} {base size n b : Nat} {e : TypeId} {v : Value} {xs : List Value} (h : W.ownsRow base e size v n xs) (hc : Chg b W W') (hne : v.ownBlock ≠ some b) : W'.ownsRow base e size v n xs :=
  h.kept (row := some b) ⟨hc.2.2.1, hc.2.2.2.1, hc.2.2.2.2, Nat.le_of_eq hc.1.symm, fun k _ hk => hc.2.1 k (fun e => hk (by rw [e]))⟩ (.inr hne)
set_option maxHeartbeats 32000000 in
theorem Passed_law (p : Option Addr) (k cap : Nat) (hk : k ≤ 9223372036854775807) (p2 : Option Addr) (k2 cap2 : Nat) (hk2 : k2 ≤ 9223372036854775807) (p3 : Option Addr) (k3 cap3 : Nat) (hk3 : k3 ≤ 9223372036854775807) (hkc : k3 ≤ cap3) (ct : Int) (w : World) (hl : Lim w) (hst : Str w) (hB : BytesIn w p k) (hB2 : BytesIn w p2 k2) (hB3 : BytesIn w p3 k3) (ht : 0 ≤ ct ∧ ct < 256) :
    Calls Tryd.prog 8 #[.slice p k cap, .slice p2 k2 cap2, .slice p3 k3 cap3, .int .u8 ct] w fun e w' => e = .returned (.bool true) ∧ Below w.heap.size w w' := by
  have HLM := Lib.hid hl
  have HST := Lib.hid hst
  have hpos := hl.pos
  have hpos1 := hst.pos
  have HM := Lib.hid (Made_any p k cap hk w hB)
  have H2 := Lib.hid hB2
  have H3 := Lib.hid hB3
  have HCT := Lib.hid ht
  clear hl hst hB hB2 hB3 hk ht
  obtain ⟨i0, hi, hz0, hz1, hz2⟩ := info_parts info86
  obtain ⟨i5, hi5, hz50, hz51, hz52⟩ := info_parts info5
  go_enter Tryd.func8, Tryd.ntmps8
  go_wp2_with fail
  refine HM.out.mono ?_
  rintro e W1 ⟨s, m, rfl, hs, h7, hin, hbl⟩
  have HC := Lib.hid hs
  have HS := Lib.hid hin
  have HB := Lib.hid hbl
  clear hs h7 hin hbl HM
  have hba := (Below.refl W1.heap.size W1).alloc (Nat.le_refl _) (.cells #[.int .i64 0, .int .i64 0, .int .i64 0, .int .i64 0, .slice none 0 0, .slice none 0 0, .slice none 0 0, .int .i64 0, .int .i64 0, .int .i64 0, .int .i64 0] 24)
  have HZ := Lib.hid (block_new W1 (.cells #[.int .i64 0, .int .i64 0, .int .i64 0, .int .i64 0, .slice none 0 0, .slice none 0 0, .slice none 0 0, .int .i64 0, .int .i64 0, .int .i64 0, .int .i64 0] 24))
  go_wp2_with (refine list_store24 rfl rfl rfl rfl rfl HZ.out ?_; intro V1 hz hc; have hb := hba.trans (hc.below (Nat.le_refl _)); have HK9 := Lib.hid hz; replace HS := Lib.hid (HS.out.later hb); replace HB := Lib.hid (HB.out.trans (hb.mono HB.out.size)); clear hz hc hb hba HZ)
  have hb9 := lt_of_block HK9.out
  replace H2 := Lib.hid (H2.out.later HB.out)
  replace H3 := Lib.hid (H3.out.later HB.out)
  refine (Drawn_at p2 k2 cap2 V1.heap.size V1 rfl).mono ?_
  rintro e V2 ⟨rfl, hA, hA', hAs, hb⟩
  have HNX := Lib.hid (show NxIn V1 p2 k2 cap2 (V1.heap.size + 1) V1.heap.size V2 from ⟨hb, ⟨0, Nat.zero_le _, hA'⟩, hA⟩)
  have HNA := Lib.hid (fun (n : Int) (hn : 1 ≤ n) (hn' : n ≤ 1000000) (W : World) (hW : NxIn V1 p2 k2 cap2 (V1.heap.size + 1) V1.heap.size W) => next_any V1 p2 k2 cap2 hk2 H2.out (V1.heap.size + 1) V1.heap.size (by omega) n hn hn' W hW)
  clear hA hA' hAs hb
  go_wp2_with fail
  refine (HNA.out 8 (by decide) (by decide) _ HNX.out).mono ?_
  rintro e V3 ⟨r, rfl, r0, r1, hN, hC⟩
  replace HNX := Lib.hid hN
  clear hN hC
  go_wp2_with fail
  rename_i K hK
  have HKT := Lib.hid hK
  clear hK
  go_loopw [11, 39] (fun v i wr => ∃ (j : Nat) (l : List Prt), i = .int .i64 j ∧ (j : Int) ≤ 1 + r ∧ Hid (l.length = j) ∧ Hid (∀ q ∈ l, GoodP q) ∧ Hid (NxIn V1 p2 k2 cap2 (V1.heap.size + 1) V1.heap.size wr) ∧ Hid (PtRow wr (V1.heap.size + 1 + 1) v l)) (fun _ i _ => (1 + r - intOf i).toNat)
  case atStart => exact ⟨0, [], rfl, by omega, Lib.hid rfl, Lib.hid (fun q h => by cases h), HNX, Lib.hid ⟨rfl, .inl ⟨rfl, rfl⟩⟩⟩
  case round =>
    obtain ⟨j, l, rfl, hj, hn1, hgp, hnx, hrow⟩ := hrel
    have HN1 := Lib.hid hn1.out
    have HGP := Lib.hid hgp.out
    replace HNX := Lib.hid hnx.out
    have HPT := Lib.hid hrow.out
    clear hn1 hgp hnx hrow
    by_cases hlt : (j : Int) < 1 + r
    · have HLT := Lib.hid (row_lt HPT.out)
      have hltB : V1.heap.size + 1 < wr.heap.size := by obtain ⟨i, _, hi⟩ := HNX.out.i; exact lt_of_block hi
      go_wp2_with fail
      rename_i K2 hK2
      have HKI := Lib.hid hK2
      clear hK2
      rename World => W4
      go_loopw [12, 41] (fun v i wr => ∃ (j2 : Nat) (lb : List Int), i = .int .i64 j2 ∧ j2 ≤ 8 ∧ Hid (lb.length = j2) ∧ Hid (∀ z ∈ lb, 0 ≤ z ∧ z ≤ 255) ∧ Hid (NxIn V1 p2 k2 cap2 (V1.heap.size + 1) V1.heap.size wr) ∧ Hid (PtRow wr (V1.heap.size + 1 + 1) u11 l) ∧ Hid (BRow wr W4.heap.size v lb) ∧ W4.heap.size ≤ wr.heap.size) (fun _ i _ => 8 - (intOf i).toNat)
      case atStart => exact ⟨0, [], rfl, by omega, Lib.hid rfl, Lib.hid (fun q h => by cases h), HNX, HPT, Lib.hid ⟨rfl, .inl ⟨rfl, rfl⟩⟩, Nat.le_refl _⟩
      case round =>
        obtain ⟨j2, lb, rfl, hj2, hn2, hbb, hnx, hrow, hbr, hms⟩ := hrel
        have HN2 := Lib.hid hn2.out
        have HBB := Lib.hid hbb.out
        replace HNX := Lib.hid hnx.out
        replace HPT := Lib.hid hrow.out
        have HBR := Lib.hid hbr.out
        clear hn2 hbb hnx hrow hbr
        by_cases hlt2 : j2 < 8
        · have hlt2' : (j2 : Int) < 8 := by omega
          go_wp2_with fail
          refine (HNA.out 256 (by decide) (by decide) _ HNX.out).mono ?_
          rintro e X1 ⟨z, rfl, z0, z1, hN, hC⟩
          replace HNX := Lib.hid hN
          replace HPT := Lib.hid (row_sto HPT.out hC (by omega))
          replace HBR := Lib.hid (row_sto HBR.out hC (by omega))
          have hms1 := Nat.le_of_eq hC.1.symm
          clear hN hC
          go_wp2_with (at_builtin; refine Hid.out ?_)
          refine Lib.hid ?_
          have hbT := (Below.refl X1.heap.size X1).alloc (Nat.le_refl _) (.cells #[.int .u8 z] 5)
          have hnb := block_new X1 (.cells #[.int .u8 z] 5)
          replace HNX := Lib.hid (HNX.out.later hbT)
          replace HPT := Lib.hid (row_later HPT.out hbT)
          replace HBR := Lib.hid (row_later HBR.out hbT)
          have hM4 : W4.heap.size ≤ X1.heap.size := by omega
          have hbTs := hbT.size
          clear hbT
          generalize X1.alloc (.cells #[.int .u8 z] 5) = Y1 at *
          refine wpList_append_own _ rfl (.tmp 43) (.tmp 47) 50 rfl W4.heap.size 5 i5 (.int .u8 0) 1 1 und50 hi5 hz50 hz51 hz52 rfl (by decide) u12 lb.length (lb.map byteV) rfl HBR.out ⟨X1.heap.size, 0, none⟩ 1 1 [.int .u8 z] rfl rfl (World.news_of_block hnb) (by simp [Value.oneCell']) (by rw [HN2.out]; simp only [maxLen]; omega) (by rw [HN2.out]; omega) (by omega) ?_
          intro v2 Zg hown hgrow _
          have zb := (Below.refl W4.heap.size Y1).grown hgrow (by omega) (row_base HBR.out)
          have hlx : V1.heap.size + 1 < W4.heap.size := hltB
          replace HNX := Lib.hid (HNX.out.keep (HNX.out.low.trans (zb.mono (by omega))) (zb.block _ (by omega)) (zb.block _ (by omega)))
          replace HPT := Lib.hid (row_grow HPT.out hgrow (row_base HBR.out) HLT.out)
          have HBN := Lib.hid (show BRow Zg W4.heap.size v2 (lb ++ [z]) from by simpa [BRow, byteV] using hown)
          have hms2 := zb.size
          have hms3 : W4.heap.size ≤ Zg.heap.size := by omega
          clear hown hgrow zb HBR hnb hbTs
          go_wp2_with fail
          go_roundw
          case rel => exact ⟨j2 + 1, lb ++ [z], by go_num, by omega, Lib.hid (by rw [List.length_append, HN2.out]; rfl), Lib.hid (fun y hy => by rcases List.mem_append.1 hy with h | h; exact HBB.out y h; obtain rfl := List.mem_singleton.1 h; omega), HNX, HPT, HBN, hms3⟩
          case measure => simp [intOf]; omega
        · have hjj : ¬ ((j2 : Int) < 8) := by omega
          have hlen : lb.length = 8 := by have := HN2.out; omega
          obtain ⟨q12, c12, rfl⟩ := row_shape HBR.out
          have HBY := Lib.hid (show BytesIn wr q12 8 from by rw [← hlen]; exact BRow.bytes HBR.out HBB.out)
          clear HBR HBB HN2
          go_wp2_with fail
          refine HKI.out _ _ ?_
          clear HKI
          go_wp2_with fail
          refine (Frozen_any q12 8 c12 (by decide) wr HBY.out).mono ?_
          rintro e X3 ⟨lo, hi', rfl, gc, hb⟩
          have HGC := Lib.hid gc
          replace HNX := Lib.hid (HNX.out.later hb)
          replace HPT := Lib.hid (row_later HPT.out hb)
          have hm3 := hb.size
          clear gc hb HBY
          have hba := (Below.refl X3.heap.size X3).alloc (Nat.le_refl _) (.cells #[.int .i64 0, .int .i64 0, .int .i64 0, .int .i64 0, .int .i64 0, .int .i64 0, .int .i64 0, .int .i64 0] 59)
          have HZ := Lib.hid (block_new X3 (.cells #[.int .i64 0, .int .i64 0, .int .i64 0, .int .i64 0, .int .i64 0, .int .i64 0, .int .i64 0, .int .i64 0] 59))
          go_wp2_with (refine list_store8 rfl rfl rfl (.inl rfl) rfl rfl HZ.out ?_; intro X4 hz hc; have hb := hba.trans (hc.below (Nat.le_refl _)); have HK13 := Lib.hid hz; replace HNX := Lib.hid (HNX.out.later hb); replace HPT := Lib.hid (row_later HPT.out hb); clear hz hc hb hba HZ)
          refine (HNA.out 3 (by decide) (by decide) _ HNX.out).mono ?_
          rintro e X5 ⟨r3, rfl, r30, r31, hN, hC⟩
          have hx3 : V1.heap.size + 1 < X3.heap.size := by omega
          replace HNX := Lib.hid hN
          replace HPT := Lib.hid (row_sto HPT.out hC (by omega))
          replace HK13 := Lib.hid ((hC.2.1 _ (by omega)).trans HK13.out)
          clear hN hC
          obtain ⟨⟨c0, c1, c2, c3, c4, c5, c6, c7⟩, _⟩ := cells8 HK13.out
          have gl2 := HGC.out.gl.thick
          have gh2 := HGC.out.gh.thick
          have hne : u11.ownBlock ≠ some X3.heap.size := fun e => by have := HLT.out _ e; omega
          rcases Int.lt_or_le 0 r3 with h3 | h3
          · go_wp2_with fail
            have hz := setCell_block (setCell_block (setCell_block (setCell_block HK13.out 2 (.int .i64 (lo.thick / 8))) 3 (.int .i64 (hi'.thick / 8))) 6 (.int .i64 0)) 7 (.int .i64 0)
            simp only [List.setIfInBounds_toArray, List.set_cons_zero, List.set_cons_succ] at hz
            have hc := (((chg_setCell X5 X3.heap.size 2 (.int .i64 (lo.thick / 8))).trans (chg_setCell _ X3.heap.size 3 (.int .i64 (hi'.thick / 8)))).trans (chg_setCell _ X3.heap.size 6 (.int .i64 0))).trans (chg_setCell _ X3.heap.size 7 (.int .i64 0))
            generalize (((X5.setCell ⟨X3.heap.size, 2, none⟩ (.int .i64 (lo.thick / 8))).setCell ⟨X3.heap.size, 3, none⟩ (.int .i64 (hi'.thick / 8))).setCell ⟨X3.heap.size, 6, none⟩ (.int .i64 0)).setCell ⟨X3.heap.size, 7, none⟩ (.int .i64 0) = X6 at *
            replace HK13 := Lib.hid (show X6.heap[X3.heap.size]? = some (.cells (cellV (thin lo) (thin hi')) 59 (0, 0)) from hz)
            replace HNX := Lib.hid (HNX.out.keep (HNX.out.low.trans (hc.below (by omega))) (hc.2.1 _ (by omega)) (hc.2.1 _ (by omega)))
            replace HPT := Lib.hid (row_sto_ne HPT.out hc hne)
            have HGX := Lib.hid (thin_good HGC.out)
            clear hz hc c0 c1 c2 c3 c4 c5 c6 c7
            have hl7 : l.length ≤ 7 := by rw [HN1.out]; omega
            have hl1 := HN1.out
            show Code.wp Tryd.prog passed14 _ _ _
            apply Passed_14 V1 p2 k2 cap2 hk2 H2.out X3.heap.size u11 l (thin lo) (thin hi') _ hl7 HNX.out HPT.out HK13.out hx3 hne
            clear hl1 hl7 HNX HPT HK13
            intro ch ln v' W6 y69 y70 y71 y72 y73 y74 y75 y76 y77 y78 y79 y80 l1 l2 hnx hpt
            have HNX := Lib.hid hnx
            have HPN := Lib.hid hpt
            have HGQ := Lib.hid (show GoodP ⟨thin lo, thin hi', ch, ln⟩ from ⟨l1, l2, HGX.out⟩)
            clear hnx hpt l1 l2 HGX
            go_wp2_with fail
            go_roundw
            case rel => exact ⟨j + 1, l ++ [⟨thin lo, thin hi', ch, ln⟩], by go_num, by omega, Lib.hid (by rw [List.length_append, HN1.out]; rfl), Lib.hid (fun y hy => by rcases List.mem_append.1 hy with h | h; exact HGP.out y h; obtain rfl := List.mem_singleton.1 h; exact HGQ.out), HNX, HPN⟩
            case measure => simp [intOf]; omega
          · go_wp2_with fail
            have HGX := HGC
            clear c0 c1 c2 c3 c4 c5 c6 c7
            have hl7 : l.length ≤ 7 := by rw [HN1.out]; omega
            have hl1 := HN1.out
            show Code.wp Tryd.prog passed14 _ _ _
            apply Passed_14 V1 p2 k2 cap2 hk2 H2.out X3.heap.size u11 l (lo) (hi') _ hl7 HNX.out HPT.out HK13.out hx3 hne
            clear hl1 hl7 HNX HPT HK13
            intro ch ln v' W6 y69 y70 y71 y72 y73 y74 y75 y76 y77 y78 y79 y80 l1 l2 hnx hpt
            have HNX := Lib.hid hnx
            have HPN := Lib.hid hpt
            have HGQ := Lib.hid (show GoodP ⟨lo, hi', ch, ln⟩ from ⟨l1, l2, HGX.out⟩)
            clear hnx hpt l1 l2 HGX
            go_wp2_with fail
            go_roundw
            case rel => exact ⟨j + 1, l ++ [⟨lo, hi', ch, ln⟩], by go_num, by omega, Lib.hid (by rw [List.length_append, HN1.out]; rfl), Lib.hid (fun y hy => by rcases List.mem_append.1 hy with h | h; exact HGP.out y h; obtain rfl := List.mem_singleton.1 h; exact HGQ.out), HNX, HPN⟩
            case measure => simp [intOf]; omega
    · have hjc : ¬ (j : Int) < 1 + r := hlt
      have hlen : 1 ≤ l.length ∧ l.length ≤ 8 := by rw [HN1.out]; omega
      have HLEN := Lib.hid hlen
      clear hlen
      rcases HPT.out.2 with ⟨_, e2⟩ | ⟨g, cap9, cur, e9, _, _, hn9, _⟩
      · have := HLEN.out; omega
      subst e9
      go_wp2_with fail
      refine HKT.out _ _ ?_
      clear HKT
      have hlen := HLEN.out
      have hct := HCT.out
      obtain ⟨pt, hpt, hpt1, hptn⟩ : ∃ pt : Nat, wrap64 (1 + ct % (l.length : Int)) = (pt : Int) ∧ 1 ≤ pt ∧ pt ≤ l.length := by
        have a := Int.emod_nonneg ct (show (l.length : Int) ≠ 0 by omega)
        have b := Int.emod_lt_of_pos ct (show (0 : Int) < (l.length : Int) by omega)
        exact ⟨(1 + ct % (l.length : Int)).toNat, by rw [w64 _ (by omega)]; omega, by omega, by omega⟩
      have gp : ∀ i, i < l.length → GoodP (prtOf l i) := fun i hi => by
        have e : prtOf l i = l[i] := by simp [prtOf, hi]
        rw [e]
        exact HGP.out _ (List.getElem_mem hi)
      have hlow := HNX.out.low
      have hin : PassIn s m W1.heap.size g l.length cap9 (prtOf l) wr := ⟨HS.out.later hlow, (hlow.block _ hb9).trans HK9.out, HPT.out.parts⟩
      have hB := HB.out.trans (hlow.mono HB.out.size)
      have h3 := H3.out.later hlow
      show Code.wp Tryd.prog passed16 _ _ _
      rcases first_bad s (prtOf l) l.length with hto | ⟨k0, hk0, hto, hne⟩
      · apply Passed_ok s m W1.heap.size g l.length cap9 (prtOf l) ct p3 k3 cap3 w wr HLM.out HST.out HC.out hB hin hlen.1 hlen.2 hn9 gp hto hk3 hkc h3 pt hpt hpt1 hptn hct
      · have hE2 : pE s (prtOf l k0) = 4 ∨ pE s (prtOf l k0) = 41 := by
          rcases pE_some (good_of HC.out) (gp k0 hk0) with h | h | h
          · exact absurd h hne
          · exact .inl h
          · exact .inr h
        apply Passed_err s m W1.heap.size g l.length cap9 (prtOf l) k0 _ ct w wr HLM.out HST.out HC.out hB hin hlen.1 hlen.2 hn9 gp hk0 hto rfl hE2 pt hpt hpt1 hptn hct
end Go.Proofs.YtcoiklolgilhaaaDoor
namespace Go.Proofs.YtcoiklolgilhaaaDoor
open Go.ChangeShapes Go.WideShapes Go.ChangeAt Go.WideMaps Go.WideElems Go.RowKit Go.Deep
set_option maxRecDepth 100000
theorem open_bytes2 {H : Type} {enc : TypeId × Value → H} {W : World} {r : Reach} {b0 : Nat} {v : Value} {d : DataW H} {ps : List MemPlace} (hval : Value.okWide Tryd.prog W r b0 50 v) (h : DataW.Trod enc Tryd.prog W 0 (fun _ => true) true 50 v d ps) :
    ∃ p n cap, v = .slice p n cap ∧ n ≤ 9223372036854775807 ∧ BytesIn W p n ∧ n ≤ cap := by
  obtain ⟨p, n, cap, rfl, hk, hB⟩ := open_bytes hval h
  refine ⟨p, n, cap, rfl, hk, hB, ?_⟩
  obtain ⟨fuel, hf⟩ := h
  have e : (Value.slice p n cap).cells.toList = [.slice p n cap] := rfl
  rw [e] at hf
  rcases open_slice Tryd.underlying50 hf with ⟨h1, _⟩ | ⟨a, len', cap', m, n', D, Pl, h1, hb, hl, _⟩
  · simp only [List.cons.injEq, Value.slice.injEq, and_true] at h1
    obtain ⟨_, rfl, rfl⟩ := h1
    exact Nat.le_refl _
  · simp only [List.cons.injEq, Value.slice.injEq, and_true] at h1
    obtain ⟨_, rfl, rfl⟩ := h1
    exact hl
end Go.Proofs.YtcoiklolgilhaaaDoor
