/- The law HullCells, its end: the safe speed. The law HullCells, its middle: which ices are beyond her class. The law HullCells behind its arguments: the speeds in a cell. The law HullCells over memory: any bytes, any numbers. The table of limits and the one of strengths hold their numbers. -/
import Derived.Test.YtcoiklolgilhaaaDoorRd
import Derived.Test.YtcoiklolgilhaaaDoorQh
namespace Go.Proofs.YtcoiklolgilhaaaDoor
open Go.RowKit
set_option maxRecDepth 100000
noncomputable def cells18 : Code := ((Tryd.f5.body.bind (findReg 18)).getD .skip)
set_option maxHeartbeats 32000000 in
theorem Cells_c (s : Sh) (m : Mem3) (lo hi i : Ic) (ch : Bool) (B1 B2 B3 B4 B5 : Nat) (w0 w : World) (hl : Lim w0) (hst : Str w0) (hc0 : chkP s = 0) (gc : GoodC lo hi) (hin : InC lo hi i)
    (hB : Below w0.heap.size w0 w) (hS : ShipIn w s m) (hK1 : w.heap[B1]? = some (.cells (shipA s m) 24 (0, 0))) (hK2 : w.heap[B2]? = some (.cells (cellV lo hi) 59 (0, 0))) (hK3 : w.heap[B3]? = some (.cells (iceV i) 53 (0, 0))) (hK4 : w.heap[B4]? = some (.cells (iceV lo) 53 (0, 0))) (hK5 : w.heap[B5]? = some (.cells (iceV hi) 53 (0, 0)))
    (y : Int) (hy : y = (speedP s hi ch : Int))
    (x0 x1 x2 x3 x5 x6 x7 x8 x9 x10 x16 x17 x18 x19 x20 x21 x23 x24 x25 x26 x27 x28 x29 x30 x31 x32 x33 x34 x35 x36 x37 x38 x39 x40 x41 x42 x43 x44 x45 x46 x47 x48 x49 x50 x51 x52 x53 x54 x55 x56 x57 x58 x59 x60 x61 x62 x63 x64 x65 x66 x67 x68 x69 x70 x71 x72 x73 x74 x75 x76 x77 x78 x79 x80 x81 x82 x83 x84 x85 x86 x87 x88 x89 x90 x91 x92 x93 x94 x95 x96 x97 x98 x99 x100 x101 x102 x103 x104 x105 x106 x107 x108 x109 x110 x111 x112 x113 x114 x115 x116 x117 x118 x119 x120 x121 x122 x123 x124 x125 x126 x127 x128 x129 x130 x131 x132 x133 x134 x135 x136 x137 x138 x139 x140 x141 x142 x143 x144 x145 x146 x147 x148 x149 x150 x151 x152 x153 x154 x155 x156 x157 x158 x159 x160 x161 x162 x163 x164 x165 x166 x167 x168 x169 x170 x171 x172 x173 x174 x175 x176 x177 x178 x179 x180 x181 x182 x183 x184 x185 x186 x187 x188 x189 x190 x191 x192 x193 x194 x195 x196 x197 x198 x199 x200 x201 x202 x203 x204 x205 x206 x207 x208 x209 x210 x211 x212 x213 x214 x215 x216 x217 x218 x219 x220 x221 x222 x223 x224 x225 x226 x227 x228 x229 x230 x231 x232 x233 x234 x235 x236 x237 x238 x239 x240 x241 x242 x243 x244 x245 x246 x247 x248 x249 x250 x251 x252 x253 x254 x255 x256 x257 x258 x259 x260 x261 x262 x263 x264 x265 x266 x267 x268 x269 x270 x271 x272 x273 x274 x275 x276 x277 x278 x279 x280 x281 x282 x283 x284 x285 x286 x287 x288 x289 x290 x291 x292 x293 x294 x295 x296 x297 x298 x299 x300 x301 x302 x303 x304 : Value) :
    Code.wp Tryd.prog cells18 (bodyPost Tryd.prog Tryd.f5 fun e w' => e = .returned (.bool true) ∧ Below w0.heap.size w0 w') ⟨#[x0, x1, x2, x3, .bool ch, x5, x6, x7, x8, x9, x10, .pointer (some ⟨B1, 0, none⟩), .pointer (some ⟨B2, 0, none⟩), .pointer (some ⟨B3, 0, none⟩), .pointer (some ⟨B4, 0, none⟩), .pointer (some ⟨B5, 0, none⟩), x16, x17, x18, x19, x20, x21, .int .i64 y, x23, x24, x25, x26, x27, x28, x29, x30, x31, x32, x33, x34, x35, x36, x37, x38, x39, x40, x41, x42, x43, x44, x45, x46, x47, x48, x49, x50, x51, x52, x53, x54, x55, x56, x57, x58, x59, x60, x61, x62, x63, x64, x65, x66, x67, x68, x69, x70, x71, x72, x73, x74, x75, x76, x77, x78, x79, x80, x81, x82, x83, x84, x85, x86, x87, x88, x89, x90, x91, x92, x93, x94, x95, x96, x97, x98, x99, x100, x101, x102, x103, x104, x105, x106, x107, x108, x109, x110, x111, x112, x113, x114, x115, x116, x117, x118, x119, x120, x121, x122, x123, x124, x125, x126, x127, x128, x129, x130, x131, x132, x133, x134, x135, x136, x137, x138, x139, x140, x141, x142, x143, x144, x145, x146, x147, x148, x149, x150, x151, x152, x153, x154, x155, x156, x157, x158, x159, x160, x161, x162, x163, x164, x165, x166, x167, x168, x169, x170, x171, x172, x173, x174, x175, x176, x177, x178, x179, x180, x181, x182, x183, x184, x185, x186, x187, x188, x189, x190, x191, x192, x193, x194, x195, x196, x197, x198, x199, x200, x201, x202, x203, x204, x205, x206, x207, x208, x209, x210, x211, x212, x213, x214, x215, x216, x217, x218, x219, x220, x221, x222, x223, x224, x225, x226, x227, x228, x229, x230, x231, x232, x233, x234, x235, x236, x237, x238, x239, x240, x241, x242, x243, x244, x245, x246, x247, x248, x249, x250, x251, x252, x253, x254, x255, x256, x257, x258, x259, x260, x261, x262, x263, x264, x265, x266, x267, x268, x269, x270, x271, x272, x273, x274, x275, x276, x277, x278, x279, x280, x281, x282, x283, x284, x285, x286, x287, x288, x289, x290, x291, x292, x293, x294, x295, x296, x297, x298, x299, x300, x301, x302, x303, x304], []⟩ w := by
  have HLM := Lib.hid hl
  have HST := Lib.hid hst
  have hpos := hl.pos
  have hpos1 := hst.pos
  have HC := Lib.hid hc0
  have HG := Lib.hid (good_of hc0)
  have HGC := Lib.hid gc
  have HIN := Lib.hid hin
  have HB := Lib.hid hB
  have HS := Lib.hid hS
  have HK1 := Lib.hid hK1
  have HK2 := Lib.hid hK2
  have HK3 := Lib.hid hK3
  have HK4 := Lib.hid hK4
  have HK5 := Lib.hid hK5
  clear hl hst hc0 gc hin hB hS hK1 hK2 hK3 hK4 hK5
  conv => arg 2; whnf
  have HY := Lib.hid hy
  clear hy
  obtain ⟨m0, m1, m2, m3, m4, m5, m6, m7, m8, m9, m10⟩ := cells11 HK1.out
  obtain ⟨⟨c0, c1, c2, c3, c4, c5, c6, c7⟩, _⟩ := cells8 HK2.out
  go_wp2_with fail
  refine (Safe_ex s m lo hi ch _ HS.out (HLM.out.below hpos HB.out) (HST.out.below hpos1 HB.out) HC.out HGC.out).mono ?_
  rintro e V1 ⟨n1, E, rfl, hn1, hE, hb⟩
  have Hhn1 := Lib.hid hn1
  clear hn1
  have HhE := Lib.hid hE
  clear hE
  clear m0 m1 m2 m3 m4 m5 m6 m7 m8 m9 m10 c0 c1 c2 c3 c4 c5 c6 c7
  replace HK1 := Lib.hid ((hb.block _ (lt_of_block HK1.out)).trans HK1.out)
  replace HK2 := Lib.hid ((hb.block _ (lt_of_block HK2.out)).trans HK2.out)
  replace HK3 := Lib.hid ((hb.block _ (lt_of_block HK3.out)).trans HK3.out)
  replace HK4 := Lib.hid ((hb.block _ (lt_of_block HK4.out)).trans HK4.out)
  replace HK5 := Lib.hid ((hb.block _ (lt_of_block HK5.out)).trans HK5.out)
  replace HS := Lib.hid (HS.out.later hb)
  replace HB := Lib.hid (HB.out.trans (hb.mono HB.out.size))
  clear hb
  obtain ⟨m0, m1, m2, m3, m4, m5, m6, m7, m8, m9, m10⟩ := cells11 HK1.out
  obtain ⟨⟨c0, c1, c2, c3, c4, c5, c6, c7⟩, _⟩ := cells8 HK2.out
  go_wp2_with fail
  refine (Beyond_ex s m lo hi ch _ 10 HS.out (HLM.out.below hpos HB.out) (HST.out.below hpos1 HB.out) HC.out HGC.out (by omega) (by omega)).mono ?_
  rintro e V2 ⟨a1, b1, rfl, ha1, hb1, hb⟩
  have Hha1 := Lib.hid ha1
  clear ha1
  have Hhb1 := Lib.hid hb1
  clear hb1
  clear m0 m1 m2 m3 m4 m5 m6 m7 m8 m9 m10 c0 c1 c2 c3 c4 c5 c6 c7
  replace HK1 := Lib.hid ((hb.block _ (lt_of_block HK1.out)).trans HK1.out)
  replace HK2 := Lib.hid ((hb.block _ (lt_of_block HK2.out)).trans HK2.out)
  replace HK3 := Lib.hid ((hb.block _ (lt_of_block HK3.out)).trans HK3.out)
  replace HK4 := Lib.hid ((hb.block _ (lt_of_block HK4.out)).trans HK4.out)
  replace HK5 := Lib.hid ((hb.block _ (lt_of_block HK5.out)).trans HK5.out)
  replace HS := Lib.hid (HS.out.later hb)
  replace HB := Lib.hid (HB.out.trans (hb.mono HB.out.size))
  clear hb
  obtain ⟨m0, m1, m2, m3, m4, m5, m6, m7, m8, m9, m10⟩ := cells11 HK1.out
  obtain ⟨⟨c0, c1, c2, c3, c4, c5, c6, c7⟩, _⟩ := cells8 HK2.out
  obtain ⟨⟨p0, p1, p2, p3⟩, _⟩ := cells4 HK3.out
  by_cases hy : y < 10
  · skip
    obtain rfl : E = 4 := HhE.out.trans (ss_beset HG.out HGC.out (by rw [← HY.out]; exact hy))
    have HAW := Lib.hid (awake_any V2 (HLM.out.below hpos HB.out) (HST.out.below hpos1 HB.out))
    go_wp2_with fail
    refine HAW.out.mono ?_
    rintro e We ⟨rfl, hb⟩
    have HBE := Lib.hid (HB.out.trans (hb.mono HB.out.size))
    clear hb
    go_wp2_with fail
    go_ret
    exact ⟨rfl, HBE.out⟩
  · skip
    have HNY := Lib.hid (show ¬ (speedP s hi ch : Int) < 10 by rw [← HY.out]; exact hy)
    cases a1 with
    | true =>
      obtain rfl : E = 41 := HhE.out.trans (ss_class HG.out HGC.out HNY.out Hha1.out.symm)
      have HAW := Lib.hid (awake_any V2 (HLM.out.below hpos HB.out) (HST.out.below hpos1 HB.out))
      go_wp2_with fail
      refine HAW.out.mono ?_
      rintro e We ⟨rfl, hb⟩
      have HBE := Lib.hid (HB.out.trans (hb.mono HB.out.size))
      clear hb
      go_wp2_with fail
      go_ret
      exact ⟨rfl, HBE.out⟩
    | false =>
      obtain ⟨o1, o2, _⟩ := ss_ok HG.out HGC.out HNY.out Hha1.out.symm
      obtain rfl : E = 0 := HhE.out.trans o1
      obtain ⟨g1, g2, g3, g4, g5⟩ := sa_facts HG.out HGC.out.gh HNY.out Hha1.out.symm
      have g6 := (sa_top (ch := ch) HG.out HGC.out.gh).2
      have h1 := Hhn1.out.trans o2
      have k1 : 10 ≤ n1 := by omega
      have k2 : n1 ≤ y := by have := HY.out; omega
      have k3 : n1 ≤ 250 := by omega
      rw [← h1] at g3 g4 g5
      have G3 := Lib.hid g3
      have G4 := Lib.hid g4
      have G5 := Lib.hid g5
      clear o1 o2 g1 g2 g3 g4 g5 g6 h1 HNY Hhn1 HhE Hha1
      go_wp2_with fail
      refine (Makes_na s m ch _ i n1 HS.out (HLM.out.below hpos HB.out) HC.out (HIN.out.good HGC.out) (by omega) k3).mono ?_
      rintro e V3 ⟨a2, rfl, ha2, hb⟩
      have Hha2 := Lib.hid ha2
      clear ha2
      clear m0 m1 m2 m3 m4 m5 m6 m7 m8 m9 m10 c0 c1 c2 c3 c4 c5 c6 c7 p0 p1 p2 p3
      replace HK1 := Lib.hid ((hb.block _ (lt_of_block HK1.out)).trans HK1.out)
      replace HK2 := Lib.hid ((hb.block _ (lt_of_block HK2.out)).trans HK2.out)
      replace HK3 := Lib.hid ((hb.block _ (lt_of_block HK3.out)).trans HK3.out)
      replace HK4 := Lib.hid ((hb.block _ (lt_of_block HK4.out)).trans HK4.out)
      replace HK5 := Lib.hid ((hb.block _ (lt_of_block HK5.out)).trans HK5.out)
      replace HS := Lib.hid (HS.out.later hb)
      replace HB := Lib.hid (HB.out.trans (hb.mono HB.out.size))
      clear hb
      obtain ⟨m0, m1, m2, m3, m4, m5, m6, m7, m8, m9, m10⟩ := cells11 HK1.out
      obtain ⟨⟨c0, c1, c2, c3, c4, c5, c6, c7⟩, _⟩ := cells8 HK2.out
      obtain ⟨⟨p0, p1, p2, p3⟩, _⟩ := cells4 HK3.out
      obtain rfl : a2 = true := by rw [Hha2.out]; exact makes_le HG.out (HIN.out.good HGC.out) HGC.out.gh HIN.out.h (by omega) (Int.le_refl _) (fun h => h) G3.out
      go_wp2_with fail
      refine (Beyond_ex s m lo hi ch _ n1 HS.out (HLM.out.below hpos HB.out) (HST.out.below hpos1 HB.out) HC.out HGC.out (by omega) k3).mono ?_
      rintro e V4 ⟨a3, b3, rfl, ha3, hb3, hb⟩
      have Hha3 := Lib.hid ha3
      clear ha3
      have Hhb3 := Lib.hid hb3
      clear hb3
      clear m0 m1 m2 m3 m4 m5 m6 m7 m8 m9 m10 c0 c1 c2 c3 c4 c5 c6 c7 p0 p1 p2 p3
      replace HK1 := Lib.hid ((hb.block _ (lt_of_block HK1.out)).trans HK1.out)
      replace HK2 := Lib.hid ((hb.block _ (lt_of_block HK2.out)).trans HK2.out)
      replace HK3 := Lib.hid ((hb.block _ (lt_of_block HK3.out)).trans HK3.out)
      replace HK4 := Lib.hid ((hb.block _ (lt_of_block HK4.out)).trans HK4.out)
      replace HK5 := Lib.hid ((hb.block _ (lt_of_block HK5.out)).trans HK5.out)
      replace HS := Lib.hid (HS.out.later hb)
      replace HB := Lib.hid (HB.out.trans (hb.mono HB.out.size))
      clear hb
      obtain ⟨m0, m1, m2, m3, m4, m5, m6, m7, m8, m9, m10⟩ := cells11 HK1.out
      obtain ⟨⟨c0, c1, c2, c3, c4, c5, c6, c7⟩, _⟩ := cells8 HK2.out
      obtain ⟨⟨r0, r1, r2, r3⟩, _⟩ := cells4 HK5.out
      obtain rfl : a3 = false := Hha3.out.trans G4.out
      by_cases hlt : n1 < 250
      · skip
        go_wp2_with fail
        refine (Makes_na s m ch _ hi (n1 + 1) HS.out (HLM.out.below hpos HB.out) HC.out HGC.out.gh (by omega) (by omega)).mono ?_
        rintro e V5 ⟨a4, rfl, ha4, hb⟩
        have Hha4 := Lib.hid ha4
        clear ha4
        clear m0 m1 m2 m3 m4 m5 m6 m7 m8 m9 m10 c0 c1 c2 c3 c4 c5 c6 c7 r0 r1 r2 r3
        replace HK1 := Lib.hid ((hb.block _ (lt_of_block HK1.out)).trans HK1.out)
        replace HK2 := Lib.hid ((hb.block _ (lt_of_block HK2.out)).trans HK2.out)
        replace HK3 := Lib.hid ((hb.block _ (lt_of_block HK3.out)).trans HK3.out)
        replace HK4 := Lib.hid ((hb.block _ (lt_of_block HK4.out)).trans HK4.out)
        replace HK5 := Lib.hid ((hb.block _ (lt_of_block HK5.out)).trans HK5.out)
        replace HS := Lib.hid (HS.out.later hb)
        replace HB := Lib.hid (HB.out.trans (hb.mono HB.out.size))
        clear hb
        obtain ⟨m0, m1, m2, m3, m4, m5, m6, m7, m8, m9, m10⟩ := cells11 HK1.out
        obtain ⟨⟨c0, c1, c2, c3, c4, c5, c6, c7⟩, _⟩ := cells8 HK2.out
        go_wp2_with fail
        refine (Beyond_ex s m lo hi ch _ (n1 + 1) HS.out (HLM.out.below hpos HB.out) (HST.out.below hpos1 HB.out) HC.out HGC.out (by omega) (by omega)).mono ?_
        rintro e V6 ⟨a5, b5, rfl, ha5, hb5, hb⟩
        have Hha5 := Lib.hid ha5
        clear ha5
        have Hhb5 := Lib.hid hb5
        clear hb5
        clear m0 m1 m2 m3 m4 m5 m6 m7 m8 m9 m10 c0 c1 c2 c3 c4 c5 c6 c7
        replace HK1 := Lib.hid ((hb.block _ (lt_of_block HK1.out)).trans HK1.out)
        replace HK2 := Lib.hid ((hb.block _ (lt_of_block HK2.out)).trans HK2.out)
        replace HK3 := Lib.hid ((hb.block _ (lt_of_block HK3.out)).trans HK3.out)
        replace HK4 := Lib.hid ((hb.block _ (lt_of_block HK4.out)).trans HK4.out)
        replace HK5 := Lib.hid ((hb.block _ (lt_of_block HK5.out)).trans HK5.out)
        replace HS := Lib.hid (HS.out.later hb)
        replace HB := Lib.hid (HB.out.trans (hb.mono HB.out.size))
        clear hb
        have g5 := G5.out
        rw [← Hha4.out, ← Hha5.out] at g5
        have HAW := Lib.hid (awake_any V6 (HLM.out.below hpos HB.out) (HST.out.below hpos1 HB.out))
        cases a4 <;> cases a5 <;> simp at g5
        all_goals
          go_wp2_with fail
          refine HAW.out.mono ?_
          rintro e We ⟨rfl, hb⟩
          have HBE := Lib.hid (HB.out.trans (hb.mono HB.out.size))
          clear hb
          go_wp2_with fail
          go_ret
          exact ⟨rfl, HBE.out⟩
      · skip
        have HAW := Lib.hid (awake_any V4 (HLM.out.below hpos HB.out) (HST.out.below hpos1 HB.out))
        go_wp2_with fail
        refine HAW.out.mono ?_
        rintro e We ⟨rfl, hb⟩
        have HBE := Lib.hid (HB.out.trans (hb.mono HB.out.size))
        clear hb
        go_wp2_with fail
        go_ret
        exact ⟨rfl, HBE.out⟩
end Go.Proofs.YtcoiklolgilhaaaDoor
namespace Go.Proofs.YtcoiklolgilhaaaDoor
open Go.RowKit
set_option maxRecDepth 100000
noncomputable def cells13 : Code := ((Tryd.f5.body.bind (findReg 13)).getD .skip)
def cbF (s : Sh) (m : Mem3) (i : Ic) (u : Int) (ch b : Bool) : Nat → Value → Prop
  | 0, v => v = .agg (shipA s m)
  | 1, v => v = .agg (iceV i)
  | 2, v => v = .agg (cellV i i)
  | 3, v => v = .int .i64 u
  | 4, v => v = .bool ch
  | 5, v => v = .tuple #[.bool b, .bool b, .int .i64 0]
  | 6, v => v = .tuple #[.bool b, .bool b, .int .i64 0]
  | 7, v => v = .bool b
  | 8, v => v = .bool b
  | 9, v => v = .int .i64 0
  | 10, v => v = .bool b
  | 11, v => v = .bool b
  | 12, v => v = .int .i64 0
  | _, _ => True
set_option maxHeartbeats 32000000 in
theorem Cells_b (s : Sh) (m : Mem3) (lo hi i : Ic) (ch : Bool) (B1 B2 B3 B4 B5 : Nat) (w0 w : World) (hl : Lim w0) (hst : Str w0) (hc0 : chkP s = 0) (gc : GoodC lo hi) (hin : InC lo hi i)
    (hB : Below w0.heap.size w0 w) (hS : ShipIn w s m) (hK1 : w.heap[B1]? = some (.cells (shipA s m) 24 (0, 0))) (hK2 : w.heap[B2]? = some (.cells (cellV lo hi) 59 (0, 0))) (hK3 : w.heap[B3]? = some (.cells (iceV i) 53 (0, 0))) (hK4 : w.heap[B4]? = some (.cells (iceV lo) 53 (0, 0))) (hK5 : w.heap[B5]? = some (.cells (iceV hi) 53 (0, 0)))
    (v y : Int) (hv : 0 ≤ v ∧ v < 256) (hy : y = (speedP s hi ch : Int))
    (x0 x1 x2 x5 x6 x7 x8 x9 x10 x16 x17 x18 x19 x20 x21 x23 x24 x25 x26 x27 x28 x29 x30 x31 x32 x33 x34 x35 x36 x37 x38 x39 x40 x41 x42 x43 x44 x45 x46 x47 x48 x49 x50 x51 x52 x53 x54 x55 x56 x57 x58 x59 x60 x61 x62 x63 x64 x65 x66 x67 x68 x69 x70 x71 x72 x73 x74 x75 x76 x77 x78 x79 x80 x81 x82 x83 x84 x85 x86 x87 x88 x89 x90 x91 x92 x93 x94 x95 x96 x97 x98 x99 x100 x101 x102 x103 x104 x105 x106 x107 x108 x109 x110 x111 x112 x113 x114 x115 x116 x117 x118 x119 x120 x121 x122 x123 x124 x125 x126 x127 x128 x129 x130 x131 x132 x133 x134 x135 x136 x137 x138 x139 x140 x141 x142 x143 x144 x145 x146 x147 x148 x149 x150 x151 x152 x153 x154 x155 x156 x157 x158 x159 x160 x161 x162 x163 x164 x165 x166 x167 x168 x169 x170 x171 x172 x173 x174 x175 x176 x177 x178 x179 x180 x181 x182 x183 x184 x185 x186 x187 x188 x189 x190 x191 x192 x193 x194 x195 x196 x197 x198 x199 x200 x201 x202 x203 x204 x205 x206 x207 x208 x209 x210 x211 x212 x213 x214 x215 x216 x217 x218 x219 x220 x221 x222 x223 x224 x225 x226 x227 x228 x229 x230 x231 x232 x233 x234 x235 x236 x237 x238 x239 x240 x241 x242 x243 x244 x245 x246 x247 x248 x249 x250 x251 x252 x253 x254 x255 x256 x257 x258 x259 x260 x261 x262 x263 x264 x265 x266 x267 x268 x269 x270 x271 x272 x273 x274 x275 x276 x277 x278 x279 x280 x281 x282 x283 x284 x285 x286 x287 x288 x289 x290 x291 x292 x293 x294 x295 x296 x297 x298 x299 x300 x301 x302 x303 x304 : Value) :
    Code.wp Tryd.prog cells13 (bodyPost Tryd.prog Tryd.f5 fun e w' => e = .returned (.bool true) ∧ Below w0.heap.size w0 w') ⟨#[x0, x1, x2, .int .u8 v, .bool ch, x5, x6, x7, x8, x9, x10, .pointer (some ⟨B1, 0, none⟩), .pointer (some ⟨B2, 0, none⟩), .pointer (some ⟨B3, 0, none⟩), .pointer (some ⟨B4, 0, none⟩), .pointer (some ⟨B5, 0, none⟩), x16, x17, x18, x19, x20, x21, .int .i64 y, x23, x24, x25, x26, x27, x28, x29, x30, x31, x32, x33, x34, x35, x36, x37, x38, x39, x40, x41, x42, x43, x44, x45, x46, x47, x48, x49, x50, x51, x52, x53, x54, x55, x56, x57, x58, x59, x60, x61, x62, x63, x64, x65, x66, x67, x68, x69, x70, x71, x72, x73, x74, x75, x76, x77, x78, x79, x80, x81, x82, x83, x84, x85, x86, x87, x88, x89, x90, x91, x92, x93, x94, x95, x96, x97, x98, x99, x100, x101, x102, x103, x104, x105, x106, x107, x108, x109, x110, x111, x112, x113, x114, x115, x116, x117, x118, x119, x120, x121, x122, x123, x124, x125, x126, x127, x128, x129, x130, x131, x132, x133, x134, x135, x136, x137, x138, x139, x140, x141, x142, x143, x144, x145, x146, x147, x148, x149, x150, x151, x152, x153, x154, x155, x156, x157, x158, x159, x160, x161, x162, x163, x164, x165, x166, x167, x168, x169, x170, x171, x172, x173, x174, x175, x176, x177, x178, x179, x180, x181, x182, x183, x184, x185, x186, x187, x188, x189, x190, x191, x192, x193, x194, x195, x196, x197, x198, x199, x200, x201, x202, x203, x204, x205, x206, x207, x208, x209, x210, x211, x212, x213, x214, x215, x216, x217, x218, x219, x220, x221, x222, x223, x224, x225, x226, x227, x228, x229, x230, x231, x232, x233, x234, x235, x236, x237, x238, x239, x240, x241, x242, x243, x244, x245, x246, x247, x248, x249, x250, x251, x252, x253, x254, x255, x256, x257, x258, x259, x260, x261, x262, x263, x264, x265, x266, x267, x268, x269, x270, x271, x272, x273, x274, x275, x276, x277, x278, x279, x280, x281, x282, x283, x284, x285, x286, x287, x288, x289, x290, x291, x292, x293, x294, x295, x296, x297, x298, x299, x300, x301, x302, x303, x304], []⟩ w := by
  have HLM := Lib.hid hl
  have HST := Lib.hid hst
  have hpos := hl.pos
  have hpos1 := hst.pos
  have HC := Lib.hid hc0
  have HG := Lib.hid (good_of hc0)
  have HGC := Lib.hid gc
  have HIN := Lib.hid hin
  have HB := Lib.hid hB
  have HS := Lib.hid hS
  have HK1 := Lib.hid hK1
  have HK2 := Lib.hid hK2
  have HK3 := Lib.hid hK3
  have HK4 := Lib.hid hK4
  have HK5 := Lib.hid hK5
  clear hl hst hc0 gc hin hB hS hK1 hK2 hK3 hK4 hK5
  conv => arg 2; whnf
  have HY := Lib.hid hy
  clear hy
  obtain ⟨v0, v1⟩ := hv
  have d0 : 0 ≤ v % 251 := by omega
  have d1 : v % 251 ≤ 250 := by omega
  obtain ⟨m0, m1, m2, m3, m4, m5, m6, m7, m8, m9, m10⟩ := cells11 HK1.out
  obtain ⟨⟨c0, c1, c2, c3, c4, c5, c6, c7⟩, _⟩ := cells8 HK2.out
  go_wp2_with fail
  refine (Beyond_ex s m lo hi ch _ (v % 251) HS.out (HLM.out.below hpos HB.out) (HST.out.below hpos1 HB.out) HC.out HGC.out d0 d1).mono ?_
  rintro e V1 ⟨bh, bl, rfl, hbh, hbl, hb⟩
  have Hhbh := Lib.hid hbh
  clear hbh
  have Hhbl := Lib.hid hbl
  clear hbl
  clear m0 m1 m2 m3 m4 m5 m6 m7 m8 m9 m10 c0 c1 c2 c3 c4 c5 c6 c7
  replace HK1 := Lib.hid ((hb.block _ (lt_of_block HK1.out)).trans HK1.out)
  replace HK2 := Lib.hid ((hb.block _ (lt_of_block HK2.out)).trans HK2.out)
  replace HK3 := Lib.hid ((hb.block _ (lt_of_block HK3.out)).trans HK3.out)
  replace HK4 := Lib.hid ((hb.block _ (lt_of_block HK4.out)).trans HK4.out)
  replace HK5 := Lib.hid ((hb.block _ (lt_of_block HK5.out)).trans HK5.out)
  replace HS := Lib.hid (HS.out.later hb)
  replace HB := Lib.hid (HB.out.trans (hb.mono HB.out.size))
  clear hb
  go_wp2_with fail
  generalize v % 251 = u at *
  rename_i K hK
  have HKA := Lib.hid hK
  clear hK
  obtain ⟨bi, hbi⟩ : ∃ b, b = beyP s i ch u := ⟨_, rfl⟩
  have HBI := Lib.hid hbi
  have HBY := Lib.hid (fun W (hW : Below V1.heap.size V1 W) => Beyond_ok s m i i ch W u (HS.out.later hW) (HLM.out.below hpos (HB.out.trans (hW.mono HB.out.size))) (HST.out.below hpos1 (HB.out.trans (hW.mono HB.out.size))) HC.out ⟨HIN.out.good HGC.out, HIN.out.good HGC.out, LeI.refl i⟩ d0 d1)
  rw [← hbi] at HBY
  clear hbi
  refine wp_region_fi [161, 162, 163, 164, 165, 166, 160, 167, 168, 169, 27, 28, 19] (cbF s m i u ch bi) (fun _ _ W' => Below V1.heap.size V1 W') (by kernel_rfl) (by kernel_rfl) ?sz ?ts ?z ?val ?fin
  case sz => intro s hs h; simp at hs ⊢; omega
  case ts => simp
  case z => exact below_drawn V1
  case val =>
    intro jj
    match jj with
    | 0 => intro o L V ho hL hd a' W hX hfr hdp; obtain rfl := Option.some.inj ho; exact opx_of (op_load11 rfl (hfr 11 (by decide)) ((hX.block _ (lt_of_block HK1.out)).trans HK1.out)) fun W' hb => ⟨rfl, hX.trans (hb.mono hX.size)⟩
    | 1 => intro o L V ho hL hd a' W hX hfr hdp; obtain rfl := Option.some.inj ho; exact opx_of (op_load4b rfl (hfr 13 (by decide)) ((hX.block _ (lt_of_block HK3.out)).trans HK3.out)) fun W' hb => ⟨rfl, hX.trans (hb.mono hX.size)⟩
    | 2 => intro o L V ho hL hd a' W hX hfr hdp; obtain rfl := Option.some.inj ho; exact opx_of (op_call rfl (Dp (hdp 1 162 (by decide) rfl (by kernel_rfl)) id) egf34 (Just_any i W)) fun W' hb => ⟨rfl, hX.trans (hb.mono hX.size)⟩
    | 3 => intro o L V ho hL hd a' W hX hfr hdp; obtain rfl := Option.some.inj ho; exact opx_of (op_move rfl (hfr 26 (by decide))) fun W' hb => ⟨rfl, hX.trans (hb.mono hX.size)⟩
    | 4 => intro o L V ho hL hd a' W hX hfr hdp; obtain rfl := Option.some.inj ho; exact opx_of (op_move rfl (hfr 4 (by decide))) fun W' hb => ⟨rfl, hX.trans (hb.mono hX.size)⟩
    | 5 => intro o L V ho hL hd a' W hX hfr hdp; obtain rfl := Option.some.inj ho; refine opx_call4g rfl (Dp (hdp 0 161 (by decide) rfl (by kernel_rfl)) id) (Dp (hdp 2 163 (by decide) rfl (by kernel_rfl)) id) (Dp (hdp 3 164 (by decide) rfl (by kernel_rfl)) id) (Dp (hdp 4 165 (by decide) rfl (by kernel_rfl)) id) egf33 ((HBY.out W hX).mono ?_); rintro e W' ⟨rfl, hb⟩; exact ⟨_, rfl, rfl, hX.trans (hb.mono hX.size)⟩
    | 6 => intro o L V ho hL hd a' W hX hfr hdp; obtain rfl := Option.some.inj ho; exact opx_of (op_move rfl (Dp (hdp 5 166 (by decide) rfl (by kernel_rfl)) id)) fun W' hb => ⟨rfl, hX.trans (hb.mono hX.size)⟩
    | 7 => intro o L V ho hL hd a' W hX hfr hdp; obtain rfl := Option.some.inj ho; exact opx_extract (v := .bool bi) rfl (Dp (hdp 6 160 (by decide) rfl (by kernel_rfl)) id) rfl ⟨rfl, hX⟩
    | 8 => intro o L V ho hL hd a' W hX hfr hdp; obtain rfl := Option.some.inj ho; exact opx_extract (v := .bool bi) rfl (Dp (hdp 6 160 (by decide) rfl (by kernel_rfl)) id) rfl ⟨rfl, hX⟩
    | 9 => intro o L V ho hL hd a' W hX hfr hdp; obtain rfl := Option.some.inj ho; exact opx_extract (v := .int .i64 0) rfl (Dp (hdp 6 160 (by decide) rfl (by kernel_rfl)) id) rfl ⟨rfl, hX⟩
    | 10 => intro o L V ho hL hd a' W hX hfr hdp; obtain rfl := Option.some.inj ho; exact opx_of (op_assign rfl (Dp (hdp 7 167 (by decide) rfl (by kernel_rfl)) id)) fun W' hb => ⟨rfl, hX.trans (hb.mono hX.size)⟩
    | 11 => intro o L V ho hL hd a' W hX hfr hdp; obtain rfl := Option.some.inj ho; exact opx_of (op_assign rfl (Dp (hdp 8 168 (by decide) rfl (by kernel_rfl)) id)) fun W' hb => ⟨rfl, hX.trans (hb.mono hX.size)⟩
    | 12 => intro o L V ho hL hd a' W hX hfr hdp; obtain rfl := Option.some.inj ho; exact opx_of (op_assign rfl (Dp (hdp 9 169 (by decide) rfl (by kernel_rfl)) id)) fun W' hb => ⟨rfl, hX.trans (hb.mono hX.size)⟩
    | j + 13 => intro o L V ho; simp at ho
  case fin =>
    intro W1 L V hL hF hb
    have e10 : V 10 = .bool bi := hF 10 (by decide)
    have e11 : V 11 = .bool bi := hF 11 (by decide)
    have e12 : V 12 = .int .i64 0 := hF 12 (by decide)
    replace HK1 := Lib.hid ((hb.block _ (lt_of_block HK1.out)).trans HK1.out)
    replace HK2 := Lib.hid ((hb.block _ (lt_of_block HK2.out)).trans HK2.out)
    replace HK3 := Lib.hid ((hb.block _ (lt_of_block HK3.out)).trans HK3.out)
    replace HK4 := Lib.hid ((hb.block _ (lt_of_block HK4.out)).trans HK4.out)
    replace HK5 := Lib.hid ((hb.block _ (lt_of_block HK5.out)).trans HK5.out)
    replace HS := Lib.hid (HS.out.later hb)
    replace HB := Lib.hid (HB.out.trans (hb.mono HB.out.size))
    clear hb hF hL HBY
    simp only [fill, Act.put, List.setIfInBounds_toArray, List.set_cons_zero, List.set_cons_succ, Nat.reduceAdd, e10, e11, e12]
    clear e10 e11 e12
    generalize V 0 = z0, V 1 = z1, V 2 = z2, V 3 = z3, V 4 = z4, V 5 = z5, V 6 = z6, V 7 = z7, V 8 = z8, V 9 = z9
    clear V
    have i1 : bl = true → bi = true := fun h => by rw [HBI.out]; exact bey_le HGC.out.gl (HIN.out.good HGC.out) HIN.out.l d0 (Int.le_refl _) (fun h => h) (Hhbl.out.symm.trans h)
    have i2 : bi = true → bh = true := fun h => by rw [Hhbh.out]; exact bey_le (HIN.out.good HGC.out) HGC.out.gh HIN.out.h d0 (Int.le_refl _) (fun h => h) (HBI.out.symm.trans h)
    clear HBI Hhbl Hhbh
    go_wp2_with fail
    refine HKA.out _ _ ?_
    refine wp_seq_k ?_
    intro K hK
    have HKB := Lib.hid hK
    clear hK
    cases bl <;> cases bi <;> cases bh <;> simp at i1 i2
    all_goals
      go_wp2_with fail
      refine HKB.out _ _ ?_
      show Code.wp Tryd.prog cells18 _ _ _
      apply Cells_c s m lo hi i ch _ _ _ _ _ w0 _ HLM.out HST.out HC.out HGC.out HIN.out HB.out HS.out HK1.out HK2.out HK3.out HK4.out HK5.out
      exact HY.out
end Go.Proofs.YtcoiklolgilhaaaDoor
namespace Go.Proofs.YtcoiklolgilhaaaDoor
open Go.RowKit
set_option maxRecDepth 100000
noncomputable def cells4c : Code := ((Tryd.f5.body.bind (findReg 4)).getD .skip)
set_option maxHeartbeats 32000000 in
theorem Cells_a (s : Sh) (m : Mem3) (lo hi i : Ic) (ch : Bool) (B1 B2 B3 B4 B5 : Nat) (w0 w : World) (hl : Lim w0) (hst : Str w0) (hc0 : chkP s = 0) (gc : GoodC lo hi) (hin : InC lo hi i)
    (hB : Below w0.heap.size w0 w) (hS : ShipIn w s m) (hK1 : w.heap[B1]? = some (.cells (shipA s m) 24 (0, 0))) (hK2 : w.heap[B2]? = some (.cells (cellV lo hi) 59 (0, 0))) (hK3 : w.heap[B3]? = some (.cells (iceV i) 53 (0, 0))) (hK4 : w.heap[B4]? = some (.cells (iceV lo) 53 (0, 0))) (hK5 : w.heap[B5]? = some (.cells (iceV hi) 53 (0, 0)))
    (v : Int) (hv : 0 ≤ v ∧ v < 256)
    (x0 x1 x2 x5 x6 x7 x8 x9 x10 x16 x17 x18 x19 x20 x21 x22 x23 x24 x25 x26 x27 x28 x29 x30 x31 x32 x33 x34 x35 x36 x37 x38 x39 x40 x41 x42 x43 x44 x45 x46 x47 x48 x49 x50 x51 x52 x53 x54 x55 x56 x57 x58 x59 x60 x61 x62 x63 x64 x65 x66 x67 x68 x69 x70 x71 x72 x73 x74 x75 x76 x77 x78 x79 x80 x81 x82 x83 x84 x85 x86 x87 x88 x89 x90 x91 x92 x93 x94 x95 x96 x97 x98 x99 x100 x101 x102 x103 x104 x105 x106 x107 x108 x109 x110 x111 x112 x113 x114 x115 x116 x117 x118 x119 x120 x121 x122 x123 x124 x125 x126 x127 x128 x129 x130 x131 x132 x133 x134 x135 x136 x137 x138 x139 x140 x141 x142 x143 x144 x145 x146 x147 x148 x149 x150 x151 x152 x153 x154 x155 x156 x157 x158 x159 x160 x161 x162 x163 x164 x165 x166 x167 x168 x169 x170 x171 x172 x173 x174 x175 x176 x177 x178 x179 x180 x181 x182 x183 x184 x185 x186 x187 x188 x189 x190 x191 x192 x193 x194 x195 x196 x197 x198 x199 x200 x201 x202 x203 x204 x205 x206 x207 x208 x209 x210 x211 x212 x213 x214 x215 x216 x217 x218 x219 x220 x221 x222 x223 x224 x225 x226 x227 x228 x229 x230 x231 x232 x233 x234 x235 x236 x237 x238 x239 x240 x241 x242 x243 x244 x245 x246 x247 x248 x249 x250 x251 x252 x253 x254 x255 x256 x257 x258 x259 x260 x261 x262 x263 x264 x265 x266 x267 x268 x269 x270 x271 x272 x273 x274 x275 x276 x277 x278 x279 x280 x281 x282 x283 x284 x285 x286 x287 x288 x289 x290 x291 x292 x293 x294 x295 x296 x297 x298 x299 x300 x301 x302 x303 x304 : Value) :
    Code.wp Tryd.prog cells4c (bodyPost Tryd.prog Tryd.f5 fun e w' => e = .returned (.bool true) ∧ Below w0.heap.size w0 w') ⟨#[x0, x1, x2, .int .u8 v, .bool ch, x5, x6, x7, x8, x9, x10, .pointer (some ⟨B1, 0, none⟩), .pointer (some ⟨B2, 0, none⟩), .pointer (some ⟨B3, 0, none⟩), .pointer (some ⟨B4, 0, none⟩), .pointer (some ⟨B5, 0, none⟩), x16, x17, x18, x19, x20, x21, x22, x23, x24, x25, x26, x27, x28, x29, x30, x31, x32, x33, x34, x35, x36, x37, x38, x39, x40, x41, x42, x43, x44, x45, x46, x47, x48, x49, x50, x51, x52, x53, x54, x55, x56, x57, x58, x59, x60, x61, x62, x63, x64, x65, x66, x67, x68, x69, x70, x71, x72, x73, x74, x75, x76, x77, x78, x79, x80, x81, x82, x83, x84, x85, x86, x87, x88, x89, x90, x91, x92, x93, x94, x95, x96, x97, x98, x99, x100, x101, x102, x103, x104, x105, x106, x107, x108, x109, x110, x111, x112, x113, x114, x115, x116, x117, x118, x119, x120, x121, x122, x123, x124, x125, x126, x127, x128, x129, x130, x131, x132, x133, x134, x135, x136, x137, x138, x139, x140, x141, x142, x143, x144, x145, x146, x147, x148, x149, x150, x151, x152, x153, x154, x155, x156, x157, x158, x159, x160, x161, x162, x163, x164, x165, x166, x167, x168, x169, x170, x171, x172, x173, x174, x175, x176, x177, x178, x179, x180, x181, x182, x183, x184, x185, x186, x187, x188, x189, x190, x191, x192, x193, x194, x195, x196, x197, x198, x199, x200, x201, x202, x203, x204, x205, x206, x207, x208, x209, x210, x211, x212, x213, x214, x215, x216, x217, x218, x219, x220, x221, x222, x223, x224, x225, x226, x227, x228, x229, x230, x231, x232, x233, x234, x235, x236, x237, x238, x239, x240, x241, x242, x243, x244, x245, x246, x247, x248, x249, x250, x251, x252, x253, x254, x255, x256, x257, x258, x259, x260, x261, x262, x263, x264, x265, x266, x267, x268, x269, x270, x271, x272, x273, x274, x275, x276, x277, x278, x279, x280, x281, x282, x283, x284, x285, x286, x287, x288, x289, x290, x291, x292, x293, x294, x295, x296, x297, x298, x299, x300, x301, x302, x303, x304], []⟩ w := by
  have HLM := Lib.hid hl
  have HST := Lib.hid hst
  have hpos := hl.pos
  have hpos1 := hst.pos
  have HC := Lib.hid hc0
  have HG := Lib.hid (good_of hc0)
  have HGC := Lib.hid gc
  have HIN := Lib.hid hin
  have HB := Lib.hid hB
  have HS := Lib.hid hS
  have HK1 := Lib.hid hK1
  have HK2 := Lib.hid hK2
  have HK3 := Lib.hid hK3
  have HK4 := Lib.hid hK4
  have HK5 := Lib.hid hK5
  clear hl hst hc0 gc hin hB hS hK1 hK2 hK3 hK4 hK5
  conv => arg 2; whnf
  obtain ⟨m0, m1, m2, m3, m4, m5, m6, m7, m8, m9, m10⟩ := cells11 HK1.out
  obtain ⟨⟨c0, c1, c2, c3, c4, c5, c6, c7⟩, _⟩ := cells8 HK2.out
  go_wp2_with fail
  refine (Speeds_ex s m lo hi ch _ HS.out (HLM.out.below hpos HB.out) HC.out HGC.out).mono ?_
  rintro e V1 ⟨a0, b0, rfl, ha0, hb0, hb⟩
  have Hha0 := Lib.hid ha0
  clear ha0
  have Hhb0 := Lib.hid hb0
  clear hb0
  clear m0 m1 m2 m3 m4 m5 m6 m7 m8 m9 m10 c0 c1 c2 c3 c4 c5 c6 c7
  replace HK1 := Lib.hid ((hb.block _ (lt_of_block HK1.out)).trans HK1.out)
  replace HK2 := Lib.hid ((hb.block _ (lt_of_block HK2.out)).trans HK2.out)
  replace HK3 := Lib.hid ((hb.block _ (lt_of_block HK3.out)).trans HK3.out)
  replace HK4 := Lib.hid ((hb.block _ (lt_of_block HK4.out)).trans HK4.out)
  replace HK5 := Lib.hid ((hb.block _ (lt_of_block HK5.out)).trans HK5.out)
  replace HS := Lib.hid (HS.out.later hb)
  replace HB := Lib.hid (HB.out.trans (hb.mono HB.out.size))
  clear hb
  have hba := (Below.refl V1.heap.size V1).alloc (Nat.le_refl _) Z57
  have HZ := Lib.hid (block_new V1 Z57)
  go_wp2_with (refine list_store2 rfl rfl rfl (.inr (.inr rfl)) rfl rfl HZ.out ?_; intro V2 hz hc; have hb := hba.trans (hc.below (Nat.le_refl _)); have HK6 := Lib.hid hz; replace HK1 := Lib.hid ((hb.block _ (lt_of_block HK1.out)).trans HK1.out); replace HK2 := Lib.hid ((hb.block _ (lt_of_block HK2.out)).trans HK2.out); replace HK3 := Lib.hid ((hb.block _ (lt_of_block HK3.out)).trans HK3.out); replace HK4 := Lib.hid ((hb.block _ (lt_of_block HK4.out)).trans HK4.out); replace HK5 := Lib.hid ((hb.block _ (lt_of_block HK5.out)).trans HK5.out); replace HS := Lib.hid (HS.out.later hb); replace HB := Lib.hid (HB.out.trans (hb.mono HB.out.size)); clear hb hz hc HZ hba; obtain ⟨m0, m1, m2, m3, m4, m5, m6, m7, m8, m9, m10⟩ := cells11 HK1.out; obtain ⟨⟨p0, p1, p2, p3⟩, _⟩ := cells4 HK3.out)
  refine (Speed_ok s m i ch _ HS.out (HLM.out.below hpos HB.out) HC.out (HIN.out.good HGC.out)).mono ?_
  rintro e V3 ⟨n1, rfl, hn1, hb⟩
  have Hhn1 := Lib.hid hn1
  clear hn1
  clear m0 m1 m2 m3 m4 m5 m6 m7 m8 m9 m10 p0 p1 p2 p3
  replace HK1 := Lib.hid ((hb.block _ (lt_of_block HK1.out)).trans HK1.out)
  replace HK2 := Lib.hid ((hb.block _ (lt_of_block HK2.out)).trans HK2.out)
  replace HK3 := Lib.hid ((hb.block _ (lt_of_block HK3.out)).trans HK3.out)
  replace HK4 := Lib.hid ((hb.block _ (lt_of_block HK4.out)).trans HK4.out)
  replace HK5 := Lib.hid ((hb.block _ (lt_of_block HK5.out)).trans HK5.out)
  replace HK6 := Lib.hid ((hb.block _ (lt_of_block HK6.out)).trans HK6.out)
  replace HS := Lib.hid (HS.out.later hb)
  replace HB := Lib.hid (HB.out.trans (hb.mono HB.out.size))
  clear hb
  obtain ⟨m0, m1, m2, m3, m4, m5, m6, m7, m8, m9, m10⟩ := cells11 HK1.out
  obtain ⟨⟨q0, q1, q2, q3⟩, _⟩ := cells4 HK4.out
  go_wp2_with fail
  refine (Speed_ok s m lo ch _ HS.out (HLM.out.below hpos HB.out) HC.out HGC.out.gl).mono ?_
  rintro e V4 ⟨n2, rfl, hn2, hb⟩
  have Hhn2 := Lib.hid hn2
  clear hn2
  clear m0 m1 m2 m3 m4 m5 m6 m7 m8 m9 m10 q0 q1 q2 q3
  replace HK1 := Lib.hid ((hb.block _ (lt_of_block HK1.out)).trans HK1.out)
  replace HK2 := Lib.hid ((hb.block _ (lt_of_block HK2.out)).trans HK2.out)
  replace HK3 := Lib.hid ((hb.block _ (lt_of_block HK3.out)).trans HK3.out)
  replace HK4 := Lib.hid ((hb.block _ (lt_of_block HK4.out)).trans HK4.out)
  replace HK5 := Lib.hid ((hb.block _ (lt_of_block HK5.out)).trans HK5.out)
  replace HK6 := Lib.hid ((hb.block _ (lt_of_block HK6.out)).trans HK6.out)
  replace HS := Lib.hid (HS.out.later hb)
  replace HB := Lib.hid (HB.out.trans (hb.mono HB.out.size))
  clear hb
  obtain ⟨m0, m1, m2, m3, m4, m5, m6, m7, m8, m9, m10⟩ := cells11 HK1.out
  obtain ⟨⟨r0, r1, r2, r3⟩, _⟩ := cells4 HK5.out
  go_wp2_with fail
  refine (Speed_ok s m hi ch _ HS.out (HLM.out.below hpos HB.out) HC.out HGC.out.gh).mono ?_
  rintro e V5 ⟨n3, rfl, hn3, hb⟩
  have Hhn3 := Lib.hid hn3
  clear hn3
  clear m0 m1 m2 m3 m4 m5 m6 m7 m8 m9 m10 r0 r1 r2 r3
  replace HK1 := Lib.hid ((hb.block _ (lt_of_block HK1.out)).trans HK1.out)
  replace HK2 := Lib.hid ((hb.block _ (lt_of_block HK2.out)).trans HK2.out)
  replace HK3 := Lib.hid ((hb.block _ (lt_of_block HK3.out)).trans HK3.out)
  replace HK4 := Lib.hid ((hb.block _ (lt_of_block HK4.out)).trans HK4.out)
  replace HK5 := Lib.hid ((hb.block _ (lt_of_block HK5.out)).trans HK5.out)
  replace HK6 := Lib.hid ((hb.block _ (lt_of_block HK6.out)).trans HK6.out)
  replace HS := Lib.hid (HS.out.later hb)
  replace HB := Lib.hid (HB.out.trans (hb.mono HB.out.size))
  clear hb
  obtain ⟨m0, m1, m2, m3, m4, m5, m6, m7, m8, m9, m10⟩ := cells11 HK1.out
  obtain ⟨⟨c0, c1, c2, c3, c4, c5, c6, c7⟩, _⟩ := cells8 HK2.out
  obtain ⟨⟨t0, t1⟩, _⟩ := cells2 HK6.out
  obtain rfl : n2 = b0 := Hhn2.out.trans Hhb0.out.symm
  obtain rfl : n3 = a0 := Hhn3.out.trans Hha0.out.symm
  have q := in_cell (ch := ch) HG.out HGC.out (HIN.out.good HGC.out) HIN.out.l HIN.out.h
  have f1 : n3 ≤ n1 := by have := Hhn1.out; have := Hhn3.out; omega
  have f2 : n1 ≤ n2 := by have := Hhn1.out; have := Hhn2.out; omega
  clear q Hhn1 Hhb0 Hha0
  go_wp2_with fail
  rename_i K hK K9 hK9
  have HKA := Lib.hid hK
  clear hK
  refine (Beset_ex s m lo hi ch _ HS.out (HLM.out.below hpos HB.out) HC.out HGC.out).mono ?_
  rintro e V6 ⟨u1, u2, rfl, hu1, hu2, hb⟩
  have Hhu1 := Lib.hid hu1
  clear hu1
  have Hhu2 := Lib.hid hu2
  clear hu2
  clear m0 m1 m2 m3 m4 m5 m6 m7 m8 m9 m10 c0 c1 c2 c3 c4 c5 c6 c7 t0 t1
  replace HK1 := Lib.hid ((hb.block _ (lt_of_block HK1.out)).trans HK1.out)
  replace HK2 := Lib.hid ((hb.block _ (lt_of_block HK2.out)).trans HK2.out)
  replace HK3 := Lib.hid ((hb.block _ (lt_of_block HK3.out)).trans HK3.out)
  replace HK4 := Lib.hid ((hb.block _ (lt_of_block HK4.out)).trans HK4.out)
  replace HK5 := Lib.hid ((hb.block _ (lt_of_block HK5.out)).trans HK5.out)
  replace HK6 := Lib.hid ((hb.block _ (lt_of_block HK6.out)).trans HK6.out)
  replace HS := Lib.hid (HS.out.later hb)
  replace HB := Lib.hid (HB.out.trans (hb.mono HB.out.size))
  clear hb
  have j1 : u1 = decide (n3 < 10) := by rw [Hhu1.out, Hhn3.out]
  have j2 : u2 = decide (n2 < 10) := by rw [Hhu2.out, Hhn2.out]
  clear Hhu1 Hhu2 Hhn2
  go_wp2_with fail
  refine HKA.out _ _ ?_
  refine wp_seq_k ?_
  intro K hK
  have HKB := Lib.hid hK
  clear hK
  by_cases l1 : n1 < 10 <;> by_cases l2 : n2 < 10 <;> by_cases l3 : n3 < 10 <;> try (exfalso; omega)
  all_goals
    simp only [l2, l3, decide_true, decide_false] at j1 j2
    subst j1 j2
    go_wp2_with fail
    refine HKB.out _ _ ?_
    show Code.wp Tryd.prog cells13 _ _ _
    apply Cells_b s m lo hi i ch _ _ _ _ _ w0 _ HLM.out HST.out HC.out HGC.out HIN.out HB.out HS.out HK1.out HK2.out HK3.out HK4.out HK5.out
    · exact hv
    · exact Hhn3.out
end Go.Proofs.YtcoiklolgilhaaaDoor
namespace Go.Proofs.YtcoiklolgilhaaaDoor
open Go.RowKit
set_option maxRecDepth 100000
set_option maxHeartbeats 8000000 in
theorem Cells_law (p : Option Addr) (k cap : Nat) (hk : k ≤ 9223372036854775807) (p2 : Option Addr) (k2 cap2 : Nat) (hk2 : k2 ≤ 9223372036854775807) (p3 : Option Addr) (k3 cap3 : Nat) (hk3 : k3 ≤ 9223372036854775807) (a : Int) (ch : Bool) (w : World) (hl : Lim w) (hst : Str w) (hB : BytesIn w p k) (hB2 : BytesIn w p2 k2) (hB3 : BytesIn w p3 k3) (ha : 0 ≤ a ∧ a < 256) :
    Calls Tryd.prog 5 #[.slice p k cap, .slice p2 k2 cap2, .slice p3 k3 cap3, .int .u8 a, .bool ch] w fun e w' => e = .returned (.bool true) ∧ Below w.heap.size w w' := by
  have HLM := Lib.hid hl
  have HST := Lib.hid hst
  have HM := Lib.hid (Made_any p k cap hk w hB)
  have HFZ := Lib.hid (fun W (hW : Below w.heap.size w W) => Frozen_any p2 k2 cap2 hk2 W (hB2.later hW))
  have HSO := Lib.hid (fun W (hW : Below w.heap.size w W) lo hi gc => Some_any lo hi gc p3 k3 cap3 hk3 W (hB3.later hW))
  clear hl hst hB hB2 hB3 hk hk2 hk3
  go_enter Tryd.func5, Tryd.ntmps5
  go_wp2_with fail
  refine HM.out.mono ?_
  rintro e W1 ⟨s, m, rfl, hs, h7, hin, hbl⟩
  have HC := Lib.hid hs
  have HS := Lib.hid hin
  have HB := Lib.hid hbl
  clear hs h7 hin hbl HM
  go_wp2_with fail
  refine (HFZ.out _ HB.out).mono ?_
  rintro e W2 ⟨lo, hi, rfl, gc, hb⟩
  have HGC := Lib.hid gc
  replace HS := Lib.hid (HS.out.later hb)
  replace HB := Lib.hid (HB.out.trans (hb.mono HB.out.size))
  clear gc hb HFZ
  obtain ⟨t1, t2, tz, tb⟩ := two_allocs W2 (.cells #[.int .i64 0, .int .i64 0, .int .i64 0, .int .i64 0, .slice none 0 0, .slice none 0 0, .slice none 0 0, .int .i64 0, .int .i64 0, .int .i64 0, .int .i64 0] 24) (.cells #[.int .i64 0, .int .i64 0, .int .i64 0, .int .i64 0, .int .i64 0, .int .i64 0, .int .i64 0, .int .i64 0] 59)
  have HZ1 := Lib.hid t1
  have HZ2 := Lib.hid t2
  have HBZ := Lib.hid tb
  clear t1 t2 tb
  go_wp2_with (first | (refine list_store24 rfl rfl rfl rfl rfl HZ1.out ?_; intro V1 hz1 hc1; have HZ2' := Lib.hid ((hc1.2.1 _ (by omega)).trans HZ2.out); have HB4 := Lib.hid (HBZ.out.trans (hc1.below (Nat.le_refl _))); have HY1 := Lib.hid hz1; clear hc1 hz1) | (refine list_store8 rfl rfl rfl (.inl rfl) rfl rfl HZ2'.out ?_; intro V2 hz2 hc2; have HK1 := Lib.hid ((hc2.2.1 _ (by omega)).trans HY1.out); have HK2 := Lib.hid hz2; have hb := HB4.out.trans (hc2.below (by omega)); replace HS := Lib.hid (HS.out.later hb); replace HB := Lib.hid (HB.out.trans (hb.mono HB.out.size)); clear hc2 hz2 hb HB4 HY1 HZ1 HZ2 HZ2' HBZ; obtain ⟨⟨c0, c1, c2, c3, c4, c5, c6, c7⟩, _⟩ := cells8 HK2.out))
  refine (HSO.out _ HB.out lo hi HGC.out).mono ?_
  rintro e W3 ⟨i, rfl, hin, hb⟩
  have HIN := Lib.hid hin
  replace HK1 := Lib.hid ((hb.block _ (lt_of_block HK1.out)).trans HK1.out)
  replace HK2 := Lib.hid ((hb.block _ (lt_of_block HK2.out)).trans HK2.out)
  replace HS := Lib.hid (HS.out.later hb)
  replace HB := Lib.hid (HB.out.trans (hb.mono HB.out.size))
  clear hin hb HSO c0 c1 c2 c3 c4 c5 c6 c7
  have hba := (Below.refl W3.heap.size W3).alloc (Nat.le_refl _) Z53
  have HZ := Lib.hid (block_new W3 Z53)
  go_wp2_with (refine list_store4 rfl rfl rfl (.inl rfl) rfl rfl HZ.out ?_; intro V3 hz hc; have hb := hba.trans (hc.below (Nat.le_refl _)); have HK3 := Lib.hid hz; replace HK1 := Lib.hid ((hb.block _ (lt_of_block HK1.out)).trans HK1.out); replace HK2 := Lib.hid ((hb.block _ (lt_of_block HK2.out)).trans HK2.out); replace HS := Lib.hid (HS.out.later hb); replace HB := Lib.hid (HB.out.trans (hb.mono HB.out.size)); clear hb hz hc HZ hba; obtain ⟨⟨c0, c1, c2, c3, c4, c5, c6, c7⟩, _⟩ := cells8 HK2.out)
  rename_i K hK K9 hK9
  have HKA := Lib.hid hK
  clear hK
  refine (ends25_any lo hi _).mono ?_
  rintro e W4 ⟨rfl, hb⟩
  replace HK1 := Lib.hid ((hb.block _ (lt_of_block HK1.out)).trans HK1.out)
  replace HK2 := Lib.hid ((hb.block _ (lt_of_block HK2.out)).trans HK2.out)
  replace HK3 := Lib.hid ((hb.block _ (lt_of_block HK3.out)).trans HK3.out)
  replace HS := Lib.hid (HS.out.later hb)
  replace HB := Lib.hid (HB.out.trans (hb.mono HB.out.size))
  clear hb c0 c1 c2 c3 c4 c5 c6 c7
  obtain ⟨t1, t2, tz', tb⟩ := two_allocs W4 Z53 Z53
  have HZ1 := Lib.hid t1
  have HZ2 := Lib.hid t2
  have HBZ := Lib.hid tb
  clear t1 t2 tb
  go_wp2_with (first | (refine list_store4 rfl rfl rfl (.inl rfl) rfl rfl HZ1.out ?_; intro V4 hz1 hc1; have HZ2' := Lib.hid ((hc1.2.1 _ (by omega)).trans HZ2.out); have HB4 := Lib.hid (HBZ.out.trans (hc1.below (Nat.le_refl _))); have HY1 := Lib.hid hz1; clear hc1 hz1) | (refine list_store4 rfl rfl rfl (.inl rfl) rfl rfl HZ2'.out ?_; intro V5 hz2 hc2; have HK4 := Lib.hid ((hc2.2.1 _ (by omega)).trans HY1.out); have HK5 := Lib.hid hz2; have hb := HB4.out.trans (hc2.below (by omega)); replace HK1 := Lib.hid ((hb.block _ (lt_of_block HK1.out)).trans HK1.out); replace HK2 := Lib.hid ((hb.block _ (lt_of_block HK2.out)).trans HK2.out); replace HK3 := Lib.hid ((hb.block _ (lt_of_block HK3.out)).trans HK3.out); replace HS := Lib.hid (HS.out.later hb); replace HB := Lib.hid (HB.out.trans (hb.mono HB.out.size)); clear hc2 hz2 hb HB4 HY1 HZ1 HZ2 HZ2' HBZ))
  refine HKA.out _ _ ?_
  show Code.wp Tryd.prog cells4c _ _ _
  apply Cells_a s m lo hi i ch _ _ _ _ _ w _ HLM.out HST.out HC.out HGC.out HIN.out HB.out HS.out HK1.out HK2.out HK3.out HK4.out HK5.out
  exact ha
end Go.Proofs.YtcoiklolgilhaaaDoor
