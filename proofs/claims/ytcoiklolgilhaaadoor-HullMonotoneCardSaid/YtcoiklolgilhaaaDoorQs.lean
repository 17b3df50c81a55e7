/- The law HullMonotone behind its arguments: what is asked of the ship in the least and the most ice. -/
import Derived.Test.YtcoiklolgilhaaaDoorQr
namespace Go.Proofs.YtcoiklolgilhaaaDoor
open Go.RowKit
set_option maxRecDepth 100000
noncomputable def mono6 : Code := ((Tryd.f4.body.bind (findReg 6)).getD .skip)
set_option maxHeartbeats 32000000 in
theorem Mono_tail (s : Sh) (m : Mem3) (li hi' : Ic) (ch : Bool) (lo hi : Int) (B1 B2 B3 : Nat) (w0 w : World) (hl : Lim w0) (hst : Str w0) (hc0 : chkP s = 0) (gc : GoodC li hi') (h0 : 0 ≤ lo) (h1 : lo ≤ hi) (h2 : hi ≤ 250)
    (hB : Below w0.heap.size w0 w) (hS : ShipIn w s m) (hK1 : w.heap[B1]? = some (.cells (shipA s m) 24 (0, 0))) (hK2 : w.heap[B2]? = some (.cells (iceV li) 53 (0, 0))) (hK3 : w.heap[B3]? = some (.cells (iceV hi') 53 (0, 0)))
    (x0 x1 x2 x3 x5 x6 x7 x8 x9 x10 x16 x17 x18 x19 x20 x21 x22 x23 x24 x25 x26 x27 x28 x29 x30 x31 x32 x33 x34 x35 x36 x37 x38 x39 x40 x41 x42 x43 x44 x45 x46 x47 x48 x49 x50 x51 x52 x53 x54 x55 x56 x57 x58 x59 x60 x61 x62 x63 x64 x65 x66 x67 x68 x69 x70 x71 x72 x73 x74 x75 x76 x77 x78 x79 x80 x81 x82 x83 x84 x85 x86 x87 x88 x89 x90 x91 x92 x93 x94 x95 x96 x97 x98 x99 x100 x101 x102 x103 x104 x105 x106 x107 x108 x109 x110 x111 x112 x113 x114 x115 x116 x117 x118 x119 x120 x121 x122 x123 x124 x125 x126 x127 x128 x129 x130 x131 x132 x133 x134 x135 x136 x137 x138 x139 x140 x141 x142 x143 x144 x145 x146 x147 x148 x149 x150 x151 x152 x153 x154 x155 x156 x157 x158 x159 x160 x161 x162 x163 x164 x165 x166 x167 x168 x169 x170 x171 x172 x173 x174 x175 x176 x177 x178 x179 x180 x181 x182 x183 x184 x185 x186 x187 x188 x189 x190 x191 x192 x193 x194 x195 x196 x197 x198 x199 x200 x201 x202 x203 x204 x205 x206 x207 x208 x209 x210 x211 x212 x213 x214 x215 x216 x217 x218 x219 x220 x221 x222 x223 x224 x225 x226 x227 x228 x229 x230 x231 x232 x233 x234 x235 x236 x237 x238 x239 x240 x241 x242 x243 x244 x245 x246 x247 x248 x249 x250 x251 x252 x253 x254 x255 x256 x257 : Value) :
    Code.wp Tryd.prog mono6 (bodyPost Tryd.prog Tryd.f4 fun e w' => e = .returned (.bool true) ∧ Below w0.heap.size w0 w') ⟨#[x0, x1, x2, x3, .bool ch, x5, x6, x7, x8, x9, x10, .pointer (some ⟨B1, 0, none⟩), .pointer (some ⟨B2, 0, none⟩), .pointer (some ⟨B3, 0, none⟩), .int .i64 lo, .int .i64 hi, x16, x17, x18, x19, x20, x21, x22, x23, x24, x25, x26, x27, x28, x29, x30, x31, x32, x33, x34, x35, x36, x37, x38, x39, x40, x41, x42, x43, x44, x45, x46, x47, x48, x49, x50, x51, x52, x53, x54, x55, x56, x57, x58, x59, x60, x61, x62, x63, x64, x65, x66, x67, x68, x69, x70, x71, x72, x73, x74, x75, x76, x77, x78, x79, x80, x81, x82, x83, x84, x85, x86, x87, x88, x89, x90, x91, x92, x93, x94, x95, x96, x97, x98, x99, x100, x101, x102, x103, x104, x105, x106, x107, x108, x109, x110, x111, x112, x113, x114, x115, x116, x117, x118, x119, x120, x121, x122, x123, x124, x125, x126, x127, x128, x129, x130, x131, x132, x133, x134, x135, x136, x137, x138, x139, x140, x141, x142, x143, x144, x145, x146, x147, x148, x149, x150, x151, x152, x153, x154, x155, x156, x157, x158, x159, x160, x161, x162, x163, x164, x165, x166, x167, x168, x169, x170, x171, x172, x173, x174, x175, x176, x177, x178, x179, x180, x181, x182, x183, x184, x185, x186, x187, x188, x189, x190, x191, x192, x193, x194, x195, x196, x197, x198, x199, x200, x201, x202, x203, x204, x205, x206, x207, x208, x209, x210, x211, x212, x213, x214, x215, x216, x217, x218, x219, x220, x221, x222, x223, x224, x225, x226, x227, x228, x229, x230, x231, x232, x233, x234, x235, x236, x237, x238, x239, x240, x241, x242, x243, x244, x245, x246, x247, x248, x249, x250, x251, x252, x253, x254, x255, x256, x257], []⟩ w := by
  have HLM := Lib.hid hl
  have HST := Lib.hid hst
  have hpos := hl.pos
  have hpos1 := hst.pos
  have HC := Lib.hid hc0
  have HG := Lib.hid (good_of hc0)
  have gl := gc.gl
  have gh := gc.gh
  have HGL := Lib.hid gl
  have HGH := Lib.hid gh
  have HLE := Lib.hid gc.le
  have HB := Lib.hid hB
  have HS := Lib.hid hS
  have HK1 := Lib.hid hK1
  have HK2 := Lib.hid hK2
  have HK3 := Lib.hid hK3
  clear hl hst hc0 gc gl gh hB hS hK1 hK2 hK3
  conv => arg 2; whnf
  obtain ⟨m0, m1, m2, m3, m4, m5, m6, m7, m8, m9, m10⟩ := cells11 HK1.out
  obtain ⟨⟨p0, p1, p2, p3⟩, _⟩ := cells4 HK2.out
  obtain ⟨⟨q0, q1, q2, q3⟩, _⟩ := cells4 HK3.out
  go_wp2_with fail
  refine (Speed_ok s m li ch _ HS.out (HLM.out.below hpos HB.out) HC.out HGL.out).mono ?_
  rintro e V1 ⟨n1, rfl, hn1, hb⟩
  have Hn1 := Lib.hid hn1
  replace HK1 := Lib.hid ((hb.block _ (lt_of_block HK1.out)).trans HK1.out)
  replace HK2 := Lib.hid ((hb.block _ (lt_of_block HK2.out)).trans HK2.out)
  replace HK3 := Lib.hid ((hb.block _ (lt_of_block HK3.out)).trans HK3.out)
  replace HS := Lib.hid (HS.out.later hb)
  replace HB := Lib.hid (HB.out.trans (hb.mono HB.out.size))
  clear m0 m1 m2 m3 m4 m5 m6 m7 m8 m9 m10 p0 p1 p2 p3 q0 q1 q2 q3 hn1 hb
  obtain ⟨m0, m1, m2, m3, m4, m5, m6, m7, m8, m9, m10⟩ := cells11 HK1.out
  obtain ⟨⟨p0, p1, p2, p3⟩, _⟩ := cells4 HK2.out
  obtain ⟨⟨q0, q1, q2, q3⟩, _⟩ := cells4 HK3.out
  go_wp2_with fail
  refine (Speed_ok s m hi' ch _ HS.out (HLM.out.below hpos HB.out) HC.out HGH.out).mono ?_
  rintro e V2 ⟨n2, rfl, hn2, hb⟩
  have Hn2 := Lib.hid hn2
  replace HK1 := Lib.hid ((hb.block _ (lt_of_block HK1.out)).trans HK1.out)
  replace HK2 := Lib.hid ((hb.block _ (lt_of_block HK2.out)).trans HK2.out)
  replace HK3 := Lib.hid ((hb.block _ (lt_of_block HK3.out)).trans HK3.out)
  replace HS := Lib.hid (HS.out.later hb)
  replace HB := Lib.hid (HB.out.trans (hb.mono HB.out.size))
  clear m0 m1 m2 m3 m4 m5 m6 m7 m8 m9 m10 p0 p1 p2 p3 q0 q1 q2 q3 hn2 hb
  obtain ⟨m0, m1, m2, m3, m4, m5, m6, m7, m8, m9, m10⟩ := cells11 HK1.out
  obtain ⟨⟨p0, p1, p2, p3⟩, _⟩ := cells4 HK2.out
  obtain ⟨⟨q0, q1, q2, q3⟩, _⟩ := cells4 HK3.out
  have f1 : n2 ≤ n1 := by rw [Hn1.out, Hn2.out]; exact_mod_cast speed_le HG.out HGL.out HGH.out HLE.out (fun h => h)
  go_wp2_with fail
  refine (Resistance_ok s m li lo ch _ HS.out (HLM.out.below hpos HB.out) HC.out HGL.out h0 (by omega)).mono ?_
  rintro e V3 ⟨n3, rfl, hn3, hb⟩
  have Hn3 := Lib.hid hn3
  replace HK1 := Lib.hid ((hb.block _ (lt_of_block HK1.out)).trans HK1.out)
  replace HK2 := Lib.hid ((hb.block _ (lt_of_block HK2.out)).trans HK2.out)
  replace HK3 := Lib.hid ((hb.block _ (lt_of_block HK3.out)).trans HK3.out)
  replace HS := Lib.hid (HS.out.later hb)
  replace HB := Lib.hid (HB.out.trans (hb.mono HB.out.size))
  clear m0 m1 m2 m3 m4 m5 m6 m7 m8 m9 m10 p0 p1 p2 p3 q0 q1 q2 q3 hn3 hb
  obtain ⟨m0, m1, m2, m3, m4, m5, m6, m7, m8, m9, m10⟩ := cells11 HK1.out
  obtain ⟨⟨p0, p1, p2, p3⟩, _⟩ := cells4 HK2.out
  obtain ⟨⟨q0, q1, q2, q3⟩, _⟩ := cells4 HK3.out
  go_wp2_with fail
  refine (Resistance_ok s m hi' lo ch _ HS.out (HLM.out.below hpos HB.out) HC.out HGH.out h0 (by omega)).mono ?_
  rintro e V4 ⟨n4, rfl, hn4, hb⟩
  have Hn4 := Lib.hid hn4
  replace HK1 := Lib.hid ((hb.block _ (lt_of_block HK1.out)).trans HK1.out)
  replace HK2 := Lib.hid ((hb.block _ (lt_of_block HK2.out)).trans HK2.out)
  replace HK3 := Lib.hid ((hb.block _ (lt_of_block HK3.out)).trans HK3.out)
  replace HS := Lib.hid (HS.out.later hb)
  replace HB := Lib.hid (HB.out.trans (hb.mono HB.out.size))
  clear m0 m1 m2 m3 m4 m5 m6 m7 m8 m9 m10 p0 p1 p2 p3 q0 q1 q2 q3 hn4 hb
  obtain ⟨m0, m1, m2, m3, m4, m5, m6, m7, m8, m9, m10⟩ := cells11 HK1.out
  obtain ⟨⟨p0, p1, p2, p3⟩, _⟩ := cells4 HK2.out
  obtain ⟨⟨q0, q1, q2, q3⟩, _⟩ := cells4 HK3.out
  go_wp2_with fail
  refine (Resistance_ok s m hi' hi ch _ HS.out (HLM.out.below hpos HB.out) HC.out HGH.out (by omega) h2).mono ?_
  rintro e V5 ⟨n5, rfl, hn5, hb⟩
  have Hn5 := Lib.hid hn5
  replace HK1 := Lib.hid ((hb.block _ (lt_of_block HK1.out)).trans HK1.out)
  replace HK2 := Lib.hid ((hb.block _ (lt_of_block HK2.out)).trans HK2.out)
  replace HK3 := Lib.hid ((hb.block _ (lt_of_block HK3.out)).trans HK3.out)
  replace HS := Lib.hid (HS.out.later hb)
  replace HB := Lib.hid (HB.out.trans (hb.mono HB.out.size))
  clear m0 m1 m2 m3 m4 m5 m6 m7 m8 m9 m10 p0 p1 p2 p3 q0 q1 q2 q3 hn5 hb
  obtain ⟨m0, m1, m2, m3, m4, m5, m6, m7, m8, m9, m10⟩ := cells11 HK1.out
  obtain ⟨⟨p0, p1, p2, p3⟩, _⟩ := cells4 HK2.out
  obtain ⟨⟨q0, q1, q2, q3⟩, _⟩ := cells4 HK3.out
  have f2 : n3 ≤ n4 := by rw [Hn3.out, Hn4.out]; exact res_le HG.out HGL.out HGH.out HLE.out h0 (Int.le_refl _) (fun h => h)
  have f3 : n4 ≤ n5 := by rw [Hn4.out, Hn5.out]; exact res_le HG.out HGH.out HGH.out (LeI.refl _) h0 h1 (fun h => h)
  go_wp2_with fail
  refine (Load_ok li lo ch _ (HLM.out.below hpos HB.out) HGL.out h0 (by omega)).mono ?_
  rintro e V6 ⟨n6, rfl, hn6, hb⟩
  have Hn6 := Lib.hid hn6
  replace HK1 := Lib.hid ((hb.block _ (lt_of_block HK1.out)).trans HK1.out)
  replace HK2 := Lib.hid ((hb.block _ (lt_of_block HK2.out)).trans HK2.out)
  replace HK3 := Lib.hid ((hb.block _ (lt_of_block HK3.out)).trans HK3.out)
  replace HS := Lib.hid (HS.out.later hb)
  replace HB := Lib.hid (HB.out.trans (hb.mono HB.out.size))
  clear m0 m1 m2 m3 m4 m5 m6 m7 m8 m9 m10 p0 p1 p2 p3 q0 q1 q2 q3 hn6 hb
  obtain ⟨m0, m1, m2, m3, m4, m5, m6, m7, m8, m9, m10⟩ := cells11 HK1.out
  obtain ⟨⟨p0, p1, p2, p3⟩, _⟩ := cells4 HK2.out
  obtain ⟨⟨q0, q1, q2, q3⟩, _⟩ := cells4 HK3.out
  go_wp2_with fail
  refine (Load_ok hi' lo ch _ (HLM.out.below hpos HB.out) HGH.out h0 (by omega)).mono ?_
  rintro e V7 ⟨n7, rfl, hn7, hb⟩
  have Hn7 := Lib.hid hn7
  replace HK1 := Lib.hid ((hb.block _ (lt_of_block HK1.out)).trans HK1.out)
  replace HK2 := Lib.hid ((hb.block _ (lt_of_block HK2.out)).trans HK2.out)
  replace HK3 := Lib.hid ((hb.block _ (lt_of_block HK3.out)).trans HK3.out)
  replace HS := Lib.hid (HS.out.later hb)
  replace HB := Lib.hid (HB.out.trans (hb.mono HB.out.size))
  clear m0 m1 m2 m3 m4 m5 m6 m7 m8 m9 m10 p0 p1 p2 p3 q0 q1 q2 q3 hn7 hb
  obtain ⟨m0, m1, m2, m3, m4, m5, m6, m7, m8, m9, m10⟩ := cells11 HK1.out
  obtain ⟨⟨p0, p1, p2, p3⟩, _⟩ := cells4 HK2.out
  obtain ⟨⟨q0, q1, q2, q3⟩, _⟩ := cells4 HK3.out
  go_wp2_with fail
  refine (Load_ok hi' hi ch _ (HLM.out.below hpos HB.out) HGH.out (by omega) h2).mono ?_
  rintro e V8 ⟨n8, rfl, hn8, hb⟩
  have Hn8 := Lib.hid hn8
  replace HK1 := Lib.hid ((hb.block _ (lt_of_block HK1.out)).trans HK1.out)
  replace HK2 := Lib.hid ((hb.block _ (lt_of_block HK2.out)).trans HK2.out)
  replace HK3 := Lib.hid ((hb.block _ (lt_of_block HK3.out)).trans HK3.out)
  replace HS := Lib.hid (HS.out.later hb)
  replace HB := Lib.hid (HB.out.trans (hb.mono HB.out.size))
  clear m0 m1 m2 m3 m4 m5 m6 m7 m8 m9 m10 p0 p1 p2 p3 q0 q1 q2 q3 hn8 hb
  obtain ⟨m0, m1, m2, m3, m4, m5, m6, m7, m8, m9, m10⟩ := cells11 HK1.out
  obtain ⟨⟨p0, p1, p2, p3⟩, _⟩ := cells4 HK2.out
  obtain ⟨⟨q0, q1, q2, q3⟩, _⟩ := cells4 HK3.out
  have f4 : n6 ≤ n7 := by rw [Hn6.out, Hn7.out]; exact load_le HGL.out HGH.out HLE.out h0 (Int.le_refl _) (fun h => h)
  have f5 : n7 ≤ n8 := by rw [Hn7.out, Hn8.out]; exact load_le HGH.out HGH.out (LeI.refl _) h0 h1 (fun h => h)
  go_wp2_with fail
  have hb := (Below.refl V8.heap.size V8).alloc (Nat.le_refl _) (.cells #[.int .i64 li.conc, .int .i64 li.thick, .int .i64 li.ridge, .int .i64 li.press, .int .i64 hi'.conc, .int .i64 hi'.thick, .int .i64 hi'.ridge, .int .i64 hi'.press] 53)
  have HA := Lib.hid (block_new V8 (.cells #[.int .i64 li.conc, .int .i64 li.thick, .int .i64 li.ridge, .int .i64 li.press, .int .i64 hi'.conc, .int .i64 hi'.thick, .int .i64 hi'.ridge, .int .i64 hi'.press] 53))
  replace HK1 := Lib.hid ((hb.block _ (lt_of_block HK1.out)).trans HK1.out)
  replace HK2 := Lib.hid ((hb.block _ (lt_of_block HK2.out)).trans HK2.out)
  replace HK3 := Lib.hid ((hb.block _ (lt_of_block HK3.out)).trans HK3.out)
  replace HS := Lib.hid (HS.out.later hb)
  replace HB := Lib.hid (HB.out.trans (hb.mono HB.out.size))
  clear m0 m1 m2 m3 m4 m5 m6 m7 m8 m9 m10 p0 p1 p2 p3 q0 q1 q2 q3 hb
  generalize V8.alloc (.cells #[.int .i64 li.conc, .int .i64 li.thick, .int .i64 li.ridge, .int .i64 li.press, .int .i64 hi'.conc, .int .i64 hi'.thick, .int .i64 hi'.ridge, .int .i64 hi'.press] 53) = VL at *
  generalize V8.heap.size = BA at *
  go_loopw [177] (fun i wr => ∃ n : Int, i = .int .i64 n ∧ (n = 0 ∨ n = 1 ∨ n = 2) ∧ Hid (Below VL.heap.size VL wr)) (fun i _ => 2 - (intOf i).toNat)
  case atStart => exact ⟨0, rfl, .inl rfl, Lib.hid (Below.refl _ _)⟩
  case round =>
    obtain ⟨n, rfl, hn, hD⟩ := hrel
    have HW := Lib.hid hD.out
    have hb := hD.out
    replace HK1 := Lib.hid ((hb.block _ (lt_of_block HK1.out)).trans HK1.out)
    replace HK2 := Lib.hid ((hb.block _ (lt_of_block HK2.out)).trans HK2.out)
    replace HK3 := Lib.hid ((hb.block _ (lt_of_block HK3.out)).trans HK3.out)
    replace HS := Lib.hid (HS.out.later hb)
    replace HB := Lib.hid (HB.out.trans (hb.mono HB.out.size))
    replace HA := Lib.hid ((hb.block _ (lt_of_block HA.out)).trans HA.out)
    clear hb hD
    rcases hn with rfl | rfl | rfl
    · skip
      obtain ⟨⟨a0, a1, a2, a3, a4, a5, a6, a7⟩, _⟩ := cells8 HA.out
      have hbn := (Below.refl wr.heap.size wr).alloc (Nat.le_refl _) Z53
      have HZ := Lib.hid (block_new wr Z53)
      go_wp2_with (refine list_store4 rfl rfl rfl (.inl rfl) rfl rfl HZ.out ?_; intro U0 hz hc; have hb := hbn.trans (hc.below (Nat.le_refl _)); have HX := Lib.hid hz; replace HA := Lib.hid ((hb.block _ (lt_of_block HA.out)).trans HA.out); replace HW := Lib.hid (HW.out.trans (hb.mono HW.out.size)); replace HK1 := Lib.hid ((hb.block _ (lt_of_block HK1.out)).trans HK1.out); replace HK2 := Lib.hid ((hb.block _ (lt_of_block HK2.out)).trans HK2.out); replace HK3 := Lib.hid ((hb.block _ (lt_of_block HK3.out)).trans HK3.out); replace HS := Lib.hid (HS.out.later hb); replace HB := Lib.hid (HB.out.trans (hb.mono HB.out.size)); clear hz hc hb hbn a0 a1 a2 a3 a4 a5 a6 a7 HZ; obtain ⟨m0, m1, m2, m3, m4, m5, m6, m7, m8, m9, m10⟩ := cells11 HK1.out; obtain ⟨⟨p0, p1, p2, p3⟩, _⟩ := cells4 HX.out)
      refine (Speed_ok s m li false _ HS.out (HLM.out.below hpos HB.out) HC.out HGL.out).mono ?_
      rintro e V9 ⟨k1, rfl, hk1, hb⟩
      have Hk1 := Lib.hid hk1
      replace HK1 := Lib.hid ((hb.block _ (lt_of_block HK1.out)).trans HK1.out)
      replace HK2 := Lib.hid ((hb.block _ (lt_of_block HK2.out)).trans HK2.out)
      replace HK3 := Lib.hid ((hb.block _ (lt_of_block HK3.out)).trans HK3.out)
      replace HS := Lib.hid (HS.out.later hb)
      replace HB := Lib.hid (HB.out.trans (hb.mono HB.out.size))
      replace HA := Lib.hid ((hb.block _ (lt_of_block HA.out)).trans HA.out)
      replace HX := Lib.hid ((hb.block _ (lt_of_block HX.out)).trans HX.out)
      replace HW := Lib.hid (HW.out.trans (hb.mono HW.out.size))
      clear m0 m1 m2 m3 m4 m5 m6 m7 m8 m9 m10 p0 p1 p2 p3 hk1 hb
      obtain ⟨m0, m1, m2, m3, m4, m5, m6, m7, m8, m9, m10⟩ := cells11 HK1.out
      obtain ⟨⟨p0, p1, p2, p3⟩, _⟩ := cells4 HX.out
      go_wp2_with fail
      refine (Speed_ok s m li true _ HS.out (HLM.out.below hpos HB.out) HC.out HGL.out).mono ?_
      rintro e V10 ⟨k2, rfl, hk2, hb⟩
      have Hk2 := Lib.hid hk2
      replace HK1 := Lib.hid ((hb.block _ (lt_of_block HK1.out)).trans HK1.out)
      replace HK2 := Lib.hid ((hb.block _ (lt_of_block HK2.out)).trans HK2.out)
      replace HK3 := Lib.hid ((hb.block _ (lt_of_block HK3.out)).trans HK3.out)
      replace HS := Lib.hid (HS.out.later hb)
      replace HB := Lib.hid (HB.out.trans (hb.mono HB.out.size))
      replace HA := Lib.hid ((hb.block _ (lt_of_block HA.out)).trans HA.out)
      replace HX := Lib.hid ((hb.block _ (lt_of_block HX.out)).trans HX.out)
      replace HW := Lib.hid (HW.out.trans (hb.mono HW.out.size))
      clear m0 m1 m2 m3 m4 m5 m6 m7 m8 m9 m10 p0 p1 p2 p3 hk2 hb
      obtain ⟨m0, m1, m2, m3, m4, m5, m6, m7, m8, m9, m10⟩ := cells11 HK1.out
      obtain ⟨⟨p0, p1, p2, p3⟩, _⟩ := cells4 HX.out
      go_wp2_with fail
      refine (Load_ok li hi false _ (HLM.out.below hpos HB.out) HGL.out (by omega) h2).mono ?_
      rintro e V11 ⟨k3, rfl, hk3, hb⟩
      have Hk3 := Lib.hid hk3
      replace HK1 := Lib.hid ((hb.block _ (lt_of_block HK1.out)).trans HK1.out)
      replace HK2 := Lib.hid ((hb.block _ (lt_of_block HK2.out)).trans HK2.out)
      replace HK3 := Lib.hid ((hb.block _ (lt_of_block HK3.out)).trans HK3.out)
      replace HS := Lib.hid (HS.out.later hb)
      replace HB := Lib.hid (HB.out.trans (hb.mono HB.out.size))
      replace HA := Lib.hid ((hb.block _ (lt_of_block HA.out)).trans HA.out)
      replace HX := Lib.hid ((hb.block _ (lt_of_block HX.out)).trans HX.out)
      replace HW := Lib.hid (HW.out.trans (hb.mono HW.out.size))
      clear m0 m1 m2 m3 m4 m5 m6 m7 m8 m9 m10 p0 p1 p2 p3 hk3 hb
      obtain ⟨m0, m1, m2, m3, m4, m5, m6, m7, m8, m9, m10⟩ := cells11 HK1.out
      obtain ⟨⟨p0, p1, p2, p3⟩, _⟩ := cells4 HX.out
      go_wp2_with fail
      refine (Load_ok li hi true _ (HLM.out.below hpos HB.out) HGL.out (by omega) h2).mono ?_
      rintro e V12 ⟨k4, rfl, hk4, hb⟩
      have Hk4 := Lib.hid hk4
      replace HK1 := Lib.hid ((hb.block _ (lt_of_block HK1.out)).trans HK1.out)
      replace HK2 := Lib.hid ((hb.block _ (lt_of_block HK2.out)).trans HK2.out)
      replace HK3 := Lib.hid ((hb.block _ (lt_of_block HK3.out)).trans HK3.out)
      replace HS := Lib.hid (HS.out.later hb)
      replace HB := Lib.hid (HB.out.trans (hb.mono HB.out.size))
      replace HA := Lib.hid ((hb.block _ (lt_of_block HA.out)).trans HA.out)
      replace HX := Lib.hid ((hb.block _ (lt_of_block HX.out)).trans HX.out)
      replace HW := Lib.hid (HW.out.trans (hb.mono HW.out.size))
      clear m0 m1 m2 m3 m4 m5 m6 m7 m8 m9 m10 p0 p1 p2 p3 hk4 hb
      obtain ⟨m0, m1, m2, m3, m4, m5, m6, m7, m8, m9, m10⟩ := cells11 HK1.out
      obtain ⟨⟨p0, p1, p2, p3⟩, _⟩ := cells4 HX.out
      go_wp2_with fail
      refine (Resistance_ok s m li hi false _ HS.out (HLM.out.below hpos HB.out) HC.out HGL.out (by omega) h2).mono ?_
      rintro e V13 ⟨k5, rfl, hk5, hb⟩
      have Hk5 := Lib.hid hk5
      replace HK1 := Lib.hid ((hb.block _ (lt_of_block HK1.out)).trans HK1.out)
      replace HK2 := Lib.hid ((hb.block _ (lt_of_block HK2.out)).trans HK2.out)
      replace HK3 := Lib.hid ((hb.block _ (lt_of_block HK3.out)).trans HK3.out)
      replace HS := Lib.hid (HS.out.later hb)
      replace HB := Lib.hid (HB.out.trans (hb.mono HB.out.size))
      replace HA := Lib.hid ((hb.block _ (lt_of_block HA.out)).trans HA.out)
      replace HX := Lib.hid ((hb.block _ (lt_of_block HX.out)).trans HX.out)
      replace HW := Lib.hid (HW.out.trans (hb.mono HW.out.size))
      clear m0 m1 m2 m3 m4 m5 m6 m7 m8 m9 m10 p0 p1 p2 p3 hk5 hb
      obtain ⟨m0, m1, m2, m3, m4, m5, m6, m7, m8, m9, m10⟩ := cells11 HK1.out
      obtain ⟨⟨p0, p1, p2, p3⟩, _⟩ := cells4 HX.out
      go_wp2_with fail
      refine (Resistance_ok s m li hi true _ HS.out (HLM.out.below hpos HB.out) HC.out HGL.out (by omega) h2).mono ?_
      rintro e V14 ⟨k6, rfl, hk6, hb⟩
      have Hk6 := Lib.hid hk6
      replace HK1 := Lib.hid ((hb.block _ (lt_of_block HK1.out)).trans HK1.out)
      replace HK2 := Lib.hid ((hb.block _ (lt_of_block HK2.out)).trans HK2.out)
      replace HK3 := Lib.hid ((hb.block _ (lt_of_block HK3.out)).trans HK3.out)
      replace HS := Lib.hid (HS.out.later hb)
      replace HB := Lib.hid (HB.out.trans (hb.mono HB.out.size))
      replace HA := Lib.hid ((hb.block _ (lt_of_block HA.out)).trans HA.out)
      replace HX := Lib.hid ((hb.block _ (lt_of_block HX.out)).trans HX.out)
      replace HW := Lib.hid (HW.out.trans (hb.mono HW.out.size))
      clear m0 m1 m2 m3 m4 m5 m6 m7 m8 m9 m10 p0 p1 p2 p3 hk6 hb
      obtain ⟨m0, m1, m2, m3, m4, m5, m6, m7, m8, m9, m10⟩ := cells11 HK1.out
      obtain ⟨⟨p0, p1, p2, p3⟩, _⟩ := cells4 HX.out
      have g1 : k1 ≤ k2 := by rw [Hk1.out, Hk2.out]; exact_mod_cast speed_le HG.out HGL.out HGL.out (LeI.refl _) (fun h => by cases h)
      have g2 : k4 ≤ k3 := by rw [Hk3.out, Hk4.out]; exact load_le HGL.out HGL.out (LeI.refl _) (by omega) (Int.le_refl _) (fun h => by cases h)
      have g3 : k6 ≤ k5 := by rw [Hk5.out, Hk6.out]; exact res_le HG.out HGL.out HGL.out (LeI.refl _) (by omega) (Int.le_refl _) (fun h => by cases h)
      go_wp2_with fail
      exact ⟨⟨1, rfl, .inr (.inl rfl), HW⟩, by decide⟩
    · skip
      obtain ⟨⟨a0, a1, a2, a3, a4, a5, a6, a7⟩, _⟩ := cells8 HA.out
      have hbn := (Below.refl wr.heap.size wr).alloc (Nat.le_refl _) Z53
      have HZ := Lib.hid (block_new wr Z53)
      go_wp2_with (refine list_store4 rfl rfl rfl (.inl rfl) rfl rfl HZ.out ?_; intro U0 hz hc; have hb := hbn.trans (hc.below (Nat.le_refl _)); have HX := Lib.hid hz; replace HA := Lib.hid ((hb.block _ (lt_of_block HA.out)).trans HA.out); replace HW := Lib.hid (HW.out.trans (hb.mono HW.out.size)); replace HK1 := Lib.hid ((hb.block _ (lt_of_block HK1.out)).trans HK1.out); replace HK2 := Lib.hid ((hb.block _ (lt_of_block HK2.out)).trans HK2.out); replace HK3 := Lib.hid ((hb.block _ (lt_of_block HK3.out)).trans HK3.out); replace HS := Lib.hid (HS.out.later hb); replace HB := Lib.hid (HB.out.trans (hb.mono HB.out.size)); clear hz hc hb hbn a0 a1 a2 a3 a4 a5 a6 a7 HZ; obtain ⟨m0, m1, m2, m3, m4, m5, m6, m7, m8, m9, m10⟩ := cells11 HK1.out; obtain ⟨⟨p0, p1, p2, p3⟩, _⟩ := cells4 HX.out)
      refine (Speed_ok s m hi' false _ HS.out (HLM.out.below hpos HB.out) HC.out HGH.out).mono ?_
      rintro e V15 ⟨k1, rfl, hk1, hb⟩
      have Hk1 := Lib.hid hk1
      replace HK1 := Lib.hid ((hb.block _ (lt_of_block HK1.out)).trans HK1.out)
      replace HK2 := Lib.hid ((hb.block _ (lt_of_block HK2.out)).trans HK2.out)
      replace HK3 := Lib.hid ((hb.block _ (lt_of_block HK3.out)).trans HK3.out)
      replace HS := Lib.hid (HS.out.later hb)
      replace HB := Lib.hid (HB.out.trans (hb.mono HB.out.size))
      replace HA := Lib.hid ((hb.block _ (lt_of_block HA.out)).trans HA.out)
      replace HX := Lib.hid ((hb.block _ (lt_of_block HX.out)).trans HX.out)
      replace HW := Lib.hid (HW.out.trans (hb.mono HW.out.size))
      clear m0 m1 m2 m3 m4 m5 m6 m7 m8 m9 m10 p0 p1 p2 p3 hk1 hb
      obtain ⟨m0, m1, m2, m3, m4, m5, m6, m7, m8, m9, m10⟩ := cells11 HK1.out
      obtain ⟨⟨p0, p1, p2, p3⟩, _⟩ := cells4 HX.out
      go_wp2_with fail
      refine (Speed_ok s m hi' true _ HS.out (HLM.out.below hpos HB.out) HC.out HGH.out).mono ?_
      rintro e V16 ⟨k2, rfl, hk2, hb⟩
      have Hk2 := Lib.hid hk2
      replace HK1 := Lib.hid ((hb.block _ (lt_of_block HK1.out)).trans HK1.out)
      replace HK2 := Lib.hid ((hb.block _ (lt_of_block HK2.out)).trans HK2.out)
      replace HK3 := Lib.hid ((hb.block _ (lt_of_block HK3.out)).trans HK3.out)
      replace HS := Lib.hid (HS.out.later hb)
      replace HB := Lib.hid (HB.out.trans (hb.mono HB.out.size))
      replace HA := Lib.hid ((hb.block _ (lt_of_block HA.out)).trans HA.out)
      replace HX := Lib.hid ((hb.block _ (lt_of_block HX.out)).trans HX.out)
      replace HW := Lib.hid (HW.out.trans (hb.mono HW.out.size))
      clear m0 m1 m2 m3 m4 m5 m6 m7 m8 m9 m10 p0 p1 p2 p3 hk2 hb
      obtain ⟨m0, m1, m2, m3, m4, m5, m6, m7, m8, m9, m10⟩ := cells11 HK1.out
      obtain ⟨⟨p0, p1, p2, p3⟩, _⟩ := cells4 HX.out
      go_wp2_with fail
      refine (Load_ok hi' hi false _ (HLM.out.below hpos HB.out) HGH.out (by omega) h2).mono ?_
      rintro e V17 ⟨k3, rfl, hk3, hb⟩
      have Hk3 := Lib.hid hk3
      replace HK1 := Lib.hid ((hb.block _ (lt_of_block HK1.out)).trans HK1.out)
      replace HK2 := Lib.hid ((hb.block _ (lt_of_block HK2.out)).trans HK2.out)
      replace HK3 := Lib.hid ((hb.block _ (lt_of_block HK3.out)).trans HK3.out)
      replace HS := Lib.hid (HS.out.later hb)
      replace HB := Lib.hid (HB.out.trans (hb.mono HB.out.size))
      replace HA := Lib.hid ((hb.block _ (lt_of_block HA.out)).trans HA.out)
      replace HX := Lib.hid ((hb.block _ (lt_of_block HX.out)).trans HX.out)
      replace HW := Lib.hid (HW.out.trans (hb.mono HW.out.size))
      clear m0 m1 m2 m3 m4 m5 m6 m7 m8 m9 m10 p0 p1 p2 p3 hk3 hb
      obtain ⟨m0, m1, m2, m3, m4, m5, m6, m7, m8, m9, m10⟩ := cells11 HK1.out
      obtain ⟨⟨p0, p1, p2, p3⟩, _⟩ := cells4 HX.out
      go_wp2_with fail
      refine (Load_ok hi' hi true _ (HLM.out.below hpos HB.out) HGH.out (by omega) h2).mono ?_
      rintro e V18 ⟨k4, rfl, hk4, hb⟩
      have Hk4 := Lib.hid hk4
      replace HK1 := Lib.hid ((hb.block _ (lt_of_block HK1.out)).trans HK1.out)
      replace HK2 := Lib.hid ((hb.block _ (lt_of_block HK2.out)).trans HK2.out)
      replace HK3 := Lib.hid ((hb.block _ (lt_of_block HK3.out)).trans HK3.out)
      replace HS := Lib.hid (HS.out.later hb)
      replace HB := Lib.hid (HB.out.trans (hb.mono HB.out.size))
      replace HA := Lib.hid ((hb.block _ (lt_of_block HA.out)).trans HA.out)
      replace HX := Lib.hid ((hb.block _ (lt_of_block HX.out)).trans HX.out)
      replace HW := Lib.hid (HW.out.trans (hb.mono HW.out.size))
      clear m0 m1 m2 m3 m4 m5 m6 m7 m8 m9 m10 p0 p1 p2 p3 hk4 hb
      obtain ⟨m0, m1, m2, m3, m4, m5, m6, m7, m8, m9, m10⟩ := cells11 HK1.out
      obtain ⟨⟨p0, p1, p2, p3⟩, _⟩ := cells4 HX.out
      go_wp2_with fail
      refine (Resistance_ok s m hi' hi false _ HS.out (HLM.out.below hpos HB.out) HC.out HGH.out (by omega) h2).mono ?_
      rintro e V19 ⟨k5, rfl, hk5, hb⟩
      have Hk5 := Lib.hid hk5
      replace HK1 := Lib.hid ((hb.block _ (lt_of_block HK1.out)).trans HK1.out)
      replace HK2 := Lib.hid ((hb.block _ (lt_of_block HK2.out)).trans HK2.out)
      replace HK3 := Lib.hid ((hb.block _ (lt_of_block HK3.out)).trans HK3.out)
      replace HS := Lib.hid (HS.out.later hb)
      replace HB := Lib.hid (HB.out.trans (hb.mono HB.out.size))
      replace HA := Lib.hid ((hb.block _ (lt_of_block HA.out)).trans HA.out)
      replace HX := Lib.hid ((hb.block _ (lt_of_block HX.out)).trans HX.out)
      replace HW := Lib.hid (HW.out.trans (hb.mono HW.out.size))
      clear m0 m1 m2 m3 m4 m5 m6 m7 m8 m9 m10 p0 p1 p2 p3 hk5 hb
      obtain ⟨m0, m1, m2, m3, m4, m5, m6, m7, m8, m9, m10⟩ := cells11 HK1.out
      obtain ⟨⟨p0, p1, p2, p3⟩, _⟩ := cells4 HX.out
      go_wp2_with fail
      refine (Resistance_ok s m hi' hi true _ HS.out (HLM.out.below hpos HB.out) HC.out HGH.out (by omega) h2).mono ?_
      rintro e V20 ⟨k6, rfl, hk6, hb⟩
      have Hk6 := Lib.hid hk6
      replace HK1 := Lib.hid ((hb.block _ (lt_of_block HK1.out)).trans HK1.out)
      replace HK2 := Lib.hid ((hb.block _ (lt_of_block HK2.out)).trans HK2.out)
      replace HK3 := Lib.hid ((hb.block _ (lt_of_block HK3.out)).trans HK3.out)
      replace HS := Lib.hid (HS.out.later hb)
      replace HB := Lib.hid (HB.out.trans (hb.mono HB.out.size))
      replace HA := Lib.hid ((hb.block _ (lt_of_block HA.out)).trans HA.out)
      replace HX := Lib.hid ((hb.block _ (lt_of_block HX.out)).trans HX.out)
      replace HW := Lib.hid (HW.out.trans (hb.mono HW.out.size))
      clear m0 m1 m2 m3 m4 m5 m6 m7 m8 m9 m10 p0 p1 p2 p3 hk6 hb
      obtain ⟨m0, m1, m2, m3, m4, m5, m6, m7, m8, m9, m10⟩ := cells11 HK1.out
      obtain ⟨⟨p0, p1, p2, p3⟩, _⟩ := cells4 HX.out
      have g1 : k1 ≤ k2 := by rw [Hk1.out, Hk2.out]; exact_mod_cast speed_le HG.out HGH.out HGH.out (LeI.refl _) (fun h => by cases h)
      have g2 : k4 ≤ k3 := by rw [Hk3.out, Hk4.out]; exact load_le HGH.out HGH.out (LeI.refl _) (by omega) (Int.le_refl _) (fun h => by cases h)
      have g3 : k6 ≤ k5 := by rw [Hk5.out, Hk6.out]; exact res_le HG.out HGH.out HGH.out (LeI.refl _) (by omega) (Int.le_refl _) (fun h => by cases h)
      go_wp2_with fail
      exact ⟨⟨2, rfl, .inr (.inr rfl), HW⟩, by decide⟩
    · skip
      have HAW := Lib.hid (awake_any wr (HLM.out.below hpos HB.out) (HST.out.below hpos1 HB.out))
      go_wp2_with fail
      refine HAW.out.mono ?_
      rintro e We ⟨rfl, hb⟩
      have HBE := Lib.hid (HB.out.trans (hb.mono HB.out.size))
      clear hb
      go_wp2_with fail
      go_ret
      exact ⟨rfl, HBE.out⟩
end Go.Proofs.YtcoiklolgilhaaaDoor
