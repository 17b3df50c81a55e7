/- The law HullBetter behind the better ship: who is never slower. -/
import Derived.Test.YtcoiklolgilhaaaDoorTk
import Derived.Test.YtcoiklolgilhaaaDoorSh
import Derived.Test.YtcoiklolgilhaaaDoorQh
namespace Go.Proofs.YtcoiklolgilhaaaDoor
open Go.RowKit
set_option maxRecDepth 100000
noncomputable def better23 : Code := ((Tryd.f7.body.bind (findLeft 23)).getD .skip)
set_option maxHeartbeats 32000000 in
theorem Better_tail (s t : Sh) (ms mt : Mem3) (ch : Bool) (tk : Int) (B13 B14 : Nat) (p3 : Option Addr) (k3 cap3 : Nat) (hk3 : k3 ≤ 9223372036854775807) (p4 : Option Addr) (k4 cap4 : Nat) (hk4 : k4 ≤ 9223372036854775807) (w0 w : World) (hl : Lim w0) (hst : Str w0) (hB3 : BytesIn w0 p3 k3) (hB4 : BytesIn w0 p4 k4) (cs : chkP s = 0) (ct : chkP t = 0) (hbt : Btr s t) (ht : 0 ≤ tk ∧ tk < 65536)
    (hB : Below w0.heap.size w0 w) (hS : ShipIn w s ms) (hT : ShipIn w t mt) (hK1 : w.heap[B13]? = some (.cells (shipA s ms) 24 (0, 0))) (hK2 : w.heap[B14]? = some (.cells (shipA t mt) 24 (0, 0)))
    (x0 x1 x6 x7 x8 x9 x10 x11 x12 x15 x16 x17 x18 x19 x20 x21 x22 x23 x24 x25 x26 x27 x28 x29 x30 x31 x32 x33 x34 x35 x36 x37 x38 x39 x40 x41 x42 x43 x44 x45 x46 x47 x48 x49 x50 x51 x52 x53 x54 x55 x56 x57 x58 x59 x60 x61 x62 x63 x64 x65 x66 x67 x68 x69 x70 x71 x72 x73 x74 x75 x76 x77 x78 x79 x80 x81 x82 x83 x84 x85 x86 x87 x88 x89 x90 x91 x92 x93 x94 x95 x96 x97 x98 x99 x100 x101 x102 x103 x104 x105 x106 x107 x108 x109 x110 x111 x112 x113 x114 x115 x116 x117 x118 x119 x120 x121 x122 x123 x124 x125 x126 x127 x128 x129 x130 x131 x132 x133 x134 x135 x136 x137 x138 x139 x140 x141 x142 x143 x144 x145 x146 x147 x148 x149 x150 x151 x152 x153 x154 x155 x156 x157 x158 x159 x160 x161 x162 x163 x164 x165 x166 x167 x168 x169 x170 x171 x172 x173 x174 x175 x176 x177 x178 x179 x180 x181 x182 x183 x184 x185 x186 x187 x188 x189 x190 x191 x192 x193 x194 x195 x196 x197 x198 x199 x200 x201 x202 x203 x204 x205 x206 x207 x208 x209 x210 x211 x212 x213 x214 x215 x216 x217 x218 x219 x220 x221 x222 x223 x224 x225 x226 x227 x228 x229 x230 x231 x232 x233 x234 x235 x236 x237 x238 x239 x240 x241 x242 x243 x244 x245 x246 x247 x248 x249 x250 x251 x252 x253 x254 x255 x256 x257 x258 x259 x260 x261 x262 x263 x264 x265 x266 x267 x268 x269 x270 x271 x272 x273 x274 x275 x276 x277 x278 x279 x280 x281 : Value) :
    Code.wp Tryd.prog better23 (bodyPost Tryd.prog Tryd.f7 fun e w' => e = .returned (.bool true) ∧ Below w0.heap.size w0 w') ⟨#[x0, x1, .slice p3 k3 cap3, .slice p4 k4 cap4, .int .u16 tk, .bool ch, x6, x7, x8, x9, x10, x11, x12, .pointer (some ⟨B13, 0, none⟩), .pointer (some ⟨B14, 0, none⟩), x15, x16, x17, x18, x19, x20, x21, x22, x23, x24, x25, x26, x27, x28, x29, x30, x31, x32, x33, x34, x35, x36, x37, x38, x39, x40, x41, x42, x43, x44, x45, x46, x47, x48, x49, x50, x51, x52, x53, x54, x55, x56, x57, x58, x59, x60, x61, x62, x63, x64, x65, x66, x67, x68, x69, x70, x71, x72, x73, x74, x75, x76, x77, x78, x79, x80, x81, x82, x83, x84, x85, x86, x87, x88, x89, x90, x91, x92, x93, x94, x95, x96, x97, x98, x99, x100, x101, x102, x103, x104, x105, x106, x107, x108, x109, x110, x111, x112, x113, x114, x115, x116, x117, x118, x119, x120, x121, x122, x123, x124, x125, x126, x127, x128, x129, x130, x131, x132, x133, x134, x135, x136, x137, x138, x139, x140, x141, x142, x143, x144, x145, x146, x147, x148, x149, x150, x151, x152, x153, x154, x155, x156, x157, x158, x159, x160, x161, x162, x163, x164, x165, x166, x167, x168, x169, x170, x171, x172, x173, x174, x175, x176, x177, x178, x179, x180, x181, x182, x183, x184, x185, x186, x187, x188, x189, x190, x191, x192, x193, x194, x195, x196, x197, x198, x199, x200, x201, x202, x203, x204, x205, x206, x207, x208, x209, x210, x211, x212, x213, x214, x215, x216, x217, x218, x219, x220, x221, x222, x223, x224, x225, x226, x227, x228, x229, x230, x231, x232, x233, x234, x235, x236, x237, x238, x239, x240, x241, x242, x243, x244, x245, x246, x247, x248, x249, x250, x251, x252, x253, x254, x255, x256, x257, x258, x259, x260, x261, x262, x263, x264, x265, x266, x267, x268, x269, x270, x271, x272, x273, x274, x275, x276, x277, x278, x279, x280, x281], []⟩ w := by
  have HLM := Lib.hid hl
  have HST := Lib.hid hst
  have hpos := hl.pos
  have hpos1 := hst.pos
  have HFZ := Lib.hid (fun W (hW : Below w0.heap.size w0 W) => Frozen_any p3 k3 cap3 hk3 W (hB3.later hW))
  have HMD := Lib.hid (fun W (hW : Below w0.heap.size w0 W) => Made_any p4 k4 cap4 hk4 W (hB4.later hW))
  have HCS := Lib.hid cs
  have HCT := Lib.hid ct
  have HBT := Lib.hid hbt
  have HB := Lib.hid hB
  have HS := Lib.hid hS
  have HT := Lib.hid hT
  have HK1 := Lib.hid hK1
  have HK2 := Lib.hid hK2
  obtain ⟨tk0, tk1⟩ := ht
  clear hl hst hB3 hB4 cs ct hbt hB hS hT hK1 hK2 hk3 hk4
  conv => arg 2; whnf
  go_wp2_with fail
  refine (HFZ.out _ HB.out).mono ?_
  rintro e V1 ⟨lo, hi, rfl, gc, hb⟩
  have Hgc := Lib.hid gc
  clear gc
  replace HK1 := Lib.hid ((hb.block _ (lt_of_block HK1.out)).trans HK1.out)
  replace HK2 := Lib.hid ((hb.block _ (lt_of_block HK2.out)).trans HK2.out)
  replace HS := Lib.hid (HS.out.later hb)
  replace HT := Lib.hid (HT.out.later hb)
  replace HB := Lib.hid (HB.out.trans (hb.mono HB.out.size))
  clear hb
  go_wp2_with fail
  refine (ends25_any lo hi _).mono ?_
  rintro e V2 ⟨rfl, hb⟩
  replace HK1 := Lib.hid ((hb.block _ (lt_of_block HK1.out)).trans HK1.out)
  replace HK2 := Lib.hid ((hb.block _ (lt_of_block HK2.out)).trans HK2.out)
  replace HS := Lib.hid (HS.out.later hb)
  replace HT := Lib.hid (HT.out.later hb)
  replace HB := Lib.hid (HB.out.trans (hb.mono HB.out.size))
  clear hb
  obtain ⟨t1, t2, tz, tb⟩ := two_allocs V2 Z53 Z53
  have HZ1 := Lib.hid t1
  have HZ2 := Lib.hid t2
  have HBZ := Lib.hid tb
  clear t1 t2 tb
  go_wp2_with (first | (refine list_store4 rfl rfl rfl (.inl rfl) rfl rfl HZ1.out ?_; intro V3 hz1 hc1; have HZ2' := Lib.hid ((hc1.2.1 _ (by omega)).trans HZ2.out); have HB4 := Lib.hid (HBZ.out.trans (hc1.below (Nat.le_refl _))); have HY1 := Lib.hid hz1; clear hc1 hz1) | (refine list_store4 rfl rfl rfl (.inl rfl) rfl rfl HZ2'.out ?_; intro V4 hz2 hc2; have HK3 := Lib.hid ((hc2.2.1 _ (by omega)).trans HY1.out); have hb := HB4.out.trans (hc2.below (by omega)); replace HK1 := Lib.hid ((hb.block _ (lt_of_block HK1.out)).trans HK1.out); replace HK2 := Lib.hid ((hb.block _ (lt_of_block HK2.out)).trans HK2.out); replace HS := Lib.hid (HS.out.later hb); replace HT := Lib.hid (HT.out.later hb); replace HB := Lib.hid (HB.out.trans (hb.mono HB.out.size)); clear hc2 hz2 hb HB4 HY1 HZ1 HZ2 HZ2' HBZ; obtain ⟨m0, m1, m2, m3, m4, m5, m6, m7, m8, m9, m10⟩ := cells11 HK1.out; obtain ⟨⟨p0, p1, p2, p3⟩, _⟩ := cells4 HK3.out))
  refine (Speed_ok s ms lo ch _ HS.out (HLM.out.below hpos HB.out) HCS.out Hgc.out.gl).mono ?_
  rintro e V5 ⟨n1, rfl, hn1, hb⟩
  have Hhn1 := Lib.hid hn1
  clear hn1
  clear m0 m1 m2 m3 m4 m5 m6 m7 m8 m9 m10 p0 p1 p2 p3
  replace HK1 := Lib.hid ((hb.block _ (lt_of_block HK1.out)).trans HK1.out)
  replace HK2 := Lib.hid ((hb.block _ (lt_of_block HK2.out)).trans HK2.out)
  replace HK3 := Lib.hid ((hb.block _ (lt_of_block HK3.out)).trans HK3.out)
  replace HS := Lib.hid (HS.out.later hb)
  replace HT := Lib.hid (HT.out.later hb)
  replace HB := Lib.hid (HB.out.trans (hb.mono HB.out.size))
  clear hb
  obtain ⟨r0, r1, r2, r3, r4, r5, r6, r7, r8, r9, r10⟩ := cells11 HK2.out
  obtain ⟨⟨p0, p1, p2, p3⟩, _⟩ := cells4 HK3.out
  go_wp2_with fail
  refine (Speed_ok t mt lo ch _ HT.out (HLM.out.below hpos HB.out) HCT.out Hgc.out.gl).mono ?_
  rintro e V6 ⟨n2, rfl, hn2, hb⟩
  have Hhn2 := Lib.hid hn2
  clear hn2
  clear r0 r1 r2 r3 r4 r5 r6 r7 r8 r9 r10 p0 p1 p2 p3
  replace HK1 := Lib.hid ((hb.block _ (lt_of_block HK1.out)).trans HK1.out)
  replace HK2 := Lib.hid ((hb.block _ (lt_of_block HK2.out)).trans HK2.out)
  replace HK3 := Lib.hid ((hb.block _ (lt_of_block HK3.out)).trans HK3.out)
  replace HS := Lib.hid (HS.out.later hb)
  replace HT := Lib.hid (HT.out.later hb)
  replace HB := Lib.hid (HB.out.trans (hb.mono HB.out.size))
  clear hb
  obtain ⟨m0, m1, m2, m3, m4, m5, m6, m7, m8, m9, m10⟩ := cells11 HK1.out
  obtain ⟨r0, r1, r2, r3, r4, r5, r6, r7, r8, r9, r10⟩ := cells11 HK2.out
  have f1 : n1 ≤ n2 := by rw [Hhn1.out, Hhn2.out]; exact_mod_cast btr_speed (good_of HCS.out) (good_of HCT.out) HBT.out Hgc.out.gl ch
  clear Hhn1 Hhn2
  go_wp2_with fail
  refine (Slower_ex t s mt ms _ HT.out HS.out HCT.out HCS.out).mono ?_
  rintro e V7 ⟨N1, E1, rfl, hs1, hb⟩
  have Hhs1 := Lib.hid hs1
  clear hs1
  clear m0 m1 m2 m3 m4 m5 m6 m7 m8 m9 m10 r0 r1 r2 r3 r4 r5 r6 r7 r8 r9 r10
  replace HK1 := Lib.hid ((hb.block _ (lt_of_block HK1.out)).trans HK1.out)
  replace HK2 := Lib.hid ((hb.block _ (lt_of_block HK2.out)).trans HK2.out)
  replace HK3 := Lib.hid ((hb.block _ (lt_of_block HK3.out)).trans HK3.out)
  replace HS := Lib.hid (HS.out.later hb)
  replace HT := Lib.hid (HT.out.later hb)
  replace HB := Lib.hid (HB.out.trans (hb.mono HB.out.size))
  clear hb
  have z1 : E1 = 4 := by
    rcases Hhs1.out with ⟨e, _⟩ | ⟨_, n, _, hn, hlt, _⟩
    · exact e
    · have := btr_speed (good_of HCS.out) (good_of HCT.out) HBT.out (good_lvl (t := (n : Int)) (by omega) (by omega)) false
      omega
  subst z1
  clear Hhs1
  go_wp2_with fail
  refine (HMD.out _ HB.out).mono ?_
  rintro e V8 ⟨u, mu, rfl, hu, h7, hin, hb⟩
  have HCU := Lib.hid hu
  have HU := Lib.hid hin
  clear hu h7 hin
  replace HK1 := Lib.hid ((hb.block _ (lt_of_block HK1.out)).trans HK1.out)
  replace HK2 := Lib.hid ((hb.block _ (lt_of_block HK2.out)).trans HK2.out)
  replace HK3 := Lib.hid ((hb.block _ (lt_of_block HK3.out)).trans HK3.out)
  replace HS := Lib.hid (HS.out.later hb)
  replace HT := Lib.hid (HT.out.later hb)
  replace HB := Lib.hid (HB.out.trans (hb.mono HB.out.size))
  clear hb
  have hba := (Below.refl V8.heap.size V8).alloc (Nat.le_refl _) (.cells #[.int .i64 0, .int .i64 0, .int .i64 0, .int .i64 0, .slice none 0 0, .slice none 0 0, .slice none 0 0, .int .i64 0, .int .i64 0, .int .i64 0, .int .i64 0] 24)
  have HZ := Lib.hid (block_new V8 (.cells #[.int .i64 0, .int .i64 0, .int .i64 0, .int .i64 0, .slice none 0 0, .slice none 0 0, .slice none 0 0, .int .i64 0, .int .i64 0, .int .i64 0, .int .i64 0] 24))
  go_wp2_with (refine list_store24 rfl rfl rfl rfl rfl HZ.out ?_; intro V9 hz hc; have hb := hba.trans (hc.below (Nat.le_refl _)); have HK4 := Lib.hid hz; replace HK1 := Lib.hid ((hb.block _ (lt_of_block HK1.out)).trans HK1.out); replace HK2 := Lib.hid ((hb.block _ (lt_of_block HK2.out)).trans HK2.out); replace HK3 := Lib.hid ((hb.block _ (lt_of_block HK3.out)).trans HK3.out); replace HS := Lib.hid (HS.out.later hb); replace HT := Lib.hid (HT.out.later hb); replace HB := Lib.hid (HB.out.trans (hb.mono HB.out.size)); replace HU := Lib.hid (HU.out.later hb); clear hz hc hb hba HZ; obtain ⟨m0, m1, m2, m3, m4, m5, m6, m7, m8, m9, m10⟩ := cells11 HK1.out; obtain ⟨c0, c1, c2, c3, c4, c5, c6, c7, c8, c9, c10⟩ := cells11 HK4.out)
  refine (Slower_ex s u ms mu _ HS.out HU.out HCS.out HCU.out).mono ?_
  rintro e V10 ⟨N2, E2, rfl, hs2, hb⟩
  have Hhs2 := Lib.hid hs2
  clear hs2
  clear m0 m1 m2 m3 m4 m5 m6 m7 m8 m9 m10 c0 c1 c2 c3 c4 c5 c6 c7 c8 c9 c10
  replace HK1 := Lib.hid ((hb.block _ (lt_of_block HK1.out)).trans HK1.out)
  replace HK2 := Lib.hid ((hb.block _ (lt_of_block HK2.out)).trans HK2.out)
  replace HK3 := Lib.hid ((hb.block _ (lt_of_block HK3.out)).trans HK3.out)
  replace HK4 := Lib.hid ((hb.block _ (lt_of_block HK4.out)).trans HK4.out)
  replace HS := Lib.hid (HS.out.later hb)
  replace HT := Lib.hid (HT.out.later hb)
  replace HB := Lib.hid (HB.out.trans (hb.mono HB.out.size))
  replace HU := Lib.hid (HU.out.later hb)
  clear hb
  obtain ⟨m0, m1, m2, m3, m4, m5, m6, m7, m8, m9, m10⟩ := cells11 HK1.out
  have h401 : (0 : Int) ≤ tk % 401 := by omega
  have h402 : tk % 401 ≤ 400 := by omega
  have HGL := Lib.hid (good_lvl h401 h402)
  have z2 : E2 = 4 ∨ E2 = 0 := by
    rcases Hhs2.out with ⟨e, _⟩ | ⟨e, _⟩
    · exact .inl e
    · exact .inr e
  rcases z2 with rfl | rfl
  · skip
    have HLW := Lib.hid (show ∀ t : Nat, t ≤ 400 → speedP u (lvl (t : Int)) false ≤ speedP s (lvl (t : Int)) false by
      rcases Hhs2.out with ⟨_, h⟩ | ⟨e, _⟩
      · exact h
      · cases e)
    clear Hhs2
    go_wp2_with fail
    refine (Speed_ok s ms (lvl (tk % 401)) false _ HS.out (HLM.out.below hpos HB.out) HCS.out HGL.out).mono ?_
    rintro e V11 ⟨n3, rfl, hn3, hb⟩
    have Hhn3 := Lib.hid hn3
    clear hn3
    clear m0 m1 m2 m3 m4 m5 m6 m7 m8 m9 m10
    replace HK1 := Lib.hid ((hb.block _ (lt_of_block HK1.out)).trans HK1.out)
    replace HK2 := Lib.hid ((hb.block _ (lt_of_block HK2.out)).trans HK2.out)
    replace HK3 := Lib.hid ((hb.block _ (lt_of_block HK3.out)).trans HK3.out)
    replace HK4 := Lib.hid ((hb.block _ (lt_of_block HK4.out)).trans HK4.out)
    replace HS := Lib.hid (HS.out.later hb)
    replace HT := Lib.hid (HT.out.later hb)
    replace HB := Lib.hid (HB.out.trans (hb.mono HB.out.size))
    replace HU := Lib.hid (HU.out.later hb)
    clear hb
    obtain ⟨c0, c1, c2, c3, c4, c5, c6, c7, c8, c9, c10⟩ := cells11 HK4.out
    go_wp2_with fail
    refine (Speed_ok u mu (lvl (tk % 401)) false _ HU.out (HLM.out.below hpos HB.out) HCU.out HGL.out).mono ?_
    rintro e V12 ⟨n4, rfl, hn4', hb⟩
    have Hhn4' := Lib.hid hn4'
    clear hn4'
    clear c0 c1 c2 c3 c4 c5 c6 c7 c8 c9 c10
    replace HK1 := Lib.hid ((hb.block _ (lt_of_block HK1.out)).trans HK1.out)
    replace HK2 := Lib.hid ((hb.block _ (lt_of_block HK2.out)).trans HK2.out)
    replace HK3 := Lib.hid ((hb.block _ (lt_of_block HK3.out)).trans HK3.out)
    replace HK4 := Lib.hid ((hb.block _ (lt_of_block HK4.out)).trans HK4.out)
    replace HS := Lib.hid (HS.out.later hb)
    replace HT := Lib.hid (HT.out.later hb)
    replace HB := Lib.hid (HB.out.trans (hb.mono HB.out.size))
    replace HU := Lib.hid (HU.out.later hb)
    clear hb
    obtain ⟨m0, m1, m2, m3, m4, m5, m6, m7, m8, m9, m10⟩ := cells11 HK1.out
    obtain ⟨q, hq⟩ : ∃ q : Nat, (q : Int) = tk % 401 := ⟨(tk % 401).toNat, by omega⟩
    have f3 : n4 ≤ n3 := by
      have := HLW.out q (by omega)
      rw [hq] at this
      have := Hhn3.out
      have := Hhn4'.out
      omega
    have HAW := Lib.hid (awake_any V12 (HLM.out.below hpos HB.out) (HST.out.below hpos1 HB.out))
    clear Hhn3 Hhn4' HLW hq
    go_wp2_with fail
    refine HAW.out.mono ?_
    rintro e We ⟨rfl, hb⟩
    have HBE := Lib.hid (HB.out.trans (hb.mono HB.out.size))
    clear hb
    go_wp2_with fail
    go_ret
    exact ⟨rfl, HBE.out⟩
  · skip
    obtain ⟨n, hN, hn4, hlt, hlow⟩ : ∃ n : Nat, N2 = n ∧ n ≤ 400 ∧ speedP s (lvl (n : Int)) false < speedP u (lvl (n : Int)) false ∧ ∀ t : Nat, t < n → speedP u (lvl (t : Int)) false ≤ speedP s (lvl (t : Int)) false := by
      rcases Hhs2.out with ⟨e, _⟩ | ⟨_, h⟩
      · cases e
      · exact h
    subst hN
    have HLT := Lib.hid hlt
    have HLW := Lib.hid hlow
    clear hlt hlow
    clear Hhs2
    go_wp2_with fail
    refine (Speed_ok s ms (lvl (tk % 401)) false _ HS.out (HLM.out.below hpos HB.out) HCS.out HGL.out).mono ?_
    rintro e V11 ⟨n3, rfl, hn3, hb⟩
    have Hhn3 := Lib.hid hn3
    clear hn3
    clear m0 m1 m2 m3 m4 m5 m6 m7 m8 m9 m10
    replace HK1 := Lib.hid ((hb.block _ (lt_of_block HK1.out)).trans HK1.out)
    replace HK2 := Lib.hid ((hb.block _ (lt_of_block HK2.out)).trans HK2.out)
    replace HK3 := Lib.hid ((hb.block _ (lt_of_block HK3.out)).trans HK3.out)
    replace HK4 := Lib.hid ((hb.block _ (lt_of_block HK4.out)).trans HK4.out)
    replace HS := Lib.hid (HS.out.later hb)
    replace HT := Lib.hid (HT.out.later hb)
    replace HB := Lib.hid (HB.out.trans (hb.mono HB.out.size))
    replace HU := Lib.hid (HU.out.later hb)
    clear hb
    obtain ⟨c0, c1, c2, c3, c4, c5, c6, c7, c8, c9, c10⟩ := cells11 HK4.out
    go_wp2_with fail
    refine (Speed_ok u mu (lvl (tk % 401)) false _ HU.out (HLM.out.below hpos HB.out) HCU.out HGL.out).mono ?_
    rintro e V12 ⟨n4, rfl, hn4', hb⟩
    have Hhn4' := Lib.hid hn4'
    clear hn4'
    clear c0 c1 c2 c3 c4 c5 c6 c7 c8 c9 c10
    replace HK1 := Lib.hid ((hb.block _ (lt_of_block HK1.out)).trans HK1.out)
    replace HK2 := Lib.hid ((hb.block _ (lt_of_block HK2.out)).trans HK2.out)
    replace HK3 := Lib.hid ((hb.block _ (lt_of_block HK3.out)).trans HK3.out)
    replace HK4 := Lib.hid ((hb.block _ (lt_of_block HK4.out)).trans HK4.out)
    replace HS := Lib.hid (HS.out.later hb)
    replace HT := Lib.hid (HT.out.later hb)
    replace HB := Lib.hid (HB.out.trans (hb.mono HB.out.size))
    replace HU := Lib.hid (HU.out.later hb)
    clear hb
    obtain ⟨m0, m1, m2, m3, m4, m5, m6, m7, m8, m9, m10⟩ := cells11 HK1.out
    obtain ⟨q, hq⟩ : ∃ q : Nat, (q : Int) = tk % 401 := ⟨(tk % 401).toNat, by omega⟩
    have f3 : n4 ≤ n3 ∨ (n : Int) ≤ tk % 401 := by
      by_cases hqn : q < n
      · left
        have := HLW.out q hqn
        rw [hq] at this
        have := Hhn3.out
        have := Hhn4'.out
        omega
      · right; omega
    clear Hhn3 Hhn4' hq
    have HGN := Lib.hid (good_lvl (t := (n : Int)) (by omega) (by omega))
    replace f3 : n4 ≤ n3 ∨ (n3 < n4 ∧ (n : Int) ≤ tk % 401) := by omega
    rcases f3 with f3 | ⟨f3, f5⟩
    all_goals
      go_wp2_with fail
      refine (Speed_ok s ms (lvl (n : Int)) false _ HS.out (HLM.out.below hpos HB.out) HCS.out HGN.out).mono ?_
      rintro e V13 ⟨n5, rfl, hn5, hb⟩
      have Hhn5 := Lib.hid hn5
      clear hn5
      clear m0 m1 m2 m3 m4 m5 m6 m7 m8 m9 m10
      replace HK1 := Lib.hid ((hb.block _ (lt_of_block HK1.out)).trans HK1.out)
      replace HK2 := Lib.hid ((hb.block _ (lt_of_block HK2.out)).trans HK2.out)
      replace HK3 := Lib.hid ((hb.block _ (lt_of_block HK3.out)).trans HK3.out)
      replace HK4 := Lib.hid ((hb.block _ (lt_of_block HK4.out)).trans HK4.out)
      replace HS := Lib.hid (HS.out.later hb)
      replace HT := Lib.hid (HT.out.later hb)
      replace HB := Lib.hid (HB.out.trans (hb.mono HB.out.size))
      replace HU := Lib.hid (HU.out.later hb)
      clear hb
      obtain ⟨c0, c1, c2, c3, c4, c5, c6, c7, c8, c9, c10⟩ := cells11 HK4.out
      go_wp2_with fail
      refine (Speed_ok u mu (lvl (n : Int)) false _ HU.out (HLM.out.below hpos HB.out) HCU.out HGN.out).mono ?_
      rintro e V14 ⟨n6, rfl, hn6, hb⟩
      have Hhn6 := Lib.hid hn6
      clear hn6
      clear c0 c1 c2 c3 c4 c5 c6 c7 c8 c9 c10
      replace HK1 := Lib.hid ((hb.block _ (lt_of_block HK1.out)).trans HK1.out)
      replace HK2 := Lib.hid ((hb.block _ (lt_of_block HK2.out)).trans HK2.out)
      replace HK3 := Lib.hid ((hb.block _ (lt_of_block HK3.out)).trans HK3.out)
      replace HK4 := Lib.hid ((hb.block _ (lt_of_block HK4.out)).trans HK4.out)
      replace HS := Lib.hid (HS.out.later hb)
      replace HT := Lib.hid (HT.out.later hb)
      replace HB := Lib.hid (HB.out.trans (hb.mono HB.out.size))
      replace HU := Lib.hid (HU.out.later hb)
      clear hb
      have f4 : n5 < n6 := by rw [Hhn5.out, Hhn6.out]; exact_mod_cast HLT.out
      clear Hhn5 Hhn6
      have HAW := Lib.hid (awake_any V14 (HLM.out.below hpos HB.out) (HST.out.below hpos1 HB.out))
      go_wp2_with fail
      refine HAW.out.mono ?_
      rintro e We ⟨rfl, hb⟩
      have HBE := Lib.hid (HB.out.trans (hb.mono HB.out.size))
      clear hb
      go_wp2_with fail
      go_ret
      exact ⟨rfl, HBE.out⟩
end Go.Proofs.YtcoiklolgilhaaaDoor
