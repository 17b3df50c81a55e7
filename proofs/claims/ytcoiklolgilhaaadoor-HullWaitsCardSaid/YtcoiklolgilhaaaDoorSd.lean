/- The law HullWaits behind its pressures: what Free names. -/
import Derived.Test.YtcoiklolgilhaaaDoorSc
namespace Go.Proofs.YtcoiklolgilhaaaDoor
open Go.RowKit
set_option maxRecDepth 100000
noncomputable def waits13 : Code := ((Tryd.f9.body.bind (findLeft 13)).getD .skip)
set_option maxHeartbeats 32000000 in
theorem Waits_tail (s : Sh) (m : Mem3) (lo hi : Ic) (B9 B10 M n c1 c2 : Nat) (q1 q2 : Option Addr) (l1 l2 : List (Int × Int)) (w0 w2 w : World) (hl : Lim w2) (hst : Str w2) (hc0 : chkP s = 0) (gc : GoodC lo hi)
    (h02 : Below w0.heap.size w0 w2) (hB : Below w2.heap.size w2 w) (hS : ShipIn w2 s m) (hK1 : w.heap[B9]? = some (.cells (shipA s m) 24 (0, 0))) (hK2 : w.heap[B10]? = some (.cells (cellV lo hi) 59 (0, 0)))
    (hb9 : B9 ≠ B10) (hb10 : w2.heap.size ≤ B10) (hbM : B10 < M) (hM : M ≤ w.heap.size) (hR1 : SRow w M (.slice q1 n c1) l1) (hR2 : SRow w M (.slice q2 n c2) l2) (hsp : Sp l1 l2) (hn1 : l1.length = n) (hn2 : l2.length = n) (hn : n ≤ 20)
    (x0 x1 x2 x3 x4 x5 x6 x7 x8 x11 x12 x15 x16 x17 x18 x19 x20 x21 x22 x23 x24 x25 x26 x27 x28 x29 x30 x31 x32 x33 x34 x35 x36 x37 x38 x39 x40 x41 x42 x43 x44 x45 x46 x47 x48 x49 x50 x51 x52 x53 x54 x55 x56 x57 x58 x59 x60 x61 x62 x63 x64 x65 x66 x67 x68 x69 x70 x71 x72 x73 x74 x75 x76 x77 x78 x79 x80 x81 x82 x83 x84 x85 x86 x87 x88 x89 x90 x91 x92 x93 x94 x95 x96 x97 x98 x99 x100 x101 x102 x103 x104 x105 x106 x107 x108 x109 x110 x111 x112 x113 x114 x115 x116 x117 x118 x119 x120 x121 x122 x123 x124 x125 x126 x127 x128 x129 x130 x131 x132 x133 x134 x135 x136 x137 x138 x139 x140 x141 x142 x143 x144 x145 x146 x147 x148 x149 x150 x151 x152 x153 x154 x155 x156 x157 x158 x159 x160 x161 x162 x163 x164 x165 x166 x167 x168 x169 x170 x171 x172 x173 x174 x175 x176 x177 x178 x179 x180 x181 x182 x183 x184 x185 x186 x187 x188 x189 x190 x191 x192 x193 : Value) :
    Code.wp Tryd.prog waits13 (bodyPost Tryd.prog Tryd.f9 fun e w' => e = .returned (.bool true) ∧ Below w0.heap.size w0 w') ⟨#[x0, x1, x2, x3, x4, x5, x6, x7, x8, .pointer (some ⟨B9, 0, none⟩), .pointer (some ⟨B10, 0, none⟩), x11, x12, .slice q1 n c1, .slice q2 n c2, x15, x16, x17, x18, x19, x20, x21, x22, x23, x24, x25, x26, x27, x28, x29, x30, x31, x32, x33, x34, x35, x36, x37, x38, x39, x40, x41, x42, x43, x44, x45, x46, x47, x48, x49, x50, x51, x52, x53, x54, x55, x56, x57, x58, x59, x60, x61, x62, x63, x64, x65, x66, x67, x68, x69, x70, x71, x72, x73, x74, x75, x76, x77, x78, x79, x80, x81, x82, x83, x84, x85, x86, x87, x88, x89, x90, x91, x92, x93, x94, x95, x96, x97, x98, x99, x100, x101, x102, x103, x104, x105, x106, x107, x108, x109, x110, x111, x112, x113, x114, x115, x116, x117, x118, x119, x120, x121, x122, x123, x124, x125, x126, x127, x128, x129, x130, x131, x132, x133, x134, x135, x136, x137, x138, x139, x140, x141, x142, x143, x144, x145, x146, x147, x148, x149, x150, x151, x152, x153, x154, x155, x156, x157, x158, x159, x160, x161, x162, x163, x164, x165, x166, x167, x168, x169, x170, x171, x172, x173, x174, x175, x176, x177, x178, x179, x180, x181, x182, x183, x184, x185, x186, x187, x188, x189, x190, x191, x192, x193], []⟩ w := by
  have hpos := hl.pos
  have hpos1 := hst.pos
  have HG := Lib.hid (good_of hc0)
  have HLM := Lib.hid hl
  have HST := Lib.hid hst
  have HC := Lib.hid hc0
  have HGC := Lib.hid gc
  have H02 := Lib.hid h02
  have HB := Lib.hid hB
  have HS := Lib.hid hS
  have HK1 := Lib.hid hK1
  have HK2 := Lib.hid hK2
  have HR1 := Lib.hid hR1
  have HR2 := Lib.hid hR2
  have HSP := Lib.hid hsp
  have HN1 := Lib.hid hn1
  have HN2 := Lib.hid hn2
  clear hl hst hc0 gc h02 hB hS hK1 hK2 hR1 hR2 hsp hn1 hn2
  conv => arg 2; whnf
  obtain ⟨m0, m1, m2, m3, m4, m5, m6, m7, m8, m9, m10⟩ := cells11 HK1.out
  obtain ⟨⟨cz0, cz1, cz2, cz3, cz4, cz5, cz6, cz7⟩, _⟩ := cells8 HK2.out
  go_wp2_with fail
  refine (Free_ex s m lo hi q1 n c1 (cvOf l1) _ (HS.out.later HB.out) (HLM.out.below hpos HB.out) HC.out HGC.out HSP.out.a HN1.out (by omega) (SRow.pts HR1.out)).mono ?_
  rintro e V1 ⟨A, B, E, rfl, hfr, hb⟩
  have Hhfr := Lib.hid hfr
  clear hfr
  clear m0 m1 m2 m3 m4 m5 m6 m7 m8 m9 m10 cz0 cz1 cz2 cz3 cz4 cz5 cz6 cz7
  replace HK1 := Lib.hid ((hb.block _ (lt_of_block HK1.out)).trans HK1.out)
  replace HK2 := Lib.hid ((hb.block _ (lt_of_block HK2.out)).trans HK2.out)
  replace HR1 := Lib.hid (row_later HR1.out hb)
  replace HR2 := Lib.hid (row_later HR2.out hb)
  replace HB := Lib.hid (HB.out.trans (hb.mono HB.out.size))
  replace hM := Nat.le_trans hM hb.size
  clear hb
  have hM1 := hM
  have hba := (Below.refl V1.heap.size V1).alloc (Nat.le_refl _) Z57
  have HZ := Lib.hid (block_new V1 Z57)
  go_wp2_with (refine list_store2 rfl rfl rfl (.inr (.inr rfl)) rfl rfl HZ.out ?_; intro V2 hz hc; have hb := hba.trans (hc.below (Nat.le_refl _)); have HK7 := Lib.hid hz; replace HK1 := Lib.hid ((hb.block _ (lt_of_block HK1.out)).trans HK1.out); replace HK2 := Lib.hid ((hb.block _ (lt_of_block HK2.out)).trans HK2.out); replace HR1 := Lib.hid (row_later HR1.out hb); replace HR2 := Lib.hid (row_later HR2.out hb); replace HB := Lib.hid (HB.out.trans (hb.mono HB.out.size)); replace hM := Nat.le_trans hM hb.size; clear hb hz hc HZ hba; obtain ⟨m0, m1, m2, m3, m4, m5, m6, m7, m8, m9, m10⟩ := cells11 HK1.out; obtain ⟨⟨cz0, cz1, cz2, cz3, cz4, cz5, cz6, cz7⟩, _⟩ := cells8 HK2.out)
  rename_i K hK K9 hK9
  have HKA := Lib.hid hK
  clear hK
  refine (Free_ex s m lo hi q2 n c2 (cvOf l2) _ (HS.out.later HB.out) (HLM.out.below hpos HB.out) HC.out HGC.out HSP.out.b HN2.out (by omega) (SRow.pts HR2.out)).mono ?_
  rintro e V3 ⟨C, D, F, rfl, hfs, hb⟩
  have Hhfs := Lib.hid hfs
  clear hfs
  clear m0 m1 m2 m3 m4 m5 m6 m7 m8 m9 m10 cz0 cz1 cz2 cz3 cz4 cz5 cz6 cz7
  replace HK1 := Lib.hid ((hb.block _ (lt_of_block HK1.out)).trans HK1.out)
  replace HK2 := Lib.hid ((hb.block _ (lt_of_block HK2.out)).trans HK2.out)
  replace HK7 := Lib.hid ((hb.block _ (lt_of_block HK7.out)).trans HK7.out)
  replace HR1 := Lib.hid (row_later HR1.out hb)
  replace HR2 := Lib.hid (row_later HR2.out hb)
  replace HB := Lib.hid (HB.out.trans (hb.mono HB.out.size))
  replace hM := Nat.le_trans hM hb.size
  clear hb
  have ff := free_le HG.out HGC.out HSP.out.a HSP.out.b (by show l2.length = l1.length; rw [HN1.out, HN2.out]) HSP.out.x HSP.out.y Hhfr.out Hhfs.out
  have hqn : (cvOf l1).n = n := HN1.out
  rw [hqn] at ff
  clear hqn Hhfs
  have hba := (Below.refl V3.heap.size V3).alloc (Nat.le_refl _) Z57
  have HZ := Lib.hid (block_new V3 Z57)
  go_wp2_with (refine list_store2 rfl rfl rfl (.inr (.inr rfl)) rfl rfl HZ.out ?_; intro V4 hz hc; have hb := hba.trans (hc.below (Nat.le_refl _)); have HK8 := Lib.hid hz; replace HK1 := Lib.hid ((hb.block _ (lt_of_block HK1.out)).trans HK1.out); replace HK2 := Lib.hid ((hb.block _ (lt_of_block HK2.out)).trans HK2.out); replace HK7 := Lib.hid ((hb.block _ (lt_of_block HK7.out)).trans HK7.out); replace HR1 := Lib.hid (row_later HR1.out hb); replace HR2 := Lib.hid (row_later HR2.out hb); replace HB := Lib.hid (HB.out.trans (hb.mono HB.out.size)); replace hM := Nat.le_trans hM hb.size; clear hb hz hc HZ hba; obtain ⟨⟨t0, t1⟩, _⟩ := cells2 HK7.out; obtain ⟨⟨u0, u1⟩, _⟩ := cells2 HK8.out)
  refine HKA.out _ _ ?_
  refine wp_seq_k ?_
  intro K hK
  have HKB := Lib.hid hK
  clear hK
  clear HR2 HN2
  rcases ff with ⟨rfl, rfl | rfl⟩ | ⟨rfl, rfl, f1, f2, f3, f4, f5⟩
  all_goals
    go_wp2_with fail
    refine HKB.out _ _ ?_
    show Code.wp Tryd.prog waits17 _ _ _
    apply Waits_17 s m lo hi _ _ _ M _ _ _ l1 A B _ w0 w2 _ HLM.out HST.out HC.out HGC.out H02.out HB.out HS.out HK1.out HK2.out HK7.out hb9 hb10 hbM hM1 HR1.out HSP.out.a HN1.out hn Hhfr.out
end Go.Proofs.YtcoiklolgilhaaaDoor
