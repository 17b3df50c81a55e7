/- The law HullWaits, its second loop: hour by hour. The law HullWaits behind its pressures: what Free names. The law HullWaits over memory: any bytes. The table of limits and the one of strengths hold their numbers. -/
import Derived.Test.YtcoiklolgilhaaaDoorSg
import Derived.Test.YtcoiklolgilhaaaDoorRi
import Derived.Test.YtcoiklolgilhaaaDoorQh
namespace Go.Proofs.YtcoiklolgilhaaaDoor
open Go.RowKit
set_option maxRecDepth 100000
def startsReg (id : Nat) : Code → Bool
  | .region i _ _ => i == id
  | .seq a _ => startsReg id a
  | _ => false
/-- The greatest code that begins with a region and what follows it. -/
def findLeft (id : Nat) : Code → Option Code
  | .seq a b => if startsReg id a = true then some (.seq a b) else match findLeft id a with
    | some c => some c
    | none => findLeft id b
  | .block _ c => findLeft id c
  | .loop c => findLeft id c
  | .scope c => findLeft id c
  | .cond _ a b => match findLeft id a with
    | some c => some c
    | none => findLeft id b
  | _ => none
noncomputable def waits17 : Code := ((Tryd.f9.body.bind (findLeft 17)).getD .skip)
structure Sp (l1 l2 : List (Int × Int)) : Prop where
  a : OkQ (cvOf l1)
  b : OkQ (cvOf l2)
  x : ∀ i, i < l1.length → (cvOf l2).x i ≤ (cvOf l1).x i
  y : ∀ i, i < l1.length → (cvOf l2).y i ≤ (cvOf l1).y i
set_option maxHeartbeats 32000000 in
theorem Waits_17 (s : Sh) (m : Mem3) (lo hi : Ic) (B9 B10 B17 M n c1 : Nat) (q1 : Option Addr) (l1 : List (Int × Int)) (A B E : Int) (w0 w2 w : World) (hl : Lim w2) (hst : Str w2) (hc0 : chkP s = 0) (gc : GoodC lo hi)
    (h02 : Below w0.heap.size w0 w2) (hB : Below w2.heap.size w2 w) (hS : ShipIn w2 s m) (hK1 : w.heap[B9]? = some (.cells (shipA s m) 24 (0, 0))) (hK2 : w.heap[B10]? = some (.cells (cellV lo hi) 59 (0, 0))) (hK7 : w.heap[B17]? = some (.cells #[.int .i64 A, .int .i64 B] 57 (0, 0)))
    (hb9 : B9 ≠ B10) (hb10 : w2.heap.size ≤ B10) (hbM : B10 < M) (hb17 : M ≤ B17) (hR1 : SRow w M (.slice q1 n c1) l1) (hq : OkQ (cvOf l1)) (hn1 : l1.length = n) (hn : n ≤ 20) (hF : Fr s lo hi (cvOf l1) A B E)
    (x0 x1 x2 x3 x4 x5 x6 x7 x8 x11 x12 x14 x15 x16 x19 x20 x21 x22 x23 x24 x25 x26 x27 x28 x29 x30 x31 x32 x33 x34 x35 x36 x37 x38 x39 x40 x41 x42 x43 x44 x45 x46 x47 x48 x49 x50 x51 x52 x53 x54 x55 x56 x57 x58 x59 x60 x61 x62 x63 x64 x65 x66 x67 x68 x69 x70 x71 x72 x73 x74 x75 x76 x77 x78 x79 x80 x81 x82 x83 x84 x85 x86 x87 x88 x89 x90 x91 x92 x93 x94 x95 x96 x97 x98 x99 x100 x101 x102 x103 x104 x105 x106 x107 x108 x109 x110 x111 x112 x113 x114 x115 x116 x117 x118 x119 x120 x121 x122 x123 x124 x125 x126 x127 x128 x129 x130 x131 x132 x133 x134 x135 x136 x137 x138 x139 x140 x141 x142 x143 x144 x145 x146 x147 x148 x149 x150 x151 x152 x153 x154 x155 x156 x157 x158 x159 x160 x161 x162 x163 x164 x165 x166 x167 x168 x169 x170 x171 x172 x173 x174 x175 x176 x177 x178 x179 x180 x181 x182 x183 x184 x185 x186 x187 x188 x189 x190 x191 x192 x193 : Value) :
    Code.wp Tryd.prog waits17 (bodyPost Tryd.prog Tryd.f9 fun e w' => e = .returned (.bool true) ∧ Below w0.heap.size w0 w') ⟨#[x0, x1, x2, x3, x4, x5, x6, x7, x8, .pointer (some ⟨B9, 0, none⟩), .pointer (some ⟨B10, 0, none⟩), x11, x12, .slice q1 n c1, x14, x15, x16, .pointer (some ⟨B17, 0, none⟩), .int .i64 E, x19, x20, x21, x22, x23, x24, x25, x26, x27, x28, x29, x30, x31, x32, x33, x34, x35, x36, x37, x38, x39, x40, x41, x42, x43, x44, x45, x46, x47, x48, x49, x50, x51, x52, x53, x54, x55, x56, x57, x58, x59, x60, x61, x62, x63, x64, x65, x66, x67, x68, x69, x70, x71, x72, x73, x74, x75, x76, x77, x78, x79, x80, x81, x82, x83, x84, x85, x86, x87, x88, x89, x90, x91, x92, x93, x94, x95, x96, x97, x98, x99, x100, x101, x102, x103, x104, x105, x106, x107, x108, x109, x110, x111, x112, x113, x114, x115, x116, x117, x118, x119, x120, x121, x122, x123, x124, x125, x126, x127, x128, x129, x130, x131, x132, x133, x134, x135, x136, x137, x138, x139, x140, x141, x142, x143, x144, x145, x146, x147, x148, x149, x150, x151, x152, x153, x154, x155, x156, x157, x158, x159, x160, x161, x162, x163, x164, x165, x166, x167, x168, x169, x170, x171, x172, x173, x174, x175, x176, x177, x178, x179, x180, x181, x182, x183, x184, x185, x186, x187, x188, x189, x190, x191, x192, x193], []⟩ w := by
  have hpos := hl.pos
  have hpos1 := hst.pos
  have HG := Lib.hid (good_of hc0)
  have HLM := Lib.hid hl
  have HST := Lib.hid hst
  have HC := Lib.hid hc0
  have HGC := Lib.hid gc
  have H02 := Lib.hid h02
  have HB := Lib.hid hB
  have HS := Lib.hid hS
  have HK1 := Lib.hid hK1
  have HK2 := Lib.hid hK2
  have HK7 := Lib.hid hK7
  have HR1 := Lib.hid hR1
  have HQ := Lib.hid hq
  have HN1 := Lib.hid hn1
  have HF := Lib.hid hF
  clear hl hst hc0 gc h02 hB hS hK1 hK2 hK7 hR1 hq hn1 hF
  conv => arg 2; whnf
  go_wp2_with fail
  rename_i K hK
  have HKT := Lib.hid hK
  clear hK
  go_loopw [136] (fun i wr => ∃ j : Nat, i = .int .i64 j ∧ j ≤ n ∧ Hid (Below w2.heap.size w2 wr) ∧ Hid (wr.heap[B9]? = some (.cells (shipA s m) 24 (0, 0))) ∧ Hid (∃ x y : Int, wr.heap[B10]? = some (.cells (cellV (setP lo x) (setP hi y)) 59 (0, 0))) ∧ Hid (wr.heap[B17]? = some (.cells #[.int .i64 A, .int .i64 B] 57 (0, 0))) ∧ Hid (SRow wr M (.slice q1 n c1) l1)) (fun i _ => n - (intOf i).toNat)
  case atStart => exact ⟨0, rfl, Nat.zero_le _, HB, HK1, Lib.hid ⟨lo.press, hi.press, HK2.out⟩, HK7, HR1⟩
  case round =>
    clear HB HK1 HK2 HK7 HR1
    obtain ⟨j, rfl, hj, hb0, hk1, hk2, hk7, hr1⟩ := hrel
    have HB := Lib.hid hb0.out
    have HK1 := Lib.hid hk1.out
    obtain ⟨zx, zy, hk2'⟩ := hk2.out
    have HK2 := Lib.hid hk2'
    have HK7 := Lib.hid hk7.out
    have HR1 := Lib.hid hr1.out
    clear hb0 hk1 hk2 hk2' hk7 hr1
    by_cases hlt : j < n
    · have hjn : (j : Int) < (n : Int) := by omega
      have hj0 : (0 : Int) ≤ (j : Int) := by omega
      obtain ⟨bq, oq, eq1, hbq, cx, cy⟩ := SRow.pts HR1.out j (by show j < l1.length; rw [HN1.out]; exact hlt)
      obtain ⟨g0, g1, g2⟩ := HQ.out j (by show j < l1.length; rw [HN1.out]; exact hlt)
      subst eq1
      have HFX := Lib.hid (show (oneB s hi ((cvOf l1).y j) = oneB s hi ((cvOf l1).y j)) from rfl)
      obtain ⟨px, hpx⟩ : ∃ v, v = (cvOf l1).x j := ⟨_, rfl⟩
      obtain ⟨py, hpy⟩ : ∃ v, v = (cvOf l1).y j := ⟨_, rfl⟩
      rw [← hpx] at cx g0 g1
      rw [← hpy] at cy g1 g2
      have HPX := Lib.hid hpx
      have HPY := Lib.hid hpy
      clear hpx hpy HFX
      have hba := (Below.refl wr.heap.size wr).alloc (Nat.le_refl _) Z57
      have HZ := Lib.hid (block_new wr Z57)
      go_wp2_with (first | (refine list_store2 rfl rfl rfl (.inr (.inr rfl)) rfl rfl HZ.out ?_; intro U1 hz hc; have hb := hba.trans (hc.below (Nat.le_refl _)); have HK22 := Lib.hid hz; replace HK1 := Lib.hid ((hb.block _ (lt_of_block HK1.out)).trans HK1.out); replace HK2 := Lib.hid ((hb.block _ (lt_of_block HK2.out)).trans HK2.out); replace HK7 := Lib.hid ((hb.block _ (lt_of_block HK7.out)).trans HK7.out); replace HR1 := Lib.hid (row_later HR1.out hb); replace HB := Lib.hid (HB.out.trans (hb.mono HB.out.size)); clear hb hz hc HZ hba cx cy; obtain ⟨⟨y0, y1⟩, _⟩ := cells2 HK22.out) | (refine list_store57 rfl rfl rfl rfl rfl HK2.out ?_; intro U2 hz hc; replace HK2 := Lib.hid (show U2.heap[B10]? = some (.cells (cellV (setP lo px) (setP hi py)) 59 (0, 0)) from hz); replace HK1 := Lib.hid ((hc.2.1 _ hb9).trans HK1.out); replace HK7 := Lib.hid ((hc.2.1 _ (by omega)).trans HK7.out); replace HR1 := Lib.hid (srow_chg HR1.out hc hbM); replace HB := Lib.hid (HB.out.trans (hc.below hb10)); clear hz hc y0 y1 HK22; obtain ⟨m0, m1, m2, m3, m4, m5, m6, m7, m8, m9, m10⟩ := cells11 HK1.out; obtain ⟨⟨cz0, cz1, cz2, cz3, cz4, cz5, cz6, cz7⟩, _⟩ := cells8 HK2.out))
      refine (Beset_ex s m (setP lo px) (setP hi py) false _ (HS.out.later HB.out) (HLM.out.below hpos HB.out) HC.out (setP_good HGC.out g0 g1 g2)).mono ?_
      rintro e V3 ⟨b1, b2, rfl, hb1, hb2, hb⟩
      have Hhb1 := Lib.hid hb1
      clear hb1
      have Hhb2 := Lib.hid hb2
      clear hb2
      clear m0 m1 m2 m3 m4 m5 m6 m7 m8 m9 m10 cz0 cz1 cz2 cz3 cz4 cz5 cz6 cz7
      replace HK1 := Lib.hid ((hb.block _ (lt_of_block HK1.out)).trans HK1.out)
      replace HK2 := Lib.hid ((hb.block _ (lt_of_block HK2.out)).trans HK2.out)
      replace HK7 := Lib.hid ((hb.block _ (lt_of_block HK7.out)).trans HK7.out)
      replace HR1 := Lib.hid (row_later HR1.out hb)
      replace HB := Lib.hid (HB.out.trans (hb.mono HB.out.size))
      clear hb
      obtain ⟨⟨t0, t1⟩, _⟩ := cells2 HK7.out
      have e1 : b1 = oneB s hi ((cvOf l1).y j) := by rw [Hhb1.out, ← HPY.out]; rfl
      have e2 : b2 = oneB s lo ((cvOf l1).x j) := by rw [Hhb2.out, ← HPX.out]; rfl
      clear Hhb1 Hhb2
      have hqn : (cvOf l1).n = n := HN1.out
      rcases HF.out with ⟨rfl, h4⟩ | ⟨rfl, av, bv, rfl, rfl, r1, r2, r3, r4, r5, r6⟩
      · obtain rfl : b1 = true := e1.trans (h4 j (by omega))
        clear e1 e2 h4 HF
        go_wp2_with fail
        all_goals
          refine ⟨⟨j + 1, ?_, ?_, HB, HK1, Lib.hid ⟨px, py, HK2.out⟩, HK7, HR1⟩, ?_⟩
          · first | rfl | (congr 1; omega)
          · omega
          · simp only [intOf]; omega
      · have i1 : j < bv → b1 = true := fun h => e1.trans (r4 j h)
        have i2 : j = bv → b1 = false := fun h => by rw [e1, h]; exact r3
        have i3 : j < av → b2 = true := fun h => e2.trans (r6 j h)
        have i4 : j = av → b2 = false := fun h => by rw [e2, h]; exact r5
        clear e1 e2 r3 r4 r5 r6 HF
        rcases Nat.lt_trichotomy j bv with h | h | h <;> rcases Nat.lt_trichotomy j av with h' | h' | h'
        all_goals try (exfalso; omega)
        all_goals try (have z := i1 h; subst z)
        all_goals try (have z := i2 h; subst z)
        all_goals try (have z := i3 h'; subst z)
        all_goals try (have z := i4 h'; subst z)
        all_goals
          clear i1 i2 i3 i4
          go_wp2_with fail
        all_goals
          refine ⟨⟨j + 1, ?_, ?_, HB, HK1, Lib.hid ⟨px, py, HK2.out⟩, HK7, HR1⟩, ?_⟩
          · first | rfl | (congr 1; omega)
          · omega
          · simp only [intOf]; omega
    · obtain rfl : j = n := by omega
      have HAW := Lib.hid (awake_any wr (HLM.out.below hpos HB.out) (HST.out.below hpos1 HB.out))
      have hjj : ¬ ((j : Int) < (j : Int)) := by omega
      go_wp2_with fail
      refine HKT.out _ _ ?_
      go_wp2_with fail
      refine HAW.out.mono ?_
      rintro e We ⟨rfl, hb⟩
      have HBE := Lib.hid (H02.out.trans ((HB.out.trans (hb.mono HB.out.size)).mono H02.out.size))
      clear hb
      go_wp2_with fail
      go_ret
      exact ⟨rfl, HBE.out⟩
end Go.Proofs.YtcoiklolgilhaaaDoor
namespace Go.Proofs.YtcoiklolgilhaaaDoor
open Go.RowKit
set_option maxRecDepth 100000
noncomputable def waits13 : Code := ((Tryd.f9.body.bind (findLeft 13)).getD .skip)
set_option maxHeartbeats 32000000 in
theorem Waits_tail (s : Sh) (m : Mem3) (lo hi : Ic) (B9 B10 M n c1 c2 : Nat) (q1 q2 : Option Addr) (l1 l2 : List (Int × Int)) (w0 w2 w : World) (hl : Lim w2) (hst : Str w2) (hc0 : chkP s = 0) (gc : GoodC lo hi)
    (h02 : Below w0.heap.size w0 w2) (hB : Below w2.heap.size w2 w) (hS : ShipIn w2 s m) (hK1 : w.heap[B9]? = some (.cells (shipA s m) 24 (0, 0))) (hK2 : w.heap[B10]? = some (.cells (cellV lo hi) 59 (0, 0)))
    (hb9 : B9 ≠ B10) (hb10 : w2.heap.size ≤ B10) (hbM : B10 < M) (hM : M ≤ w.heap.size) (hR1 : SRow w M (.slice q1 n c1) l1) (hR2 : SRow w M (.slice q2 n c2) l2) (hsp : Sp l1 l2) (hn1 : l1.length = n) (hn2 : l2.length = n) (hn : n ≤ 20)
    (x0 x1 x2 x3 x4 x5 x6 x7 x8 x11 x12 x15 x16 x17 x18 x19 x20 x21 x22 x23 x24 x25 x26 x27 x28 x29 x30 x31 x32 x33 x34 x35 x36 x37 x38 x39 x40 x41 x42 x43 x44 x45 x46 x47 x48 x49 x50 x51 x52 x53 x54 x55 x56 x57 x58 x59 x60 x61 x62 x63 x64 x65 x66 x67 x68 x69 x70 x71 x72 x73 x74 x75 x76 x77 x78 x79 x80 x81 x82 x83 x84 x85 x86 x87 x88 x89 x90 x91 x92 x93 x94 x95 x96 x97 x98 x99 x100 x101 x102 x103 x104 x105 x106 x107 x108 x109 x110 x111 x112 x113 x114 x115 x116 x117 x118 x119 x120 x121 x122 x123 x124 x125 x126 x127 x128 x129 x130 x131 x132 x133 x134 x135 x136 x137 x138 x139 x140 x141 x142 x143 x144 x145 x146 x147 x148 x149 x150 x151 x152 x153 x154 x155 x156 x157 x158 x159 x160 x161 x162 x163 x164 x165 x166 x167 x168 x169 x170 x171 x172 x173 x174 x175 x176 x177 x178 x179 x180 x181 x182 x183 x184 x185 x186 x187 x188 x189 x190 x191 x192 x193 : Value) :
    Code.wp Tryd.prog waits13 (bodyPost Tryd.prog Tryd.f9 fun e w' => e = .returned (.bool true) ∧ Below w0.heap.size w0 w') ⟨#[x0, x1, x2, x3, x4, x5, x6, x7, x8, .pointer (some ⟨B9, 0, none⟩), .pointer (some ⟨B10, 0, none⟩), x11, x12, .slice q1 n c1, .slice q2 n c2, x15, x16, x17, x18, x19, x20, x21, x22, x23, x24, x25, x26, x27, x28, x29, x30, x31, x32, x33, x34, x35, x36, x37, x38, x39, x40, x41, x42, x43, x44, x45, x46, x47, x48, x49, x50, x51, x52, x53, x54, x55, x56, x57, x58, x59, x60, x61, x62, x63, x64, x65, x66, x67, x68, x69, x70, x71, x72, x73, x74, x75, x76, x77, x78, x79, x80, x81, x82, x83, x84, x85, x86, x87, x88, x89, x90, x91, x92, x93, x94, x95, x96, x97, x98, x99, x100, x101, x102, x103, x104, x105, x106, x107, x108, x109, x110, x111, x112, x113, x114, x115, x116, x117, x118, x119, x120, x121, x122, x123, x124, x125, x126, x127, x128, x129, x130, x131, x132, x133, x134, x135, x136, x137, x138, x139, x140, x141, x142, x143, x144, x145, x146, x147, x148, x149, x150, x151, x152, x153, x154, x155, x156, x157, x158, x159, x160, x161, x162, x163, x164, x165, x166, x167, x168, x169, x170, x171, x172, x173, x174, x175, x176, x177, x178, x179, x180, x181, x182, x183, x184, x185, x186, x187, x188, x189, x190, x191, x192, x193], []⟩ w := by
  have hpos := hl.pos
  have hpos1 := hst.pos
  have HG := Lib.hid (good_of hc0)
  have HLM := Lib.hid hl
  have HST := Lib.hid hst
  have HC := Lib.hid hc0
  have HGC := Lib.hid gc
  have H02 := Lib.hid h02
  have HB := Lib.hid hB
  have HS := Lib.hid hS
  have HK1 := Lib.hid hK1
  have HK2 := Lib.hid hK2
  have HR1 := Lib.hid hR1
  have HR2 := Lib.hid hR2
  have HSP := Lib.hid hsp
  have HN1 := Lib.hid hn1
  have HN2 := Lib.hid hn2
  clear hl hst hc0 gc h02 hB hS hK1 hK2 hR1 hR2 hsp hn1 hn2
  conv => arg 2; whnf
  obtain ⟨m0, m1, m2, m3, m4, m5, m6, m7, m8, m9, m10⟩ := cells11 HK1.out
  obtain ⟨⟨cz0, cz1, cz2, cz3, cz4, cz5, cz6, cz7⟩, _⟩ := cells8 HK2.out
  go_wp2_with fail
  refine (Free_ex s m lo hi q1 n c1 (cvOf l1) _ (HS.out.later HB.out) (HLM.out.below hpos HB.out) HC.out HGC.out HSP.out.a HN1.out (by omega) (SRow.pts HR1.out)).mono ?_
  rintro e V1 ⟨A, B, E, rfl, hfr, hb⟩
  have Hhfr := Lib.hid hfr
  clear hfr
  clear m0 m1 m2 m3 m4 m5 m6 m7 m8 m9 m10 cz0 cz1 cz2 cz3 cz4 cz5 cz6 cz7
  replace HK1 := Lib.hid ((hb.block _ (lt_of_block HK1.out)).trans HK1.out)
  replace HK2 := Lib.hid ((hb.block _ (lt_of_block HK2.out)).trans HK2.out)
  replace HR1 := Lib.hid (row_later HR1.out hb)
  replace HR2 := Lib.hid (row_later HR2.out hb)
  replace HB := Lib.hid (HB.out.trans (hb.mono HB.out.size))
  replace hM := Nat.le_trans hM hb.size
  clear hb
  have hM1 := hM
  have hba := (Below.refl V1.heap.size V1).alloc (Nat.le_refl _) Z57
  have HZ := Lib.hid (block_new V1 Z57)
  go_wp2_with (refine list_store2 rfl rfl rfl (.inr (.inr rfl)) rfl rfl HZ.out ?_; intro V2 hz hc; have hb := hba.trans (hc.below (Nat.le_refl _)); have HK7 := Lib.hid hz; replace HK1 := Lib.hid ((hb.block _ (lt_of_block HK1.out)).trans HK1.out); replace HK2 := Lib.hid ((hb.block _ (lt_of_block HK2.out)).trans HK2.out); replace HR1 := Lib.hid (row_later HR1.out hb); replace HR2 := Lib.hid (row_later HR2.out hb); replace HB := Lib.hid (HB.out.trans (hb.mono HB.out.size)); replace hM := Nat.le_trans hM hb.size; clear hb hz hc HZ hba; obtain ⟨m0, m1, m2, m3, m4, m5, m6, m7, m8, m9, m10⟩ := cells11 HK1.out; obtain ⟨⟨cz0, cz1, cz2, cz3, cz4, cz5, cz6, cz7⟩, _⟩ := cells8 HK2.out)
  rename_i K hK K9 hK9
  have HKA := Lib.hid hK
  clear hK
  refine (Free_ex s m lo hi q2 n c2 (cvOf l2) _ (HS.out.later HB.out) (HLM.out.below hpos HB.out) HC.out HGC.out HSP.out.b HN2.out (by omega) (SRow.pts HR2.out)).mono ?_
  rintro e V3 ⟨C, D, F, rfl, hfs, hb⟩
  have Hhfs := Lib.hid hfs
  clear hfs
  clear m0 m1 m2 m3 m4 m5 m6 m7 m8 m9 m10 cz0 cz1 cz2 cz3 cz4 cz5 cz6 cz7
  replace HK1 := Lib.hid ((hb.block _ (lt_of_block HK1.out)).trans HK1.out)
  replace HK2 := Lib.hid ((hb.block _ (lt_of_block HK2.out)).trans HK2.out)
  replace HK7 := Lib.hid ((hb.block _ (lt_of_block HK7.out)).trans HK7.out)
  replace HR1 := Lib.hid (row_later HR1.out hb)
  replace HR2 := Lib.hid (row_later HR2.out hb)
  replace HB := Lib.hid (HB.out.trans (hb.mono HB.out.size))
  replace hM := Nat.le_trans hM hb.size
  clear hb
  have ff := free_le HG.out HGC.out HSP.out.a HSP.out.b (by show l2.length = l1.length; rw [HN1.out, HN2.out]) HSP.out.x HSP.out.y Hhfr.out Hhfs.out
  have hqn : (cvOf l1).n = n := HN1.out
  rw [hqn] at ff
  clear hqn Hhfs
  have hba := (Below.refl V3.heap.size V3).alloc (Nat.le_refl _) Z57
  have HZ := Lib.hid (block_new V3 Z57)
  go_wp2_with (refine list_store2 rfl rfl rfl (.inr (.inr rfl)) rfl rfl HZ.out ?_; intro V4 hz hc; have hb := hba.trans (hc.below (Nat.le_refl _)); have HK8 := Lib.hid hz; replace HK1 := Lib.hid ((hb.block _ (lt_of_block HK1.out)).trans HK1.out); replace HK2 := Lib.hid ((hb.block _ (lt_of_block HK2.out)).trans HK2.out); replace HK7 := Lib.hid ((hb.block _ (lt_of_block HK7.out)).trans HK7.out); replace HR1 := Lib.hid (row_later HR1.out hb); replace HR2 := Lib.hid (row_later HR2.out hb); replace HB := Lib.hid (HB.out.trans (hb.mono HB.out.size)); replace hM := Nat.le_trans hM hb.size; clear hb hz hc HZ hba; obtain ⟨⟨t0, t1⟩, _⟩ := cells2 HK7.out; obtain ⟨⟨u0, u1⟩, _⟩ := cells2 HK8.out)
  refine HKA.out _ _ ?_
  refine wp_seq_k ?_
  intro K hK
  have HKB := Lib.hid hK
  clear hK
  clear HR2 HN2
  rcases ff with ⟨rfl, rfl | rfl⟩ | ⟨rfl, rfl, f1, f2, f3, f4, f5⟩
  all_goals
    go_wp2_with fail
    refine HKB.out _ _ ?_
    show Code.wp Tryd.prog waits17 _ _ _
    apply Waits_17 s m lo hi _ _ _ M _ _ _ l1 A B _ w0 w2 _ HLM.out HST.out HC.out HGC.out H02.out HB.out HS.out HK1.out HK2.out HK7.out hb9 hb10 hbM hM1 HR1.out HSP.out.a HN1.out hn Hhfr.out
end Go.Proofs.YtcoiklolgilhaaaDoor
namespace Go.Proofs.YtcoiklolgilhaaaDoor
open Go.RowKit
set_option maxRecDepth 100000
theorem Drawn_at (p : Option Addr) (k cap b : Nat) (w : World) (hb : w.heap.size = b) : Calls Tryd.prog 38 #[.slice p k cap] w fun e w' => e = .returned (.func (.func 73) #[] #[.pointer (some ⟨b + 1, 0, none⟩), .pointer (some ⟨b, 0, none⟩)]) ∧ w'.heap[b]? = some (.cells #[.slice p k cap] 50 (0, 0)) ∧ w'.heap[b + 1]? = some (.cells #[.int .i64 0] 3 (0, 0)) ∧ w'.heap.size = b + 1 + 1 ∧ Below w.heap.size w w' := by
  subst hb
  refine (Drawn_any p k cap w).mono ?_
  rintro e w' ⟨rfl, rfl⟩
  obtain ⟨t1, t2, tz, tb⟩ := two_allocs w (.cells #[.slice p k cap] 50) (.cells #[.int .i64 0] 3)
  exact ⟨rfl, t1, t2, tz, tb⟩
theorem Sp.nil : Sp [] [] := ⟨fun _ hi => absurd hi (Nat.not_lt_zero _), fun _ hi => absurd hi (Nat.not_lt_zero _), fun _ hi => absurd hi (Nat.not_lt_zero _), fun _ hi => absurd hi (Nat.not_lt_zero _)⟩
theorem Sp.snoc {l1 l2 : List (Int × Int)} (h : Sp l1 l2) (hl : l2.length = l1.length) {a y u z : Int} (h0 : 0 ≤ a) (h1 : a ≤ y) (h2 : y ≤ 3) (h3 : 0 ≤ u) (h4 : u ≤ a) (h5 : u ≤ z) (h6 : z ≤ y) : Sp (l1 ++ [(a, y)]) (l2 ++ [(u, z)]) := by
  have n1 := cv_snoc_new l1 (a, y)
  have n2 := cv_snoc_new l2 (u, z)
  rw [hl] at n2
  simp only at n1 n2
  have o1 := fun i (hi : i < l1.length) => cv_snoc_old l1 (a, y) hi
  have o2 := fun i (hi : i < l1.length) => cv_snoc_old l2 (u, z) (show i < l2.length by omega)
  refine ⟨fun i hi => ?_, fun i hi => ?_, fun i hi => ?_, fun i hi => ?_⟩
  · have hi' : i < l1.length + 1 := by simpa [cvOf] using hi
    by_cases e : i = l1.length
    · subst e; rw [n1.1, n1.2]; omega
    · rw [(o1 i (by omega)).1, (o1 i (by omega)).2]; exact h.a i (by show i < l1.length; omega)
  · have hi' : i < l2.length + 1 := by simpa [cvOf] using hi
    by_cases e : i = l1.length
    · subst e; rw [n2.1, n2.2]; omega
    · rw [(o2 i (by omega)).1, (o2 i (by omega)).2]; exact h.b i (by show i < l2.length; omega)
  · have hi' : i < l1.length + 1 := by simpa using hi
    by_cases e : i = l1.length
    · subst e; rw [n1.1, n2.1]; exact h4
    · rw [(o1 i (by omega)).1, (o2 i (by omega)).1]; exact h.x i (by omega)
  · have hi' : i < l1.length + 1 := by simpa using hi
    by_cases e : i = l1.length
    · subst e; rw [n1.2, n2.2]; exact h6
    · rw [(o1 i (by omega)).2, (o2 i (by omega)).2]; exact h.y i (by omega)
theorem srow_shape {W : World} {base : Nat} {v : Value} {l : List (Int × Int)} (h : SRow W base v l) : ∃ q c, v = .slice q l.length c := by
  rcases h.2 with ⟨rfl, e2⟩ | ⟨g, cap, cur, rfl, _⟩
  · exact ⟨none, 0, by rw [e2]⟩
  · exact ⟨_, _, rfl⟩
def Dis (v1 v2 : Value) : Prop := ∀ j, v1.ownBlock = some j → v2.ownBlock ≠ some j
theorem Dis.symm {v1 v2 : Value} (h : Dis v1 v2) : Dis v2 v1 := fun j h1 h2 => h j h2 h1
theorem Dis.new {v1 v1' v2 : Value} {n : Nat} (h : Dis v1 v2) (hb : v1'.ownBlock = v1.ownBlock ∨ v1'.ownBlock = some n) (h2 : ∀ j, v2.ownBlock = some j → j < n) : Dis v1' v2 := fun j hj hj2 => by
  rcases hb with e | e
  · exact h j (e ▸ hj) hj2
  · rw [e] at hj
    obtain rfl := Option.some.inj hj
    exact Nat.lt_irrefl _ (h2 _ hj2)
theorem Dis.kept {v1 v2 : Value} (h : Dis v1 v2) : v2.ownBlock = none ∨ v2.ownBlock ≠ v1.ownBlock := by
  cases e : v2.ownBlock with
  | none => exact .inl rfl
  | some j => exact .inr fun h' => h j h'.symm e
theorem own_not {v1 v1' : Value} {n b : Nat} (h : v1.ownBlock ≠ some b) (hb : v1'.ownBlock = v1.ownBlock ∨ v1'.ownBlock = some n) (hn : b < n) : v1'.ownBlock ≠ some b := by
  rcases hb with e | e
  · rw [e]; exact h
  · rw [e]; intro h'; have := Option.some.inj h'; omega
def wF7 (B : Nat) (a : Int) (fv : Value) : Nat → Value → Prop
  | 0, v => v = .pointer (some ⟨B, 0 + 0, none⟩)
  | 1, v => v = .int .i64 a
  | 2, v => v = fv
  | 3, v => ∃ r : Int, v = .int .i64 r ∧ 0 ≤ r ∧ r < 4
  | 4, v => ∃ r : Int, v = .int .i64 r ∧ a ≤ r ∧ r < a + 4
  | 5, v => ∃ r : Int, v = .int .i64 r ∧ a ≤ r ∧ r ≤ 3
  | 6, v => v = .pointer (some ⟨B, 0 + 1, none⟩)
  | _, _ => True
def wF9 (B : Nat) (a : Int) (fv : Value) : Nat → Value → Prop
  | 0, v => v = .pointer (some ⟨B, 0 + 0, none⟩)
  | 1, v => v = .int .i64 a
  | 2, v => v = fv
  | 3, v => ∃ r : Int, v = .int .i64 r ∧ 0 ≤ r ∧ r < 4
  | 4, v => ∃ r : Int, v = .int .i64 r ∧ a - 4 < r ∧ r ≤ a
  | 5, v => ∃ r : Int, v = .int .i64 r ∧ 0 ≤ r ∧ r ≤ a
  | 6, v => ∃ r : Int, v = .agg #[.int .i64 r, .int .i64 0] ∧ 0 ≤ r ∧ r ≤ a
  | _, _ => True
def wF10 (B B' : Nat) (y u : Int) (fv : Value) : Nat → Value → Prop
  | 0, v => v = .pointer (some ⟨B', 0 + 0, none⟩)
  | 1, v => v = .int .i64 u
  | 2, v => v = .pointer (some ⟨B, 0 + 1, none⟩)
  | 3, v => v = .int .i64 y
  | 4, v => v = fv
  | 5, v => ∃ r : Int, v = .int .i64 r ∧ 0 ≤ r ∧ r < 4
  | 6, v => ∃ r : Int, v = .int .i64 r ∧ y - 4 < r ∧ r ≤ y
  | 7, v => ∃ r : Int, v = .int .i64 r ∧ u ≤ r ∧ r ≤ y
  | 8, v => v = .pointer (some ⟨B', 0 + 1, none⟩)
  | _, _ => True
set_option maxHeartbeats 32000000 in
theorem Waits_law (p : Option Addr) (k cap : Nat) (hk : k ≤ 9223372036854775807) (p2 : Option Addr) (k2 cap2 : Nat) (hk2 : k2 ≤ 9223372036854775807) (p3 : Option Addr) (k3 cap3 : Nat) (hk3 : k3 ≤ 9223372036854775807) (p4 : Option Addr) (k4 cap4 : Nat) (hk4 : k4 ≤ 9223372036854775807) (w : World) (hl : Lim w) (hst : Str w) (hB : BytesIn w p k) (hB2 : BytesIn w p2 k2) (hB3 : BytesIn w p3 k3) (hB4 : BytesIn w p4 k4) :
    Calls Tryd.prog 9 #[.slice p k cap, .slice p2 k2 cap2, .slice p3 k3 cap3, .slice p4 k4 cap4] w fun e w' => e = .returned (.bool true) ∧ Below w.heap.size w w' := by
  have HLM := Lib.hid hl
  have HST := Lib.hid hst
  have hpos := hl.pos
  have hpos1 := hst.pos
  have HM := Lib.hid (Made_any p k cap hk w hB)
  have HFZ := Lib.hid (fun W (hW : Below w.heap.size w W) => Frozen_any p2 k2 cap2 hk2 W (hB2.later hW))
  have H3 := Lib.hid hB3
  have H4 := Lib.hid hB4
  clear hl hst hB hB2 hB3 hB4 hk hk2
  obtain ⟨i0, hi, hz0, hz1, hz2⟩ := info_parts info57
  go_enter Tryd.func9, Tryd.ntmps9
  go_wp2_with fail
  refine HM.out.mono ?_
  rintro e W1 ⟨s, m, rfl, hs, h7, hin, hbl⟩
  have HC := Lib.hid hs
  have HS := Lib.hid hin
  have HB := Lib.hid hbl
  clear hs h7 hin hbl HM
  go_wp2_with fail
  refine (HFZ.out _ HB.out).mono ?_
  rintro e W2 ⟨lo, hi', rfl, gc, hb⟩
  have HGC := Lib.hid gc
  replace HS := Lib.hid (HS.out.later hb)
  replace HB := Lib.hid (HB.out.trans (hb.mono HB.out.size))
  clear gc hb HFZ
  replace H3 := Lib.hid (H3.out.later HB.out)
  replace H4 := Lib.hid (H4.out.later HB.out)
  obtain ⟨t1, t2, tz, tb⟩ := two_allocs W2 (.cells #[.int .i64 0, .int .i64 0, .int .i64 0, .int .i64 0, .slice none 0 0, .slice none 0 0, .slice none 0 0, .int .i64 0, .int .i64 0, .int .i64 0, .int .i64 0] 24) (.cells #[.int .i64 0, .int .i64 0, .int .i64 0, .int .i64 0, .int .i64 0, .int .i64 0, .int .i64 0, .int .i64 0] 59)
  have HZ1 := Lib.hid t1
  have HZ2 := Lib.hid t2
  have HBZ := Lib.hid tb
  have HTZ := Lib.hid tz
  clear t1 t2 tb tz
  go_wp2_with (first | (refine list_store24 rfl rfl rfl rfl rfl HZ1.out ?_; intro V1 hz1 hc1; have HZ2' := Lib.hid ((hc1.2.1 _ (by omega)).trans HZ2.out); have HB4 := Lib.hid (HBZ.out.trans (hc1.below (Nat.le_refl _))); have HY1 := Lib.hid hz1; have HT1 := Lib.hid (hc1.1.trans HTZ.out); clear hc1 hz1) | (refine list_store8 rfl rfl rfl (.inl rfl) rfl rfl HZ2'.out ?_; intro V2 hz2 hc2; have HK1 := Lib.hid ((hc2.2.1 _ (by omega)).trans HY1.out); have HK2 := Lib.hid hz2; have HL := Lib.hid (HB4.out.trans (hc2.below (by omega))); have HT2 := Lib.hid (hc2.1.trans HT1.out); clear hc2 hz2 HB4 HY1 HZ1 HZ2 HZ2' HBZ HT1 HTZ))
  refine (Drawn_at p3 k3 cap3 (W2.heap.size + 1 + 1) V2 HT2.out).mono ?_
  rintro e V3 ⟨rfl, hA, hA', hAs, hb⟩
  have HA := Lib.hid hA
  have HA' := Lib.hid hA'
  replace HK1 := Lib.hid ((hb.block _ (lt_of_block HK1.out)).trans HK1.out)
  replace HK2 := Lib.hid ((hb.block _ (lt_of_block HK2.out)).trans HK2.out)
  replace HL := Lib.hid (HL.out.trans (hb.mono HL.out.size))
  have HT3 := Lib.hid hAs
  clear hA hA' hAs hb HT2
  go_wp2_with fail
  refine (Drawn_at p4 k4 cap4 (W2.heap.size + 1 + 1 + 1 + 1) V3 HT3.out).mono ?_
  rintro e V4 ⟨rfl, hA, hA', hAs, hb⟩
  have HWM := Lib.hid (show Wm W2 p3 k3 cap3 p4 k4 cap4 s m lo hi' V4 from ⟨⟨HL.out.trans (hb.mono HL.out.size), ⟨0, Nat.zero_le _, (hb.block _ (lt_of_block HA'.out)).trans HA'.out⟩, (hb.block _ (lt_of_block HA.out)).trans HA.out⟩, ⟨HL.out.trans (hb.mono HL.out.size), ⟨0, Nat.zero_le _, hA'⟩, hA⟩, (hb.block _ (lt_of_block HK1.out)).trans HK1.out, (hb.block _ (lt_of_block HK2.out)).trans HK2.out⟩)
  clear hA hA' hAs hb HA HA' HK1 HK2 HL HT3
  have HNA := Lib.hid (fun (n : Int) (hn : 1 ≤ n) (hn' : n ≤ 1000000) (W : World) (hW : NxIn W2 p3 k3 cap3 (W2.heap.size + 1 + 1 + 1) (W2.heap.size + 1 + 1) W) => next_any W2 p3 k3 cap3 hk3 H3.out (W2.heap.size + 1 + 1 + 1) (W2.heap.size + 1 + 1) (by omega) n hn hn' W hW)
  have HNB := Lib.hid (fun (n : Int) (hn : 1 ≤ n) (hn' : n ≤ 1000000) (W : World) (hW : NxIn W2 p4 k4 cap4 (W2.heap.size + 1 + 1 + 1 + 1 + 1) (W2.heap.size + 1 + 1 + 1 + 1) W) => next_any W2 p4 k4 cap4 hk4 H4.out (W2.heap.size + 1 + 1 + 1 + 1 + 1) (W2.heap.size + 1 + 1 + 1 + 1) (by omega) n hn hn' W hW)
  clear H3 H4 hk3 hk4
  go_wp2_with fail
  refine (HNA.out 21 (by decide) (by decide) _ HWM.out.nx1).mono ?_
  rintro e V5 ⟨r, rfl, r0, r1, hN, hC⟩
  replace HWM := Lib.hid (HWM.out.ch1 hN hC)
  clear hN hC
  go_wp2_with fail
  rename_i K hK
  have HKT := Lib.hid hK
  clear hK
  go_loopw [13, 14, 36] (fun v1 v2 i wr => ∃ (j : Nat) (l1 l2 : List (Int × Int)), i = .int .i64 j ∧ (j : Int) ≤ r ∧ Hid (l1.length = j) ∧ Hid (l2.length = j) ∧ Hid (Sp l1 l2) ∧ Hid (WR W2 p3 k3 cap3 p4 k4 cap4 s m lo hi' (W2.heap.size + 1 + 1 + 1 + 1 + 1 + 1) v1 v2 l1 l2 wr) ∧ Hid (Dis v1 v2)) (fun _ _ i _ => (r - intOf i).toNat)
  case atStart => exact ⟨0, [], [], rfl, r0, Lib.hid rfl, Lib.hid rfl, Lib.hid Sp.nil, Lib.hid ⟨HWM.out, ⟨rfl, .inl ⟨rfl, rfl⟩⟩, ⟨rfl, .inl ⟨rfl, rfl⟩⟩⟩, Lib.hid (fun j h => by simp [Value.ownBlock] at h)⟩
  case round =>
    obtain ⟨j, l1, l2, rfl, hj, hn1, hn2, hsp, hwr, hdis⟩ := hrel
    have HN1 := Lib.hid hn1.out
    have HN2 := Lib.hid hn2.out
    have HSP := Lib.hid hsp.out
    have HWR := Lib.hid hwr.out
    have HDI := Lib.hid hdis.out
    clear hn1 hn2 hsp hwr hdis HWM
    by_cases hlt : (j : Int) < r
    · skip
      go_wp2_with fail
      refine (HNA.out 4 (by decide) (by decide) _ HWR.out.wm.nx1).mono ?_
      rintro e X1 ⟨a, rfl, a0, a1, hN, hC⟩
      replace HWR := Lib.hid (HWR.out.ch1 hN hC (Nat.le_refl _))
      clear hN hC
      have hlt1 := HWR.out.wm.lt
      have hba := (Below.refl X1.heap.size X1).alloc (Nat.le_refl _) Z57
      have HZ := Lib.hid (block_new X1 Z57)
      have HO1 := Lib.hid (sown_ne HWR.out.r1 (b := X1.heap.size) (.inr (Nat.le_refl _))).symm
      have HO2 := Lib.hid (sown_ne HWR.out.r2 (b := X1.heap.size) (.inr (Nat.le_refl _))).symm
      go_wp2_with (refine list_store2 rfl rfl rfl (.inr (.inr rfl)) rfl rfl HZ.out ?_; intro X2 hz hc; have HK15 := Lib.hid hz; replace HWR := Lib.hid ((HWR.out.later hba).sto hc (by omega) HO1.out HO2.out); clear hz hc hba HZ)
      refine wp_region_fi [41, 42, 43, 44, 45, 46, 47, 1000] (wF7 X1.heap.size a (.func (.func 73) #[] #[.pointer (some ⟨W2.heap.size + 1 + 1 + 1, 0, none⟩), .pointer (some ⟨W2.heap.size + 1 + 1, 0, none⟩)])) (fun L _ W' => W7 W2 p3 k3 cap3 p4 k4 cap4 s m lo hi' (W2.heap.size + 1 + 1 + 1 + 1 + 1 + 1) u13 u14 l1 l2 X1.heap.size a L W') (by kernel_rfl) (by kernel_rfl) ?sz ?ts ?z ?val ?fin
      case sz => intro s hs h; simp at hs ⊢; omega
      case ts => simp
      case z => exact W7.later ⟨HWR.out, 0, HK15.out, (fun e => by cases e)⟩ (below_drawn X2)
      case val =>
        intro jj
        match jj with
        | 0 => intro o L V ho hL hd a' W hX hfr hdp; obtain rfl := Option.some.inj ho; exact opx_of (op_fa57o rfl (hfr 15 (by decide)) (by decide)) fun W' hb => ⟨rfl, (hX.later hb).set 0 (by decide)⟩
        | 1 =>
          intro o L V ho hL hd a' W hX hfr hdp; obtain rfl := Option.some.inj ho
          obtain ⟨y, hb, _⟩ := hX.b
          exact opx_of (op_load3o rfl (Dp (hdp 0 41 (by decide) rfl (by kernel_rfl)) id) ((cell_of_block hb 0).trans rfl)) fun W' hb => ⟨rfl, (hX.later hb).set 1 (by decide)⟩
        | 2 => intro o L V ho hL hd a' W hX hfr hdp; obtain rfl := Option.some.inj ho; exact opx_of (op_move rfl (hfr 11 (by decide))) fun W' hb => ⟨rfl, (hX.later hb).set 2 (by decide)⟩
        | 3 =>
          intro o L V ho hL hd a' W hX hfr hdp; obtain rfl := Option.some.inj ho
          obtain ⟨y, hy, hy'⟩ := hX.b
          refine opx_callk rfl (Dp (hdp 2 43 (by decide) rfl (by kernel_rfl)) id) eg73 ((HNA.out 4 (by decide) (by decide) _ hX.wr.wm.nx1).mono ?_)
          rintro e W' ⟨r, rfl, h0, h1, hN, hC⟩
          exact ⟨_, rfl, ⟨r, rfl, h0, h1⟩, W7.set ⟨hX.wr.ch1 hN hC (Nat.le_refl _), y, (hC.2.1 _ (by omega)).trans hy, hy'⟩ 3 (by decide)⟩
        | 4 =>
          intro o L V ho hL hd a' W hX hfr hdp; obtain rfl := Option.some.inj ho
          obtain ⟨e, r, e', h0, h1⟩ := hdp 3 44 (by decide) rfl (by kernel_rfl)
          exact opx_of (op_addt rfl (Dp (hdp 1 42 (by decide) rfl (by kernel_rfl)) id) (e.trans e') (by omega)) fun W' hb => ⟨⟨_, rfl, by omega, by omega⟩, (hX.later hb).set 4 (by decide)⟩
        | 5 =>
          intro o L V ho hL hd a' W hX hfr hdp; obtain rfl := Option.some.inj ho
          obtain ⟨e, r, e', h0, h1⟩ := hdp 4 45 (by decide) rfl (by kernel_rfl)
          exact opx_of (op_minc rfl (e.trans e')) fun W' hb => ⟨⟨_, rfl, by unfold mn; omega, by unfold mn; omega⟩, (hX.later hb).set 5 (by decide)⟩
        | 6 => intro o L V ho hL hd a' W hX hfr hdp; obtain rfl := Option.some.inj ho; exact opx_of (op_fa57o rfl (hfr 15 (by decide)) (by decide)) fun W' hb => ⟨rfl, (hX.later hb).set 6 (by decide)⟩
        | 7 =>
          intro o L V ho hL hd a' W hX hfr hdp; obtain rfl := Option.some.inj ho
          obtain ⟨e, r, e', h0, h1⟩ := hdp 5 46 (by decide) rfl (by kernel_rfl)
          obtain ⟨y, hb, _⟩ := hX.b
          exact opx_store3 rfl rfl (Dp (hdp 6 47 (by decide) rfl (by kernel_rfl)) id) (e.trans e') hb (by simp) fun W' hb' hc => ⟨trivial, hX.wr.sto hc (by omega) HO1.out HO2.out, r, by simpa using hb', fun _ => ⟨h0, h1⟩⟩
        | j + 8 => intro o L V ho; simp at ho
      case fin =>
        intro X3 L V hL hF hI
        obtain ⟨y, hy, hy'⟩ := hI.b
        obtain ⟨y0, y1⟩ := hy' (hL 7 (by decide))
        replace HWR := Lib.hid hI.wr
        replace HK15 := Lib.hid hy
        clear hI hF hL hy hy'
        simp only [fill, Act.put, List.setIfInBounds_toArray, List.set_cons_zero, List.set_cons_succ, List.set_nil, Nat.reduceAdd]
        generalize V 0 = z0, V 1 = z1, V 2 = z2, V 3 = z3, V 4 = z4, V 5 = z5, V 6 = z6, V 7 = z7
        clear V
        obtain ⟨⟨c0, c1⟩, _⟩ := cells2 HK15.out
        have hmx : l1.length + 1 ≤ maxLen := by rw [HN1.out]; simp only [maxLen]; omega
        have hby : (l1.length + 1) * 16 ≤ 140737488355328 := by rw [HN1.out]; omega
        have hbT := (Below.refl X3.heap.size X3).alloc (Nat.le_refl _) (.cells #[.int .i64 a, .int .i64 y] 57)
        have hnb := block_new X3 (.cells #[.int .i64 a, .int .i64 y] 57)
        replace HWR := Lib.hid (HWR.out.later hbT)
        replace HK15 := Lib.hid ((hbT.block _ (lt_of_block HK15.out)).trans HK15.out)
        clear hbT
        go_wp2_with (at_builtin; refine Hid.out ?_)
        refine Lib.hid ?_
        clear c0 c1
        generalize X3.alloc (.cells #[.int .i64 a, .int .i64 y] 57) = Y1 at *
        have hlY := HWR.out.wm.lt
        have h15 := lt_of_block HK15.out
        refine wpList_append_own_at _ rfl (.tmp 48) (.tmp 50) 91 rfl (W2.heap.size + 1 + 1 + 1 + 1 + 1 + 1) 57 i0 (.agg #[.int .i64 0, .int .i64 0]) 2 16 und91 hi hz0 hz1 hz2 rfl (by decide) u13 l1.length (flatP l1) rfl HWR.out.r1 ⟨X3.heap.size, 0, none⟩ 1 1 [.int .i64 a, .int .i64 y] rfl rfl (World.news_of_block hnb) (by simp [Value.oneCell']) hmx hby (by omega) ?_
        intro n13 Z1 hown hgrow _ hblk
        have HOW := Lib.hid (show SRow Z1 (W2.heap.size + 1 + 1 + 1 + 1 + 1 + 1) n13 (l1 ++ [(a, y)]) from by simpa [SRow, flatP_snoc] using hown)
        have zb := (Below.refl (W2.heap.size + 1 + 1 + 1 + 1 + 1 + 1) Y1).grown hgrow (by omega) (sown_base HWR.out.r1)
        have HWR2 := Lib.hid (show WR W2 p3 k3 cap3 p4 k4 cap4 s m lo hi' (W2.heap.size + 1 + 1 + 1 + 1 + 1 + 1) n13 u14 (l1 ++ [(a, y)]) l2 Z1 from ⟨HWR.out.wm.up zb (Nat.le_refl _), HOW.out, HWR.out.r2.kept hgrow HDI.out.kept⟩)
        have HDI2 := Lib.hid (HDI.out.new hblk (sown_lt HWR.out.r2))
        have HP1 := Lib.hid (own_not HO1.out hblk h15)
        replace HK15 := Lib.hid ((hgrow.block _ h15 (Ne.symm HO1.out)).trans HK15.out)
        have hzs := zb.size
        clear hown hgrow hblk zb HOW HWR HDI HO1 hnb hmx hby
        go_wp2_with fail
        replace h15 := lt_of_block HK15.out
        have hl1 := sown_lt HWR2.out.r1
        have hl2 := sown_lt HWR2.out.r2
        have hlZ := HWR2.out.wm.lt
        refine wp_region_fi [52, 53, 54, 55, 56, 57, 58, 16, 1000] (wF9 X1.heap.size a (.func (.func 73) #[] #[.pointer (some ⟨W2.heap.size + 1 + 1 + 1 + 1 + 1, 0, none⟩), .pointer (some ⟨W2.heap.size + 1 + 1 + 1 + 1, 0, none⟩)])) (W9 W2 p3 k3 cap3 p4 k4 cap4 s m lo hi' (W2.heap.size + 1 + 1 + 1 + 1 + 1 + 1) n13 u14 (l1 ++ [(a, y)]) l2 X1.heap.size Z1.heap.size a y) (by kernel_rfl) (by kernel_rfl) ?sz ?ts ?z ?val ?fin
        case sz => intro s hs h; simp at hs ⊢; omega
        case ts => simp
        case z => exact W9.later ⟨HWR2.out, HK15.out, Nat.le_refl _, (fun e => by cases e), (fun e => by cases e)⟩ (below_drawn Z1)
        case val =>
          intro jj
          match jj with
          | 0 => intro o L V ho hL hd a' W hX hfr hdp; obtain rfl := Option.some.inj ho; exact opx_of (op_fa57o rfl (hfr 15 (by decide)) (by decide)) fun W' hb => ⟨rfl, (hX.later hb).set 0 (by decide) (by decide) _⟩
          | 1 => intro o L V ho hL hd a' W hX hfr hdp; obtain rfl := Option.some.inj ho; exact opx_of (op_load3o rfl (Dp (hdp 0 52 (by decide) rfl (by kernel_rfl)) id) ((cell_of_block hX.c 0).trans rfl)) fun W' hb => ⟨rfl, (hX.later hb).set 1 (by decide) (by decide) _⟩
          | 2 => intro o L V ho hL hd a' W hX hfr hdp; obtain rfl := Option.some.inj ho; exact opx_of (op_move rfl (hfr 12 (by decide))) fun W' hb => ⟨rfl, (hX.later hb).set 2 (by decide) (by decide) _⟩
          | 3 =>
            intro o L V ho hL hd a' W hX hfr hdp; obtain rfl := Option.some.inj ho
            refine opx_callk rfl (Dp (hdp 2 54 (by decide) rfl (by kernel_rfl)) id) eg73 ((HNB.out 4 (by decide) (by decide) _ hX.wr.wm.nx2).mono ?_)
            rintro e W' ⟨r, rfl, h0, h1, hN, hC⟩
            exact ⟨_, rfl, ⟨r, rfl, h0, h1⟩, W9.set ⟨hX.wr.ch2 hN hC (Nat.le_refl _), (hC.2.1 _ (by omega)).trans hX.c, Nat.le_trans hX.m9 (Nat.le_of_eq hC.1.symm), hX.d, fun e => (by obtain ⟨B', u, z, e1, e2, e3, e4⟩ := hX.b e; exact ⟨B', u, z, e1, e2, (hC.2.1 _ (by omega)).trans e3, e4⟩)⟩ 3 (by decide) (by decide) _⟩
          | 4 =>
            intro o L V ho hL hd a' W hX hfr hdp; obtain rfl := Option.some.inj ho
            obtain ⟨e, r, e', h0, h1⟩ := hdp 3 55 (by decide) rfl (by kernel_rfl)
            exact opx_of (op_subt rfl (Dp (hdp 1 53 (by decide) rfl (by kernel_rfl)) id) (e.trans e') (by omega)) fun W' hb => ⟨⟨_, rfl, by omega, by omega⟩, (hX.later hb).set 4 (by decide) (by decide) _⟩
          | 5 =>
            intro o L V ho hL hd a' W hX hfr hdp; obtain rfl := Option.some.inj ho
            obtain ⟨e, r, e', h0, h1⟩ := hdp 4 56 (by decide) rfl (by kernel_rfl)
            exact opx_of (op_maxc rfl (e.trans e')) fun W' hb => ⟨⟨_, rfl, by unfold mx; omega, by unfold mx; omega⟩, (hX.later hb).set 5 (by decide) (by decide) _⟩
          | 6 =>
            intro o L V ho hL hd a' W hX hfr hdp; obtain rfl := Option.some.inj ho
            obtain ⟨e, r, e', h0, h1⟩ := hdp 5 57 (by decide) rfl (by kernel_rfl)
            exact opx_of (op_b57 rfl (e.trans e')) fun W' hb => ⟨⟨_, rfl, h0, h1⟩, (hX.later hb).set 6 (by decide) (by decide) _⟩
          | 7 =>
            intro o L V ho hL hd a' W hX hfr hdp; obtain rfl := Option.some.inj ho
            have h8 : L 8 = false := by cases h8 : L 8 <;> first | rfl | (rw [hX.d h8] at hL; cases hL)
            have hl := hX.later ((Below.refl _ W).alloc (Nat.le_refl _) Z57)
            exact opx_alloc57 rfl ⟨trivial, hl.wr, hl.c, hl.m9, (fun _ => by simp), fun _ => ⟨W.heap.size, 0, 0, by simp, hX.m9, block_new W Z57, (fun e => by simp [h8] at e)⟩⟩
          | 8 =>
            intro o L V ho hL hd a' W hX hfr hdp; obtain rfl := Option.some.inj ho
            obtain ⟨e, r, e', h0, h1⟩ := hdp 6 58 (by decide) rfl (by kernel_rfl)
            have h7 := hd 7 (by kernel_rfl)
            obtain ⟨B', u, z, e2, hM9, hb, _⟩ := hX.b h7
            exact opx_store57 rfl rfl ((hdp 7 16 (by decide) rfl (by kernel_rfl)).1.trans e2) (e.trans e') hb fun W' hb' hc => ⟨trivial, hX.wr.sto hc (by omega) (fun h => by have := hl1 _ h; omega) (fun h => by have := hl2 _ h; omega), (hc.2.1 _ (by omega)).trans hX.c, Nat.le_trans hX.m9 (Nat.le_of_eq hc.1.symm), (fun _ => by simp [h7]), fun _ => ⟨B', r, 0, by simp [e2], hM9, hb', fun _ => ⟨h0, h1, rfl⟩⟩⟩
          | j + 9 => intro o L V ho; simp at ho
        case fin =>
          intro X4 L V hL hF hI
          obtain ⟨B16, u, z, e7, hM9, hb, hx⟩ := hI.b (hL 7 (by decide))
          obtain ⟨u0, u1, rfl⟩ := hx (hL 8 (by decide))
          replace HWR2 := Lib.hid hI.wr
          replace HK15 := Lib.hid hI.c
          have HK16 := Lib.hid hb
          clear hI hF hL hb hx
          simp only [fill, Act.put, List.setIfInBounds_toArray, List.set_cons_zero, List.set_cons_succ, List.set_nil, Nat.reduceAdd, e7]
          generalize V 0 = z0, V 1 = z1, V 2 = z2, V 3 = z3, V 4 = z4, V 5 = z5, V 6 = z6, V 8 = z8
          clear e7 V
          have h16 := lt_of_block HK16.out
          have HQ1 := Lib.hid (show n13.ownBlock ≠ some B16 from fun h => by have := hl1 _ h; omega)
          have HQ2 := Lib.hid (show u14.ownBlock ≠ some B16 from fun h => by have := hl2 _ h; omega)
          clear hl1 hl2
          go_wp2_with fail
          refine wp_region_fi [59, 60, 61, 62, 63, 64, 65, 66, 67, 1000] (wF10 X1.heap.size B16 y u (.func (.func 73) #[] #[.pointer (some ⟨W2.heap.size + 1 + 1 + 1 + 1 + 1, 0, none⟩), .pointer (some ⟨W2.heap.size + 1 + 1 + 1 + 1, 0, none⟩)])) (fun L _ W' => W10 W2 p3 k3 cap3 p4 k4 cap4 s m lo hi' (W2.heap.size + 1 + 1 + 1 + 1 + 1 + 1) n13 u14 (l1 ++ [(a, y)]) l2 X1.heap.size B16 a y u L W') (by kernel_rfl) (by kernel_rfl) ?sz ?ts ?z ?val ?fin
          case sz => intro s hs h; simp at hs ⊢; omega
          case ts => simp
          case z => exact W10.later ⟨HWR2.out, HK15.out, 0, HK16.out, (fun e => by cases e)⟩ (below_drawn X4)
          case val =>
            intro jj
            match jj with
            | 0 => intro o L V ho hL hd a' W hX hfr hdp; obtain rfl := Option.some.inj ho; exact opx_of (op_fa57o rfl (hfr 16 (by decide)) (by decide)) fun W' hb => ⟨rfl, (hX.later hb).set 0 (by decide)⟩
            | 1 =>
              intro o L V ho hL hd a' W hX hfr hdp; obtain rfl := Option.some.inj ho
              obtain ⟨z, hz, _⟩ := hX.b
              exact opx_of (op_load3o rfl (Dp (hdp 0 59 (by decide) rfl (by kernel_rfl)) id) ((cell_of_block hz 0).trans rfl)) fun W' hb => ⟨rfl, (hX.later hb).set 1 (by decide)⟩
            | 2 => intro o L V ho hL hd a' W hX hfr hdp; obtain rfl := Option.some.inj ho; exact opx_of (op_fa57o rfl (hfr 15 (by decide)) (by decide)) fun W' hb => ⟨rfl, (hX.later hb).set 2 (by decide)⟩
            | 3 => intro o L V ho hL hd a' W hX hfr hdp; obtain rfl := Option.some.inj ho; exact opx_of (op_load3o rfl (Dp (hdp 2 61 (by decide) rfl (by kernel_rfl)) id) ((cell_of_block hX.c 1).trans rfl)) fun W' hb => ⟨rfl, (hX.later hb).set 3 (by decide)⟩
            | 4 => intro o L V ho hL hd a' W hX hfr hdp; obtain rfl := Option.some.inj ho; exact opx_of (op_move rfl (hfr 12 (by decide))) fun W' hb => ⟨rfl, (hX.later hb).set 4 (by decide)⟩
            | 5 =>
              intro o L V ho hL hd a' W hX hfr hdp; obtain rfl := Option.some.inj ho
              obtain ⟨z, hz, hz'⟩ := hX.b
              refine opx_callk rfl (Dp (hdp 4 63 (by decide) rfl (by kernel_rfl)) id) eg73 ((HNB.out 4 (by decide) (by decide) _ hX.wr.wm.nx2).mono ?_)
              rintro e W' ⟨r, rfl, h0, h1, hN, hC⟩
              exact ⟨_, rfl, ⟨r, rfl, h0, h1⟩, W10.set ⟨hX.wr.ch2 hN hC (Nat.le_refl _), (hC.2.1 _ (by omega)).trans hX.c, z, (hC.2.1 _ (by omega)).trans hz, hz'⟩ 5 (by decide)⟩
            | 6 =>
              intro o L V ho hL hd a' W hX hfr hdp; obtain rfl := Option.some.inj ho
              obtain ⟨e, r, e', h0, h1⟩ := hdp 5 64 (by decide) rfl (by kernel_rfl)
              exact opx_of (op_subt rfl (Dp (hdp 3 62 (by decide) rfl (by kernel_rfl)) id) (e.trans e') (by omega)) fun W' hb => ⟨⟨_, rfl, by omega, by omega⟩, (hX.later hb).set 6 (by decide)⟩
            | 7 =>
              intro o L V ho hL hd a' W hX hfr hdp; obtain rfl := Option.some.inj ho
              obtain ⟨e, r, e', h0, h1⟩ := hdp 6 65 (by decide) rfl (by kernel_rfl)
              exact opx_of (op_maxt rfl (Dp (hdp 1 60 (by decide) rfl (by kernel_rfl)) id) (e.trans e')) fun W' hb => ⟨⟨_, rfl, by unfold mx; omega, by unfold mx; omega⟩, (hX.later hb).set 7 (by decide)⟩
            | 8 => intro o L V ho hL hd a' W hX hfr hdp; obtain rfl := Option.some.inj ho; exact opx_of (op_fa57o rfl (hfr 16 (by decide)) (by decide)) fun W' hb => ⟨rfl, (hX.later hb).set 8 (by decide)⟩
            | 9 =>
              intro o L V ho hL hd a' W hX hfr hdp; obtain rfl := Option.some.inj ho
              obtain ⟨e, r, e', h0, h1⟩ := hdp 7 66 (by decide) rfl (by kernel_rfl)
              obtain ⟨z, hz, _⟩ := hX.b
              exact opx_store3 rfl rfl (Dp (hdp 8 67 (by decide) rfl (by kernel_rfl)) id) (e.trans e') hz (by simp) fun W' hb' hc => ⟨trivial, hX.wr.sto hc (by omega) HQ1.out HQ2.out, (hc.2.1 _ (by omega)).trans hX.c, r, by simpa using hb', fun _ => ⟨h0, h1⟩⟩
            | j + 10 => intro o L V ho; simp at ho
          case fin =>
            intro X5 L V hL hF hI
            obtain ⟨z, hz, hz'⟩ := hI.b
            obtain ⟨w0', w1'⟩ := hz' (hL 9 (by decide))
            replace HWR2 := Lib.hid hI.wr
            replace HK16 := Lib.hid hz
            clear hI hF hL hz hz' HK15
            simp only [fill, Act.put, List.setIfInBounds_toArray, List.set_cons_zero, List.set_cons_succ, List.set_nil, Nat.reduceAdd]
            generalize V 0 = z0, V 1 = z1, V 2 = z2, V 3 = z3, V 4 = z4, V 5 = z5, V 6 = z6, V 7 = z7, V 8 = z8, V 9 = z9
            clear V
            obtain ⟨⟨c0, c1⟩, _⟩ := cells2 HK16.out
            have hmx : l2.length + 1 ≤ maxLen := by rw [HN2.out]; simp only [maxLen]; omega
            have hby : (l2.length + 1) * 16 ≤ 140737488355328 := by rw [HN2.out]; omega
            have hbT := (Below.refl X5.heap.size X5).alloc (Nat.le_refl _) (.cells #[.int .i64 u, .int .i64 z] 57)
            have hnb := block_new X5 (.cells #[.int .i64 u, .int .i64 z] 57)
            replace HWR2 := Lib.hid (HWR2.out.later hbT)
            clear hbT
            go_wp2_with (at_builtin; refine Hid.out ?_)
            refine Lib.hid ?_
            clear c0 c1
            generalize X5.alloc (.cells #[.int .i64 u, .int .i64 z] 57) = Y2 at *
            have hlY2 := HWR2.out.wm.lt
            refine wpList_append_own_at _ rfl (.tmp 68) (.tmp 70) 91 rfl (W2.heap.size + 1 + 1 + 1 + 1 + 1 + 1) 57 i0 (.agg #[.int .i64 0, .int .i64 0]) 2 16 und91 hi hz0 hz1 hz2 rfl (by decide) u14 l2.length (flatP l2) rfl HWR2.out.r2 ⟨X5.heap.size, 0, none⟩ 1 1 [.int .i64 u, .int .i64 z] rfl rfl (World.news_of_block hnb) (by simp [Value.oneCell']) hmx hby (by omega) ?_
            intro n14 Z2 hown hgrow _ hblk
            have HOW := Lib.hid (show SRow Z2 (W2.heap.size + 1 + 1 + 1 + 1 + 1 + 1) n14 (l2 ++ [(u, z)]) from by simpa [SRow, flatP_snoc] using hown)
            have zb := (Below.refl (W2.heap.size + 1 + 1 + 1 + 1 + 1 + 1) Y2).grown hgrow (by omega) (sown_base HWR2.out.r2)
            have HWR3 := Lib.hid (show WR W2 p3 k3 cap3 p4 k4 cap4 s m lo hi' (W2.heap.size + 1 + 1 + 1 + 1 + 1 + 1) n13 n14 (l1 ++ [(a, y)]) (l2 ++ [(u, z)]) Z2 from ⟨HWR2.out.wm.up zb (Nat.le_refl _), HWR2.out.r1.kept hgrow HDI2.out.symm.kept, HOW.out⟩)
            have HDI3 := Lib.hid ((HDI2.out.symm.new hblk (sown_lt HWR2.out.r1)).symm)
            clear hown hgrow hblk zb HOW HWR2 HDI2 hnb hmx hby
            go_wp2_with fail
            go_roundw
            case rel => exact ⟨j + 1, l1 ++ [(a, y)], l2 ++ [(u, z)], by go_num, by omega, Lib.hid (by rw [List.length_append, HN1.out]; rfl), Lib.hid (by rw [List.length_append, HN2.out]; rfl), Lib.hid (HSP.out.snoc (by rw [HN1.out, HN2.out]) a0 y0 y1 u0 u1 w0' w1'), HWR3, HDI3⟩
            case measure => simp [intOf]; omega
    · have hjr : (j : Int) = r := by omega
      obtain ⟨q1, c1, e1⟩ := srow_shape HWR.out.r1
      obtain ⟨q2, c2, e2⟩ := srow_shape HWR.out.r2
      subst e1 e2
      have n1 := HN1.out
      have n2 := HN2.out
      rw [n1] at HWR
      rw [n2] at HWR
      rw [n1, n2]
      have hj20 : j ≤ 20 := by omega
      have hltw := HWR.out.wm.lt
      go_wp2_with fail
      refine HKT.out _ _ ?_
      show Code.wp Tryd.prog waits13 _ _ _
      apply Waits_tail s m lo hi' _ _ (W2.heap.size + 1 + 1 + 1 + 1 + 1 + 1) j c1 c2 q1 q2 l1 l2 w W2 wr (HLM.out.below hpos HB.out) (HST.out.below hpos1 HB.out) HC.out HGC.out HB.out HWR.out.wm.nx1.low HS.out HWR.out.wm.k1 HWR.out.wm.k2 (by omega) (by omega) (by omega) (by omega) HWR.out.r1 HWR.out.r2 HSP.out n1 n2 hj20
end Go.Proofs.YtcoiklolgilhaaaDoor
