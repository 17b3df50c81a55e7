/- The law HullWaits, its second loop: hour by hour. -/
import Derived.Test.YtcoiklolgilhaaaDoorSa
import Derived.Test.YtcoiklolgilhaaaDoorSb
import Derived.Test.YtcoiklolgilhaaaDoorRd
namespace Go.Proofs.YtcoiklolgilhaaaDoor
open Go.RowKit
set_option maxRecDepth 100000
def startsReg (id : Nat) : Code → Bool
  | .region i _ _ => i == id
  | .seq a _ => startsReg id a
  | _ => false
/-- The greatest code that begins with a region and what follows it. -/
def findLeft (id : Nat) : Code → Option Code
  | .seq a b => if startsReg id a = true then some (.seq a b) else match findLeft id a with
    | some c => some c
    | none => findLeft id b
  | .block _ c => findLeft id c
  | .loop c => findLeft id c
  | .scope c => findLeft id c
  | .cond _ a b => match findLeft id a with
    | some c => some c
    | none => findLeft id b
  | _ => none
noncomputable def waits17 : Code := ((Tryd.f9.body.bind (findLeft 17)).getD .skip)
structure Sp (l1 l2 : List (Int × Int)) : Prop where
  a : OkQ (cvOf l1)
  b : OkQ (cvOf l2)
  x : ∀ i, i < l1.length → (cvOf l2).x i ≤ (cvOf l1).x i
  y : ∀ i, i < l1.length → (cvOf l2).y i ≤ (cvOf l1).y i
set_option maxHeartbeats 32000000 in
theorem Waits_17 (s : Sh) (m : Mem3) (lo hi : Ic) (B9 B10 B17 M n c1 : Nat) (q1 : Option Addr) (l1 : List (Int × Int)) (A B E : Int) (w0 w2 w : World) (hl : Lim w2) (hst : Str w2) (hc0 : chkP s = 0) (gc : GoodC lo hi)
    (h02 : Below w0.heap.size w0 w2) (hB : Below w2.heap.size w2 w) (hS : ShipIn w2 s m) (hK1 : w.heap[B9]? = some (.cells (shipA s m) 24 (0, 0))) (hK2 : w.heap[B10]? = some (.cells (cellV lo hi) 59 (0, 0))) (hK7 : w.heap[B17]? = some (.cells #[.int .i64 A, .int .i64 B] 57 (0, 0)))
    (hb9 : B9 ≠ B10) (hb10 : w2.heap.size ≤ B10) (hbM : B10 < M) (hb17 : M ≤ B17) (hR1 : SRow w M (.slice q1 n c1) l1) (hq : OkQ (cvOf l1)) (hn1 : l1.length = n) (hn : n ≤ 20) (hF : Fr s lo hi (cvOf l1) A B E)
    (x0 x1 x2 x3 x4 x5 x6 x7 x8 x11 x12 x14 x15 x16 x19 x20 x21 x22 x23 x24 x25 x26 x27 x28 x29 x30 x31 x32 x33 x34 x35 x36 x37 x38 x39 x40 x41 x42 x43 x44 x45 x46 x47 x48 x49 x50 x51 x52 x53 x54 x55 x56 x57 x58 x59 x60 x61 x62 x63 x64 x65 x66 x67 x68 x69 x70 x71 x72 x73 x74 x75 x76 x77 x78 x79 x80 x81 x82 x83 x84 x85 x86 x87 x88 x89 x90 x91 x92 x93 x94 x95 x96 x97 x98 x99 x100 x101 x102 x103 x104 x105 x106 x107 x108 x109 x110 x111 x112 x113 x114 x115 x116 x117 x118 x119 x120 x121 x122 x123 x124 x125 x126 x127 x128 x129 x130 x131 x132 x133 x134 x135 x136 x137 x138 x139 x140 x141 x142 x143 x144 x145 x146 x147 x148 x149 x150 x151 x152 x153 x154 x155 x156 x157 x158 x159 x160 x161 x162 x163 x164 x165 x166 x167 x168 x169 x170 x171 x172 x173 x174 x175 x176 x177 x178 x179 x180 x181 x182 x183 x184 x185 x186 x187 x188 x189 x190 x191 x192 x193 : Value) :
    Code.wp Tryd.prog waits17 (bodyPost Tryd.prog Tryd.f9 fun e w' => e = .returned (.bool true) ∧ Below w0.heap.size w0 w') ⟨#[x0, x1, x2, x3, x4, x5, x6, x7, x8, .pointer (some ⟨B9, 0, none⟩), .pointer (some ⟨B10, 0, none⟩), x11, x12, .slice q1 n c1, x14, x15, x16, .pointer (some ⟨B17, 0, none⟩), .int .i64 E, x19, x20, x21, x22, x23, x24, x25, x26, x27, x28, x29, x30, x31, x32, x33, x34, x35, x36, x37, x38, x39, x40, x41, x42, x43, x44, x45, x46, x47, x48, x49, x50, x51, x52, x53, x54, x55, x56, x57, x58, x59, x60, x61, x62, x63, x64, x65, x66, x67, x68, x69, x70, x71, x72, x73, x74, x75, x76, x77, x78, x79, x80, x81, x82, x83, x84, x85, x86, x87, x88, x89, x90, x91, x92, x93, x94, x95, x96, x97, x98, x99, x100, x101, x102, x103, x104, x105, x106, x107, x108, x109, x110, x111, x112, x113, x114, x115, x116, x117, x118, x119, x120, x121, x122, x123, x124, x125, x126, x127, x128, x129, x130, x131, x132, x133, x134, x135, x136, x137, x138, x139, x140, x141, x142, x143, x144, x145, x146, x147, x148, x149, x150, x151, x152, x153, x154, x155, x156, x157, x158, x159, x160, x161, x162, x163, x164, x165, x166, x167, x168, x169, x170, x171, x172, x173, x174, x175, x176, x177, x178, x179, x180, x181, x182, x183, x184, x185, x186, x187, x188, x189, x190, x191, x192, x193], []⟩ w := by
  have hpos := hl.pos
  have hpos1 := hst.pos
  have HG := Lib.hid (good_of hc0)
  have HLM := Lib.hid hl
  have HST := Lib.hid hst
  have HC := Lib.hid hc0
  have HGC := Lib.hid gc
  have H02 := Lib.hid h02
  have HB := Lib.hid hB
  have HS := Lib.hid hS
  have HK1 := Lib.hid hK1
  have HK2 := Lib.hid hK2
  have HK7 := Lib.hid hK7
  have HR1 := Lib.hid hR1
  have HQ := Lib.hid hq
  have HN1 := Lib.hid hn1
  have HF := Lib.hid hF
  clear hl hst hc0 gc h02 hB hS hK1 hK2 hK7 hR1 hq hn1 hF
  conv => arg 2; whnf
  go_wp2_with fail
  rename_i K hK
  have HKT := Lib.hid hK
  clear hK
  go_loopw [136] (fun i wr => ∃ j : Nat, i = .int .i64 j ∧ j ≤ n ∧ Hid (Below w2.heap.size w2 wr) ∧ Hid (wr.heap[B9]? = some (.cells (shipA s m) 24 (0, 0))) ∧ Hid (∃ x y : Int, wr.heap[B10]? = some (.cells (cellV (setP lo x) (setP hi y)) 59 (0, 0))) ∧ Hid (wr.heap[B17]? = some (.cells #[.int .i64 A, .int .i64 B] 57 (0, 0))) ∧ Hid (SRow wr M (.slice q1 n c1) l1)) (fun i _ => n - (intOf i).toNat)
  case atStart => exact ⟨0, rfl, Nat.zero_le _, HB, HK1, Lib.hid ⟨lo.press, hi.press, HK2.out⟩, HK7, HR1⟩
  case round =>
    clear HB HK1 HK2 HK7 HR1
    obtain ⟨j, rfl, hj, hb0, hk1, hk2, hk7, hr1⟩ := hrel
    have HB := Lib.hid hb0.out
    have HK1 := Lib.hid hk1.out
    obtain ⟨zx, zy, hk2'⟩ := hk2.out
    have HK2 := Lib.hid hk2'
    have HK7 := Lib.hid hk7.out
    have HR1 := Lib.hid hr1.out
    clear hb0 hk1 hk2 hk2' hk7 hr1
    by_cases hlt : j < n
    · have hjn : (j : Int) < (n : Int) := by omega
      have hj0 : (0 : Int) ≤ (j : Int) := by omega
      obtain ⟨bq, oq, eq1, hbq, cx, cy⟩ := SRow.pts HR1.out j (by show j < l1.length; rw [HN1.out]; exact hlt)
      obtain ⟨g0, g1, g2⟩ := HQ.out j (by show j < l1.length; rw [HN1.out]; exact hlt)
      subst eq1
      have HFX := Lib.hid (show (oneB s hi ((cvOf l1).y j) = oneB s hi ((cvOf l1).y j)) from rfl)
      obtain ⟨px, hpx⟩ : ∃ v, v = (cvOf l1).x j := ⟨_, rfl⟩
      obtain ⟨py, hpy⟩ : ∃ v, v = (cvOf l1).y j := ⟨_, rfl⟩
      rw [← hpx] at cx g0 g1
      rw [← hpy] at cy g1 g2
      have HPX := Lib.hid hpx
      have HPY := Lib.hid hpy
      clear hpx hpy HFX
      have hba := (Below.refl wr.heap.size wr).alloc (Nat.le_refl _) Z57
      have HZ := Lib.hid (block_new wr Z57)
      go_wp2_with (first | (refine list_store2 rfl rfl rfl (.inr (.inr rfl)) rfl rfl HZ.out ?_; intro U1 hz hc; have hb := hba.trans (hc.below (Nat.le_refl _)); have HK22 := Lib.hid hz; replace HK1 := Lib.hid ((hb.block _ (lt_of_block HK1.out)).trans HK1.out); replace HK2 := Lib.hid ((hb.block _ (lt_of_block HK2.out)).trans HK2.out); replace HK7 := Lib.hid ((hb.block _ (lt_of_block HK7.out)).trans HK7.out); replace HR1 := Lib.hid (row_later HR1.out hb); replace HB := Lib.hid (HB.out.trans (hb.mono HB.out.size)); clear hb hz hc HZ hba cx cy; obtain ⟨⟨y0, y1⟩, _⟩ := cells2 HK22.out) | (refine list_store57 rfl rfl rfl rfl rfl HK2.out ?_; intro U2 hz hc; replace HK2 := Lib.hid (show U2.heap[B10]? = some (.cells (cellV (setP lo px) (setP hi py)) 59 (0, 0)) from hz); replace HK1 := Lib.hid ((hc.2.1 _ hb9).trans HK1.out); replace HK7 := Lib.hid ((hc.2.1 _ (by omega)).trans HK7.out); replace HR1 := Lib.hid (srow_chg HR1.out hc hbM); replace HB := Lib.hid (HB.out.trans (hc.below hb10)); clear hz hc y0 y1 HK22; obtain ⟨m0, m1, m2, m3, m4, m5, m6, m7, m8, m9, m10⟩ := cells11 HK1.out; obtain ⟨⟨cz0, cz1, cz2, cz3, cz4, cz5, cz6, cz7⟩, _⟩ := cells8 HK2.out))
      refine (Beset_ex s m (setP lo px) (setP hi py) false _ (HS.out.later HB.out) (HLM.out.below hpos HB.out) HC.out (setP_good HGC.out g0 g1 g2)).mono ?_
      rintro e V3 ⟨b1, b2, rfl, hb1, hb2, hb⟩
      have Hhb1 := Lib.hid hb1
      clear hb1
      have Hhb2 := Lib.hid hb2
      clear hb2
      clear m0 m1 m2 m3 m4 m5 m6 m7 m8 m9 m10 cz0 cz1 cz2 cz3 cz4 cz5 cz6 cz7
      replace HK1 := Lib.hid ((hb.block _ (lt_of_block HK1.out)).trans HK1.out)
      replace HK2 := Lib.hid ((hb.block _ (lt_of_block HK2.out)).trans HK2.out)
      replace HK7 := Lib.hid ((hb.block _ (lt_of_block HK7.out)).trans HK7.out)
      replace HR1 := Lib.hid (row_later HR1.out hb)
      replace HB := Lib.hid (HB.out.trans (hb.mono HB.out.size))
      clear hb
      obtain ⟨⟨t0, t1⟩, _⟩ := cells2 HK7.out
      have e1 : b1 = oneB s hi ((cvOf l1).y j) := by rw [Hhb1.out, ← HPY.out]; rfl
      have e2 : b2 = oneB s lo ((cvOf l1).x j) := by rw [Hhb2.out, ← HPX.out]; rfl
      clear Hhb1 Hhb2
      have hqn : (cvOf l1).n = n := HN1.out
      rcases HF.out with ⟨rfl, h4⟩ | ⟨rfl, av, bv, rfl, rfl, r1, r2, r3, r4, r5, r6⟩
      · obtain rfl : b1 = true := e1.trans (h4 j (by omega))
        clear e1 e2 h4 HF
        go_wp2_with fail
        all_goals
          refine ⟨⟨j + 1, ?_, ?_, HB, HK1, Lib.hid ⟨px, py, HK2.out⟩, HK7, HR1⟩, ?_⟩
          · first | rfl | (congr 1; omega)
          · omega
          · simp only [intOf]; omega
      · have i1 : j < bv → b1 = true := fun h => e1.trans (r4 j h)
        have i2 : j = bv → b1 = false := fun h => by rw [e1, h]; exact r3
        have i3 : j < av → b2 = true := fun h => e2.trans (r6 j h)
        have i4 : j = av → b2 = false := fun h => by rw [e2, h]; exact r5
        clear e1 e2 r3 r4 r5 r6 HF
        rcases Nat.lt_trichotomy j bv with h | h | h <;> rcases Nat.lt_trichotomy j av with h' | h' | h'
        all_goals try (exfalso; omega)
        all_goals try (have z := i1 h; subst z)
        all_goals try (have z := i2 h; subst z)
        all_goals try (have z := i3 h'; subst z)
        all_goals try (have z := i4 h'; subst z)
        all_goals
          clear i1 i2 i3 i4
          go_wp2_with fail
        all_goals
          refine ⟨⟨j + 1, ?_, ?_, HB, HK1, Lib.hid ⟨px, py, HK2.out⟩, HK7, HR1⟩, ?_⟩
          · first | rfl | (congr 1; omega)
          · omega
          · simp only [intOf]; omega
    · obtain rfl : j = n := by omega
      have HAW := Lib.hid (awake_any wr (HLM.out.below hpos HB.out) (HST.out.below hpos1 HB.out))
      have hjj : ¬ ((j : Int) < (j : Int)) := by omega
      go_wp2_with fail
      refine HKT.out _ _ ?_
      go_wp2_with fail
      refine HAW.out.mono ?_
      rintro e We ⟨rfl, hb⟩
      have HBE := Lib.hid (H02.out.trans ((HB.out.trans (hb.mono HB.out.size)).mono H02.out.size))
      clear hb
      go_wp2_with fail
      go_ret
      exact ⟨rfl, HBE.out⟩
end Go.Proofs.YtcoiklolgilhaaaDoor
