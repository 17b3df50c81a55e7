/- The law IceBlames over memory, its middle part: any reports in any slice, any rates, any number. The table of limits holds 100, 400, 100, 3. -/
import Derived.Test.YtdcpmdigihbdpaaDoorWe
import Derived.Deep.DeepCutAuto
namespace Go.Proofs.YtdcpmdigihbdpaaDoor
open Go.RowKit
set_option maxRecDepth 100000
noncomputable def mid26 : Code := ((Tryd.f6.body.bind (findReg 26)).getD .skip)
set_option maxHeartbeats 32000000 in
theorem Blames_mid (u d : Nat → Int) (R : Nat → Rep) (n c1 B cp ct zn k : Nat) (p1 pp pt : Option Addr) (ls : List (List Nat)) (ps : List (Nat × Nat)) (hd s : Nat → Bool) (f : Bool) (w W7 wo wq : World)
    (hl : Lim w) (KC0 : Below w.heap.size w wo) (K20 : wo.heap[B]? = some (.cells (ratesA u d) 41 (0, 0))) (X10 : Reps wo p1 n (rgRep R)) (P10 : PairsAt wo pp ps) (T10 : TruAt wo pt n hd) (HG00 : BlameOk u d (rgRep R) n ls ps hd zn) (HS0 : ∀ s, Fine u d 100 (fun j => rgRep R (fs s n j)) (sizeTo s n)) (h8 : n ≤ 8)
    (hpo : ∀ p ∈ ps, s p.1 = false ∨ s p.2 = false) (hag : AgreeS u d (rgRep R) n s) (hle : ls[k]?.getD [] = outs s n) (hfnd0 : fnd ls (outs hd n) k = true → f = true) (hB0 : Below W7.heap.size W7 wo) (hB20 : Below wo.heap.size wo wq) (hz3 : wo.heap.size < wq.heap.size) (HO0 : BoolsB wq wo.heap.size n (fun j => !s j))
    (Q : Exit → Act → World → Prop) (x0 x1 x2 x3 x4 x5 x6 x9 x10 x12 x14 x15 x17 x18 x20 x21 x22 x23 x24 x25 x26 x27 x28 x29 x30 x31 x32 x33 x34 x35 x36 x37 x38 x39 x40 x41 x42 x43 x44 x45 : Value) (x46 x47 x48 x49 x50 x51 x52 x53 x54 x55 x56 x57 x58 x59 x60 x61 x62 x63 x64 x65 x66 x67 x68 x69 x70 x71 x72 x73 x74 x75 x76 x77 x78 x79 x80 x81 x82 x83 x84 x85 : Value) (x86 x87 x88 x89 x90 x91 x92 x93 x94 x95 x96 x97 x98 x99 x100 x101 x102 x103 x104 x105 x106 x107 x108 x109 x110 x111 x112 x113 x114 x115 x116 x117 x118 x119 x120 x121 x122 x123 x124 x125 : Value) (x126 x127 x128 x129 x130 x131 x132 x133 x134 x135 x136 x137 x138 x139 x140 x141 x142 x143 x144 x145 x146 x147 x148 x149 x150 x151 x152 x153 x154 x155 x156 x157 x158 x159 x160 x161 x162 x163 x164 x165 : Value) (x166 x167 x168 x169 x170 x171 x172 x173 x174 x175 x176 x177 x178 x179 x180 x181 x182 x183 x184 x185 x186 x187 x188 x189 x190 x191 x192 x193 x194 x195 x196 x197 x198 x199 x200 x201 x202 x203 x204 x205 : Value) (x206 x207 x208 x209 x210 x211 x212 x213 x214 x215 x216 x217 x218 x219 x220 x221 x222 x223 x224 x225 x226 x227 x228 x229 x230 x231 x232 x233 x234 x235 x236 x237 x238 x239 x240 x241 x242 x243 x244 x245 : Value) (x246 x247 x248 x249 x250 x251 x252 x253 x254 x255 x256 x257 x258 x259 x260 x261 x262 x263 x264 x265 x266 x267 x268 x269 x270 x271 x272 x273 x274 x275 x276 x277 x278 x279 x280 x281 x282 x283 x284 x285 : Value) (x286 x287 x288 x289 x290 x291 x292 x293 x294 x295 x296 x297 x298 x299 x300 x301 x302 x303 : Value)
    (hQ : ∀ (f' : Bool) (y6 y21 y22 y23 y24 y25 y26 y144 y145 y146 y147 y148 y149 y150 y151 y152 y153 y154 y155 y156 y157 y158 y159 y160 y161 y162 y163 y164 y165 y166 y167 y168 y169 y170 y171 y172 y173 y174 y175 y176 : Value) (y177 y178 y179 y180 y181 y182 y183 y184 y185 y186 y187 y188 y189 y190 y191 y192 y193 y194 y195 y196 y197 y198 y199 y200 y201 y202 y203 y204 y205 y206 y207 y208 y209 y210 y211 y212 y213 y214 y215 y216 : Value) (y217 y218 y219 y220 y221 y222 y223 y224 y225 y226 y227 y228 y229 y230 y231 y232 y233 y234 y235 y236 y237 y238 y239 y240 y241 y242 : Value) (W' : World), (fnd ls (outs hd n) (k + 1) = true → f' = true) → Below W7.heap.size W7 W' → Q .normal ⟨#[x0, x1, x2, x3, x4, x5, y6, .pointer (some ⟨B, 0, none⟩), .slice p1 n c1, x9, x10, .slice pp ps.length cp, x12, .slice pt n ct, x14, x15, .bool f', x17, x18, .slice (some ⟨wo.heap.size, 0, none⟩) n n, x20, y21, y22, y23, y24, y25, y26, x27, x28, x29, x30, x31, x32, x33, x34, x35, x36, x37, x38, x39, x40, x41, x42, x43, x44, x45, x46, x47, x48, x49, x50, x51, x52, x53, x54, x55, x56, x57, x58, x59, x60, x61, x62, x63, x64, x65, x66, x67, x68, x69, x70, x71, x72, x73, x74, x75, x76, x77, x78, x79, x80, x81, x82, x83, x84, x85, x86, x87, x88, x89, x90, x91, x92, x93, x94, x95, x96, x97, x98, x99, x100, x101, x102, x103, x104, x105, x106, x107, x108, x109, x110, x111, x112, x113, x114, x115, x116, x117, x118, x119, x120, x121, x122, x123, x124, x125, x126, x127, x128, x129, x130, x131, x132, x133, x134, x135, x136, x137, x138, x139, x140, x141, x142, x143, y144, y145, y146, y147, y148, y149, y150, y151, y152, y153, y154, y155, y156, y157, y158, y159, y160, y161, y162, y163, y164, y165, y166, y167, y168, y169, y170, y171, y172, y173, y174, y175, y176, y177, y178, y179, y180, y181, y182, y183, y184, y185, y186, y187, y188, y189, y190, y191, y192, y193, y194, y195, y196, y197, y198, y199, y200, y201, y202, y203, y204, y205, y206, y207, y208, y209, y210, y211, y212, y213, y214, y215, y216, y217, y218, y219, y220, y221, y222, y223, y224, y225, y226, y227, y228, y229, y230, y231, y232, y233, y234, y235, y236, y237, y238, y239, y240, y241, y242, x243, x244, x245, x246, x247, x248, x249, x250, x251, x252, x253, x254, x255, x256, x257, x258, x259, x260, x261, x262, x263, x264, x265, x266, x267, x268, x269, x270, x271, x272, x273, x274, x275, x276, x277, x278, x279, x280, x281, x282, x283, x284, x285, x286, x287, x288, x289, x290, x291, x292, x293, x294, x295, x296, x297, x298, x299, x300, x301, x302, x303], []⟩ W') :
    Code.wp Tryd.prog mid26 Q ⟨#[x0, x1, x2, x3, x4, x5, x6, .pointer (some ⟨B, 0, none⟩), .slice p1 n c1, x9, x10, .slice pp ps.length cp, x12, .slice pt n ct, x14, x15, .bool f, x17, x18, .slice (some ⟨wo.heap.size, 0, none⟩) n n, x20, x21, x22, x23, x24, x25, x26, x27, x28, x29, x30, x31, x32, x33, x34, x35, x36, x37, x38, x39, x40, x41, x42, x43, x44, x45, x46, x47, x48, x49, x50, x51, x52, x53, x54, x55, x56, x57, x58, x59, x60, x61, x62, x63, x64, x65, x66, x67, x68, x69, x70, x71, x72, x73, x74, x75, x76, x77, x78, x79, x80, x81, x82, x83, x84, x85, x86, x87, x88, x89, x90, x91, x92, x93, x94, x95, x96, x97, x98, x99, x100, x101, x102, x103, x104, x105, x106, x107, x108, x109, x110, x111, x112, x113, x114, x115, x116, x117, x118, x119, x120, x121, x122, x123, x124, x125, x126, x127, x128, x129, x130, x131, x132, x133, x134, x135, x136, x137, x138, x139, x140, x141, x142, x143, x144, x145, x146, x147, x148, x149, x150, x151, x152, x153, x154, x155, x156, x157, x158, x159, x160, x161, x162, x163, x164, x165, x166, x167, x168, x169, x170, x171, x172, x173, x174, x175, x176, x177, x178, x179, x180, x181, x182, x183, x184, x185, x186, x187, x188, x189, x190, x191, x192, x193, x194, x195, x196, x197, x198, x199, x200, x201, x202, x203, x204, x205, x206, x207, x208, x209, x210, x211, x212, x213, x214, x215, x216, x217, x218, x219, x220, x221, x222, x223, x224, x225, x226, x227, x228, x229, x230, x231, x232, x233, x234, x235, x236, x237, x238, x239, x240, x241, x242, x243, x244, x245, x246, x247, x248, x249, x250, x251, x252, x253, x254, x255, x256, x257, x258, x259, x260, x261, x262, x263, x264, x265, x266, x267, x268, x269, x270, x271, x272, x273, x274, x275, x276, x277, x278, x279, x280, x281, x282, x283, x284, x285, x286, x287, x288, x289, x290, x291, x292, x293, x294, x295, x296, x297, x298, x299, x300, x301, x302, x303], []⟩ wq := by
  have hpos := hl.pos
  have HL := Lib.hid hl
  have KC := Lib.hid KC0
  have K2 := Lib.hid K20
  have X1 := Lib.hid X10
  have P1 := Lib.hid P10
  have T1 := Lib.hid T10
  have HG0 := Lib.hid HG00
  have HS := Lib.hid HS0
  have HPO := Lib.hid hpo
  have HAG := Lib.hid hag
  have HLE := Lib.hid hle
  have hfnd := Lib.hid hfnd0
  have hB := Lib.hid hB0
  have hB2 := Lib.hid hB20
  have HO := Lib.hid HO0
  have HQ := Lib.hid hQ
  clear hl KC0 K20 X10 P10 T10 HG00 HS0 hpo hag hle hfnd0 hB0 hB20 HO0 hQ
  have hpm := HG0.out.pairs
  conv => arg 2; whnf
  go_wp2_with fail
  go_loopw [21, 22, 23] (fun c v i wr => ∃ (j m : Nat) (pr : Option Addr) (cr : Nat) (q : Bool), j ≤ n ∧ m ≤ j ∧ i = .int .i64 j ∧ c = .bool q ∧ v = .slice pr m cr ∧ Hid (q = smB (fun j => !s j) hd j) ∧ Hid (m = sizeTo s j) ∧ Hid (wr.ownsRow wq.heap.size 67 14 (.slice pr m cr) m (repRow (fun j => rgRep R (fs s n j)) m)) ∧ Hid (Below wq.heap.size wq wr)) (fun _ _ i _ => n - (intOf i).toNat)
  case atStart => exact ⟨0, 0, none, 0, true, by omega, by omega, rfl, rfl, rfl, Lib.hid rfl, Lib.hid rfl, World.ownsRow_nil _ _ _ _, Lib.hid (Below.refl _ _)⟩
  case round =>
    obtain ⟨j, m, pr, cr, q, hj, hmj, rfl, rfl, rfl, hq, hm, hO, hB3⟩ := hrel
    by_cases hjl : j < n
    · have hjn : (j : Int) < (n : Int) := by omega
      have hj0 : (0 : Int) ≤ (j : Int) := by omega
      have hoc := ((HO.out.of_heap (hB3.out.block wo.heap.size hz3)).cell hjl).1
      have hB4 := hB2.out.trans (hB3.out.mono hB2.out.size)
      obtain ⟨bt, rfl, _, htc⟩ := (T1.out.later hB4) j hjl
      obtain ⟨bx, rfl, _, x0, x1, x2, x3, x4, x5, x6, x7, x8, x9, x10, x11, x12, x13⟩ := (X1.out.later hB4).cells hjl
      have HSM := Lib.hid (show smB (fun j => !s j) hd (j + 1) = (q && ((!s j) != hd j)) by rw [hq.out]; rfl)
      have HFS := Lib.hid (fun (e : s j = true) => (by show sizeTo s j + (if s j = true then 1 else 0) = m + 1 ∧ fs s n m = j; rw [if_pos e, hm.out]; exact ⟨rfl, fs_at hjl e⟩ : sizeTo s (j + 1) = m + 1 ∧ fs s n m = j))
      have HFN := Lib.hid (fun (e : s j = false) => (by show sizeTo s j + (if s j = true then 1 else 0) = m; rw [e, hm.out]; rfl : sizeTo s (j + 1) = m))
      clear hB4 hq hm
      generalize hd j = tb at *
      obtain ⟨ob, hob⟩ : ∃ ob, ob = !s j := ⟨_, rfl⟩
      rw [← hob] at hoc HSM
      have HOB := Lib.hid hob
      clear hob
      go_upto_region 31 with fail
      go_cut [21] from 150 to 161 (fun c wx => ∃ q' : Bool, ∃ nq : Nat, c = .bool q' ∧ Hid (q' = smB (fun j => !s j) hd (j + 1)) ∧ wx = wr.drewN nq)
      case first =>
        cases q
        all_goals
          go_quiet (fail)
          go_wp2_with fail
          go_meet
          exact ⟨_, _, rfl, Lib.hid (by rw [HSM.out]; cases ob <;> cases tb <;> rfl), rfl⟩
      case rest =>
        obtain ⟨q', nq, rfl, hq', rfl⟩ := hcut
        cases ob with
        | false =>
          have hsz := HFS.out (by have h := HOB.out; cases e : s j; (· rw [e] at h; cases h); (· rfl))
          have HSZ := Lib.hid hsz
          clear HFS HFN hsz HSM HOB
          have hOz := row_later hO.out (below_drewN (Below.refl wr.heap.size wr) nq)
          have hBz := (below_drewN hB3.out nq).alloc hB3.out.size (.cells (repA (rgRep R j)) 67)
          go_wp2_with (at_builtin; refine Hid.out ?_)
          refine Lib.hid ?_
          refine list_append63 (n := m) (us := repA (rgRep R j)) rfl rfl rfl rfl (hOz.alloc _) (block_new _ _) rfl (by omega) hBz.size (by simp [Value.oneCell']) ?_
          intro p' c' w1 hown' hgrow
          have HB1 := Lib.hid (below_own hBz hBz.size (hOz.alloc _) hgrow)
          have HO1 := Lib.hid (show w1.ownsRow wq.heap.size 67 14 (.slice p' (m + 1) c') (m + 1) (repRow (fun j => rgRep R (fs s n j)) (m + 1)) by
            show w1.ownsRow wq.heap.size 67 14 (.slice p' (m + 1) c') (m + 1) (repRow (fun j => rgRep R (fs s n j)) m ++ (repA (rgRep R (fs s n m))).toList)
            rw [HSZ.out.2]; exact hown')
          clear hown' hgrow hOz hBz
          go_wp2_with fail
          go_roundw
          case rel => exact ⟨j + 1, m + 1, p', c', q', by omega, by omega, by go_num, rfl, rfl, hq', Lib.hid HSZ.out.1.symm, HO1, HB1⟩
          case measure => simp [intOf]; omega
        | true =>
          have hsz := HFN.out (by have h := HOB.out; cases e : s j; (· rfl); (· rw [e] at h; cases h))
          have HSZ := Lib.hid hsz
          clear HFS HFN hsz HSM HOB
          have HOz := Lib.hid (row_later hO.out (below_drewN (Below.refl wr.heap.size wr) nq))
          have HBz := Lib.hid (below_drewN hB3.out nq)
          go_wp2_with fail
          go_roundw
          case rel => exact ⟨j + 1, m, pr, cr, q', by omega, by omega, by go_num, rfl, rfl, hq', Lib.hid HSZ.out.symm, HOz, HBz⟩
          case measure => simp [intOf]; omega
    · obtain rfl : j = n := by omega
      have HM := Lib.hid hm.out
      have hB4 := hB2.out.trans (hB3.out.mono hB2.out.size)
      have HRR := Lib.hid (show Reps wr pr m (fun i => rgRep R (fs s j i)) from reps_of_row hO.out)
      replace HO := Lib.hid (HO.out.of_heap (hB3.out.block wo.heap.size hz3))
      have hgz := Nat.lt_of_lt_of_le hz3 hB3.out.size
      have P2 := Lib.hid (P1.out.later hB4)
      have K3 := Lib.hid (keep_blk1 K2.out hB4)
      have KD := Lib.hid (keep_bl1 KC.out hB4)
      have HB4 := Lib.hid (hB.out.trans (hB4.mono hB.out.size))
      have HFQ := Lib.hid (fun (e : fnd ls (outs hd j) (k + 1) = true) => (by
        have h : fnd ls (outs hd j) (k + 1) = (fnd ls (outs hd j) k || decide (ls[k]?.getD [] = outs hd j)) := rfl
        rw [h, Bool.or_eq_true] at e
        rcases e with e | e
        · rw [hfnd.out e]; rfl
        · have hqt : q = true := by
            rw [hq.out]
            have e2 := of_decide_eq_true e
            rw [HLE.out] at e2
            refine smB_true fun i hi => ?_
            rw [← tk_outs (s := s) hi, e2, tk_outs hi]
          rw [hqt]; cases f <;> rfl : (f || q) = true))
      clear hB4 hq hm hO hB3 hfnd HLE P1 T1 X1
      obtain ⟨wp, hwp⟩ : ∃ wp, wp = wr := ⟨_, rfl⟩
      subst hwp
      go_upto_region 34 with fail
      go_cut [16] from 174 to 177 (fun c wx => ∃ f' : Bool, c = .bool f' ∧ Hid (fnd ls (outs hd j) (k + 1) = true → f' = true) ∧ wx = wp)
      case first =>
        cases f
        all_goals
          go_wp2_with fail
          go_meet
          exact ⟨_, rfl, Lib.hid (fun e => by have h := HFQ.out e; first | exact h | rfl | (simp at h; exact h)), rfl⟩
      case rest =>
        obtain ⟨f', rfl, HF9, hwx⟩ := hcut
        have hwx' := hwx.symm
        clear hwx
        subst hwx'
        clear HFQ
        go_wp2_with fail
        go_loopw [24] (fun v wr => ∃ a : Nat, a ≤ ps.length ∧ v = .int .i64 a ∧ Hid (Below wp.heap.size wp wr)) (fun v _ => ps.length - (intOf v).toNat)
        case atStart => exact ⟨0, by omega, rfl, Lib.hid (Below.refl _ _)⟩
        case round =>
          obtain ⟨a, ha, rfl, hB5⟩ := hrel
          by_cases hap : a < ps.length
          · have ha0 : (0 : Int) ≤ (a : Int) := by omega
            have ha1 : (a : Int) < (ps.length : Int) := by omega
            obtain ⟨bp, rfl, _, hp1, hp2⟩ := (P2.out.later hB5.out) a hap
            have hpr := HG0.out.pr _ (List.getElem_mem hap)
            have hso := HPO.out _ (List.getElem_mem hap)
            generalize ps[a] = e at *
            obtain ⟨e1, e2⟩ := e
            simp only at hp1 hp2 hpr hso
            obtain ⟨hpr1, hpr2⟩ := hpr
            have ho1 := ((HO.out.of_heap (hB5.out.block wo.heap.size hgz)).cell (show e1 < j by omega)).1
            have ho2 := ((HO.out.of_heap (hB5.out.block wo.heap.size hgz)).cell hpr2).1
            have hn1 : decide ((e1 : Int) < 0) = false := decide_eq_false (by omega)
            have hn2 : decide (e2 ≤ e1) = false := decide_eq_false (by omega)
            have hn3 : decide (j ≤ e2) = false := decide_eq_false (by omega)
            have hi1 : (0 : Int) ≤ (e1 : Int) := by omega
            have hi2 : (e1 : Int) < (j : Int) := by omega
            have hi3 : (0 : Int) ≤ (e2 : Int) := by omega
            have hi4 : (e2 : Int) < (j : Int) := by omega
            cases hs1 : s e1 with
            | false =>
              rw [hs1] at ho1
              clear hso hs1
              generalize (!s e2) = o2 at ho2
              go_wp2_with fail
              go_quiet (fail)
              go_wp2_with fail
              go_roundw
              case rel => exact ⟨a + 1, by omega, by go_num, Lib.hid (below_drewN hB5.out _)⟩
              case measure => simp [intOf]; omega
            | true =>
              rw [hs1] at ho1
              have hs2 : s e2 = false := by rcases hso with h | h; (· rw [hs1] at h; cases h); (· exact h)
              rw [hs2] at ho2
              clear hso hs1 hs2
              go_wp2_with fail
              go_quiet (fail)
              go_wp2_with fail
              go_roundw
              case rel => exact ⟨a + 1, by omega, by go_num, Lib.hid (below_drewN hB5.out _)⟩
              case measure => simp [intOf]; omega
          · obtain rfl : a = ps.length := by omega
            have hRR := HRR.out.later hB5.out
            have K4 := Lib.hid (keep_blk1 K3.out hB5.out)
            have KE := Lib.hid (keep_bl1 KD.out hB5.out)
            have HS2 := Lib.hid (show Fine u d 100 (fun i => rgRep R (fs s j i)) m by rw [HM.out]; exact HS.out s)
            have HR2 := Lib.hid hRR
            have HAG2 := Lib.hid (show cmOK allT (tdLo (fun i => rgRep R (fs s j i)) d 100) (tdHi (fun i => rgRep R (fs s j i)) u 100) m = true by rw [HM.out]; exact HAG.out)
            clear hRR
            obtain ⟨r0, r1, r2, r3, r4, r5, r6, r7⟩ := ratesBox K4.out
            go_wp2_with fail
            clear r0 r1 r2 r3 r4 r5 r6 r7
            refine (Fuse_fine u d 100 pr m cr (fun i => rgRep R (fs s j i)) HS2.out wr (HL.out.below hpos KE.out) HR2.out).mono ?_
            rintro e W9 ⟨rfl, hb⟩
            rw [show fuRes (tdLo (fun i => rgRep R (fs s j i)) d 100) (tdHi (fun i => rgRep R (fs s j i)) u 100) m = .tuple #[.agg (cellA (cmLo allT (tdLo (fun i => rgRep R (fs s j i)) d 100) m) (cmHi allT (tdHi (fun i => rgRep R (fs s j i)) u 100) m)), .int .i64 0] from by unfold fuRes; rw [if_pos HAG2.out]]
            generalize cmLo allT (tdLo (fun i => rgRep R (fs s j i)) d 100) m = fl
            generalize cmHi allT (tdHi (fun i => rgRep R (fs s j i)) u 100) m = fh
            have hBz := HB4.out.trans ((hB5.out.trans (hb.mono hB5.out.size)).mono HB4.out.size)
            have HBz := Lib.hid (hBz.alloc hBz.size (.cells (cellA fl fh) 32))
            clear hb hBz
            go_wp2_with fail
            exact HQ.out f' _ _ _ _ _ _ _ _ _ _ _ _ _ _ _ _ _ _ _ _ _ _ _ _ _ _ _ _ _ _ _ _ _ _ _ _ _ _ _ _ _ _ _ _ _ _ _ _ _ _ _ _ _ _ _ _ _ _ _ _ _ _ _ _ _ _ _ _ _ _ _ _ _ _ _ _ _ _ _ _ _ _ _ _ _ _ _ _ _ _ _ _ _ _ _ _ _ _ _ _ _ _ _ _ _ _ _ HF9.out HBz.out
end Go.Proofs.YtdcpmdigihbdpaaDoor
