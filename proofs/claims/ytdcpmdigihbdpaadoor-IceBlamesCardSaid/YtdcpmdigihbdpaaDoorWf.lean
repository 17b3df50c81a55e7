/- The law IceBlames over memory: any reports in any slice, any rates, any number. The table of limits holds 100, 400, 100, 3. -/
import Derived.Test.YtdcpmdigihbdpaaDoorWm
import Derived.Deep.DeepCutAuto
namespace Go.Proofs.YtdcpmdigihbdpaaDoor
open Go.RowKit
set_option maxRecDepth 100000
set_option maxHeartbeats 32000000 in
theorem Blames_law (u d : Nat → Int) (p : Option Addr) (n cap : Nat) (R : Nat → Rep) (set : Int) (w : World) (hl : Lim w) (hR : RepsO w p n R) :
    Calls Tryd.prog 6 #[.slice p n cap, .agg (ratesA u d), .int .i64 set] w fun e w' => e = .returned (.bool true) ∧ Below w.heap.size w w' := by
  have hpos := hl.pos
  have HL := Lib.hid hl
  have HR := Lib.hid hR
  clear hl hR
  have K0 := Lib.hid (block_new w (.cells (ratesA u d) 29))
  have KB := Lib.hid (show Below w.heap.size w (w.alloc (.cells (ratesA u d) 29)) from (Below.refl _ _).alloc (Nat.le_refl _) _)
  by_cases h8 : 8 < n
  · have h8' : (8 : Int) < (n : Int) := by omega
    go_enter Tryd.func6, Tryd.ntmps6
    go_wp2_with fail
    generalize w.alloc (.cells (ratesA u d) 29) = V at *
    refine (awake_any V (HL.out.below hpos KB.out)).mono ?_
    rintro e W ⟨rfl, hb⟩
    replace KB := Lib.hid (keep_bl1 KB.out hb)
    clear hb
    go_wp2_with fail
    go_ret
    exact ⟨rfl, KB.out⟩
  · have h8' : ¬ (8 : Int) < (n : Int) := by omega
    go_enter Tryd.func6, Tryd.ntmps6
    have cR := (cells8 K0.out).1
    obtain ⟨r0, r1, r2, r3, r4, r5, r6, r7⟩ := cR
    go_wp2_with fail
    clear r0 r1 r2 r3 r4 r5 r6 r7
    generalize w.alloc (.cells (ratesA u d) 29) = V at *
    refine (Rates_any u d V).mono ?_
    rintro e W ⟨rfl, hb⟩
    replace KB := Lib.hid (keep_bl (o' := .cells (ratesA u d) 41) KB.out hb)
    have K1 := Lib.hid (block_new W (.cells (ratesA u d) 41))
    clear hb K0
    go_wp2_with fail
    generalize W.alloc (.cells (ratesA u d) 41) = V1 at *
    refine (Right_full p n cap R (by omega) V1 (HR.out.later KB.out)).mono ?_
    rintro e W1 ⟨p1, c1, rfl, hX, hb, hnc⟩
    replace K1 := Lib.hid (keep_blk1 K1.out hb)
    replace KB := Lib.hid (keep_bl1 KB.out hb)
    have HX := Lib.hid hX
    clear hb hX hnc HR
    obtain ⟨r0, r1, r2, r3, r4, r5, r6, r7⟩ := ratesBox K1.out
    go_wp2_with fail
    clear r0 r1 r2 r3 r4 r5 r6 r7
    refine (CheckRates_any u d W1).mono ?_
    rintro e W2 ⟨rfl, hb⟩
    replace K1 := Lib.hid (keep_blk1 K1.out hb)
    replace KB := Lib.hid (keep_bl1 KB.out hb)
    replace HX := Lib.hid (HX.out.later hb)
    clear hb
    by_cases hr : okRates u d = true
    · have he0 : errB (okRates u d) 6 = 0 := by rw [hr]; rfl
      rw [he0]
      have hf : Fine u d 100 (rgRep R) n := rg_fine R (fun j => j) hr (by omega) (fun a b h _ => h) (fun j hj => by omega)
      have HF := Lib.hid hf
      have HG0 := Lib.hid (blame_ok (rgRep R) (by omega) hf)
      have HS := Lib.hid (fun s => fs_fine R hr (show n ≤ 8 by omega) s)
      clear hf hr he0
      obtain ⟨r0, r1, r2, r3, r4, r5, r6, r7⟩ := ratesBox K1.out
      go_wp2_with fail
      clear r0 r1 r2 r3 r4 r5 r6 r7
      refine (Blame_fine u d 100 p1 n c1 (rgRep R) HF.out W2 (HL.out.below hpos KB.out) HX.out).mono ?_
      rintro e W4 ⟨vs, rfl, hLs, hb⟩
      obtain ⟨pl, cl, rfl, hla⟩ := lists_at hLs
      replace K1 := Lib.hid (keep_blk1 K1.out hb)
      replace KB := Lib.hid (keep_bl1 KB.out hb)
      replace HX := Lib.hid (HX.out.later hb)
      have HLA := Lib.hid hla
      clear hb hLs hla
      obtain ⟨r0, r1, r2, r3, r4, r5, r6, r7⟩ := ratesBox K1.out
      go_wp2_with fail
      clear r0 r1 r2 r3 r4 r5 r6 r7
      refine (Conflicts_fine u d 100 p1 n c1 (rgRep R) HF.out W4 (HL.out.below hpos KB.out) HX.out).mono ?_
      rintro e W5 ⟨vp, rfl, hP, hb⟩
      obtain ⟨pp, cp, rfl, hpa⟩ := pairs_at hP
      replace K1 := Lib.hid (keep_blk1 K1.out hb)
      replace KB := Lib.hid (keep_bl1 KB.out hb)
      replace HX := Lib.hid (HX.out.later hb)
      replace HLA := Lib.hid (HLA.out.later hb)
      have HPA := Lib.hid hpa
      clear hb hP hpa
      obtain ⟨r0, r1, r2, r3, r4, r5, r6, r7⟩ := ratesBox K1.out
      go_wp2_with fail
      clear r0 r1 r2 r3 r4 r5 r6 r7
      refine (Trust_fine u d 100 p1 n c1 (rgRep R) HF.out W5 (HL.out.below hpos KB.out) HX.out).mono ?_
      rintro e W6 ⟨vt, rfl, hT, hb⟩
      obtain ⟨pt, ct, rfl, hta⟩ := tru_at hT
      generalize cmLo (headS (tdLo (rgRep R) d 100) (tdHi (rgRep R) u 100) n) (tdLo (rgRep R) d 100) n = tl
      generalize cmHi (headS (tdLo (rgRep R) d 100) (tdHi (rgRep R) u 100) n) (tdHi (rgRep R) u 100) n = th
      replace K1 := Lib.hid (keep_blk (o' := .cells (cellA tl th) 32) K1.out hb)
      replace KB := Lib.hid (keep_bl (o' := .cells (cellA tl th) 32) KB.out hb)
      have hal : Below W6.heap.size W6 (W6.alloc (.cells (cellA tl th) 32)) := (Below.refl _ _).alloc (Nat.le_refl _) _
      replace HX := Lib.hid ((HX.out.later hb).later hal)
      replace HLA := Lib.hid ((HLA.out.later hb).later hal)
      replace HPA := Lib.hid ((HPA.out.later hb).later hal)
      have HTA := Lib.hid (hta.later hal)
      clear hb hT hta HF hal
      generalize blameL (tdLo (rgRep R) d 100) (tdHi (rgRep R) u 100) n = ls at *
      generalize cfOut (tdLo (rgRep R) d 100) (tdHi (rgRep R) u 100) n n = ps at *
      generalize headS (tdLo (rgRep R) d 100) (tdHi (rgRep R) u 100) n = hd at *
      generalize hzn : n - sizeTo hd n = zn at *
      have hzn8 : zn ≤ n := HG0.out.small
      clear hzn
      have hlp := HG0.out.pos
      have hlm := HG0.out.most
      have hpm := HG0.out.pairs
      have hl0 : ¬ ls.length = 0 := by omega
      have hl0' : ¬ (ls.length : Int) = 0 := by omega
      have hl0b : ((ls.length : Int) == 0) = false := by rw [beq_eq_false_iff_ne]; omega
      go_wp2_with fail
      generalize W6.alloc (.cells (cellA tl th) 32) = W7 at *
      rename_i K hKt
      have HKT := Lib.hid hKt
      clear hKt
      go_loopw [16, 17] (fun c v wr => ∃ k : Nat, k ≤ ls.length ∧ v = .int .i64 k ∧ ∃ f : Bool, c = .bool f ∧ Hid (fnd ls (outs hd n) k = true → f = true) ∧ Hid (Below W7.heap.size W7 wr)) (fun _ v _ => ls.length - (intOf v).toNat)
      case atStart => exact ⟨0, by omega, rfl, false, rfl, Lib.hid (fun h => by cases h), Lib.hid (Below.refl _ _)⟩
      case round =>
        obtain ⟨k, hk, rfl, f, rfl, hfnd, hB⟩ := hrel
        by_cases hlt : k < ls.length
        · have hkn : (k : Int) < (ls.length : Int) := by omega
          have hk0 : (0 : Int) ≤ (k : Int) := by omega
          have L1 := Lib.hid (HLA.out.later hB.out)
          have P1 := Lib.hid (HPA.out.later hB.out)
          have T1 := Lib.hid (HTA.out.later hB.out)
          have X1 := Lib.hid (HX.out.later hB.out)
          have K2 := Lib.hid (keep_blk1 K1.out hB.out)
          have KC := Lib.hid (keep_bl1 KB.out hB.out)
          obtain ⟨b0, pi0, ci0, rfl, hc0⟩ := L1.out.head hlp
          rw [HG0.out.head hlp] at hc0
          obtain ⟨b, pi, ci, hbe, hbs, hbc, hbz⟩ := L1.out k hlt
          obtain rfl : b0 = b := by simpa using hbe
          obtain ⟨s, hls, hlz, hpo, hag⟩ := HG0.out.sets _ (List.getElem_mem hlt)
          have HLE := Lib.hid (show ls[k]?.getD [] = outs s n by rw [List.getElem?_eq_getElem hlt]; exact hls)
          have hbz' : ∀ z, z < zn → ∃ bi, pi = some ⟨bi, 0, none⟩ ∧ bi < wr.heap.size ∧ wr.cell? ⟨bi, z, none⟩ = some (.int .i64 (((outs s n)[z]?.getD 0 : Nat) : Int)) := fun z hz => by
            obtain ⟨bi, e1, e2, e3⟩ := hbz z (by omega)
            refine ⟨bi, e1, e2, e3.trans ?_⟩
            have : ls[k]? = some (outs s n) := by rw [List.getElem?_eq_getElem hlt, hls]
            have e9 : (ls[k]'hlt)[z]? = (outs s n)[z]? := by rw [hls]
            rw [← e9, List.getElem?_eq_getElem (by omega)]
            rfl
          rw [hlz] at hbc
          have hol : (outs s n).length = zn := by rw [← hls]; exact hlz
          have HOL := Lib.hid hol
          have HBZ := Lib.hid hbz'
          have HPO := Lib.hid hpo
          have HAG := Lib.hid hag
          clear hbz hbz' hls hlz hpo hag hbe hol
          obtain ⟨i0, hi, hz0, hz1, hz2⟩ := info_parts info4
          have hby : i0.bytes ≤ 1000 := by omega
          obtain ⟨wo, hwo⟩ : ∃ wo, wo = wr := ⟨_, rfl⟩
          subst hwo
          go_wp2_with (refine list_make rfl rfl rfl und78 hi hz0 hz1 hby (by omega) ?_; intro W8 h2 z2 b2)
          have HT := Lib.hid (BoolsB.made h2)
          have HB2 := Lib.hid b2
          have hz2' : wo.heap.size < W8.heap.size := by omega
          clear h2 b2 z2
          rename_i K2' hK2'
          have HK2 := Lib.hid hK2'
          clear hK2'
          go_loopw [20] (fun v wr => ∃ z : Nat, z ≤ zn ∧ v = .int .i64 z ∧ Hid (BoolsB wr wo.heap.size n (tk (outs s n) z)) ∧ Hid (Below wo.heap.size wo wr) ∧ wo.heap.size < wr.heap.size) (fun v _ => zn - (intOf v).toNat)
          case atStart => exact ⟨0, by omega, rfl, HT, HB2, hz2'⟩
          case round =>
            obtain ⟨z, hz, rfl, hT, hB2, hz3⟩ := hrel
            by_cases hzl : z < zn
            · have hzl' : (z : Int) < (zn : Int) := by omega
              have hzz : (0 : Int) ≤ (z : Int) := by omega
              obtain ⟨bi, rfl, hbi, hbc2⟩ := HBZ.out z hzl
              have hel : (outs s n)[z]?.getD 0 < n := by
                rw [List.getElem?_eq_getElem (by rw [HOL.out]; exact hzl)]
                exact (mem_outs.1 (List.getElem_mem _)).1
              have hci := (hB2.out.cell (p := ⟨bi, z, none⟩) hbi).trans hbc2
              have HTK := Lib.hid (fun j => (show tk (outs s n) (z + 1) j = (tk (outs s n) z j || ((outs s n)[z]?.getD 0 == j)) from rfl))
              have hprev : 0 < z → wr.cell? ⟨bi, z - 1, none⟩ = some (.int .i64 (((outs s n)[z - 1]?.getD 0 : Nat) : Int)) ∧ (outs s n)[z - 1]?.getD 0 < (outs s n)[z]?.getD 0 := fun h => by
                obtain ⟨bi', e1, e2, e3⟩ := HBZ.out (z - 1) (by omega)
                cases e1
                exact ⟨(hB2.out.cell (p := ⟨bi, z - 1, none⟩) e2).trans e3, outs_incr (by omega) (by rw [HOL.out]; exact hzl)⟩
              have HPR := Lib.hid hprev
              clear hprev hbc2
              generalize (outs s n)[z]?.getD 0 = e at *
              have hen : decide (n ≤ e) = false := decide_eq_false (by omega)
              have hneg : decide ((e : Int) < 0) = false := decide_eq_false (by omega)
              have he0 : (0 : Int) ≤ (e : Int) := by omega
              have he1 : (e : Int) < (n : Int) := by omega
              obtain ⟨hoc, hof⟩ := hT.out.cell hel
              generalize tk (outs s n) z e = ob at hoc
              by_cases hz00 : z = 0
              · have hzf : decide (0 < z) = false := decide_eq_false (by omega)
                have hzf' : decide ((0 : Int) < (z : Int)) = false := decide_eq_false (by omega)
                replace hz00 := Lib.hid hz00
                clear HPR
                go_wp2_with fail
                go_quiet (fail)
                go_wp2_with fail
                go_roundw
                case rel =>
                  refine ⟨z + 1, by omega, by go_num, ?_, Lib.hid ((below_drewN hB2.out _).setCell (p := ⟨wo.heap.size, e, none⟩) (Nat.le_refl _) _), by simp [World.setCell]; exact hz3⟩
                  refine Lib.hid ((hT.out.set e true).congr (fun i hi => ?_) : BoolsB _ _ _ _)
                  rw [HTK.out i]
                  by_cases h : i = e
                  · subst h; simp
                  · simp only [if_neg h]
                    have : (e == i) = false := by rw [beq_eq_false_iff_ne]; exact fun x => h x.symm
                    rw [this, Bool.or_false]
                case measure => simp [intOf]; omega
              · obtain ⟨hcp, hlt2⟩ := HPR.out (by omega)
                obtain ⟨y, rfl⟩ : ∃ y, z = y + 1 := ⟨z - 1, by omega⟩
                rw [show y + 1 - 1 = y from rfl] at hcp hlt2
                generalize (outs s n)[y]?.getD 0 = e' at *
                have hle : decide (e ≤ e') = false := decide_eq_false (by omega)
                have hzp : (0 : Int) < ((y + 1 : Nat) : Int) := by omega
                have hzp' : decide ((0 : Int) < ((y + 1 : Nat) : Int)) = true := decide_eq_true hzp
                have hw : IntKind.i64.wrap (((y + 1 : Nat) : Int) - 1) = (y : Int) := by rw [IntKind.wrap_i64]; omega
                have hy0 : (0 : Int) ≤ (y : Int) := by omega
                have hy1 : (y : Int) < (zn : Int) := by omega
                go_wp2_with fail
                go_quiet (fail)
                go_wp2_with fail
                go_roundw
                case rel =>
                  refine ⟨y + 1 + 1, by omega, by go_num, ?_, Lib.hid ((below_drewN hB2.out _).setCell (p := ⟨wo.heap.size, e, none⟩) (Nat.le_refl _) _), by simp [World.setCell]; exact hz3⟩
                  refine Lib.hid ((hT.out.set e true).congr (fun i hi => ?_) : BoolsB _ _ _ _)
                  rw [HTK.out i]
                  by_cases h : i = e
                  · subst h; simp
                  · simp only [if_neg h]
                    have : (e == i) = false := by rw [beq_eq_false_iff_ne]; exact fun x => h x.symm
                    rw [this, Bool.or_false]
                case measure => simp [intOf]; omega
            · obtain rfl : z = zn := by omega
              have HO := Lib.hid (hT.out.congr (f' := fun j => !s j) (fun j hj => by rw [← HOL.out, tk_outs hj]))
              clear hT HBZ
              go_wp2_with fail
              refine HK2.out _ _ ?_
              refine Blames_mid u d R n c1 _ cp ct _ k p1 pp pt ls ps hd s f w W7 wo wr HL.out KC.out K2.out X1.out P1.out T1.out HG0.out HS.out (by omega) HPO.out HAG.out HLE.out hfnd.out hB.out hB2.out hz3 HO.out _ _ _ _ _ _ _ _ _ _ _ _ _ _ _ _ _ _ _ _ _ _ _ _ _ _ _ _ _ _ _ _ _ _ _ _ _ _ _ _ _ _ _ _ _ _ _ _ _ _ _ _ _ _ _ _ _ _ _ _ _ _ _ _ _ _ _ _ _ _ _ _ _ _ _ _ _ _ _ _ _ _ _ _ _ _ _ _ _ _ _ _ _ _ _ _ _ _ _ _ _ _ _ _ _ _ _ _ _ _ _ _ _ _ _ _ _ _ _ _ _ _ _ _ _ _ _ _ _ _ _ _ _ _ _ _ _ _ _ _ _ _ _ _ _ _ _ _ _ _ _ _ _ _ _ _ _ _ _ _ _ _ _ _ _ _ _ _ _ _ _ _ _ _ _ _ _ _ _ _ _ _ _ _ _ _ _ _ _ _ _ _ _ _ _ _ _ _ _ _ _ _ _ _ _ _ _ _ _ _ _ _ _ _ _ _ _ _ _ _ _ _ _ _ _ _ _ _ _ _ _ _ _ _ _ _ _ _ _ _ _ _ _ _ _ _ _ _ _ _ _ _ _ _ _ _ _ _ _ _ _ _ _ _ _ _ _ _ _ _ _ _ _ _ _ _ _ _ _ _ _ _ _ _ _ _ _ _ _ _ _ _ _ _ _ _ _ _ _ ?_
              clear hfnd hB2 HO HPO HAG HLE L1 P1 T1 X1 K2 KC
              intro f' y6 y21 y22 y23 y24 y25 y26 y144 y145 y146 y147 y148 y149 y150 y151 y152 y153 y154 y155 y156 y157 y158 y159 y160 y161 y162 y163 y164 y165 y166 y167 y168 y169 y170 y171 y172 y173 y174 y175 y176 y177 y178 y179 y180 y181 y182 y183 y184 y185 y186 y187 y188 y189 y190 y191 y192 y193 y194 y195 y196 y197 y198 y199 y200 y201 y202 y203 y204 y205 y206 y207 y208 y209 y210 y211 y212 y213 y214 y215 y216 y217 y218 y219 y220 y221 y222 y223 y224 y225 y226 y227 y228 y229 y230 y231 y232 y233 y234 y235 y236 y237 y238 y239 y240 y241 y242 W' hf9 hb9
              have HF9 := Lib.hid hf9
              have HB9 := Lib.hid hb9
              clear hf9 hb9
              go_wp2_with fail
              go_roundw
              case rel => exact ⟨k + 1, by omega, by go_num, f', rfl, HF9, HB9⟩
              case measure => simp [intOf]; omega
        · obtain rfl : k = ls.length := by omega
          have hft : f = true := hfnd.out (fnd_true HG0.out.hdm)
          subst hft
          replace K1 := Lib.hid (keep_blk1 K1.out hB.out)
          replace KB := Lib.hid (keep_bl1 KB.out hB.out)
          replace HX := Lib.hid (HX.out.later hB.out)
          replace HLA := Lib.hid (HLA.out.later hB.out)
          clear hB hfnd HPA HTA
          go_wp2_with fail
          refine HKT.out _ _ ?_
          exact Blames_tail u d R n c1 _ cl cp zn set p1 _ pp ls ps hd w wr HL.out KB.out K1.out HX.out HLA.out HG0.out HS.out (by omega) _ _ _ _ _ _ _ _ _ _ _ _ _ _ _ _ _ _ _ _ _ _ _ _ _ _ _ _ _ _ _ _ _ _ _ _ _ _ _ _ _ _ _ _ _ _ _ _ _ _ _ _ _ _ _ _ _ _ _ _ _ _ _ _ _ _ _ _ _ _ _ _ _ _ _ _ _ _ _ _ _ _ _ _ _ _ _ _ _ _ _ _ _ _ _ _ _ _ _ _ _ _ _ _ _ _ _ _ _ _ _ _ _ _ _ _ _ _ _ _ _ _ _ _ _ _ _ _ _ _ _ _ _ _ _ _ _ _ _ _ _ _ _ _ _ _ _ _ _ _ _ _ _ _ _ _ _ _ _ _ _ _ _ _ _ _ _ _ _ _ _ _ _ _ _ _ _ _ _ _ _ _ _ _ _ _ _ _ _ _ _ _ _ _ _ _ _ _ _ _ _ _ _ _ _ _ _ _ _ _ _ _ _ _ _ _ _ _ _ _ _ _ _ _ _ _ _ _ _ _ _ _ _ _ _ _ _ _ _ _ _ _ _ _ _ _ _ _ _ _ _ _ _ _ _ _ _ _ _ _ _ _ _ _ _ _ _ _ _ _ _ _ _ _ _ _ _ _ _ _ _ _ _ _ _ _ _ _ _ _ _ _ _ _ _ _ _ _
    · have he0 : errB (okRates u d) 6 = 6 := by
        cases e : okRates u d with
        | true => exact absurd e hr
        | false => rfl
      rw [he0]
      go_wp2_with fail
      refine (awake_any W2 (HL.out.below hpos KB.out)).mono ?_
      rintro e W ⟨rfl, hb⟩
      replace KB := Lib.hid (keep_bl1 KB.out hb)
      clear hb
      go_wp2_with fail
      go_ret
      exact ⟨rfl, KB.out⟩
end Go.Proofs.YtdcpmdigihbdpaaDoor
