/- The law's awake: it yields true. The table of limits holds 100, 400, 100, 3. -/
import Derived.Test.YtdcpmdigihbdpaaDoorSa
import Derived.Laws.StructEq
import Derived.Test.YtdcpmdigihbdpaaDoorSb
import Derived.Test.YtdcpmdigihbdpaaDoorSf
import Derived.Test.YtdcpmdigihbdpaaDoorSg
import Derived.Test.YtdcpmdigihbdpaaDoorSh
import Derived.Test.YtdcpmdigihbdpaaDoorSi
namespace Go.Proofs.YtdcpmdigihbdpaaDoor
open Go.RowKit
set_option maxRecDepth 100000
abbrev zr : Nat → Int := fun _ => 0
theorem fine3 : Fine zr zr 0 threeR 3 := ⟨by decide +kernel, by decide, by decide +kernel⟩
theorem fine0 : Fine zr zr 0 threeR 0 := ⟨by decide +kernel, by decide, rfl⟩
theorem conf3 : cfOut (tdLo threeR zr 0) (tdHi threeR zr 0) 3 3 = [(0, 2)] := by decide +kernel
theorem head3 : (List.range 12).map (headS (tdLo threeR zr 0) (tdHi threeR zr 0) 3) = [true, true, false, false, false, false, false, false, false, false, false, false] := by decide +kernel
def aLo (q : Nat) : Int := if q = 0 then 40 else 0
def aHi (q : Nat) : Int := if q = 0 then 60 else 0
def aU (q : Nat) : Int := if q = 0 then 10 else 0
def aD (q : Nat) : Int := if q = 0 then 24 else 0
theorem age3 : ageRes aLo aHi aU aD 30 = .tuple #[.agg (cellA (agLo aLo aD 30) (agHi aHi aU 30)), .int .i64 0] := by
  have : ageE aLo aHi aU aD 30 = 0 := by decide +kernel
  unfold ageRes
  rw [if_pos this]
theorem age3b : agLo aLo aD 30 0 = 10 ∧ agHi aHi aU 30 0 = 73 := by decide +kernel
theorem x3 : cmLo (headS (tdLo threeR zr 0) (tdHi threeR zr 0) 3) (tdLo threeR zr 0) 3 1 = 45 ∧ cmHi (headS (tdLo threeR zr 0) (tdHi threeR zr 0) 3) (tdHi threeR zr 0) 3 1 = 50 := by decide +kernel
theorem blame3 : blameL (tdLo threeR zr 0) (tdHi threeR zr 0) 3 = [[0], [2]] := by decide +kernel
theorem guilt3 : guiltF (blameL (tdLo threeR zr 0) (tdHi threeR zr 0) 3) 0 = 1 ∧ guiltF (blameL (tdLo threeR zr 0) (tdHi threeR zr 0) 3) 1 = 0 ∧ guiltF (blameL (tdLo threeR zr 0) (tdHi threeR zr 0) 3) 2 = 1 := by decide +kernel
theorem fuse0 : fuRes (tdLo threeR zr 0) (tdHi threeR zr 0) 0 = .tuple #[.agg (cellA (fun _ => 0) lim), .int .i64 0] := by
  have : cmOK allT (tdLo threeR zr 0) (tdHi threeR zr 0) 0 = true := rfl
  unfold fuRes
  rw [if_pos this]
  rfl
theorem head3b : boolL (headS (tdLo threeR zr 0) (tdHi threeR zr 0) 3) 3 = truL [true, true, false] := by
  have : (List.range 3).map (headS (tdLo threeR zr 0) (tdHi threeR zr 0) 3) = [true, true, false] := by decide +kernel
  unfold boolL truL
  rw [← this]
  simp
theorem cellsV_of_block {W : World} {b : Nat} {l : List Value} {t : TypeId} (h : W.heap[b]? = some (.cells l.toArray t (0, 0))) : CellsV W (some ⟨b, 0, none⟩) l := fun i v hv => ⟨b, rfl, lt_of_block h, (cell_of_block h i).trans (by simpa using hv)⟩
theorem cellsV_of_ints {W : World} {g : Nat} {f : Nat → Int} (h : IntsB W g 3 f) (h0 : f 0 = 1) (h1 : f 1 = 0) (h2 : f 2 = 1) : CellsV W (some ⟨g, 0, none⟩) (intL [1, 0, 1]) := fun i v hv => by
  obtain ⟨arr, hb, _, ha⟩ := id h
  have hi : i < 3 := by
    have := (List.getElem?_eq_some_iff.1 hv).1
    simpa [intL] using this
  refine ⟨g, rfl, lt_of_block hb, ?_⟩
  rw [(h.cell hi).1]
  match i, hi with
  | 0, _ => rw [h0]; exact hv
  | 1, _ => rw [h1]; exact hv
  | 2, _ => rw [h2]; exact hv
theorem eq77 (W : World) : (binOp BinOp.eql 77 (.agg #[.int .i64 0, .int .i64 2]) (.agg #[.int .i64 0, .int .i64 2])).run Tryd.prog W = .ok (.bool true) W := by kernel_rfl
theorem eqIn77 (W : World) : (Op.equalIn 10000 77 (.agg #[.int .i64 0, .int .i64 2]) (.agg #[.int .i64 0, .int .i64 2])).run Tryd.prog W = .ok true W := by kernel_rfl
theorem reps0 (W : World) : Reps W none 0 threeR := fun i hi => by omega
set_option maxHeartbeats 4000000 in
theorem awake_any (w : World) (hl : Lim w) : Calls Tryd.prog 10 #[] w fun e w' => e = .returned (.bool true) ∧ Below w.heap.size w w' := by
  have hpos := hl.pos
  have HL := Lib.hid hl
  clear hl
  go_enter Tryd.func10, Tryd.ntmps10
  go_wp2_with fail
  refine (Age_any aLo aHi aU aD 30 w HL.out).mono ?_
  rw [age3]
  rintro e W1 ⟨rfl, hb1⟩
  have B1 := Lib.hid hb1
  clear hb1
  go_wp2_with fail
  have C1 := Lib.hid (block_new W1 (.cells (cellA (agLo aLo aD 30) (agHi aHi aU 30)) 32))
  have CB := Lib.hid (B1.out.alloc B1.out.size (.cells (cellA (agLo aLo aD 30) (agHi aHi aU 30)) 32))
  have cz : W1.heap.size < (W1.alloc (.cells (cellA (agLo aLo aD 30) (agHi aHi aU 30)) 32)).heap.size := by simp
  generalize W1.alloc (.cells (cellA (agLo aLo aD 30) (agHi aHi aU 30)) 32) = V1 at *
  refine (three_any V1).mono ?_
  rintro e W2 ⟨p2, c2, rfl, hR2, hb2⟩
  have HR2 := Lib.hid hR2
  have D1 := Lib.hid ((hb2.block _ cz).trans C1.out)
  have DB := Lib.hid (CB.out.trans (hb2.mono CB.out.size))
  have z2 := hb2.size
  clear hR2 hb2 C1 CB B1
  go_wp2_with fail
  refine (Conflicts_fine zr zr 0 p2 3 c2 threeR fine3 W2 (HL.out.below hpos DB.out) HR2.out).mono ?_
  rw [conf3]
  rintro e W3 ⟨v3, rfl, hr3, hb3⟩
  obtain ⟨g3, c3, rfl⟩ := ownsRow_succ (k := 0) hr3
  have H3 := Lib.hid hr3
  have E1 := Lib.hid ((hb3.block _ (by omega)).trans D1.out)
  have EB := Lib.hid (DB.out.trans (hb3.mono DB.out.size))
  have z3 := hb3.size
  clear hr3 hb3 D1 DB
  go_wp2_with fail
  refine (three_any W3).mono ?_
  rintro e W4 ⟨p4, c4, rfl, hR4, hb4⟩
  have HR4 := Lib.hid hR4
  have H34 := Lib.hid (row_later H3.out hb4)
  have F1 := Lib.hid ((hb4.block _ (by omega)).trans E1.out)
  have FB := Lib.hid (EB.out.trans (hb4.mono EB.out.size))
  have z4 := hb4.size
  clear hR4 hb4 E1 EB H3
  go_wp2_with fail
  refine (Trust_fine zr zr 0 p4 3 c4 threeR fine3 W4 (HL.out.below hpos FB.out) HR4.out).mono ?_
  rintro e W5 ⟨v5, rfl, hr5, hb5⟩
  obtain ⟨g5, c5, rfl⟩ := ownsRow_succ hr5
  have z5 := hb5.size
  have bal := Below.heap_alloc W5 (.cells (cellA (cmLo (headS (tdLo threeR zr 0) (tdHi threeR zr 0) 3) (tdLo threeR zr 0) 3) (cmHi (headS (tdLo threeR zr 0) (tdHi threeR zr 0) 3) (tdHi threeR zr 0) 3)) 32)
  have H5 := Lib.hid (hr5.alloc (.cells (cellA (cmLo (headS (tdLo threeR zr 0) (tdHi threeR zr 0) 3) (tdLo threeR zr 0) 3) (cmHi (headS (tdLo threeR zr 0) (tdHi threeR zr 0) 3) (tdHi threeR zr 0) 3)) 32))
  have H35 := Lib.hid ((row_later H34.out hb5).alloc (.cells (cellA (cmLo (headS (tdLo threeR zr 0) (tdHi threeR zr 0) 3) (tdLo threeR zr 0) 3) (cmHi (headS (tdLo threeR zr 0) (tdHi threeR zr 0) 3) (tdHi threeR zr 0) 3)) 32))
  have G1 := Lib.hid ((bal W1.heap.size (by omega)).trans ((hb5.block _ (by omega)).trans F1.out))
  have G6 := Lib.hid (block_new W5 (.cells (cellA (cmLo (headS (tdLo threeR zr 0) (tdHi threeR zr 0) 3) (tdLo threeR zr 0) 3) (cmHi (headS (tdLo threeR zr 0) (tdHi threeR zr 0) 3) (tdHi threeR zr 0) 3)) 32))
  have GB := Lib.hid ((FB.out.trans (hb5.mono FB.out.size)).alloc (Nat.le_trans FB.out.size z5) (.cells (cellA (cmLo (headS (tdLo threeR zr 0) (tdHi threeR zr 0) 3) (tdLo threeR zr 0) 3) (cmHi (headS (tdLo threeR zr 0) (tdHi threeR zr 0) 3) (tdHi threeR zr 0) 3)) 32))
  have gz : W5.heap.size < (W5.alloc (.cells (cellA (cmLo (headS (tdLo threeR zr 0) (tdHi threeR zr 0) 3) (tdLo threeR zr 0) 3) (cmHi (headS (tdLo threeR zr 0) (tdHi threeR zr 0) 3) (tdHi threeR zr 0) 3)) 32)).heap.size := by simp
  clear hr5 hb5 bal H34 F1 FB
  go_wp2_with fail
  generalize W5.alloc (.cells (cellA (cmLo (headS (tdLo threeR zr 0) (tdHi threeR zr 0) 3) (tdLo threeR zr 0) 3) (cmHi (headS (tdLo threeR zr 0) (tdHi threeR zr 0) 3) (tdHi threeR zr 0) 3)) 32) = V5 at *
  refine (three_any V5).mono ?_
  rintro e W6 ⟨p6, c6, rfl, hR6, hb6⟩
  have HR6 := Lib.hid hR6
  have H56 := Lib.hid (row_later H5.out hb6)
  have H36 := Lib.hid (row_later H35.out hb6)
  have I1 := Lib.hid ((hb6.block _ (by omega)).trans G1.out)
  have I6 := Lib.hid ((hb6.block _ gz).trans G6.out)
  have IB := Lib.hid (GB.out.trans (hb6.mono GB.out.size))
  have z6 := hb6.size
  clear hR6 hb6 H5 H35 G1 G6 GB
  go_wp2_with fail
  refine (Blame_fine zr zr 0 p6 3 c6 threeR fine3 W6 (HL.out.below hpos IB.out) HR6.out).mono ?_
  rw [blame3]
  rintro e W7 ⟨v7, rfl, hL7, hb7⟩
  obtain ⟨p7, c7, rfl, _⟩ := lists_slice hL7
  have HL7 := Lib.hid hL7
  have H57 := Lib.hid (row_later H56.out hb7)
  have H37 := Lib.hid (row_later H36.out hb7)
  have J1 := Lib.hid ((hb7.block W1.heap.size (by omega)).trans I1.out)
  have J6 := Lib.hid ((hb7.block W5.heap.size (by omega)).trans I6.out)
  have JB := Lib.hid (IB.out.trans (hb7.mono IB.out.size))
  have z7 := hb7.size
  clear hL7 hb7 H56 H36 I1 I6 IB
  go_wp2_with fail
  refine (three_any W7).mono ?_
  rintro e W8 ⟨p8, c8, rfl, hR8, hb8⟩
  have HR8 := Lib.hid hR8
  have HL8 := Lib.hid (HL7.out.later hb8)
  have H58 := Lib.hid (row_later H57.out hb8)
  have H38 := Lib.hid (row_later H37.out hb8)
  have K1 := Lib.hid ((hb8.block W1.heap.size (by omega)).trans J1.out)
  have K6 := Lib.hid ((hb8.block W5.heap.size (by omega)).trans J6.out)
  have KB := Lib.hid (JB.out.trans (hb8.mono JB.out.size))
  have z8 := hb8.size
  clear hR8 hb8 HL7 H57 H37 J1 J6 JB
  go_wp2_with fail
  refine (Guilt_fine zr zr 0 p8 3 c8 threeR fine3 W8 (HL.out.below hpos KB.out) HR8.out).mono ?_
  rintro e W9 ⟨g9, rfl, hg91, hg92, hI9, hb9⟩
  have HI9 := Lib.hid hI9
  have HL9 := Lib.hid (HL8.out.later hb9)
  have H59 := Lib.hid (row_later H58.out hb9)
  have H39 := Lib.hid (row_later H38.out hb9)
  have L1 := Lib.hid ((hb9.block W1.heap.size (by omega)).trans K1.out)
  have L6 := Lib.hid ((hb9.block W5.heap.size (by omega)).trans K6.out)
  have LB := Lib.hid (KB.out.trans (hb9.mono KB.out.size))
  have z9 := hb9.size
  clear hI9 hb9 HL8 H58 H38 K1 K6 KB
  go_wp2_with fail
  refine (Fuse_fine zr zr 0 none 0 0 threeR fine0 W9 (HL.out.below hpos LB.out) (reps0 W9)).mono ?_
  rw [fuse0]
  rintro e W10 ⟨rfl, hb10⟩
  have z10 := hb10.size
  have bal := Below.heap_alloc W10 (.cells (cellA (fun _ => 0) lim) 32)
  have HI10 := Lib.hid ((HI9.out.of_heap (hb10.block g9 hg92)).of_heap (bal g9 (by omega)))
  have bab : Below W10.heap.size W10 (W10.alloc (.cells (cellA (fun _ => 0) lim) 32)) := (Below.refl _ _).alloc (Nat.le_refl _) _
  have HL10 := Lib.hid ((HL9.out.later hb10).later bab)
  have H510 := Lib.hid (row_later (row_later H59.out hb10) bab)
  have H310 := Lib.hid (row_later (row_later H39.out hb10) bab)
  have M1 := Lib.hid ((bal W1.heap.size (by omega)).trans ((hb10.block W1.heap.size (by omega)).trans L1.out))
  have M6 := Lib.hid ((bal W5.heap.size (by omega)).trans ((hb10.block W5.heap.size (by omega)).trans L6.out))
  have M12 := Lib.hid (block_new W10 (.cells (cellA (fun _ => 0) lim) 32))
  have MB := Lib.hid ((LB.out.trans (hb10.mono LB.out.size)).alloc (Nat.le_trans LB.out.size z10) (.cells (cellA (fun _ => 0) lim) 32))
  have mz : W10.heap.size < (W10.alloc (.cells (cellA (fun _ => 0) lim) 32)).heap.size := by simp
  clear hb10 bal bab HI9 HL9 H59 H39 L1 L6 LB
  go_wp2_with fail
  generalize W10.alloc (.cells #[.int .i64 0, .int .i64 (lim 0), .int .i64 0, .int .i64 (lim 1), .int .i64 0, .int .i64 (lim 2), .int .i64 0, .int .i64 (lim 3)] 32) = V10 at *
  obtain ⟨⟨q0, q1, _⟩, _⟩ := cells8 M1.out
  obtain ⟨⟨_, _, r2, r3, _⟩, _⟩ := cells8 M6.out
  obtain ⟨⟨s0, s1, s2, s3, s4, s5, s6, s7⟩, _⟩ := cells8 M12.out
  rw [age3b.1] at q0
  rw [age3b.2] at q1
  rw [x3.1] at r2
  rw [x3.2] at r3
  have l1 : W1.heap.size < V10.heap.size := by omega
  have l5 : W5.heap.size < V10.heap.size := by omega
  have q0' := later_cell l1 q0
  have q1' := later_cell l1 q1
  have r2' := later_cell l5 r2
  have r3' := later_cell l5 r3
  have s0' := later_cell mz s0
  have s1' := later_cell mz s1
  have s2' := later_cell mz s2
  have s3' := later_cell mz s3
  have s4' := later_cell mz s4
  have s5' := later_cell mz s5
  have s6' := later_cell mz s6
  have s7' := later_cell mz s7
  have HW := Lib.hid (fun (x : Later V10) => Whole_any x.world (HL.out.below hpos (MB.out.trans (x.below.mono MB.out.size))))
  haveI : Nonempty (Later V10) := ⟨⟨V10, Below.refl _ _⟩⟩
  clear q0 q1 r2 r3 s0 s1 s2 s3 s4 s5 s6 s7 M1 M6 M12
  refine wp_region_later (by kernel_rfl) (by kernel_rfl) ?_
  repeat (go_big_quiet_step ((go_at_call 18; exact later_call (HW.out _))))
  refine wpQuiet_nil ?_
  intro X0 hw'
  obtain ⟨⟨Xq, hX0⟩, hXe⟩ := hw'
  change X0 = Xq at hXe
  rw [← hXe] at hX0
  clear hXe Xq
  have P3 := Lib.hid (row_later H310.out hX0)
  have P5 := Lib.hid (row_later H510.out hX0)
  have P7 := Lib.hid (HL10.out.later hX0)
  have P9 := Lib.hid (HI10.out.of_heap (hX0.block g9 (by omega)))
  have PB := Lib.hid (MB.out.trans (hX0.mono MB.out.size))
  have zX := hX0.size
  clear hX0 H310 H510 HL10 HI10 MB q0' q1' r2' r3' s0' s1' s2' s3' s4' s5' s6' s7'
  have t30 := P3.out.cells (g := g3) rfl 0 (.int .i64 0) rfl
  have t31 := P3.out.cells (g := g3) rfl 1 (.int .i64 2) rfl
  rw [Addr.add_lit] at t30 t31
  simp only [Nat.zero_add] at t30 t31
  obtain ⟨p', c', ep, hc⟩ := lists_slice P7.out
  obtain ⟨b7, u0, rfl, hb7l, hu0, hO0⟩ := hc 0 (by decide)
  obtain ⟨b7', u1, eb, _, hu1, hO1⟩ := hc 1 (by decide)
  obtain rfl : b7 = b7' := by simpa using eb
  simp only [Value.slice.injEq] at ep
  obtain ⟨rfl, _, rfl⟩ := ep
  obtain ⟨pu0, cu0, rfl, hcu0⟩ := outs_cells hO0
  obtain ⟨pu1, cu1, rfl, hcu1⟩ := outs_cells hO1
  have R0 := Lib.hid (cellsV_of_row hO0.row)
  have R1 := Lib.hid (cellsV_of_row hO1.row)
  clear hc hO0 hO1 hcu0 hcu1
  have q77 := eqIn77 X0
  go_wp2_with fail
  have S0 := block_new X0 (.cells #[.bool true, .bool true, .bool false] 4)
  have SB := (Below.refl X0.heap.size X0).alloc (Nat.le_refl _) (.cells #[.bool true, .bool true, .bool false] 4)
  have r5 := cellsV_of_row P5.out
  rw [head3b] at r5
  refine (SameTruths_any (some ⟨g5, 0, none⟩) (some ⟨X0.heap.size, 0, none⟩) c5 3 [true, true, false] [true, true, false] (by decide) (by decide) _ (r5.later SB) (cellsV_of_block S0)).mono ?_
  have S5 := SB
  have y0 := R0.out.later SB
  have y1 := R1.out.later SB
  have y9 := (cellsV_of_ints P9.out guilt3.1 guilt3.2.1 guilt3.2.2).later SB
  have u70 := (SB.cell (p := ⟨b7, 0, none⟩) hb7l).trans hu0
  have u71 := (SB.cell (p := ⟨b7, 1, none⟩) hb7l).trans hu1
  have QB := Lib.hid (PB.out.trans (SB.mono PB.out.size))
  clear S0 r5 SB R0 R1 P3 P5 P7 P9 hu0 hu1 t30 t31 q77
  generalize X0.alloc (.cells #[.bool true, .bool true, .bool false] 4) = X1 at *
  rintro e X2 ⟨rfl, hb2⟩
  have lb7 : b7 < X1.heap.size := Nat.lt_of_lt_of_le hb7l S5.size
  have LB2 := Lib.hid (Nat.lt_of_lt_of_le lb7 hb2.size)
  replace u70 := (hb2.cell (p := ⟨b7, 0, none⟩) lb7).trans u70
  replace u71 := (hb2.cell (p := ⟨b7, 1, none⟩) lb7).trans u71
  replace y0 := Lib.hid (y0.later hb2)
  replace y1 := Lib.hid (y1.later hb2)
  replace y9 := Lib.hid (y9.later hb2)
  have QB2 := Lib.hid (QB.out.trans (hb2.mono QB.out.size))
  clear hb2 QB S5
  go_wp2_with fail
  have S0 := block_new X2 (.cells #[.int .i64 0] 3)
  have SB := (Below.refl X2.heap.size X2).alloc (Nat.le_refl _) (.cells #[.int .i64 0] 3)
  refine (SameInts_any pu0 (some ⟨X2.heap.size, 0, none⟩) cu0 1 [0] [0] (by decide) (by decide) _ (y0.out.later SB) (cellsV_of_block S0)).mono ?_
  have v71 := (SB.cell (p := ⟨b7, 1, none⟩) LB2.out).trans u71
  have v1 := y1.out.later SB
  have v9 := y9.out.later SB
  have RB := Lib.hid (QB2.out.trans (SB.mono QB2.out.size))
  have LB3 := Lib.hid (Nat.lt_of_lt_of_le LB2.out SB.size)
  clear S0 SB y0 y1 y9 u70 u71 QB2
  generalize X2.alloc (.cells #[.int .i64 0] 3) = X3 at *
  rintro e X4 ⟨rfl, hb4⟩
  replace v71 := (hb4.cell (p := ⟨b7, 1, none⟩) LB3.out).trans v71
  replace v1 := Lib.hid (v1.later hb4)
  replace v9 := Lib.hid (v9.later hb4)
  have RB4 := Lib.hid (RB.out.trans (hb4.mono RB.out.size))
  clear hb4 RB
  go_wp2_with fail
  have S0 := block_new X4 (.cells #[.int .i64 2] 3)
  have SB := (Below.refl X4.heap.size X4).alloc (Nat.le_refl _) (.cells #[.int .i64 2] 3)
  refine (SameInts_any pu1 (some ⟨X4.heap.size, 0, none⟩) cu1 1 [2] [2] (by decide) (by decide) _ (v1.out.later SB) (cellsV_of_block S0)).mono ?_
  have w9 := v9.out.later SB
  have TB := Lib.hid (RB4.out.trans (SB.mono RB4.out.size))
  clear S0 SB v1 v9 v71 RB4
  generalize X4.alloc (.cells #[.int .i64 2] 3) = X5 at *
  rintro e X6 ⟨rfl, hb6⟩
  replace w9 := Lib.hid (w9.later hb6)
  have TB6 := Lib.hid (TB.out.trans (hb6.mono TB.out.size))
  clear hb6 TB
  go_wp2_with fail
  have S0 := block_new X6 (.cells #[.int .i64 1, .int .i64 0, .int .i64 1] 3)
  have SB := (Below.refl X6.heap.size X6).alloc (Nat.le_refl _) (.cells #[.int .i64 1, .int .i64 0, .int .i64 1] 3)
  refine (SameInts_any (some ⟨g9, 0, none⟩) (some ⟨X6.heap.size, 0, none⟩) 3 3 [1, 0, 1] [1, 0, 1] (by decide) (by decide) _ (w9.out.later SB) (cellsV_of_block S0)).mono ?_
  have UB := Lib.hid (TB6.out.trans (SB.mono TB6.out.size))
  clear S0 SB w9 TB6
  generalize X6.alloc (.cells #[.int .i64 1, .int .i64 0, .int .i64 1] 3) = X7 at *
  rintro e X8 ⟨rfl, hb8⟩
  have UB8 := Lib.hid (UB.out.trans (hb8.mono UB.out.size))
  clear hb8 UB
  go_wp2_with fail
  go_ret
  exact ⟨by simp, UB8.out⟩
end Go.Proofs.YtdcpmdigihbdpaaDoor
