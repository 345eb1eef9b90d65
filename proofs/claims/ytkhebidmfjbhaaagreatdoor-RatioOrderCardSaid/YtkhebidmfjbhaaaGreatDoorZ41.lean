/-
  The law RatioOrder answers true.
-/
import Derived.Test.YtkhebidmfjbhaaaGreatDoorZ40
import Derived.Deep.RegionHeld3
import Derived.Deep.Cut
import Derived.BigQuiet
namespace Go.Proofs.YtkhebidmfjbhaaaGreatDoor
open Go.RowKit

set_option maxHeartbeats 8000000 in
set_option maxRecDepth 100000 in
theorem order_any (a0 a1 : ByteArray) (b0 b1 : ByteArray) (c0 c1 : ByteArray) (w : World) (tb : Tb w) (ha0 : a0.size ≤ 9223372036854775807) (ha1 : a1.size ≤ 9223372036854775807) (hb0 : b0.size ≤ 9223372036854775807) (hb1 : b1.size ≤ 9223372036854775807) (hc0 : c0.size ≤ 9223372036854775807) (hc1 : c1.size ≤ 9223372036854775807) :
    Calls Tryz.prog 8 #[.agg #[.string a0, .string a1], .agg #[.string b0, .string b1], .agg #[.string c0, .string c1]] w fun e w' => e = .returned (.bool true) ∧ Below w.heap.size w w' := by
  go_enter Tryz.func8, Tryz.ntmps8
  go_wp2_with fail
  obtain ⟨W0, hW0⟩ : ∃ W0, W0 = (((w.alloc (.cells #[.string a0, .string a1] 56)).alloc (.cells #[.string b0, .string b1] 56)).alloc (.cells #[.string c0, .string c1] 56)) := ⟨_, rfl⟩
  have BW := Lib.hid (show Below w.heap.size w W0 from by rw [hW0]; exact (bel_alloc (bel_alloc (bel_alloc (Below.refl w.heap.size w)))))
  have X0 : Bx2 W0 (w.heap.size) a0 a1 := by rw [hW0]; exact (((Bx2.new w a0 a1 56 (w.heap.size) (by first | rfl | (simp; done) | (simp; omega))).below (alloc_below _ _)).below (alloc_below _ _))
  have X1 : Bx2 W0 (w.heap.size + 1) b0 b1 := by rw [hW0]; exact ((Bx2.new (w.alloc (.cells #[.string a0, .string a1] 56)) b0 b1 56 (w.heap.size + 1) (by first | rfl | (simp; done) | (simp; omega))).below (alloc_below _ _))
  have X2 : Bx2 W0 (w.heap.size + 1 + 1) c0 c1 := by rw [hW0]; exact (Bx2.new ((w.alloc (.cells #[.string a0, .string a1] 56)).alloc (.cells #[.string b0, .string b1] 56)) c0 c1 56 (w.heap.size + 1 + 1) (by first | rfl | (simp; done) | (simp; omega)))
  have KC := Lib.hid (show ∀ W, Below W0.heap.size W0 W → (W.cell? ⟨w.heap.size, 0, none⟩ = some (.string a0) ∧ W.cell? ⟨w.heap.size, 1, none⟩ = some (.string a1)) ∧ (W.cell? ⟨w.heap.size + 1, 0, none⟩ = some (.string b0) ∧ W.cell? ⟨w.heap.size + 1, 1, none⟩ = some (.string b1)) ∧ (W.cell? ⟨w.heap.size + 1 + 1, 0, none⟩ = some (.string c0) ∧ W.cell? ⟨w.heap.size + 1 + 1, 1, none⟩ = some (.string c1)) from fun W hb => ⟨⟨(X0.below hb).c0, (X0.below hb).c1⟩, ⟨(X1.below hb).c0, (X1.below hb).c1⟩, ⟨(X2.below hb).c0, (X2.below hb).c1⟩⟩)
  have Fa := Lib.hid (fun W => (show Calls Tryz.prog 65 #[.string a0, .string a1, .int .i64 60] W (fun e w' => ∃ q : Rat, Sm 60 q ∧ GivesY (qx q) W e w') from fit3_any a0 a1 60 W ha0 ha1 (by omega) (by omega)))
  have Fb := Lib.hid (fun W => (show Calls Tryz.prog 65 #[.string b0, .string b1, .int .i64 60] W (fun e w' => ∃ q : Rat, Sm 60 q ∧ GivesY (qx q) W e w') from fit3_any b0 b1 60 W hb0 hb1 (by omega) (by omega)))
  have Fc := Lib.hid (fun W => (show Calls Tryz.prog 65 #[.string c0, .string c1, .int .i64 60] W (fun e w' => ∃ q : Rat, Sm 60 q ∧ GivesY (qx q) W e w') from fit3_any c0 c1 60 W hc0 hc1 (by omega) (by omega)))
  rw [← hW0]
  clear hW0 X0 X1 X2
  have HB := Lib.hid (Below.refl W0.heap.size W0)
  go_upto_region 1 with fail
  go_cut [7, 8, 9] from 10 (fun xX xY xZ W => ∃ (X Y Z : Rat) (SX SY SZ : ByteArray), Sm 60 X ∧ SX = qx X ∧ xX = .string SX ∧ Sm 60 Y ∧ SY = qx Y ∧ xY = .string SY ∧ Sm 60 Z ∧ SZ = qx Z ∧ xZ = .string SZ ∧ Below W0.heap.size W0 W)
  case first =>
    go_region_held3 (fun W => (W.cell? ⟨w.heap.size, 0, none⟩ = some (.string a0) ∧ W.cell? ⟨w.heap.size, 1, none⟩ = some (.string a1)) ∧ (W.cell? ⟨w.heap.size + 1, 0, none⟩ = some (.string b0) ∧ W.cell? ⟨w.heap.size + 1, 1, none⟩ = some (.string b1)) ∧ (W.cell? ⟨w.heap.size + 1 + 1, 0, none⟩ = some (.string c0) ∧ W.cell? ⟨w.heap.size + 1 + 1, 1, none⟩ = some (.string c1))) (exact KC.out _ (by ((repeat (with_reducible apply bel_drew)); with_reducible exact HB.out))) (first | (go_at_call 65; refine armL (b := W0) (by ((repeat (with_reducible apply bel_drew)); with_reducible exact HB.out)) (by with_reducible exact Fa.out _) ?_; rintro e w1 ⟨⟨X, hX, rfl, hb1⟩, G⟩; obtain ⟨SX, hSX⟩ : ∃ s, s = qx X := ⟨_, rfl⟩; rw [← hSX]; have HSX := Lib.hid hSX; have HMX := Lib.hid hX; replace HB := Lib.hid (G.trans (hb1.mono G.size)); clear hSX hX hb1 G) | (go_at_call 65; refine armL (b := W0) (by ((repeat (with_reducible apply bel_drew)); with_reducible exact HB.out)) (by with_reducible exact Fb.out _) ?_; rintro e w1 ⟨⟨Y, hY, rfl, hb1⟩, G⟩; obtain ⟨SY, hSY⟩ : ∃ s, s = qx Y := ⟨_, rfl⟩; rw [← hSY]; have HSY := Lib.hid hSY; have HMY := Lib.hid hY; replace HB := Lib.hid (G.trans (hb1.mono G.size)); clear hSY hY hb1 G) | (go_at_call 65; refine armL (b := W0) (by ((repeat (with_reducible apply bel_drew)); with_reducible exact HB.out)) (by with_reducible exact Fc.out _) ?_; rintro e w1 ⟨⟨Z, hZ, rfl, hb1⟩, G⟩; obtain ⟨SZ, hSZ⟩ : ∃ s, s = qx Z := ⟨_, rfl⟩; rw [← hSZ]; have HSZ := Lib.hid hSZ; have HMZ := Lib.hid hZ; replace HB := Lib.hid (G.trans (hb1.mono G.size)); clear hSZ hZ hb1 G) | fail)
    all_goals (go_wp2_with fail; go_meet; case rel => exact ⟨X, Y, Z, SX, SY, SZ, HMX.out, HSX.out, rfl, HMY.out, HSY.out, rfl, HMZ.out, HSZ.out, rfl, (by ((repeat (with_reducible apply bel_drew)); with_reducible exact HB.out))⟩)
  case rest =>
    obtain ⟨X, Y, Z, SX, SY, SZ, hX, hSX, rfl, hY, hSY, rfl, hZ, hSZ, rfl, hB⟩ := hcut
    have B0 := Lib.hid (BW.out.trans (hB.mono BW.out.size))
    have T0 := Lib.hid (tb.below (BW.out.trans (hB.mono BW.out.size)))
    clear HB KC BW hB Fa Fb Fc ha0 ha1 hb0 hb1 hc0 hc1
    have AW := Lib.hid (fun W (tb : Tb W) => awake3_any W tb)
    have k (n : Nat) {a : Rat} (h : Sm n a) (hn : n ≤ 1000) : Sm 1000 a := h.mono hn
    have xz := hX.add hZ (by omega) (by omega)
    have yz := hY.add hZ (by omega) (by omega)
    have xy := hX.add hY (by omega) (by omega)
    have xsy := hX.sub hY (by omega) (by omega)
    have mm := xy.half (by omega)
    have D1 := Lib.hid (fun W tb => Sub_ok (a := X) (b := Y) W tb (k _ hX (by omega)) (k _ hY (by omega)) (k _ xsy (by omega)) rfl)
    have M1 := Lib.hid (fun W tb => Mid_ok (a := X) (b := Y) W tb (k _ hX (by omega)) (k _ hY (by omega)) (k _ mm (by omega)) rfl)
    have A1 := Lib.hid (fun W tb => sum_q (a := X) (b := Z) W tb (k _ hX (by omega)) (k _ hZ (by omega)) (k _ xz (by omega)) rfl)
    have A2 := Lib.hid (fun W tb => sum_q (a := Y) (b := Z) W tb (k _ hY (by omega)) (k _ hZ (by omega)) (k _ yz (by omega)) rfl)
    have A3 := Lib.hid (fun W tb => sum_q (a := (X + Y) / 2) (b := (X + Y) / 2) (c := X + Y) W tb (k _ mm (by omega)) (k _ mm (by omega)) (k _ xy (by omega)) (by grind))
    have A4 := Lib.hid (fun W tb => sum_q (a := X) (b := Y) W tb (k _ hX (by omega)) (k _ hY (by omega)) (k _ xy (by omega)) rfl)
    have I1 := Lib.hid (fun W => Cmp_inf W (k _ hX (by omega)))
    have I2 := Lib.hid (fun W => inf_Cmp W (k _ hX (by omega)))
    have I3 := Lib.hid inf_Cmp_inf
    have I4 := Lib.hid (fun W => inf_Min W (k _ hX (by omega)))
    have I5 := Lib.hid (fun W => inf_Max W (k _ hX (by omega)))
    have exy : (SX.toList == SY.toList) = decide (X = Y) := by
      rw [hSX, hSY, str_eq]
      exact decide_eq_decide.mpr ⟨fun h => qx_inj h, fun h => by rw [h]⟩
    rcases q_lies X Y with ho | ho | ho
    · rcases q_lies Y Z with hq | hq | hq
      · have C1 := Lib.hid (fun W => Cmp_oc (a := X) (b := Y) W (k _ hX (by omega)) (k _ hY (by omega)) (oc_lt (by grind)))
        have C2 := Lib.hid (fun W => Cmp_oc (a := Y) (b := X) W (k _ hY (by omega)) (k _ hX (by omega)) (oc_gt (by grind)))
        have C3 := Lib.hid (fun W => Cmp_oc (a := X + Z) (b := Y + Z) W (k _ xz (by omega)) (k _ yz (by omega)) (oc_lt (by grind)))
        have C4 := Lib.hid (fun W => Cmp_oc (a := X) (b := (X + Y) / 2) W (k _ hX (by omega)) (k _ mm (by omega)) (oc_lt (by grind)))
        have C5 := Lib.hid (fun W => Cmp_oc (a := (X + Y) / 2) (b := Y) W (k _ mm (by omega)) (k _ hY (by omega)) (oc_lt (by grind)))
        have C6 := Lib.hid (fun W => Cmp_oc (a := Y) (b := Z) W (k _ hY (by omega)) (k _ hZ (by omega)) (oc_lt (by grind)))
        have C7 := Lib.hid (fun W => Cmp_oc (a := X) (b := Z) W (k _ hX (by omega)) (k _ hZ (by omega)) (oc_lt (by grind)))
        have SG := Lib.hid (fun W => Sign_oc (a := X - Y) W (k _ xsy (by omega)) (oc_lt (by grind)))
        have LO := Lib.hid (fun W => Min_le (a := X) (b := Y) W (k _ hX (by omega)) (k _ hY (by omega)) (by grind))
        have HI := Lib.hid (fun W => Max_lt (a := X) (b := Y) W (k _ hX (by omega)) (k _ hY (by omega)) (by grind))
        replace exy : (SX.toList == SY.toList) = false := exy.trans (decide_eq_false (by grind))
        have eyx : (SY.toList == SX.toList) = false := by rw [BEq.comm]; exact exy
        obtain ⟨SXZ, hSXZ⟩ : ∃ s, s = qx (X + Z) := ⟨_, rfl⟩
        obtain ⟨SYZ, hSYZ⟩ : ∃ s, s = qx (Y + Z) := ⟨_, rfl⟩
        obtain ⟨SXY, hSXY⟩ : ∃ s, s = qx (X + Y) := ⟨_, rfl⟩
        obtain ⟨SD, hSD⟩ : ∃ s, s = qx (X - Y) := ⟨_, rfl⟩
        obtain ⟨SM, hSM⟩ : ∃ s, s = qx ((X + Y) / 2) := ⟨_, rfl⟩
        try rw [← hSXZ] at A1
        try rw [← hSXZ] at C3
        try rw [← hSYZ] at A2
        try rw [← hSYZ] at C3
        try rw [← hSXY] at A3
        try rw [← hSXY] at A4
        try rw [← hSD] at D1
        try rw [← hSD] at SG
        try rw [← hSM] at M1
        try rw [← hSM] at A3
        try rw [← hSM] at C4
        try rw [← hSM] at C5
        try rw [← hSX] at D1
        try rw [← hSX] at M1
        try rw [← hSX] at A1
        try rw [← hSX] at A4
        try rw [← hSX] at I1
        try rw [← hSX] at I2
        try rw [← hSX] at I4
        try rw [← hSX] at I5
        try rw [← hSX] at C1
        try rw [← hSX] at C2
        try rw [← hSX] at C4
        try rw [← hSX] at C7
        try rw [← hSX] at LO
        try rw [← hSX] at HI
        try rw [← hSY] at D1
        try rw [← hSY] at M1
        try rw [← hSY] at A2
        try rw [← hSY] at A4
        try rw [← hSY] at C1
        try rw [← hSY] at C2
        try rw [← hSY] at C5
        try rw [← hSY] at C6
        try rw [← hSY] at LO
        try rw [← hSY] at HI
        try rw [← hSZ] at A1
        try rw [← hSZ] at A2
        try rw [← hSZ] at C6
        try rw [← hSZ] at C7
        clear hSXZ hSYZ hSXY hSD hSM hSX hSY hSZ hX hY hZ xz yz xy xsy mm k
        go_wp2_with fail
        (with_reducible refine Calls.mono (C1.out _) ?_)
        rintro e w1 ⟨rfl, hb⟩
        have B1 := Lib.hid (B0.out.trans (hb.mono B0.out.size))
        have T1 := Lib.hid (T0.out.below hb)
        clear hb
        go_wp2_with fail
        (with_reducible refine Calls.mono (D1.out _ T1.out) ?_)
        rintro e w2 ⟨rfl, hb⟩
        have B2 := Lib.hid (B1.out.trans (hb.mono B1.out.size))
        have T2 := Lib.hid (T1.out.below hb)
        clear hb
        go_wp2_with fail
        (with_reducible refine Calls.mono (M1.out _ T2.out) ?_)
        rintro e w3 ⟨rfl, hb⟩
        have B3 := Lib.hid (B2.out.trans (hb.mono B2.out.size))
        have T3 := Lib.hid (T2.out.below hb)
        clear hb
        go_wp2_with fail
        (with_reducible refine Calls.mono (SG.out _) ?_)
        rintro e w4 ⟨rfl, hb⟩
        have B4 := Lib.hid (B3.out.trans (hb.mono B3.out.size))
        have T4 := Lib.hid (T3.out.below hb)
        clear hb
        go_wp2_with fail
        (with_reducible refine Calls.mono (C2.out _) ?_)
        rintro e w5 ⟨rfl, hb⟩
        have B5 := Lib.hid (B4.out.trans (hb.mono B4.out.size))
        have T5 := Lib.hid (T4.out.below hb)
        clear hb
        go_wp2_with fail
        (with_reducible refine Calls.mono (A1.out _ T5.out) ?_)
        rintro e w6 ⟨rfl, hb⟩
        have B6 := Lib.hid (B5.out.trans (hb.mono B5.out.size))
        have T6 := Lib.hid (T5.out.below hb)
        clear hb
        go_wp2_with fail
        (with_reducible refine Calls.mono (A2.out _ T6.out) ?_)
        rintro e w7 ⟨rfl, hb⟩
        have B7 := Lib.hid (B6.out.trans (hb.mono B6.out.size))
        have T7 := Lib.hid (T6.out.below hb)
        clear hb
        go_wp2_with fail
        (with_reducible refine Calls.mono (C3.out _) ?_)
        rintro e w8 ⟨rfl, hb⟩
        have B8 := Lib.hid (B7.out.trans (hb.mono B7.out.size))
        have T8 := Lib.hid (T7.out.below hb)
        clear hb
        go_wp2_with fail
        (with_reducible refine Calls.mono (C4.out _) ?_)
        rintro e w9 ⟨rfl, hb⟩
        have B9 := Lib.hid (B8.out.trans (hb.mono B8.out.size))
        have T9 := Lib.hid (T8.out.below hb)
        clear hb
        go_wp2_with fail
        (with_reducible refine Calls.mono (C5.out _) ?_)
        rintro e w10 ⟨rfl, hb⟩
        have B10 := Lib.hid (B9.out.trans (hb.mono B9.out.size))
        have T10 := Lib.hid (T9.out.below hb)
        clear hb
        go_wp2_with fail
        (with_reducible refine Calls.mono (A3.out _ T10.out) ?_)
        rintro e w11 ⟨rfl, hb⟩
        have B11 := Lib.hid (B10.out.trans (hb.mono B10.out.size))
        have T11 := Lib.hid (T10.out.below hb)
        clear hb
        go_wp2_with fail
        (with_reducible refine Calls.mono (A4.out _ T11.out) ?_)
        rintro e w12 ⟨rfl, hb⟩
        have B12 := Lib.hid (B11.out.trans (hb.mono B11.out.size))
        have T12 := Lib.hid (T11.out.below hb)
        clear hb
        go_wp2_with fail
        (with_reducible refine Calls.mono (I1.out _) ?_)
        rintro e w13 ⟨rfl, hb⟩
        have B13 := Lib.hid (B12.out.trans (hb.mono B12.out.size))
        have T13 := Lib.hid (T12.out.below hb)
        clear hb
        go_wp2_with fail
        (with_reducible refine Calls.mono (I2.out _) ?_)
        rintro e w14 ⟨rfl, hb⟩
        have B14 := Lib.hid (B13.out.trans (hb.mono B13.out.size))
        have T14 := Lib.hid (T13.out.below hb)
        clear hb
        go_wp2_with fail
        (with_reducible refine Calls.mono (I3.out _) ?_)
        rintro e w15 ⟨rfl, hb⟩
        have B15 := Lib.hid (B14.out.trans (hb.mono B14.out.size))
        have T15 := Lib.hid (T14.out.below hb)
        clear hb
        go_wp2_with fail
        (with_reducible refine Calls.mono (I4.out _) ?_)
        rintro e w16 ⟨rfl, hb⟩
        have B16 := Lib.hid (B15.out.trans (hb.mono B15.out.size))
        have T16 := Lib.hid (T15.out.below hb)
        clear hb
        go_wp2_with fail
        (with_reducible refine Calls.mono (I5.out _) ?_)
        rintro e w17 ⟨rfl, hb⟩
        have B17 := Lib.hid (B16.out.trans (hb.mono B16.out.size))
        have T17 := Lib.hid (T16.out.below hb)
        clear hb
        go_wp2_with fail
        (with_reducible refine Calls.mono (LO.out _) ?_)
        rintro e w18 ⟨rfl, hb⟩
        have B18 := Lib.hid (B17.out.trans (hb.mono B17.out.size))
        have T18 := Lib.hid (T17.out.below hb)
        clear hb
        go_wp2_with fail
        (with_reducible refine Calls.mono (HI.out _) ?_)
        rintro e w19 ⟨rfl, hb⟩
        have B19 := Lib.hid (B18.out.trans (hb.mono B18.out.size))
        have T19 := Lib.hid (T18.out.below hb)
        clear hb
        go_wp2_with fail
        (with_reducible refine Calls.mono (C6.out _) ?_)
        rintro e w20 ⟨rfl, hb⟩
        have B20 := Lib.hid (B19.out.trans (hb.mono B19.out.size))
        have T20 := Lib.hid (T19.out.below hb)
        clear hb
        go_wp2_with fail
        (with_reducible refine Calls.mono (C7.out _) ?_)
        rintro e w21 ⟨rfl, hb⟩
        have B21 := Lib.hid (B20.out.trans (hb.mono B20.out.size))
        have T21 := Lib.hid (T20.out.below hb)
        clear hb
        go_wp2_with fail
        (with_reducible refine Calls.mono (AW.out _ T21.out) ?_)
        rintro e w22 ⟨rfl, hb⟩
        have B22 := Lib.hid (B21.out.trans (hb.mono B21.out.size))
        have T22 := Lib.hid (T21.out.below hb)
        clear hb
        go_wp2
        go_ret
        exact ⟨rfl, B22.out⟩
      · have C1 := Lib.hid (fun W => Cmp_oc (a := X) (b := Y) W (k _ hX (by omega)) (k _ hY (by omega)) (oc_lt (by grind)))
        have C2 := Lib.hid (fun W => Cmp_oc (a := Y) (b := X) W (k _ hY (by omega)) (k _ hX (by omega)) (oc_gt (by grind)))
        have C3 := Lib.hid (fun W => Cmp_oc (a := X + Z) (b := Y + Z) W (k _ xz (by omega)) (k _ yz (by omega)) (oc_lt (by grind)))
        have C4 := Lib.hid (fun W => Cmp_oc (a := X) (b := (X + Y) / 2) W (k _ hX (by omega)) (k _ mm (by omega)) (oc_lt (by grind)))
        have C5 := Lib.hid (fun W => Cmp_oc (a := (X + Y) / 2) (b := Y) W (k _ mm (by omega)) (k _ hY (by omega)) (oc_lt (by grind)))
        have C6 := Lib.hid (fun W => Cmp_oc (a := Y) (b := Z) W (k _ hY (by omega)) (k _ hZ (by omega)) (oc_eq (by grind)))
        have C7 := Lib.hid (fun W => Cmp_oc (a := X) (b := Z) W (k _ hX (by omega)) (k _ hZ (by omega)) (oc_lt (by grind)))
        have SG := Lib.hid (fun W => Sign_oc (a := X - Y) W (k _ xsy (by omega)) (oc_lt (by grind)))
        have LO := Lib.hid (fun W => Min_le (a := X) (b := Y) W (k _ hX (by omega)) (k _ hY (by omega)) (by grind))
        have HI := Lib.hid (fun W => Max_lt (a := X) (b := Y) W (k _ hX (by omega)) (k _ hY (by omega)) (by grind))
        replace exy : (SX.toList == SY.toList) = false := exy.trans (decide_eq_false (by grind))
        have eyx : (SY.toList == SX.toList) = false := by rw [BEq.comm]; exact exy
        obtain ⟨SXZ, hSXZ⟩ : ∃ s, s = qx (X + Z) := ⟨_, rfl⟩
        obtain ⟨SYZ, hSYZ⟩ : ∃ s, s = qx (Y + Z) := ⟨_, rfl⟩
        obtain ⟨SXY, hSXY⟩ : ∃ s, s = qx (X + Y) := ⟨_, rfl⟩
        obtain ⟨SD, hSD⟩ : ∃ s, s = qx (X - Y) := ⟨_, rfl⟩
        obtain ⟨SM, hSM⟩ : ∃ s, s = qx ((X + Y) / 2) := ⟨_, rfl⟩
        try rw [← hSXZ] at A1
        try rw [← hSXZ] at C3
        try rw [← hSYZ] at A2
        try rw [← hSYZ] at C3
        try rw [← hSXY] at A3
        try rw [← hSXY] at A4
        try rw [← hSD] at D1
        try rw [← hSD] at SG
        try rw [← hSM] at M1
        try rw [← hSM] at A3
        try rw [← hSM] at C4
        try rw [← hSM] at C5
        try rw [← hSX] at D1
        try rw [← hSX] at M1
        try rw [← hSX] at A1
        try rw [← hSX] at A4
        try rw [← hSX] at I1
        try rw [← hSX] at I2
        try rw [← hSX] at I4
        try rw [← hSX] at I5
        try rw [← hSX] at C1
        try rw [← hSX] at C2
        try rw [← hSX] at C4
        try rw [← hSX] at C7
        try rw [← hSX] at LO
        try rw [← hSX] at HI
        try rw [← hSY] at D1
        try rw [← hSY] at M1
        try rw [← hSY] at A2
        try rw [← hSY] at A4
        try rw [← hSY] at C1
        try rw [← hSY] at C2
        try rw [← hSY] at C5
        try rw [← hSY] at C6
        try rw [← hSY] at LO
        try rw [← hSY] at HI
        try rw [← hSZ] at A1
        try rw [← hSZ] at A2
        try rw [← hSZ] at C6
        try rw [← hSZ] at C7
        clear hSXZ hSYZ hSXY hSD hSM hSX hSY hSZ hX hY hZ xz yz xy xsy mm k
        go_wp2_with fail
        (with_reducible refine Calls.mono (C1.out _) ?_)
        rintro e w1 ⟨rfl, hb⟩
        have B1 := Lib.hid (B0.out.trans (hb.mono B0.out.size))
        have T1 := Lib.hid (T0.out.below hb)
        clear hb
        go_wp2_with fail
        (with_reducible refine Calls.mono (D1.out _ T1.out) ?_)
        rintro e w2 ⟨rfl, hb⟩
        have B2 := Lib.hid (B1.out.trans (hb.mono B1.out.size))
        have T2 := Lib.hid (T1.out.below hb)
        clear hb
        go_wp2_with fail
        (with_reducible refine Calls.mono (M1.out _ T2.out) ?_)
        rintro e w3 ⟨rfl, hb⟩
        have B3 := Lib.hid (B2.out.trans (hb.mono B2.out.size))
        have T3 := Lib.hid (T2.out.below hb)
        clear hb
        go_wp2_with fail
        (with_reducible refine Calls.mono (SG.out _) ?_)
        rintro e w4 ⟨rfl, hb⟩
        have B4 := Lib.hid (B3.out.trans (hb.mono B3.out.size))
        have T4 := Lib.hid (T3.out.below hb)
        clear hb
        go_wp2_with fail
        (with_reducible refine Calls.mono (C2.out _) ?_)
        rintro e w5 ⟨rfl, hb⟩
        have B5 := Lib.hid (B4.out.trans (hb.mono B4.out.size))
        have T5 := Lib.hid (T4.out.below hb)
        clear hb
        go_wp2_with fail
        (with_reducible refine Calls.mono (A1.out _ T5.out) ?_)
        rintro e w6 ⟨rfl, hb⟩
        have B6 := Lib.hid (B5.out.trans (hb.mono B5.out.size))
        have T6 := Lib.hid (T5.out.below hb)
        clear hb
        go_wp2_with fail
        (with_reducible refine Calls.mono (A2.out _ T6.out) ?_)
        rintro e w7 ⟨rfl, hb⟩
        have B7 := Lib.hid (B6.out.trans (hb.mono B6.out.size))
        have T7 := Lib.hid (T6.out.below hb)
        clear hb
        go_wp2_with fail
        (with_reducible refine Calls.mono (C3.out _) ?_)
        rintro e w8 ⟨rfl, hb⟩
        have B8 := Lib.hid (B7.out.trans (hb.mono B7.out.size))
        have T8 := Lib.hid (T7.out.below hb)
        clear hb
        go_wp2_with fail
        (with_reducible refine Calls.mono (C4.out _) ?_)
        rintro e w9 ⟨rfl, hb⟩
        have B9 := Lib.hid (B8.out.trans (hb.mono B8.out.size))
        have T9 := Lib.hid (T8.out.below hb)
        clear hb
        go_wp2_with fail
        (with_reducible refine Calls.mono (C5.out _) ?_)
        rintro e w10 ⟨rfl, hb⟩
        have B10 := Lib.hid (B9.out.trans (hb.mono B9.out.size))
        have T10 := Lib.hid (T9.out.below hb)
        clear hb
        go_wp2_with fail
        (with_reducible refine Calls.mono (A3.out _ T10.out) ?_)
        rintro e w11 ⟨rfl, hb⟩
        have B11 := Lib.hid (B10.out.trans (hb.mono B10.out.size))
        have T11 := Lib.hid (T10.out.below hb)
        clear hb
        go_wp2_with fail
        (with_reducible refine Calls.mono (A4.out _ T11.out) ?_)
        rintro e w12 ⟨rfl, hb⟩
        have B12 := Lib.hid (B11.out.trans (hb.mono B11.out.size))
        have T12 := Lib.hid (T11.out.below hb)
        clear hb
        go_wp2_with fail
        (with_reducible refine Calls.mono (I1.out _) ?_)
        rintro e w13 ⟨rfl, hb⟩
        have B13 := Lib.hid (B12.out.trans (hb.mono B12.out.size))
        have T13 := Lib.hid (T12.out.below hb)
        clear hb
        go_wp2_with fail
        (with_reducible refine Calls.mono (I2.out _) ?_)
        rintro e w14 ⟨rfl, hb⟩
        have B14 := Lib.hid (B13.out.trans (hb.mono B13.out.size))
        have T14 := Lib.hid (T13.out.below hb)
        clear hb
        go_wp2_with fail
        (with_reducible refine Calls.mono (I3.out _) ?_)
        rintro e w15 ⟨rfl, hb⟩
        have B15 := Lib.hid (B14.out.trans (hb.mono B14.out.size))
        have T15 := Lib.hid (T14.out.below hb)
        clear hb
        go_wp2_with fail
        (with_reducible refine Calls.mono (I4.out _) ?_)
        rintro e w16 ⟨rfl, hb⟩
        have B16 := Lib.hid (B15.out.trans (hb.mono B15.out.size))
        have T16 := Lib.hid (T15.out.below hb)
        clear hb
        go_wp2_with fail
        (with_reducible refine Calls.mono (I5.out _) ?_)
        rintro e w17 ⟨rfl, hb⟩
        have B17 := Lib.hid (B16.out.trans (hb.mono B16.out.size))
        have T17 := Lib.hid (T16.out.below hb)
        clear hb
        go_wp2_with fail
        (with_reducible refine Calls.mono (LO.out _) ?_)
        rintro e w18 ⟨rfl, hb⟩
        have B18 := Lib.hid (B17.out.trans (hb.mono B17.out.size))
        have T18 := Lib.hid (T17.out.below hb)
        clear hb
        go_wp2_with fail
        (with_reducible refine Calls.mono (HI.out _) ?_)
        rintro e w19 ⟨rfl, hb⟩
        have B19 := Lib.hid (B18.out.trans (hb.mono B18.out.size))
        have T19 := Lib.hid (T18.out.below hb)
        clear hb
        go_wp2_with fail
        (with_reducible refine Calls.mono (C6.out _) ?_)
        rintro e w20 ⟨rfl, hb⟩
        have B20 := Lib.hid (B19.out.trans (hb.mono B19.out.size))
        have T20 := Lib.hid (T19.out.below hb)
        clear hb
        go_wp2_with fail
        (with_reducible refine Calls.mono (C7.out _) ?_)
        rintro e w21 ⟨rfl, hb⟩
        have B21 := Lib.hid (B20.out.trans (hb.mono B20.out.size))
        have T21 := Lib.hid (T20.out.below hb)
        clear hb
        go_wp2_with fail
        (with_reducible refine Calls.mono (AW.out _ T21.out) ?_)
        rintro e w22 ⟨rfl, hb⟩
        have B22 := Lib.hid (B21.out.trans (hb.mono B21.out.size))
        have T22 := Lib.hid (T21.out.below hb)
        clear hb
        go_wp2
        go_ret
        exact ⟨rfl, B22.out⟩
      · have C1 := Lib.hid (fun W => Cmp_oc (a := X) (b := Y) W (k _ hX (by omega)) (k _ hY (by omega)) (oc_lt (by grind)))
        have C2 := Lib.hid (fun W => Cmp_oc (a := Y) (b := X) W (k _ hY (by omega)) (k _ hX (by omega)) (oc_gt (by grind)))
        have C3 := Lib.hid (fun W => Cmp_oc (a := X + Z) (b := Y + Z) W (k _ xz (by omega)) (k _ yz (by omega)) (oc_lt (by grind)))
        have C4 := Lib.hid (fun W => Cmp_oc (a := X) (b := (X + Y) / 2) W (k _ hX (by omega)) (k _ mm (by omega)) (oc_lt (by grind)))
        have C5 := Lib.hid (fun W => Cmp_oc (a := (X + Y) / 2) (b := Y) W (k _ mm (by omega)) (k _ hY (by omega)) (oc_lt (by grind)))
        have C6 := Lib.hid (fun W => Cmp_oc (a := Y) (b := Z) W (k _ hY (by omega)) (k _ hZ (by omega)) (oc_gt (by grind)))
        have C7 := Lib.hid True.intro
        have SG := Lib.hid (fun W => Sign_oc (a := X - Y) W (k _ xsy (by omega)) (oc_lt (by grind)))
        have LO := Lib.hid (fun W => Min_le (a := X) (b := Y) W (k _ hX (by omega)) (k _ hY (by omega)) (by grind))
        have HI := Lib.hid (fun W => Max_lt (a := X) (b := Y) W (k _ hX (by omega)) (k _ hY (by omega)) (by grind))
        replace exy : (SX.toList == SY.toList) = false := exy.trans (decide_eq_false (by grind))
        have eyx : (SY.toList == SX.toList) = false := by rw [BEq.comm]; exact exy
        obtain ⟨SXZ, hSXZ⟩ : ∃ s, s = qx (X + Z) := ⟨_, rfl⟩
        obtain ⟨SYZ, hSYZ⟩ : ∃ s, s = qx (Y + Z) := ⟨_, rfl⟩
        obtain ⟨SXY, hSXY⟩ : ∃ s, s = qx (X + Y) := ⟨_, rfl⟩
        obtain ⟨SD, hSD⟩ : ∃ s, s = qx (X - Y) := ⟨_, rfl⟩
        obtain ⟨SM, hSM⟩ : ∃ s, s = qx ((X + Y) / 2) := ⟨_, rfl⟩
        try rw [← hSXZ] at A1
        try rw [← hSXZ] at C3
        try rw [← hSYZ] at A2
        try rw [← hSYZ] at C3
        try rw [← hSXY] at A3
        try rw [← hSXY] at A4
        try rw [← hSD] at D1
        try rw [← hSD] at SG
        try rw [← hSM] at M1
        try rw [← hSM] at A3
        try rw [← hSM] at C4
        try rw [← hSM] at C5
        try rw [← hSX] at D1
        try rw [← hSX] at M1
        try rw [← hSX] at A1
        try rw [← hSX] at A4
        try rw [← hSX] at I1
        try rw [← hSX] at I2
        try rw [← hSX] at I4
        try rw [← hSX] at I5
        try rw [← hSX] at C1
        try rw [← hSX] at C2
        try rw [← hSX] at C4
        try rw [← hSX] at C7
        try rw [← hSX] at LO
        try rw [← hSX] at HI
        try rw [← hSY] at D1
        try rw [← hSY] at M1
        try rw [← hSY] at A2
        try rw [← hSY] at A4
        try rw [← hSY] at C1
        try rw [← hSY] at C2
        try rw [← hSY] at C5
        try rw [← hSY] at C6
        try rw [← hSY] at LO
        try rw [← hSY] at HI
        try rw [← hSZ] at A1
        try rw [← hSZ] at A2
        try rw [← hSZ] at C6
        try rw [← hSZ] at C7
        clear hSXZ hSYZ hSXY hSD hSM hSX hSY hSZ hX hY hZ xz yz xy xsy mm k
        go_wp2_with fail
        (with_reducible refine Calls.mono (C1.out _) ?_)
        rintro e w1 ⟨rfl, hb⟩
        have B1 := Lib.hid (B0.out.trans (hb.mono B0.out.size))
        have T1 := Lib.hid (T0.out.below hb)
        clear hb
        go_wp2_with fail
        (with_reducible refine Calls.mono (D1.out _ T1.out) ?_)
        rintro e w2 ⟨rfl, hb⟩
        have B2 := Lib.hid (B1.out.trans (hb.mono B1.out.size))
        have T2 := Lib.hid (T1.out.below hb)
        clear hb
        go_wp2_with fail
        (with_reducible refine Calls.mono (M1.out _ T2.out) ?_)
        rintro e w3 ⟨rfl, hb⟩
        have B3 := Lib.hid (B2.out.trans (hb.mono B2.out.size))
        have T3 := Lib.hid (T2.out.below hb)
        clear hb
        go_wp2_with fail
        (with_reducible refine Calls.mono (SG.out _) ?_)
        rintro e w4 ⟨rfl, hb⟩
        have B4 := Lib.hid (B3.out.trans (hb.mono B3.out.size))
        have T4 := Lib.hid (T3.out.below hb)
        clear hb
        go_wp2_with fail
        (with_reducible refine Calls.mono (C2.out _) ?_)
        rintro e w5 ⟨rfl, hb⟩
        have B5 := Lib.hid (B4.out.trans (hb.mono B4.out.size))
        have T5 := Lib.hid (T4.out.below hb)
        clear hb
        go_wp2_with fail
        (with_reducible refine Calls.mono (A1.out _ T5.out) ?_)
        rintro e w6 ⟨rfl, hb⟩
        have B6 := Lib.hid (B5.out.trans (hb.mono B5.out.size))
        have T6 := Lib.hid (T5.out.below hb)
        clear hb
        go_wp2_with fail
        (with_reducible refine Calls.mono (A2.out _ T6.out) ?_)
        rintro e w7 ⟨rfl, hb⟩
        have B7 := Lib.hid (B6.out.trans (hb.mono B6.out.size))
        have T7 := Lib.hid (T6.out.below hb)
        clear hb
        go_wp2_with fail
        (with_reducible refine Calls.mono (C3.out _) ?_)
        rintro e w8 ⟨rfl, hb⟩
        have B8 := Lib.hid (B7.out.trans (hb.mono B7.out.size))
        have T8 := Lib.hid (T7.out.below hb)
        clear hb
        go_wp2_with fail
        (with_reducible refine Calls.mono (C4.out _) ?_)
        rintro e w9 ⟨rfl, hb⟩
        have B9 := Lib.hid (B8.out.trans (hb.mono B8.out.size))
        have T9 := Lib.hid (T8.out.below hb)
        clear hb
        go_wp2_with fail
        (with_reducible refine Calls.mono (C5.out _) ?_)
        rintro e w10 ⟨rfl, hb⟩
        have B10 := Lib.hid (B9.out.trans (hb.mono B9.out.size))
        have T10 := Lib.hid (T9.out.below hb)
        clear hb
        go_wp2_with fail
        (with_reducible refine Calls.mono (A3.out _ T10.out) ?_)
        rintro e w11 ⟨rfl, hb⟩
        have B11 := Lib.hid (B10.out.trans (hb.mono B10.out.size))
        have T11 := Lib.hid (T10.out.below hb)
        clear hb
        go_wp2_with fail
        (with_reducible refine Calls.mono (A4.out _ T11.out) ?_)
        rintro e w12 ⟨rfl, hb⟩
        have B12 := Lib.hid (B11.out.trans (hb.mono B11.out.size))
        have T12 := Lib.hid (T11.out.below hb)
        clear hb
        go_wp2_with fail
        (with_reducible refine Calls.mono (I1.out _) ?_)
        rintro e w13 ⟨rfl, hb⟩
        have B13 := Lib.hid (B12.out.trans (hb.mono B12.out.size))
        have T13 := Lib.hid (T12.out.below hb)
        clear hb
        go_wp2_with fail
        (with_reducible refine Calls.mono (I2.out _) ?_)
        rintro e w14 ⟨rfl, hb⟩
        have B14 := Lib.hid (B13.out.trans (hb.mono B13.out.size))
        have T14 := Lib.hid (T13.out.below hb)
        clear hb
        go_wp2_with fail
        (with_reducible refine Calls.mono (I3.out _) ?_)
        rintro e w15 ⟨rfl, hb⟩
        have B15 := Lib.hid (B14.out.trans (hb.mono B14.out.size))
        have T15 := Lib.hid (T14.out.below hb)
        clear hb
        go_wp2_with fail
        (with_reducible refine Calls.mono (I4.out _) ?_)
        rintro e w16 ⟨rfl, hb⟩
        have B16 := Lib.hid (B15.out.trans (hb.mono B15.out.size))
        have T16 := Lib.hid (T15.out.below hb)
        clear hb
        go_wp2_with fail
        (with_reducible refine Calls.mono (I5.out _) ?_)
        rintro e w17 ⟨rfl, hb⟩
        have B17 := Lib.hid (B16.out.trans (hb.mono B16.out.size))
        have T17 := Lib.hid (T16.out.below hb)
        clear hb
        go_wp2_with fail
        (with_reducible refine Calls.mono (LO.out _) ?_)
        rintro e w18 ⟨rfl, hb⟩
        have B18 := Lib.hid (B17.out.trans (hb.mono B17.out.size))
        have T18 := Lib.hid (T17.out.below hb)
        clear hb
        go_wp2_with fail
        (with_reducible refine Calls.mono (HI.out _) ?_)
        rintro e w19 ⟨rfl, hb⟩
        have B19 := Lib.hid (B18.out.trans (hb.mono B18.out.size))
        have T19 := Lib.hid (T18.out.below hb)
        clear hb
        go_wp2_with fail
        (with_reducible refine Calls.mono (C6.out _) ?_)
        rintro e w20 ⟨rfl, hb⟩
        have B20 := Lib.hid (B19.out.trans (hb.mono B19.out.size))
        have T20 := Lib.hid (T19.out.below hb)
        clear hb
        go_wp2_with fail
        (with_reducible refine Calls.mono (AW.out _ T20.out) ?_)
        rintro e w21 ⟨rfl, hb⟩
        have B21 := Lib.hid (B20.out.trans (hb.mono B20.out.size))
        have T21 := Lib.hid (T20.out.below hb)
        clear hb
        go_wp2
        go_ret
        exact ⟨rfl, B21.out⟩
    · rcases q_lies Y Z with hq | hq | hq
      · have C1 := Lib.hid (fun W => Cmp_oc (a := X) (b := Y) W (k _ hX (by omega)) (k _ hY (by omega)) (oc_eq (by grind)))
        have C2 := Lib.hid (fun W => Cmp_oc (a := Y) (b := X) W (k _ hY (by omega)) (k _ hX (by omega)) (oc_eq (by grind)))
        have C3 := Lib.hid (fun W => Cmp_oc (a := X + Z) (b := Y + Z) W (k _ xz (by omega)) (k _ yz (by omega)) (oc_eq (by grind)))
        have C4 := Lib.hid (fun W => Cmp_oc (a := X) (b := (X + Y) / 2) W (k _ hX (by omega)) (k _ mm (by omega)) (oc_eq (by grind)))
        have C5 := Lib.hid (fun W => Cmp_oc (a := (X + Y) / 2) (b := Y) W (k _ mm (by omega)) (k _ hY (by omega)) (oc_eq (by grind)))
        have C6 := Lib.hid (fun W => Cmp_oc (a := Y) (b := Z) W (k _ hY (by omega)) (k _ hZ (by omega)) (oc_lt (by grind)))
        have C7 := Lib.hid (fun W => Cmp_oc (a := X) (b := Z) W (k _ hX (by omega)) (k _ hZ (by omega)) (oc_lt (by grind)))
        have SG := Lib.hid (fun W => Sign_oc (a := X - Y) W (k _ xsy (by omega)) (oc_eq (by grind)))
        have LO := Lib.hid (fun W => Min_le (a := X) (b := Y) W (k _ hX (by omega)) (k _ hY (by omega)) (by grind))
        have HI := Lib.hid (fun W => Max_ge (a := X) (b := Y) W (k _ hX (by omega)) (k _ hY (by omega)) (by grind))
        replace exy : (SX.toList == SY.toList) = true := exy.trans (decide_eq_true (by grind))
        have eyx : (SY.toList == SX.toList) = true := by rw [BEq.comm]; exact exy
        obtain ⟨SXZ, hSXZ⟩ : ∃ s, s = qx (X + Z) := ⟨_, rfl⟩
        obtain ⟨SYZ, hSYZ⟩ : ∃ s, s = qx (Y + Z) := ⟨_, rfl⟩
        obtain ⟨SXY, hSXY⟩ : ∃ s, s = qx (X + Y) := ⟨_, rfl⟩
        obtain ⟨SD, hSD⟩ : ∃ s, s = qx (X - Y) := ⟨_, rfl⟩
        obtain ⟨SM, hSM⟩ : ∃ s, s = qx ((X + Y) / 2) := ⟨_, rfl⟩
        try rw [← hSXZ] at A1
        try rw [← hSXZ] at C3
        try rw [← hSYZ] at A2
        try rw [← hSYZ] at C3
        try rw [← hSXY] at A3
        try rw [← hSXY] at A4
        try rw [← hSD] at D1
        try rw [← hSD] at SG
        try rw [← hSM] at M1
        try rw [← hSM] at A3
        try rw [← hSM] at C4
        try rw [← hSM] at C5
        try rw [← hSX] at D1
        try rw [← hSX] at M1
        try rw [← hSX] at A1
        try rw [← hSX] at A4
        try rw [← hSX] at I1
        try rw [← hSX] at I2
        try rw [← hSX] at I4
        try rw [← hSX] at I5
        try rw [← hSX] at C1
        try rw [← hSX] at C2
        try rw [← hSX] at C4
        try rw [← hSX] at C7
        try rw [← hSX] at LO
        try rw [← hSX] at HI
        try rw [← hSY] at D1
        try rw [← hSY] at M1
        try rw [← hSY] at A2
        try rw [← hSY] at A4
        try rw [← hSY] at C1
        try rw [← hSY] at C2
        try rw [← hSY] at C5
        try rw [← hSY] at C6
        try rw [← hSY] at LO
        try rw [← hSY] at HI
        try rw [← hSZ] at A1
        try rw [← hSZ] at A2
        try rw [← hSZ] at C6
        try rw [← hSZ] at C7
        clear hSXZ hSYZ hSXY hSD hSM hSX hSY hSZ hX hY hZ xz yz xy xsy mm k
        go_wp2_with fail
        (with_reducible refine Calls.mono (C1.out _) ?_)
        rintro e w1 ⟨rfl, hb⟩
        have B1 := Lib.hid (B0.out.trans (hb.mono B0.out.size))
        have T1 := Lib.hid (T0.out.below hb)
        clear hb
        go_wp2_with fail
        (with_reducible refine Calls.mono (D1.out _ T1.out) ?_)
        rintro e w2 ⟨rfl, hb⟩
        have B2 := Lib.hid (B1.out.trans (hb.mono B1.out.size))
        have T2 := Lib.hid (T1.out.below hb)
        clear hb
        go_wp2_with fail
        (with_reducible refine Calls.mono (M1.out _ T2.out) ?_)
        rintro e w3 ⟨rfl, hb⟩
        have B3 := Lib.hid (B2.out.trans (hb.mono B2.out.size))
        have T3 := Lib.hid (T2.out.below hb)
        clear hb
        go_wp2_with fail
        (with_reducible refine Calls.mono (SG.out _) ?_)
        rintro e w4 ⟨rfl, hb⟩
        have B4 := Lib.hid (B3.out.trans (hb.mono B3.out.size))
        have T4 := Lib.hid (T3.out.below hb)
        clear hb
        go_wp2_with fail
        (with_reducible refine Calls.mono (C2.out _) ?_)
        rintro e w5 ⟨rfl, hb⟩
        have B5 := Lib.hid (B4.out.trans (hb.mono B4.out.size))
        have T5 := Lib.hid (T4.out.below hb)
        clear hb
        go_wp2_with fail
        (with_reducible refine Calls.mono (A1.out _ T5.out) ?_)
        rintro e w6 ⟨rfl, hb⟩
        have B6 := Lib.hid (B5.out.trans (hb.mono B5.out.size))
        have T6 := Lib.hid (T5.out.below hb)
        clear hb
        go_wp2_with fail
        (with_reducible refine Calls.mono (A2.out _ T6.out) ?_)
        rintro e w7 ⟨rfl, hb⟩
        have B7 := Lib.hid (B6.out.trans (hb.mono B6.out.size))
        have T7 := Lib.hid (T6.out.below hb)
        clear hb
        go_wp2_with fail
        (with_reducible refine Calls.mono (C3.out _) ?_)
        rintro e w8 ⟨rfl, hb⟩
        have B8 := Lib.hid (B7.out.trans (hb.mono B7.out.size))
        have T8 := Lib.hid (T7.out.below hb)
        clear hb
        go_wp2_with fail
        (with_reducible refine Calls.mono (C4.out _) ?_)
        rintro e w9 ⟨rfl, hb⟩
        have B9 := Lib.hid (B8.out.trans (hb.mono B8.out.size))
        have T9 := Lib.hid (T8.out.below hb)
        clear hb
        go_wp2_with fail
        (with_reducible refine Calls.mono (C5.out _) ?_)
        rintro e w10 ⟨rfl, hb⟩
        have B10 := Lib.hid (B9.out.trans (hb.mono B9.out.size))
        have T10 := Lib.hid (T9.out.below hb)
        clear hb
        go_wp2_with fail
        (with_reducible refine Calls.mono (A3.out _ T10.out) ?_)
        rintro e w11 ⟨rfl, hb⟩
        have B11 := Lib.hid (B10.out.trans (hb.mono B10.out.size))
        have T11 := Lib.hid (T10.out.below hb)
        clear hb
        go_wp2_with fail
        (with_reducible refine Calls.mono (A4.out _ T11.out) ?_)
        rintro e w12 ⟨rfl, hb⟩
        have B12 := Lib.hid (B11.out.trans (hb.mono B11.out.size))
        have T12 := Lib.hid (T11.out.below hb)
        clear hb
        go_wp2_with fail
        (with_reducible refine Calls.mono (I1.out _) ?_)
        rintro e w13 ⟨rfl, hb⟩
        have B13 := Lib.hid (B12.out.trans (hb.mono B12.out.size))
        have T13 := Lib.hid (T12.out.below hb)
        clear hb
        go_wp2_with fail
        (with_reducible refine Calls.mono (I2.out _) ?_)
        rintro e w14 ⟨rfl, hb⟩
        have B14 := Lib.hid (B13.out.trans (hb.mono B13.out.size))
        have T14 := Lib.hid (T13.out.below hb)
        clear hb
        go_wp2_with fail
        (with_reducible refine Calls.mono (I3.out _) ?_)
        rintro e w15 ⟨rfl, hb⟩
        have B15 := Lib.hid (B14.out.trans (hb.mono B14.out.size))
        have T15 := Lib.hid (T14.out.below hb)
        clear hb
        go_wp2_with fail
        (with_reducible refine Calls.mono (I4.out _) ?_)
        rintro e w16 ⟨rfl, hb⟩
        have B16 := Lib.hid (B15.out.trans (hb.mono B15.out.size))
        have T16 := Lib.hid (T15.out.below hb)
        clear hb
        go_wp2_with fail
        (with_reducible refine Calls.mono (I5.out _) ?_)
        rintro e w17 ⟨rfl, hb⟩
        have B17 := Lib.hid (B16.out.trans (hb.mono B16.out.size))
        have T17 := Lib.hid (T16.out.below hb)
        clear hb
        go_wp2_with fail
        (with_reducible refine Calls.mono (LO.out _) ?_)
        rintro e w18 ⟨rfl, hb⟩
        have B18 := Lib.hid (B17.out.trans (hb.mono B17.out.size))
        have T18 := Lib.hid (T17.out.below hb)
        clear hb
        go_wp2_with fail
        (with_reducible refine Calls.mono (HI.out _) ?_)
        rintro e w19 ⟨rfl, hb⟩
        have B19 := Lib.hid (B18.out.trans (hb.mono B18.out.size))
        have T19 := Lib.hid (T18.out.below hb)
        clear hb
        go_wp2_with fail
        (with_reducible refine Calls.mono (C6.out _) ?_)
        rintro e w20 ⟨rfl, hb⟩
        have B20 := Lib.hid (B19.out.trans (hb.mono B19.out.size))
        have T20 := Lib.hid (T19.out.below hb)
        clear hb
        go_wp2_with fail
        (with_reducible refine Calls.mono (C7.out _) ?_)
        rintro e w21 ⟨rfl, hb⟩
        have B21 := Lib.hid (B20.out.trans (hb.mono B20.out.size))
        have T21 := Lib.hid (T20.out.below hb)
        clear hb
        go_wp2_with fail
        (with_reducible refine Calls.mono (AW.out _ T21.out) ?_)
        rintro e w22 ⟨rfl, hb⟩
        have B22 := Lib.hid (B21.out.trans (hb.mono B21.out.size))
        have T22 := Lib.hid (T21.out.below hb)
        clear hb
        go_wp2
        go_ret
        exact ⟨rfl, B22.out⟩
      · have C1 := Lib.hid (fun W => Cmp_oc (a := X) (b := Y) W (k _ hX (by omega)) (k _ hY (by omega)) (oc_eq (by grind)))
        have C2 := Lib.hid (fun W => Cmp_oc (a := Y) (b := X) W (k _ hY (by omega)) (k _ hX (by omega)) (oc_eq (by grind)))
        have C3 := Lib.hid (fun W => Cmp_oc (a := X + Z) (b := Y + Z) W (k _ xz (by omega)) (k _ yz (by omega)) (oc_eq (by grind)))
        have C4 := Lib.hid (fun W => Cmp_oc (a := X) (b := (X + Y) / 2) W (k _ hX (by omega)) (k _ mm (by omega)) (oc_eq (by grind)))
        have C5 := Lib.hid (fun W => Cmp_oc (a := (X + Y) / 2) (b := Y) W (k _ mm (by omega)) (k _ hY (by omega)) (oc_eq (by grind)))
        have C6 := Lib.hid (fun W => Cmp_oc (a := Y) (b := Z) W (k _ hY (by omega)) (k _ hZ (by omega)) (oc_eq (by grind)))
        have C7 := Lib.hid (fun W => Cmp_oc (a := X) (b := Z) W (k _ hX (by omega)) (k _ hZ (by omega)) (oc_eq (by grind)))
        have SG := Lib.hid (fun W => Sign_oc (a := X - Y) W (k _ xsy (by omega)) (oc_eq (by grind)))
        have LO := Lib.hid (fun W => Min_le (a := X) (b := Y) W (k _ hX (by omega)) (k _ hY (by omega)) (by grind))
        have HI := Lib.hid (fun W => Max_ge (a := X) (b := Y) W (k _ hX (by omega)) (k _ hY (by omega)) (by grind))
        replace exy : (SX.toList == SY.toList) = true := exy.trans (decide_eq_true (by grind))
        have eyx : (SY.toList == SX.toList) = true := by rw [BEq.comm]; exact exy
        obtain ⟨SXZ, hSXZ⟩ : ∃ s, s = qx (X + Z) := ⟨_, rfl⟩
        obtain ⟨SYZ, hSYZ⟩ : ∃ s, s = qx (Y + Z) := ⟨_, rfl⟩
        obtain ⟨SXY, hSXY⟩ : ∃ s, s = qx (X + Y) := ⟨_, rfl⟩
        obtain ⟨SD, hSD⟩ : ∃ s, s = qx (X - Y) := ⟨_, rfl⟩
        obtain ⟨SM, hSM⟩ : ∃ s, s = qx ((X + Y) / 2) := ⟨_, rfl⟩
        try rw [← hSXZ] at A1
        try rw [← hSXZ] at C3
        try rw [← hSYZ] at A2
        try rw [← hSYZ] at C3
        try rw [← hSXY] at A3
        try rw [← hSXY] at A4
        try rw [← hSD] at D1
        try rw [← hSD] at SG
        try rw [← hSM] at M1
        try rw [← hSM] at A3
        try rw [← hSM] at C4
        try rw [← hSM] at C5
        try rw [← hSX] at D1
        try rw [← hSX] at M1
        try rw [← hSX] at A1
        try rw [← hSX] at A4
        try rw [← hSX] at I1
        try rw [← hSX] at I2
        try rw [← hSX] at I4
        try rw [← hSX] at I5
        try rw [← hSX] at C1
        try rw [← hSX] at C2
        try rw [← hSX] at C4
        try rw [← hSX] at C7
        try rw [← hSX] at LO
        try rw [← hSX] at HI
        try rw [← hSY] at D1
        try rw [← hSY] at M1
        try rw [← hSY] at A2
        try rw [← hSY] at A4
        try rw [← hSY] at C1
        try rw [← hSY] at C2
        try rw [← hSY] at C5
        try rw [← hSY] at C6
        try rw [← hSY] at LO
        try rw [← hSY] at HI
        try rw [← hSZ] at A1
        try rw [← hSZ] at A2
        try rw [← hSZ] at C6
        try rw [← hSZ] at C7
        clear hSXZ hSYZ hSXY hSD hSM hSX hSY hSZ hX hY hZ xz yz xy xsy mm k
        go_wp2_with fail
        (with_reducible refine Calls.mono (C1.out _) ?_)
        rintro e w1 ⟨rfl, hb⟩
        have B1 := Lib.hid (B0.out.trans (hb.mono B0.out.size))
        have T1 := Lib.hid (T0.out.below hb)
        clear hb
        go_wp2_with fail
        (with_reducible refine Calls.mono (D1.out _ T1.out) ?_)
        rintro e w2 ⟨rfl, hb⟩
        have B2 := Lib.hid (B1.out.trans (hb.mono B1.out.size))
        have T2 := Lib.hid (T1.out.below hb)
        clear hb
        go_wp2_with fail
        (with_reducible refine Calls.mono (M1.out _ T2.out) ?_)
        rintro e w3 ⟨rfl, hb⟩
        have B3 := Lib.hid (B2.out.trans (hb.mono B2.out.size))
        have T3 := Lib.hid (T2.out.below hb)
        clear hb
        go_wp2_with fail
        (with_reducible refine Calls.mono (SG.out _) ?_)
        rintro e w4 ⟨rfl, hb⟩
        have B4 := Lib.hid (B3.out.trans (hb.mono B3.out.size))
        have T4 := Lib.hid (T3.out.below hb)
        clear hb
        go_wp2_with fail
        (with_reducible refine Calls.mono (C2.out _) ?_)
        rintro e w5 ⟨rfl, hb⟩
        have B5 := Lib.hid (B4.out.trans (hb.mono B4.out.size))
        have T5 := Lib.hid (T4.out.below hb)
        clear hb
        go_wp2_with fail
        (with_reducible refine Calls.mono (A1.out _ T5.out) ?_)
        rintro e w6 ⟨rfl, hb⟩
        have B6 := Lib.hid (B5.out.trans (hb.mono B5.out.size))
        have T6 := Lib.hid (T5.out.below hb)
        clear hb
        go_wp2_with fail
        (with_reducible refine Calls.mono (A2.out _ T6.out) ?_)
        rintro e w7 ⟨rfl, hb⟩
        have B7 := Lib.hid (B6.out.trans (hb.mono B6.out.size))
        have T7 := Lib.hid (T6.out.below hb)
        clear hb
        go_wp2_with fail
        (with_reducible refine Calls.mono (C3.out _) ?_)
        rintro e w8 ⟨rfl, hb⟩
        have B8 := Lib.hid (B7.out.trans (hb.mono B7.out.size))
        have T8 := Lib.hid (T7.out.below hb)
        clear hb
        go_wp2_with fail
        (with_reducible refine Calls.mono (C4.out _) ?_)
        rintro e w9 ⟨rfl, hb⟩
        have B9 := Lib.hid (B8.out.trans (hb.mono B8.out.size))
        have T9 := Lib.hid (T8.out.below hb)
        clear hb
        go_wp2_with fail
        (with_reducible refine Calls.mono (C5.out _) ?_)
        rintro e w10 ⟨rfl, hb⟩
        have B10 := Lib.hid (B9.out.trans (hb.mono B9.out.size))
        have T10 := Lib.hid (T9.out.below hb)
        clear hb
        go_wp2_with fail
        (with_reducible refine Calls.mono (A3.out _ T10.out) ?_)
        rintro e w11 ⟨rfl, hb⟩
        have B11 := Lib.hid (B10.out.trans (hb.mono B10.out.size))
        have T11 := Lib.hid (T10.out.below hb)
        clear hb
        go_wp2_with fail
        (with_reducible refine Calls.mono (A4.out _ T11.out) ?_)
        rintro e w12 ⟨rfl, hb⟩
        have B12 := Lib.hid (B11.out.trans (hb.mono B11.out.size))
        have T12 := Lib.hid (T11.out.below hb)
        clear hb
        go_wp2_with fail
        (with_reducible refine Calls.mono (I1.out _) ?_)
        rintro e w13 ⟨rfl, hb⟩
        have B13 := Lib.hid (B12.out.trans (hb.mono B12.out.size))
        have T13 := Lib.hid (T12.out.below hb)
        clear hb
        go_wp2_with fail
        (with_reducible refine Calls.mono (I2.out _) ?_)
        rintro e w14 ⟨rfl, hb⟩
        have B14 := Lib.hid (B13.out.trans (hb.mono B13.out.size))
        have T14 := Lib.hid (T13.out.below hb)
        clear hb
        go_wp2_with fail
        (with_reducible refine Calls.mono (I3.out _) ?_)
        rintro e w15 ⟨rfl, hb⟩
        have B15 := Lib.hid (B14.out.trans (hb.mono B14.out.size))
        have T15 := Lib.hid (T14.out.below hb)
        clear hb
        go_wp2_with fail
        (with_reducible refine Calls.mono (I4.out _) ?_)
        rintro e w16 ⟨rfl, hb⟩
        have B16 := Lib.hid (B15.out.trans (hb.mono B15.out.size))
        have T16 := Lib.hid (T15.out.below hb)
        clear hb
        go_wp2_with fail
        (with_reducible refine Calls.mono (I5.out _) ?_)
        rintro e w17 ⟨rfl, hb⟩
        have B17 := Lib.hid (B16.out.trans (hb.mono B16.out.size))
        have T17 := Lib.hid (T16.out.below hb)
        clear hb
        go_wp2_with fail
        (with_reducible refine Calls.mono (LO.out _) ?_)
        rintro e w18 ⟨rfl, hb⟩
        have B18 := Lib.hid (B17.out.trans (hb.mono B17.out.size))
        have T18 := Lib.hid (T17.out.below hb)
        clear hb
        go_wp2_with fail
        (with_reducible refine Calls.mono (HI.out _) ?_)
        rintro e w19 ⟨rfl, hb⟩
        have B19 := Lib.hid (B18.out.trans (hb.mono B18.out.size))
        have T19 := Lib.hid (T18.out.below hb)
        clear hb
        go_wp2_with fail
        (with_reducible refine Calls.mono (C6.out _) ?_)
        rintro e w20 ⟨rfl, hb⟩
        have B20 := Lib.hid (B19.out.trans (hb.mono B19.out.size))
        have T20 := Lib.hid (T19.out.below hb)
        clear hb
        go_wp2_with fail
        (with_reducible refine Calls.mono (C7.out _) ?_)
        rintro e w21 ⟨rfl, hb⟩
        have B21 := Lib.hid (B20.out.trans (hb.mono B20.out.size))
        have T21 := Lib.hid (T20.out.below hb)
        clear hb
        go_wp2_with fail
        (with_reducible refine Calls.mono (AW.out _ T21.out) ?_)
        rintro e w22 ⟨rfl, hb⟩
        have B22 := Lib.hid (B21.out.trans (hb.mono B21.out.size))
        have T22 := Lib.hid (T21.out.below hb)
        clear hb
        go_wp2
        go_ret
        exact ⟨rfl, B22.out⟩
      · have C1 := Lib.hid (fun W => Cmp_oc (a := X) (b := Y) W (k _ hX (by omega)) (k _ hY (by omega)) (oc_eq (by grind)))
        have C2 := Lib.hid (fun W => Cmp_oc (a := Y) (b := X) W (k _ hY (by omega)) (k _ hX (by omega)) (oc_eq (by grind)))
        have C3 := Lib.hid (fun W => Cmp_oc (a := X + Z) (b := Y + Z) W (k _ xz (by omega)) (k _ yz (by omega)) (oc_eq (by grind)))
        have C4 := Lib.hid (fun W => Cmp_oc (a := X) (b := (X + Y) / 2) W (k _ hX (by omega)) (k _ mm (by omega)) (oc_eq (by grind)))
        have C5 := Lib.hid (fun W => Cmp_oc (a := (X + Y) / 2) (b := Y) W (k _ mm (by omega)) (k _ hY (by omega)) (oc_eq (by grind)))
        have C6 := Lib.hid (fun W => Cmp_oc (a := Y) (b := Z) W (k _ hY (by omega)) (k _ hZ (by omega)) (oc_gt (by grind)))
        have C7 := Lib.hid True.intro
        have SG := Lib.hid (fun W => Sign_oc (a := X - Y) W (k _ xsy (by omega)) (oc_eq (by grind)))
        have LO := Lib.hid (fun W => Min_le (a := X) (b := Y) W (k _ hX (by omega)) (k _ hY (by omega)) (by grind))
        have HI := Lib.hid (fun W => Max_ge (a := X) (b := Y) W (k _ hX (by omega)) (k _ hY (by omega)) (by grind))
        replace exy : (SX.toList == SY.toList) = true := exy.trans (decide_eq_true (by grind))
        have eyx : (SY.toList == SX.toList) = true := by rw [BEq.comm]; exact exy
        obtain ⟨SXZ, hSXZ⟩ : ∃ s, s = qx (X + Z) := ⟨_, rfl⟩
        obtain ⟨SYZ, hSYZ⟩ : ∃ s, s = qx (Y + Z) := ⟨_, rfl⟩
        obtain ⟨SXY, hSXY⟩ : ∃ s, s = qx (X + Y) := ⟨_, rfl⟩
        obtain ⟨SD, hSD⟩ : ∃ s, s = qx (X - Y) := ⟨_, rfl⟩
        obtain ⟨SM, hSM⟩ : ∃ s, s = qx ((X + Y) / 2) := ⟨_, rfl⟩
        try rw [← hSXZ] at A1
        try rw [← hSXZ] at C3
        try rw [← hSYZ] at A2
        try rw [← hSYZ] at C3
        try rw [← hSXY] at A3
        try rw [← hSXY] at A4
        try rw [← hSD] at D1
        try rw [← hSD] at SG
        try rw [← hSM] at M1
        try rw [← hSM] at A3
        try rw [← hSM] at C4
        try rw [← hSM] at C5
        try rw [← hSX] at D1
        try rw [← hSX] at M1
        try rw [← hSX] at A1
        try rw [← hSX] at A4
        try rw [← hSX] at I1
        try rw [← hSX] at I2
        try rw [← hSX] at I4
        try rw [← hSX] at I5
        try rw [← hSX] at C1
        try rw [← hSX] at C2
        try rw [← hSX] at C4
        try rw [← hSX] at C7
        try rw [← hSX] at LO
        try rw [← hSX] at HI
        try rw [← hSY] at D1
        try rw [← hSY] at M1
        try rw [← hSY] at A2
        try rw [← hSY] at A4
        try rw [← hSY] at C1
        try rw [← hSY] at C2
        try rw [← hSY] at C5
        try rw [← hSY] at C6
        try rw [← hSY] at LO
        try rw [← hSY] at HI
        try rw [← hSZ] at A1
        try rw [← hSZ] at A2
        try rw [← hSZ] at C6
        try rw [← hSZ] at C7
        clear hSXZ hSYZ hSXY hSD hSM hSX hSY hSZ hX hY hZ xz yz xy xsy mm k
        go_wp2_with fail
        (with_reducible refine Calls.mono (C1.out _) ?_)
        rintro e w1 ⟨rfl, hb⟩
        have B1 := Lib.hid (B0.out.trans (hb.mono B0.out.size))
        have T1 := Lib.hid (T0.out.below hb)
        clear hb
        go_wp2_with fail
        (with_reducible refine Calls.mono (D1.out _ T1.out) ?_)
        rintro e w2 ⟨rfl, hb⟩
        have B2 := Lib.hid (B1.out.trans (hb.mono B1.out.size))
        have T2 := Lib.hid (T1.out.below hb)
        clear hb
        go_wp2_with fail
        (with_reducible refine Calls.mono (M1.out _ T2.out) ?_)
        rintro e w3 ⟨rfl, hb⟩
        have B3 := Lib.hid (B2.out.trans (hb.mono B2.out.size))
        have T3 := Lib.hid (T2.out.below hb)
        clear hb
        go_wp2_with fail
        (with_reducible refine Calls.mono (SG.out _) ?_)
        rintro e w4 ⟨rfl, hb⟩
        have B4 := Lib.hid (B3.out.trans (hb.mono B3.out.size))
        have T4 := Lib.hid (T3.out.below hb)
        clear hb
        go_wp2_with fail
        (with_reducible refine Calls.mono (C2.out _) ?_)
        rintro e w5 ⟨rfl, hb⟩
        have B5 := Lib.hid (B4.out.trans (hb.mono B4.out.size))
        have T5 := Lib.hid (T4.out.below hb)
        clear hb
        go_wp2_with fail
        (with_reducible refine Calls.mono (A1.out _ T5.out) ?_)
        rintro e w6 ⟨rfl, hb⟩
        have B6 := Lib.hid (B5.out.trans (hb.mono B5.out.size))
        have T6 := Lib.hid (T5.out.below hb)
        clear hb
        go_wp2_with fail
        (with_reducible refine Calls.mono (A2.out _ T6.out) ?_)
        rintro e w7 ⟨rfl, hb⟩
        have B7 := Lib.hid (B6.out.trans (hb.mono B6.out.size))
        have T7 := Lib.hid (T6.out.below hb)
        clear hb
        go_wp2_with fail
        (with_reducible refine Calls.mono (C3.out _) ?_)
        rintro e w8 ⟨rfl, hb⟩
        have B8 := Lib.hid (B7.out.trans (hb.mono B7.out.size))
        have T8 := Lib.hid (T7.out.below hb)
        clear hb
        go_wp2_with fail
        (with_reducible refine Calls.mono (C4.out _) ?_)
        rintro e w9 ⟨rfl, hb⟩
        have B9 := Lib.hid (B8.out.trans (hb.mono B8.out.size))
        have T9 := Lib.hid (T8.out.below hb)
        clear hb
        go_wp2_with fail
        (with_reducible refine Calls.mono (C5.out _) ?_)
        rintro e w10 ⟨rfl, hb⟩
        have B10 := Lib.hid (B9.out.trans (hb.mono B9.out.size))
        have T10 := Lib.hid (T9.out.below hb)
        clear hb
        go_wp2_with fail
        (with_reducible refine Calls.mono (A3.out _ T10.out) ?_)
        rintro e w11 ⟨rfl, hb⟩
        have B11 := Lib.hid (B10.out.trans (hb.mono B10.out.size))
        have T11 := Lib.hid (T10.out.below hb)
        clear hb
        go_wp2_with fail
        (with_reducible refine Calls.mono (A4.out _ T11.out) ?_)
        rintro e w12 ⟨rfl, hb⟩
        have B12 := Lib.hid (B11.out.trans (hb.mono B11.out.size))
        have T12 := Lib.hid (T11.out.below hb)
        clear hb
        go_wp2_with fail
        (with_reducible refine Calls.mono (I1.out _) ?_)
        rintro e w13 ⟨rfl, hb⟩
        have B13 := Lib.hid (B12.out.trans (hb.mono B12.out.size))
        have T13 := Lib.hid (T12.out.below hb)
        clear hb
        go_wp2_with fail
        (with_reducible refine Calls.mono (I2.out _) ?_)
        rintro e w14 ⟨rfl, hb⟩
        have B14 := Lib.hid (B13.out.trans (hb.mono B13.out.size))
        have T14 := Lib.hid (T13.out.below hb)
        clear hb
        go_wp2_with fail
        (with_reducible refine Calls.mono (I3.out _) ?_)
        rintro e w15 ⟨rfl, hb⟩
        have B15 := Lib.hid (B14.out.trans (hb.mono B14.out.size))
        have T15 := Lib.hid (T14.out.below hb)
        clear hb
        go_wp2_with fail
        (with_reducible refine Calls.mono (I4.out _) ?_)
        rintro e w16 ⟨rfl, hb⟩
        have B16 := Lib.hid (B15.out.trans (hb.mono B15.out.size))
        have T16 := Lib.hid (T15.out.below hb)
        clear hb
        go_wp2_with fail
        (with_reducible refine Calls.mono (I5.out _) ?_)
        rintro e w17 ⟨rfl, hb⟩
        have B17 := Lib.hid (B16.out.trans (hb.mono B16.out.size))
        have T17 := Lib.hid (T16.out.below hb)
        clear hb
        go_wp2_with fail
        (with_reducible refine Calls.mono (LO.out _) ?_)
        rintro e w18 ⟨rfl, hb⟩
        have B18 := Lib.hid (B17.out.trans (hb.mono B17.out.size))
        have T18 := Lib.hid (T17.out.below hb)
        clear hb
        go_wp2_with fail
        (with_reducible refine Calls.mono (HI.out _) ?_)
        rintro e w19 ⟨rfl, hb⟩
        have B19 := Lib.hid (B18.out.trans (hb.mono B18.out.size))
        have T19 := Lib.hid (T18.out.below hb)
        clear hb
        go_wp2_with fail
        (with_reducible refine Calls.mono (C6.out _) ?_)
        rintro e w20 ⟨rfl, hb⟩
        have B20 := Lib.hid (B19.out.trans (hb.mono B19.out.size))
        have T20 := Lib.hid (T19.out.below hb)
        clear hb
        go_wp2_with fail
        (with_reducible refine Calls.mono (AW.out _ T20.out) ?_)
        rintro e w21 ⟨rfl, hb⟩
        have B21 := Lib.hid (B20.out.trans (hb.mono B20.out.size))
        have T21 := Lib.hid (T20.out.below hb)
        clear hb
        go_wp2
        go_ret
        exact ⟨rfl, B21.out⟩
    · have C1 := Lib.hid (fun W => Cmp_oc (a := X) (b := Y) W (k _ hX (by omega)) (k _ hY (by omega)) (oc_gt (by grind)))
      have C2 := Lib.hid (fun W => Cmp_oc (a := Y) (b := X) W (k _ hY (by omega)) (k _ hX (by omega)) (oc_lt (by grind)))
      have C3 := Lib.hid (fun W => Cmp_oc (a := X + Z) (b := Y + Z) W (k _ xz (by omega)) (k _ yz (by omega)) (oc_gt (by grind)))
      have C4 := Lib.hid (fun W => Cmp_oc (a := X) (b := (X + Y) / 2) W (k _ hX (by omega)) (k _ mm (by omega)) (oc_gt (by grind)))
      have C5 := Lib.hid (fun W => Cmp_oc (a := (X + Y) / 2) (b := Y) W (k _ mm (by omega)) (k _ hY (by omega)) (oc_gt (by grind)))
      have C6 := Lib.hid True.intro
      have C7 := Lib.hid True.intro
      have SG := Lib.hid (fun W => Sign_oc (a := X - Y) W (k _ xsy (by omega)) (oc_gt (by grind)))
      have LO := Lib.hid (fun W => Min_gt (a := X) (b := Y) W (k _ hX (by omega)) (k _ hY (by omega)) (by grind))
      have HI := Lib.hid (fun W => Max_ge (a := X) (b := Y) W (k _ hX (by omega)) (k _ hY (by omega)) (by grind))
      replace exy : (SX.toList == SY.toList) = false := exy.trans (decide_eq_false (by grind))
      have eyx : (SY.toList == SX.toList) = false := by rw [BEq.comm]; exact exy
      obtain ⟨SXZ, hSXZ⟩ : ∃ s, s = qx (X + Z) := ⟨_, rfl⟩
      obtain ⟨SYZ, hSYZ⟩ : ∃ s, s = qx (Y + Z) := ⟨_, rfl⟩
      obtain ⟨SXY, hSXY⟩ : ∃ s, s = qx (X + Y) := ⟨_, rfl⟩
      obtain ⟨SD, hSD⟩ : ∃ s, s = qx (X - Y) := ⟨_, rfl⟩
      obtain ⟨SM, hSM⟩ : ∃ s, s = qx ((X + Y) / 2) := ⟨_, rfl⟩
      try rw [← hSXZ] at A1
      try rw [← hSXZ] at C3
      try rw [← hSYZ] at A2
      try rw [← hSYZ] at C3
      try rw [← hSXY] at A3
      try rw [← hSXY] at A4
      try rw [← hSD] at D1
      try rw [← hSD] at SG
      try rw [← hSM] at M1
      try rw [← hSM] at A3
      try rw [← hSM] at C4
      try rw [← hSM] at C5
      try rw [← hSX] at D1
      try rw [← hSX] at M1
      try rw [← hSX] at A1
      try rw [← hSX] at A4
      try rw [← hSX] at I1
      try rw [← hSX] at I2
      try rw [← hSX] at I4
      try rw [← hSX] at I5
      try rw [← hSX] at C1
      try rw [← hSX] at C2
      try rw [← hSX] at C4
      try rw [← hSX] at C7
      try rw [← hSX] at LO
      try rw [← hSX] at HI
      try rw [← hSY] at D1
      try rw [← hSY] at M1
      try rw [← hSY] at A2
      try rw [← hSY] at A4
      try rw [← hSY] at C1
      try rw [← hSY] at C2
      try rw [← hSY] at C5
      try rw [← hSY] at C6
      try rw [← hSY] at LO
      try rw [← hSY] at HI
      try rw [← hSZ] at A1
      try rw [← hSZ] at A2
      try rw [← hSZ] at C6
      try rw [← hSZ] at C7
      clear hSXZ hSYZ hSXY hSD hSM hSX hSY hSZ hX hY hZ xz yz xy xsy mm k
      go_wp2_with fail
      (with_reducible refine Calls.mono (C1.out _) ?_)
      rintro e w1 ⟨rfl, hb⟩
      have B1 := Lib.hid (B0.out.trans (hb.mono B0.out.size))
      have T1 := Lib.hid (T0.out.below hb)
      clear hb
      go_wp2_with fail
      (with_reducible refine Calls.mono (D1.out _ T1.out) ?_)
      rintro e w2 ⟨rfl, hb⟩
      have B2 := Lib.hid (B1.out.trans (hb.mono B1.out.size))
      have T2 := Lib.hid (T1.out.below hb)
      clear hb
      go_wp2_with fail
      (with_reducible refine Calls.mono (M1.out _ T2.out) ?_)
      rintro e w3 ⟨rfl, hb⟩
      have B3 := Lib.hid (B2.out.trans (hb.mono B2.out.size))
      have T3 := Lib.hid (T2.out.below hb)
      clear hb
      go_wp2_with fail
      (with_reducible refine Calls.mono (SG.out _) ?_)
      rintro e w4 ⟨rfl, hb⟩
      have B4 := Lib.hid (B3.out.trans (hb.mono B3.out.size))
      have T4 := Lib.hid (T3.out.below hb)
      clear hb
      go_wp2_with fail
      (with_reducible refine Calls.mono (C2.out _) ?_)
      rintro e w5 ⟨rfl, hb⟩
      have B5 := Lib.hid (B4.out.trans (hb.mono B4.out.size))
      have T5 := Lib.hid (T4.out.below hb)
      clear hb
      go_wp2_with fail
      (with_reducible refine Calls.mono (A1.out _ T5.out) ?_)
      rintro e w6 ⟨rfl, hb⟩
      have B6 := Lib.hid (B5.out.trans (hb.mono B5.out.size))
      have T6 := Lib.hid (T5.out.below hb)
      clear hb
      go_wp2_with fail
      (with_reducible refine Calls.mono (A2.out _ T6.out) ?_)
      rintro e w7 ⟨rfl, hb⟩
      have B7 := Lib.hid (B6.out.trans (hb.mono B6.out.size))
      have T7 := Lib.hid (T6.out.below hb)
      clear hb
      go_wp2_with fail
      (with_reducible refine Calls.mono (C3.out _) ?_)
      rintro e w8 ⟨rfl, hb⟩
      have B8 := Lib.hid (B7.out.trans (hb.mono B7.out.size))
      have T8 := Lib.hid (T7.out.below hb)
      clear hb
      go_wp2_with fail
      (with_reducible refine Calls.mono (C4.out _) ?_)
      rintro e w9 ⟨rfl, hb⟩
      have B9 := Lib.hid (B8.out.trans (hb.mono B8.out.size))
      have T9 := Lib.hid (T8.out.below hb)
      clear hb
      go_wp2_with fail
      (with_reducible refine Calls.mono (C5.out _) ?_)
      rintro e w10 ⟨rfl, hb⟩
      have B10 := Lib.hid (B9.out.trans (hb.mono B9.out.size))
      have T10 := Lib.hid (T9.out.below hb)
      clear hb
      go_wp2_with fail
      (with_reducible refine Calls.mono (A3.out _ T10.out) ?_)
      rintro e w11 ⟨rfl, hb⟩
      have B11 := Lib.hid (B10.out.trans (hb.mono B10.out.size))
      have T11 := Lib.hid (T10.out.below hb)
      clear hb
      go_wp2_with fail
      (with_reducible refine Calls.mono (A4.out _ T11.out) ?_)
      rintro e w12 ⟨rfl, hb⟩
      have B12 := Lib.hid (B11.out.trans (hb.mono B11.out.size))
      have T12 := Lib.hid (T11.out.below hb)
      clear hb
      go_wp2_with fail
      (with_reducible refine Calls.mono (I1.out _) ?_)
      rintro e w13 ⟨rfl, hb⟩
      have B13 := Lib.hid (B12.out.trans (hb.mono B12.out.size))
      have T13 := Lib.hid (T12.out.below hb)
      clear hb
      go_wp2_with fail
      (with_reducible refine Calls.mono (I2.out _) ?_)
      rintro e w14 ⟨rfl, hb⟩
      have B14 := Lib.hid (B13.out.trans (hb.mono B13.out.size))
      have T14 := Lib.hid (T13.out.below hb)
      clear hb
      go_wp2_with fail
      (with_reducible refine Calls.mono (I3.out _) ?_)
      rintro e w15 ⟨rfl, hb⟩
      have B15 := Lib.hid (B14.out.trans (hb.mono B14.out.size))
      have T15 := Lib.hid (T14.out.below hb)
      clear hb
      go_wp2_with fail
      (with_reducible refine Calls.mono (I4.out _) ?_)
      rintro e w16 ⟨rfl, hb⟩
      have B16 := Lib.hid (B15.out.trans (hb.mono B15.out.size))
      have T16 := Lib.hid (T15.out.below hb)
      clear hb
      go_wp2_with fail
      (with_reducible refine Calls.mono (I5.out _) ?_)
      rintro e w17 ⟨rfl, hb⟩
      have B17 := Lib.hid (B16.out.trans (hb.mono B16.out.size))
      have T17 := Lib.hid (T16.out.below hb)
      clear hb
      go_wp2_with fail
      (with_reducible refine Calls.mono (LO.out _) ?_)
      rintro e w18 ⟨rfl, hb⟩
      have B18 := Lib.hid (B17.out.trans (hb.mono B17.out.size))
      have T18 := Lib.hid (T17.out.below hb)
      clear hb
      go_wp2_with fail
      (with_reducible refine Calls.mono (HI.out _) ?_)
      rintro e w19 ⟨rfl, hb⟩
      have B19 := Lib.hid (B18.out.trans (hb.mono B18.out.size))
      have T19 := Lib.hid (T18.out.below hb)
      clear hb
      go_wp2_with fail
      (with_reducible refine Calls.mono (AW.out _ T19.out) ?_)
      rintro e w20 ⟨rfl, hb⟩
      have B20 := Lib.hid (B19.out.trans (hb.mono B19.out.size))
      have T20 := Lib.hid (T19.out.below hb)
      clear hb
      go_wp2
      go_ret
      exact ⟨rfl, B20.out⟩
end Go.Proofs.YtkhebidmfjbhaaaGreatDoor
