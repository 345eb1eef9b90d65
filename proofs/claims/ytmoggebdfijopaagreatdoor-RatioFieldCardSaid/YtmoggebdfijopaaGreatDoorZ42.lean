/-
  The law RatioField answers true.
-/
import Derived.Test.YtmoggebdfijopaaGreatDoorZ41
import Derived.Deep.RegionHeld3
import Derived.Deep.Cut
import Derived.BigQuiet
namespace Go.Proofs.YtmoggebdfijopaaGreatDoor
open Go.RowKit

set_option maxHeartbeats 8000000 in
set_option maxRecDepth 100000 in
theorem field_any (a0 a1 : ByteArray) (b0 b1 : ByteArray) (c0 c1 : ByteArray) (w : World) (tb : Tb w) (ha0 : a0.size ≤ 9223372036854775807) (ha1 : a1.size ≤ 9223372036854775807) (hb0 : b0.size ≤ 9223372036854775807) (hb1 : b1.size ≤ 9223372036854775807) (hc0 : c0.size ≤ 9223372036854775807) (hc1 : c1.size ≤ 9223372036854775807) :
    Calls Tryz.prog 7 #[.agg #[.string a0, .string a1], .agg #[.string b0, .string b1], .agg #[.string c0, .string c1]] w fun e w' => e = .returned (.bool true) ∧ Below w.heap.size w w' := by
  go_enter Tryz.func7, Tryz.ntmps7
  go_wp2_with fail
  obtain ⟨W0, hW0⟩ : ∃ W0, W0 = (((w.alloc (.cells #[.string a0, .string a1] 56)).alloc (.cells #[.string b0, .string b1] 56)).alloc (.cells #[.string c0, .string c1] 56)) := ⟨_, rfl⟩
  have BW := Lib.hid (show Below w.heap.size w W0 from by rw [hW0]; exact (bel_alloc (bel_alloc (bel_alloc (Below.refl w.heap.size w)))))
  have X0 : Bx2 W0 (w.heap.size) a0 a1 := by rw [hW0]; exact (((Bx2.new w a0 a1 56 (w.heap.size) (by first | rfl | (simp; done) | (simp; omega))).below (alloc_below _ _)).below (alloc_below _ _))
  have X1 : Bx2 W0 (w.heap.size + 1) b0 b1 := by rw [hW0]; exact ((Bx2.new (w.alloc (.cells #[.string a0, .string a1] 56)) b0 b1 56 (w.heap.size + 1) (by first | rfl | (simp; done) | (simp; omega))).below (alloc_below _ _))
  have X2 : Bx2 W0 (w.heap.size + 1 + 1) c0 c1 := by rw [hW0]; exact (Bx2.new ((w.alloc (.cells #[.string a0, .string a1] 56)).alloc (.cells #[.string b0, .string b1] 56)) c0 c1 56 (w.heap.size + 1 + 1) (by first | rfl | (simp; done) | (simp; omega)))
  have KC := Lib.hid (show ∀ W, Below W0.heap.size W0 W → (W.cell? ⟨w.heap.size, 0, none⟩ = some (.string a0) ∧ W.cell? ⟨w.heap.size, 1, none⟩ = some (.string a1)) ∧ (W.cell? ⟨w.heap.size + 1, 0, none⟩ = some (.string b0) ∧ W.cell? ⟨w.heap.size + 1, 1, none⟩ = some (.string b1)) ∧ (W.cell? ⟨w.heap.size + 1 + 1, 0, none⟩ = some (.string c0) ∧ W.cell? ⟨w.heap.size + 1 + 1, 1, none⟩ = some (.string c1)) from fun W hb => ⟨⟨(X0.below hb).c0, (X0.below hb).c1⟩, ⟨(X1.below hb).c0, (X1.below hb).c1⟩, ⟨(X2.below hb).c0, (X2.below hb).c1⟩⟩)
  have Fa := Lib.hid (fun W => (show Calls Tryz.prog 65 #[.string a0, .string a1, .int .i64 60] W (fun e w' => ∃ q : Rat, Sm 60 q ∧ GivesY (qx q) W e w') from fit3_any a0 a1 60 W ha0 ha1 (by omega) (by omega)))
  have Fb := Lib.hid (fun W => (show Calls Tryz.prog 65 #[.string b0, .string b1, .int .i64 60] W (fun e w' => ∃ q : Rat, Sm 60 q ∧ GivesY (qx q) W e w') from fit3_any b0 b1 60 W hb0 hb1 (by omega) (by omega)))
  have Fc := Lib.hid (fun W => (show Calls Tryz.prog 65 #[.string c0, .string c1, .int .i64 60] W (fun e w' => ∃ q : Rat, Sm 60 q ∧ GivesY (qx q) W e w') from fit3_any c0 c1 60 W hc0 hc1 (by omega) (by omega)))
  rw [← hW0]
  clear hW0 X0 X1 X2
  have HB := Lib.hid (Below.refl W0.heap.size W0)
  go_upto_region 1 with fail
  go_cut [7, 8, 9] from 10 (fun xX xY xZ W => ∃ (X Y Z : Rat) (SX SY SZ : ByteArray), Sm 60 X ∧ SX = qx X ∧ xX = .string SX ∧ Sm 60 Y ∧ SY = qx Y ∧ xY = .string SY ∧ Sm 60 Z ∧ SZ = qx Z ∧ xZ = .string SZ ∧ Below W0.heap.size W0 W)
  case first =>
    go_region_held3 (fun W => (W.cell? ⟨w.heap.size, 0, none⟩ = some (.string a0) ∧ W.cell? ⟨w.heap.size, 1, none⟩ = some (.string a1)) ∧ (W.cell? ⟨w.heap.size + 1, 0, none⟩ = some (.string b0) ∧ W.cell? ⟨w.heap.size + 1, 1, none⟩ = some (.string b1)) ∧ (W.cell? ⟨w.heap.size + 1 + 1, 0, none⟩ = some (.string c0) ∧ W.cell? ⟨w.heap.size + 1 + 1, 1, none⟩ = some (.string c1))) (exact KC.out _ (by ((repeat (with_reducible apply bel_drew)); with_reducible exact HB.out))) (first | (go_at_call 65; refine armL (b := W0) (by ((repeat (with_reducible apply bel_drew)); with_reducible exact HB.out)) (by with_reducible exact Fa.out _) ?_; rintro e w1 ⟨⟨X, hX, rfl, hb1⟩, G⟩; obtain ⟨SX, hSX⟩ : ∃ s, s = qx X := ⟨_, rfl⟩; rw [← hSX]; have HSX := Lib.hid hSX; have HMX := Lib.hid hX; replace HB := Lib.hid (G.trans (hb1.mono G.size)); clear hSX hX hb1 G) | (go_at_call 65; refine armL (b := W0) (by ((repeat (with_reducible apply bel_drew)); with_reducible exact HB.out)) (by with_reducible exact Fb.out _) ?_; rintro e w1 ⟨⟨Y, hY, rfl, hb1⟩, G⟩; obtain ⟨SY, hSY⟩ : ∃ s, s = qx Y := ⟨_, rfl⟩; rw [← hSY]; have HSY := Lib.hid hSY; have HMY := Lib.hid hY; replace HB := Lib.hid (G.trans (hb1.mono G.size)); clear hSY hY hb1 G) | (go_at_call 65; refine armL (b := W0) (by ((repeat (with_reducible apply bel_drew)); with_reducible exact HB.out)) (by with_reducible exact Fc.out _) ?_; rintro e w1 ⟨⟨Z, hZ, rfl, hb1⟩, G⟩; obtain ⟨SZ, hSZ⟩ : ∃ s, s = qx Z := ⟨_, rfl⟩; rw [← hSZ]; have HSZ := Lib.hid hSZ; have HMZ := Lib.hid hZ; replace HB := Lib.hid (G.trans (hb1.mono G.size)); clear hSZ hZ hb1 G) | fail)
    all_goals (go_wp2_with fail; go_meet; case rel => exact ⟨X, Y, Z, SX, SY, SZ, HMX.out, HSX.out, rfl, HMY.out, HSY.out, rfl, HMZ.out, HSZ.out, rfl, (by ((repeat (with_reducible apply bel_drew)); with_reducible exact HB.out))⟩)
  case rest =>
    obtain ⟨X, Y, Z, SX, SY, SZ, hX, hSX, rfl, hY, hSY, rfl, hZ, hSZ, rfl, hB⟩ := hcut
    have B0 := Lib.hid (BW.out.trans (hB.mono BW.out.size))
    have T0 := Lib.hid (tb.below (BW.out.trans (hB.mono BW.out.size)))
    clear HB KC BW hB Fa Fb Fc ha0 ha1 hb0 hb1 hc0 hc1
    have AW := Lib.hid (fun W (tb : Tb W) => awake3_any W tb)
    have k (n : Nat) {a : Rat} (h : Sm n a) (hn : n ≤ 1000) : Sm 1000 a := h.mono hn
    have xy := hX.add hY (by omega) (by omega)
    have yz := hY.add hZ (by omega) (by omega)
    have xyz := xy.add hZ (by omega) (by omega)
    have pxy := hX.mul hY (by omega)
    have pyz := hY.mul hZ (by omega)
    have pxz := hX.mul hZ (by omega)
    have pxyz := pxy.mul hZ (by omega)
    have pxs := hX.mul yz (by omega)
    have A1 := Lib.hid (fun W tb => sum_q (a := X) (b := Y) W tb (k _ hX (by omega)) (k _ hY (by omega)) (k _ xy (by omega)) rfl)
    have A2 := Lib.hid (fun W tb => sum_q (a := Y) (b := X) (c := X + Y) W tb (k _ hY (by omega)) (k _ hX (by omega)) (k _ xy (by omega)) (Rat.add_comm Y X))
    have M1 := Lib.hid (fun W tb => product_q (a := X) (b := Y) W tb (k _ hX (by omega)) (k _ hY (by omega)) (k _ pxy (by omega)) rfl)
    have M2 := Lib.hid (fun W tb => product_q (a := Y) (b := X) (c := X * Y) W tb (k _ hY (by omega)) (k _ hX (by omega)) (k _ pxy (by omega)) (Rat.mul_comm Y X))
    have A3 := Lib.hid (fun W tb => sum_q (a := X + Y) (b := Z) W tb (k _ xy (by omega)) (k _ hZ (by omega)) (k _ xyz (by omega)) rfl)
    have A4 := Lib.hid (fun W tb => sum_q (a := Y) (b := Z) W tb (k _ hY (by omega)) (k _ hZ (by omega)) (k _ yz (by omega)) rfl)
    have A5 := Lib.hid (fun W tb => sum_q (a := X) (b := Y + Z) (c := X + Y + Z) W tb (k _ hX (by omega)) (k _ yz (by omega)) (k _ xyz (by omega)) (Rat.add_assoc X Y Z).symm)
    have M3 := Lib.hid (fun W tb => product_q (a := X * Y) (b := Z) W tb (k _ pxy (by omega)) (k _ hZ (by omega)) (k _ pxyz (by omega)) rfl)
    have M4 := Lib.hid (fun W tb => product_q (a := Y) (b := Z) W tb (k _ hY (by omega)) (k _ hZ (by omega)) (k _ pyz (by omega)) rfl)
    have M5 := Lib.hid (fun W tb => product_q (a := X) (b := Y * Z) (c := X * Y * Z) W tb (k _ hX (by omega)) (k _ pyz (by omega)) (k _ pxyz (by omega)) (Rat.mul_assoc X Y Z).symm)
    have M6 := Lib.hid (fun W tb => product_q (a := X) (b := Y + Z) W tb (k _ hX (by omega)) (k _ yz (by omega)) (k _ pxs (by omega)) rfl)
    have M7 := Lib.hid (fun W tb => product_q (a := X) (b := Z) W tb (k _ hX (by omega)) (k _ hZ (by omega)) (k _ pxz (by omega)) rfl)
    have A6 := Lib.hid (fun W tb => sum_q (a := X * Y) (b := X * Z) (c := X * (Y + Z)) W tb (k _ pxy (by omega)) (k _ pxz (by omega)) (k _ pxs (by omega)) (Rat.mul_add X Y Z).symm)
    have SB := Lib.hid (fun W tb => Sub_ok (a := X + Y) (b := Y) (c := X) W tb (k _ xy (by omega)) (k _ hY (by omega)) (k _ hX (by omega)) (by grind))
    have A8 := Lib.hid (fun W tb => sum_q (a := X) (b := 0) (c := X) W tb (k _ hX (by omega)) (sm0 (by omega)) (k _ hX (by omega)) (Rat.add_zero X))
    rw [q0_lit] at A8
    have M8 := Lib.hid (fun W tb => product_q (a := X) (b := 1) (c := X) W tb (k _ hX (by omega)) (sm1 (by omega)) (k _ hX (by omega)) (Rat.mul_one X))
    rw [q1_lit] at M8
    have NG := Lib.hid (fun W => Neg_q X W (k _ hX (by omega)))
    have A9 := Lib.hid (fun W tb => sum_q (a := X) (b := -X) (c := 0) W tb (k _ hX (by omega)) (k _ hX.neg (by omega)) (sm0 (by omega)) (by grind))
    obtain ⟨S0, hS0⟩ : ∃ s, s = qx 0 := ⟨_, rfl⟩
    have e00 : (S0.toList == [48]) = true := by rw [hS0, q0_lit, Lib.toList_data]; rfl
    have ey0 : (SY.toList == [48]) = decide (Y = 0) := by
      rw [hSY, show ([48] : List UInt8) = (qx 0).toList by rw [q0_lit, Lib.toList_data], str_eq]
      exact decide_eq_decide.mpr ⟨fun h => qx_inj h, fun h => by rw [h]⟩
    have DV : (Y = 0 → Hid (∀ W, Calls Tryz.prog 43 #[.string (qx (X * Y)), .string (qx Y)] W (GivesSn ⟨#[]⟩ 9 W))) ∧ (¬ Y = 0 → Hid (∀ W, Tb W → Calls Tryz.prog 43 #[.string (qx (X * Y)), .string (qx Y)] W (GivesSn (qx X) 0 W))) := by
      refine ⟨fun h W => ?_, fun h W tb => ?_⟩
      · subst h
        exact Div_q0 W (k _ pxy (by omega))
      · exact Div_ok (a := X * Y) (b := Y) (c := X) W tb (k _ pxy (by omega)) (k _ hY (by omega)) (k _ hX (by omega)) h (by grind)
    obtain ⟨S1, hS1⟩ : ∃ s, s = qx (X + Y) := ⟨_, rfl⟩
    obtain ⟨P1, hP1⟩ : ∃ s, s = qx (X * Y) := ⟨_, rfl⟩
    obtain ⟨S2, hS2⟩ : ∃ s, s = qx (X + Y + Z) := ⟨_, rfl⟩
    obtain ⟨S3, hS3⟩ : ∃ s, s = qx (Y + Z) := ⟨_, rfl⟩
    obtain ⟨P2, hP2⟩ : ∃ s, s = qx (X * Y * Z) := ⟨_, rfl⟩
    obtain ⟨P3, hP3⟩ : ∃ s, s = qx (Y * Z) := ⟨_, rfl⟩
    obtain ⟨P4, hP4⟩ : ∃ s, s = qx (X * (Y + Z)) := ⟨_, rfl⟩
    obtain ⟨P5, hP5⟩ : ∃ s, s = qx (X * Z) := ⟨_, rfl⟩
    obtain ⟨NX, hNX⟩ : ∃ s, s = qx (-X) := ⟨_, rfl⟩
    rw [← hS1] at A1 A2 A3 SB
    rw [← hP1] at M1 M2 M3 A6 DV
    rw [← hS2] at A3 A5
    rw [← hS3] at A4 A5 M6
    rw [← hP2] at M3 M5
    rw [← hP3] at M4 M5
    rw [← hP4] at M6 A6
    rw [← hP5] at M7 A6
    rw [← hNX] at NG A9
    rw [← hSX] at A1 A2 M1 M2 A5 M5 M6 M7 SB A8 M8 NG A9 DV
    rw [← hSY] at A1 A2 M1 M2 A4 M4 SB DV
    rw [← hSZ] at A3 A4 M3 M4 M7
    rw [← hS0] at A9
    have IY := Lib.hid (fun W => is3_yes SX W)
    clear hS1 hP1 hS2 hS3 hP2 hP3 hP4 hP5 hNX hSX hSY hSZ hS0 hX hY hZ xy yz xyz pxy pyz pxz pxyz pxs k
    go_wp2_with fail
    (with_reducible refine Calls.mono (A1.out _ T0.out) ?_)
    rintro e w1 ⟨rfl, hb⟩
    have B1 := Lib.hid (B0.out.trans (hb.mono B0.out.size))
    have T1 := Lib.hid (T0.out.below hb)
    clear hb
    go_wp2_with fail
    (with_reducible refine Calls.mono (A2.out _ T1.out) ?_)
    rintro e w2 ⟨rfl, hb⟩
    have B2 := Lib.hid (B1.out.trans (hb.mono B1.out.size))
    have T2 := Lib.hid (T1.out.below hb)
    clear hb
    go_wp2_with fail
    (with_reducible refine Calls.mono (M1.out _ T2.out) ?_)
    rintro e w3 ⟨rfl, hb⟩
    have B3 := Lib.hid (B2.out.trans (hb.mono B2.out.size))
    have T3 := Lib.hid (T2.out.below hb)
    clear hb
    go_wp2_with fail
    (with_reducible refine Calls.mono (M2.out _ T3.out) ?_)
    rintro e w4 ⟨rfl, hb⟩
    have B4 := Lib.hid (B3.out.trans (hb.mono B3.out.size))
    have T4 := Lib.hid (T3.out.below hb)
    clear hb
    go_wp2_with fail
    (with_reducible refine Calls.mono (A1.out _ T4.out) ?_)
    rintro e w5 ⟨rfl, hb⟩
    have B5 := Lib.hid (B4.out.trans (hb.mono B4.out.size))
    have T5 := Lib.hid (T4.out.below hb)
    clear hb
    go_wp2_with fail
    (with_reducible refine Calls.mono (A3.out _ T5.out) ?_)
    rintro e w6 ⟨rfl, hb⟩
    have B6 := Lib.hid (B5.out.trans (hb.mono B5.out.size))
    have T6 := Lib.hid (T5.out.below hb)
    clear hb
    go_wp2_with fail
    (with_reducible refine Calls.mono (A4.out _ T6.out) ?_)
    rintro e w7 ⟨rfl, hb⟩
    have B7 := Lib.hid (B6.out.trans (hb.mono B6.out.size))
    have T7 := Lib.hid (T6.out.below hb)
    clear hb
    go_wp2_with fail
    (with_reducible refine Calls.mono (A5.out _ T7.out) ?_)
    rintro e w8 ⟨rfl, hb⟩
    have B8 := Lib.hid (B7.out.trans (hb.mono B7.out.size))
    have T8 := Lib.hid (T7.out.below hb)
    clear hb
    go_wp2_with fail
    (with_reducible refine Calls.mono (M1.out _ T8.out) ?_)
    rintro e w9 ⟨rfl, hb⟩
    have B9 := Lib.hid (B8.out.trans (hb.mono B8.out.size))
    have T9 := Lib.hid (T8.out.below hb)
    clear hb
    go_wp2_with fail
    (with_reducible refine Calls.mono (M3.out _ T9.out) ?_)
    rintro e w10 ⟨rfl, hb⟩
    have B10 := Lib.hid (B9.out.trans (hb.mono B9.out.size))
    have T10 := Lib.hid (T9.out.below hb)
    clear hb
    go_wp2_with fail
    (with_reducible refine Calls.mono (M4.out _ T10.out) ?_)
    rintro e w11 ⟨rfl, hb⟩
    have B11 := Lib.hid (B10.out.trans (hb.mono B10.out.size))
    have T11 := Lib.hid (T10.out.below hb)
    clear hb
    go_wp2_with fail
    (with_reducible refine Calls.mono (M5.out _ T11.out) ?_)
    rintro e w12 ⟨rfl, hb⟩
    have B12 := Lib.hid (B11.out.trans (hb.mono B11.out.size))
    have T12 := Lib.hid (T11.out.below hb)
    clear hb
    go_wp2_with fail
    (with_reducible refine Calls.mono (A4.out _ T12.out) ?_)
    rintro e w13 ⟨rfl, hb⟩
    have B13 := Lib.hid (B12.out.trans (hb.mono B12.out.size))
    have T13 := Lib.hid (T12.out.below hb)
    clear hb
    go_wp2_with fail
    (with_reducible refine Calls.mono (M6.out _ T13.out) ?_)
    rintro e w14 ⟨rfl, hb⟩
    have B14 := Lib.hid (B13.out.trans (hb.mono B13.out.size))
    have T14 := Lib.hid (T13.out.below hb)
    clear hb
    go_wp2_with fail
    (with_reducible refine Calls.mono (M1.out _ T14.out) ?_)
    rintro e w15 ⟨rfl, hb⟩
    have B15 := Lib.hid (B14.out.trans (hb.mono B14.out.size))
    have T15 := Lib.hid (T14.out.below hb)
    clear hb
    go_wp2_with fail
    (with_reducible refine Calls.mono (M7.out _ T15.out) ?_)
    rintro e w16 ⟨rfl, hb⟩
    have B16 := Lib.hid (B15.out.trans (hb.mono B15.out.size))
    have T16 := Lib.hid (T15.out.below hb)
    clear hb
    go_wp2_with fail
    (with_reducible refine Calls.mono (A6.out _ T16.out) ?_)
    rintro e w17 ⟨rfl, hb⟩
    have B17 := Lib.hid (B16.out.trans (hb.mono B16.out.size))
    have T17 := Lib.hid (T16.out.below hb)
    clear hb
    go_wp2_with fail
    (with_reducible refine Calls.mono (A1.out _ T17.out) ?_)
    rintro e w18 ⟨rfl, hb⟩
    have B18 := Lib.hid (B17.out.trans (hb.mono B17.out.size))
    have T18 := Lib.hid (T17.out.below hb)
    clear hb
    go_wp2_with fail
    (with_reducible refine Calls.mono (SB.out _ T18.out) ?_)
    rintro e w19 ⟨rfl, hb⟩
    have B19 := Lib.hid (B18.out.trans (hb.mono B18.out.size))
    have T19 := Lib.hid (T18.out.below hb)
    clear hb
    go_wp2_with fail
    (with_reducible refine Calls.mono (M1.out _ T19.out) ?_)
    rintro e w20 ⟨rfl, hb⟩
    have B20 := Lib.hid (B19.out.trans (hb.mono B19.out.size))
    have T20 := Lib.hid (T19.out.below hb)
    clear hb
    by_cases hy0 : Y = 0
    · rw [decide_eq_true hy0] at ey0
      have DV := DV.1 hy0
      clear hy0
      go_wp2_with fail
      (with_reducible refine Calls.mono (DV.out _) ?_)
      rintro e w21 ⟨rfl, hb⟩
      have B21 := Lib.hid (B20.out.trans (hb.mono B20.out.size))
      have T21 := Lib.hid (T20.out.below hb)
      clear hb
      go_wp2_with fail
      (with_reducible refine Calls.mono (IY.out _) ?_)
      rintro e w' ⟨rfl, rfl⟩
      go_wp2_with fail
      (with_reducible refine Calls.mono (A8.out _ T21.out) ?_)
      rintro e w22 ⟨rfl, hb⟩
      have B22 := Lib.hid (B21.out.trans (hb.mono B21.out.size))
      have T22 := Lib.hid (T21.out.below hb)
      clear hb
      go_wp2_with fail
      (with_reducible refine Calls.mono (M8.out _ T22.out) ?_)
      rintro e w23 ⟨rfl, hb⟩
      have B23 := Lib.hid (B22.out.trans (hb.mono B22.out.size))
      have T23 := Lib.hid (T22.out.below hb)
      clear hb
      go_wp2_with fail
      (with_reducible refine Calls.mono (NG.out _) ?_)
      rintro e w24 ⟨rfl, hb⟩
      have B24 := Lib.hid (B23.out.trans (hb.mono B23.out.size))
      have T24 := Lib.hid (T23.out.below hb)
      clear hb
      go_wp2_with fail
      (with_reducible refine Calls.mono (A9.out _ T24.out) ?_)
      rintro e w25 ⟨rfl, hb⟩
      have B25 := Lib.hid (B24.out.trans (hb.mono B24.out.size))
      have T25 := Lib.hid (T24.out.below hb)
      clear hb
      go_wp2_with fail
      (with_reducible refine Calls.mono (AW.out _ T25.out) ?_)
      rintro e w26 ⟨rfl, hb⟩
      have B26 := Lib.hid (B25.out.trans (hb.mono B25.out.size))
      have T26 := Lib.hid (T25.out.below hb)
      clear hb
      go_wp2
      go_ret
      exact ⟨rfl, B26.out⟩
    · rw [decide_eq_false hy0] at ey0
      have DV := DV.2 hy0
      clear hy0
      go_wp2_with fail
      (with_reducible refine Calls.mono (DV.out _ T20.out) ?_)
      rintro e w21 ⟨rfl, hb⟩
      have B21 := Lib.hid (B20.out.trans (hb.mono B20.out.size))
      have T21 := Lib.hid (T20.out.below hb)
      clear hb
      go_wp2_with fail
      (with_reducible refine Calls.mono (IY.out _) ?_)
      rintro e w' ⟨rfl, rfl⟩
      go_wp2_with fail
      (with_reducible refine Calls.mono (A8.out _ T21.out) ?_)
      rintro e w22 ⟨rfl, hb⟩
      have B22 := Lib.hid (B21.out.trans (hb.mono B21.out.size))
      have T22 := Lib.hid (T21.out.below hb)
      clear hb
      go_wp2_with fail
      (with_reducible refine Calls.mono (M8.out _ T22.out) ?_)
      rintro e w23 ⟨rfl, hb⟩
      have B23 := Lib.hid (B22.out.trans (hb.mono B22.out.size))
      have T23 := Lib.hid (T22.out.below hb)
      clear hb
      go_wp2_with fail
      (with_reducible refine Calls.mono (NG.out _) ?_)
      rintro e w24 ⟨rfl, hb⟩
      have B24 := Lib.hid (B23.out.trans (hb.mono B23.out.size))
      have T24 := Lib.hid (T23.out.below hb)
      clear hb
      go_wp2_with fail
      (with_reducible refine Calls.mono (A9.out _ T24.out) ?_)
      rintro e w25 ⟨rfl, hb⟩
      have B25 := Lib.hid (B24.out.trans (hb.mono B24.out.size))
      have T25 := Lib.hid (T24.out.below hb)
      clear hb
      go_wp2_with fail
      (with_reducible refine Calls.mono (IY.out _) ?_)
      rintro e w' ⟨rfl, rfl⟩
      go_wp2_with fail
      (with_reducible refine Calls.mono (AW.out _ T25.out) ?_)
      rintro e w26 ⟨rfl, hb⟩
      have B26 := Lib.hid (B25.out.trans (hb.mono B25.out.size))
      have T26 := Lib.hid (T25.out.below hb)
      clear hb
      go_wp2
      go_ret
      exact ⟨rfl, B26.out⟩
end Go.Proofs.YtmoggebdfijopaaGreatDoor
