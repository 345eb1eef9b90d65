/-
  The law WholeRing answers true.
-/
import Derived.Test.YtgeokeffondmhaaDoorZsd
namespace Go.Proofs.YtgeokeffondmhaaDoor
open Go.RowKit

set_option maxHeartbeats 4000000 in
set_option maxRecDepth 100000 in
theorem ring_any (a b c : ByteArray) (w : World) (tb : Tb w) (ha : a.size ≤ 9223372036854775807) (hb : b.size ≤ 9223372036854775807) (hc : c.size ≤ 9223372036854775807) :
    Calls Tryd.prog 3 #[.string a, .string b, .string c] w fun e w' => e = .returned (.bool true) ∧ Below w.heap.size w w' := by
  have B0 := Lib.hid (Below.refl w.heap.size w)
  have T0 := Lib.hid tb
  go_enter Tryd.func3, Tryd.ntmps3
  go_wp2_with fail
  (with_reducible refine Calls.mono (fit_any a 300 _ ha (by omega) (by omega)) ?_)
  rintro e w1 ⟨X, hX, rfl, hb⟩
  have B1 := Lib.hid (B0.out.trans (hb.mono B0.out.size))
  have T1 := Lib.hid (T0.out.below hb)
  clear hb
  obtain ⟨SX, hSX⟩ : ∃ s, s = tx X := ⟨_, rfl⟩
  rw [← hSX]
  have HSX := Lib.hid hSX
  clear hSX
  go_wp2_with fail
  (with_reducible refine Calls.mono (fit_any b 300 _ hb (by omega) (by omega)) ?_)
  rintro e w2 ⟨Y, hY, rfl, hb⟩
  have B2 := Lib.hid (B1.out.trans (hb.mono B1.out.size))
  have T2 := Lib.hid (T1.out.below hb)
  clear hb
  obtain ⟨SY, hSY⟩ : ∃ s, s = tx Y := ⟨_, rfl⟩
  rw [← hSY]
  have HSY := Lib.hid hSY
  clear hSY
  go_wp2_with fail
  (with_reducible refine Calls.mono (fit_any c 300 _ hc (by omega) (by omega)) ?_)
  rintro e w3 ⟨Z, hZ, rfl, hb⟩
  have B3 := Lib.hid (B2.out.trans (hb.mono B2.out.size))
  have T3 := Lib.hid (T2.out.below hb)
  clear hb
  obtain ⟨SZ, hSZ⟩ : ∃ s, s = tx Z := ⟨_, rfl⟩
  rw [← hSZ]
  have HSZ := Lib.hid hSZ
  clear hSZ
  have hSX := HSX.out
  have hSY := HSY.out
  have hSZ := HSZ.out
  have AW := Lib.hid (fun W (tb : Tb W) => awake_any W tb)
  have hnY : dn (-Y) ≤ 300 := by rw [dn_neg]; exact hY
  have hnX : dn (-X) ≤ 300 := by rw [dn_neg]; exact hX
  have dxy := dn_plus hX hY
  have dyz := dn_plus hY hZ
  have dxyz := dn_plus dxy (y := Z) (by omega)
  have pxy := dn_times hX hY (by omega)
  have pyz := dn_times hY hZ (by omega)
  have pxz := dn_times hX hZ (by omega)
  have pxyz := dn_times pxy hZ (by omega)
  have pxs := dn_times hX dyz (by omega)
  have dxny := dn_plus hX hnY
  have A1 := Lib.hid (fun W tb => sum_tx X Y W tb (by omega) (by omega) (by omega))
  have A2 := Lib.hid (fun W tb => sum_tx Y X W tb (by omega) (by omega) (by rw [Int.add_comm]; omega))
  rw [Int.add_comm Y X] at A2
  have M1 := Lib.hid (fun W tb => product_tx X Y W tb (by omega) (by omega) (by omega))
  have M2 := Lib.hid (fun W tb => product_tx Y X W tb (by omega) (by omega) (by rw [Int.mul_comm]; omega))
  rw [Int.mul_comm Y X] at M2
  have A3 := Lib.hid (fun W tb => sum_tx (X + Y) Z W tb (by omega) (by omega) (by omega))
  have A4 := Lib.hid (fun W tb => sum_tx Y Z W tb (by omega) (by omega) (by omega))
  have A5 := Lib.hid (fun W tb => sum_tx X (Y + Z) W tb (by omega) (by omega) (by rw [← Int.add_assoc]; omega))
  rw [← Int.add_assoc X Y Z] at A5
  have M3 := Lib.hid (fun W tb => product_tx (X * Y) Z W tb (by omega) (by omega) (by omega))
  have M4 := Lib.hid (fun W tb => product_tx Y Z W tb (by omega) (by omega) (by omega))
  have M5 := Lib.hid (fun W tb => product_tx X (Y * Z) W tb (by omega) (by omega) (by rw [← Int.mul_assoc]; omega))
  rw [← Int.mul_assoc X Y Z] at M5
  have M6 := Lib.hid (fun W tb => product_tx X (Y + Z) W tb (by omega) (by omega) (by omega))
  have M7 := Lib.hid (fun W tb => product_tx X Z W tb (by omega) (by omega) (by omega))
  have A6 := Lib.hid (fun W tb => sum_tx (X * Y) (X * Z) W tb (by omega) (by omega) (by rw [← Int.mul_add]; omega))
  rw [← Int.mul_add X Y Z] at A6
  have SB1 := Lib.hid (fun W tb => Sub_ok (X + Y) Y W tb (by omega) (by omega) (by rw [show X + Y - Y = X by omega]; omega))
  rw [show X + Y - Y = X by omega] at SB1
  have SB2 := Lib.hid (fun W tb => Sub_ok X Y W tb (by omega) (by omega) (by rw [show X - Y = X + -Y by omega]; omega))
  rw [show X - Y = X + -Y by omega] at SB2
  have NG1 := Lib.hid (fun W => Neg_tx Y W (by omega))
  have A7 := Lib.hid (fun W tb => sum_tx X (-Y) W tb (by omega) (by omega) (by omega))
  have A8 := Lib.hid (fun W tb => sum_tx X 0 W tb (by omega) (by rw [dn_zero]; omega) (by rw [Int.add_zero]; omega))
  rw [Int.add_zero, t0lit] at A8
  have M8 := Lib.hid (fun W tb => product_tx X 1 W tb (by omega) (by rw [dn_one]; omega) (by rw [Int.mul_one]; omega))
  rw [Int.mul_one, t1] at M8
  have M9 := Lib.hid (fun W tb => product_tx X (-1) W tb (by omega) (by rw [dn_neg, dn_one]; omega) (by rw [show X * -1 = -X by omega]; omega))
  rw [show X * -1 = -X by omega, tm1] at M9
  have NG2 := Lib.hid (fun W => Neg_tx X W (by omega))
  obtain ⟨S1, hS1⟩ : ∃ s, s = tx (X + Y) := ⟨_, rfl⟩
  obtain ⟨P1, hP1⟩ : ∃ s, s = tx (X * Y) := ⟨_, rfl⟩
  obtain ⟨S2, hS2⟩ : ∃ s, s = tx (X + Y + Z) := ⟨_, rfl⟩
  obtain ⟨S3, hS3⟩ : ∃ s, s = tx (Y + Z) := ⟨_, rfl⟩
  obtain ⟨P2, hP2⟩ : ∃ s, s = tx (X * Y * Z) := ⟨_, rfl⟩
  obtain ⟨P3, hP3⟩ : ∃ s, s = tx (Y * Z) := ⟨_, rfl⟩
  obtain ⟨P4, hP4⟩ : ∃ s, s = tx (X * (Y + Z)) := ⟨_, rfl⟩
  obtain ⟨P5, hP5⟩ : ∃ s, s = tx (X * Z) := ⟨_, rfl⟩
  obtain ⟨N1, hN1⟩ : ∃ s, s = tx (X + -Y) := ⟨_, rfl⟩
  obtain ⟨NY, hNY⟩ : ∃ s, s = tx (-Y) := ⟨_, rfl⟩
  obtain ⟨NX, hNX⟩ : ∃ s, s = tx (-X) := ⟨_, rfl⟩
  rw [← hS1] at A1 A2 A3 SB1
  rw [← hP1] at M1 M2 M3 A6
  rw [← hS2] at A3 A5
  rw [← hS3] at A4 A5 M6
  rw [← hP2] at M3 M5
  rw [← hP3] at M4 M5
  rw [← hP4] at M6 A6
  rw [← hP5] at M7 A6
  rw [← hN1] at SB2 A7
  rw [← hNY] at NG1 A7
  rw [← hNX] at M9 NG2
  rw [← hSX] at A1 A2 M1 M2 A5 M5 M6 M7 SB1 SB2 A7 A8 M8 M9 NG2
  rw [← hSY] at A1 A2 M1 M2 A4 M4 SB1 SB2 NG1
  rw [← hSZ] at A3 A4 M3 M4 M7
  have IY := Lib.hid (fun W => is_yes SX W)
  clear hS1 hP1 hS2 hS3 hP2 hP3 hP4 hP5 hN1 hNY hNX hSX hSY hSZ hX hY hZ hnY hnX dxy dyz dxyz pxy pyz pxz pxyz pxs dxny
  go_wp2_with fail
  (with_reducible refine Calls.mono (A1.out _ T3.out) ?_)
  rintro e w4 ⟨rfl, hb⟩
  have B4 := Lib.hid (B3.out.trans (hb.mono B3.out.size))
  have T4 := Lib.hid (T3.out.below hb)
  clear hb
  go_wp2_with fail
  (with_reducible refine Calls.mono (A2.out _ T4.out) ?_)
  rintro e w5 ⟨rfl, hb⟩
  have B5 := Lib.hid (B4.out.trans (hb.mono B4.out.size))
  have T5 := Lib.hid (T4.out.below hb)
  clear hb
  go_wp2_with fail
  (with_reducible refine Calls.mono (M1.out _ T5.out) ?_)
  rintro e w6 ⟨rfl, hb⟩
  have B6 := Lib.hid (B5.out.trans (hb.mono B5.out.size))
  have T6 := Lib.hid (T5.out.below hb)
  clear hb
  go_wp2_with fail
  (with_reducible refine Calls.mono (M2.out _ T6.out) ?_)
  rintro e w7 ⟨rfl, hb⟩
  have B7 := Lib.hid (B6.out.trans (hb.mono B6.out.size))
  have T7 := Lib.hid (T6.out.below hb)
  clear hb
  go_wp2_with fail
  (with_reducible refine Calls.mono (A1.out _ T7.out) ?_)
  rintro e w8 ⟨rfl, hb⟩
  have B8 := Lib.hid (B7.out.trans (hb.mono B7.out.size))
  have T8 := Lib.hid (T7.out.below hb)
  clear hb
  go_wp2_with fail
  (with_reducible refine Calls.mono (A3.out _ T8.out) ?_)
  rintro e w9 ⟨rfl, hb⟩
  have B9 := Lib.hid (B8.out.trans (hb.mono B8.out.size))
  have T9 := Lib.hid (T8.out.below hb)
  clear hb
  go_wp2_with fail
  (with_reducible refine Calls.mono (A4.out _ T9.out) ?_)
  rintro e w10 ⟨rfl, hb⟩
  have B10 := Lib.hid (B9.out.trans (hb.mono B9.out.size))
  have T10 := Lib.hid (T9.out.below hb)
  clear hb
  go_wp2_with fail
  (with_reducible refine Calls.mono (A5.out _ T10.out) ?_)
  rintro e w11 ⟨rfl, hb⟩
  have B11 := Lib.hid (B10.out.trans (hb.mono B10.out.size))
  have T11 := Lib.hid (T10.out.below hb)
  clear hb
  go_wp2_with fail
  (with_reducible refine Calls.mono (M1.out _ T11.out) ?_)
  rintro e w12 ⟨rfl, hb⟩
  have B12 := Lib.hid (B11.out.trans (hb.mono B11.out.size))
  have T12 := Lib.hid (T11.out.below hb)
  clear hb
  go_wp2_with fail
  (with_reducible refine Calls.mono (M3.out _ T12.out) ?_)
  rintro e w13 ⟨rfl, hb⟩
  have B13 := Lib.hid (B12.out.trans (hb.mono B12.out.size))
  have T13 := Lib.hid (T12.out.below hb)
  clear hb
  go_wp2_with fail
  (with_reducible refine Calls.mono (M4.out _ T13.out) ?_)
  rintro e w14 ⟨rfl, hb⟩
  have B14 := Lib.hid (B13.out.trans (hb.mono B13.out.size))
  have T14 := Lib.hid (T13.out.below hb)
  clear hb
  go_wp2_with fail
  (with_reducible refine Calls.mono (M5.out _ T14.out) ?_)
  rintro e w15 ⟨rfl, hb⟩
  have B15 := Lib.hid (B14.out.trans (hb.mono B14.out.size))
  have T15 := Lib.hid (T14.out.below hb)
  clear hb
  go_wp2_with fail
  (with_reducible refine Calls.mono (A4.out _ T15.out) ?_)
  rintro e w16 ⟨rfl, hb⟩
  have B16 := Lib.hid (B15.out.trans (hb.mono B15.out.size))
  have T16 := Lib.hid (T15.out.below hb)
  clear hb
  go_wp2_with fail
  (with_reducible refine Calls.mono (M6.out _ T16.out) ?_)
  rintro e w17 ⟨rfl, hb⟩
  have B17 := Lib.hid (B16.out.trans (hb.mono B16.out.size))
  have T17 := Lib.hid (T16.out.below hb)
  clear hb
  go_wp2_with fail
  (with_reducible refine Calls.mono (M1.out _ T17.out) ?_)
  rintro e w18 ⟨rfl, hb⟩
  have B18 := Lib.hid (B17.out.trans (hb.mono B17.out.size))
  have T18 := Lib.hid (T17.out.below hb)
  clear hb
  go_wp2_with fail
  (with_reducible refine Calls.mono (M7.out _ T18.out) ?_)
  rintro e w19 ⟨rfl, hb⟩
  have B19 := Lib.hid (B18.out.trans (hb.mono B18.out.size))
  have T19 := Lib.hid (T18.out.below hb)
  clear hb
  go_wp2_with fail
  (with_reducible refine Calls.mono (A6.out _ T19.out) ?_)
  rintro e w20 ⟨rfl, hb⟩
  have B20 := Lib.hid (B19.out.trans (hb.mono B19.out.size))
  have T20 := Lib.hid (T19.out.below hb)
  clear hb
  go_wp2_with fail
  (with_reducible refine Calls.mono (A1.out _ T20.out) ?_)
  rintro e w21 ⟨rfl, hb⟩
  have B21 := Lib.hid (B20.out.trans (hb.mono B20.out.size))
  have T21 := Lib.hid (T20.out.below hb)
  clear hb
  go_wp2_with fail
  (with_reducible refine Calls.mono (SB1.out _ T21.out) ?_)
  rintro e w22 ⟨rfl, hb⟩
  have B22 := Lib.hid (B21.out.trans (hb.mono B21.out.size))
  have T22 := Lib.hid (T21.out.below hb)
  clear hb
  go_wp2_with fail
  (with_reducible refine Calls.mono (SB2.out _ T22.out) ?_)
  rintro e w23 ⟨rfl, hb⟩
  have B23 := Lib.hid (B22.out.trans (hb.mono B22.out.size))
  have T23 := Lib.hid (T22.out.below hb)
  clear hb
  go_wp2_with fail
  (with_reducible refine Calls.mono (IY.out _) ?_)
  rintro e w' ⟨rfl, rfl⟩
  go_wp2_with fail
  (with_reducible refine Calls.mono (NG1.out _) ?_)
  rintro e w' ⟨rfl, rfl⟩
  go_wp2_with fail
  (with_reducible refine Calls.mono (A7.out _ T23.out) ?_)
  rintro e w24 ⟨rfl, hb⟩
  have B24 := Lib.hid (B23.out.trans (hb.mono B23.out.size))
  have T24 := Lib.hid (T23.out.below hb)
  clear hb
  go_wp2_with fail
  (with_reducible refine Calls.mono (A8.out _ T24.out) ?_)
  rintro e w25 ⟨rfl, hb⟩
  have B25 := Lib.hid (B24.out.trans (hb.mono B24.out.size))
  have T25 := Lib.hid (T24.out.below hb)
  clear hb
  go_wp2_with fail
  (with_reducible refine Calls.mono (M8.out _ T25.out) ?_)
  rintro e w26 ⟨rfl, hb⟩
  have B26 := Lib.hid (B25.out.trans (hb.mono B25.out.size))
  have T26 := Lib.hid (T25.out.below hb)
  clear hb
  go_wp2_with fail
  (with_reducible refine Calls.mono (M9.out _ T26.out) ?_)
  rintro e w27 ⟨rfl, hb⟩
  have B27 := Lib.hid (B26.out.trans (hb.mono B26.out.size))
  have T27 := Lib.hid (T26.out.below hb)
  clear hb
  go_wp2_with fail
  (with_reducible refine Calls.mono (NG2.out _) ?_)
  rintro e w' ⟨rfl, rfl⟩
  go_wp2_with fail
  (with_reducible refine Calls.mono (AW.out _ T27.out) ?_)
  rintro e w28 ⟨rfl, hb⟩
  have B28 := Lib.hid (B27.out.trans (hb.mono B27.out.size))
  have T28 := Lib.hid (T27.out.below hb)
  clear hb
  go_wp2
  go_ret
  exact ⟨rfl, B28.out⟩
end Go.Proofs.YtgeokeffondmhaaDoor
