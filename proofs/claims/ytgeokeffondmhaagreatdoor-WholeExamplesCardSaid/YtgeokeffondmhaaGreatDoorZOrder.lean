/-
  The law WholeOrder answers true.
-/
import Derived.Test.YtgeokeffondmhaaGreatDoorZDivision
namespace Go.Proofs.YtgeokeffondmhaaGreatDoor
open Go.RowKit

theorem sg_sub (x y : Int) : sg (x - y) = cmp3 x y := by
  unfold sg cmp3
  by_cases h1 : x < y
  · rw [if_pos h1, if_pos (by omega)]
  · by_cases h2 : y < x
    · rw [if_neg h1, if_pos h2, if_neg (by omega), if_neg (by omega)]
    · rw [if_neg h1, if_neg h2, if_neg (by omega), if_pos (by omega)]
theorem cmp3_sg (x y : Int) : cmp3 x y = sg (x - y) := (sg_sub x y).symm
theorem sg_mul (x y : Int) : sg (x * y) = sg x * sg y := by
  rcases Int.lt_trichotomy x 0 with h1 | h1 | h1
  · rcases Int.lt_trichotomy y 0 with h2 | h2 | h2
    · have := Int.mul_pos_of_neg_of_neg h1 h2
      unfold sg
      rw [if_neg (by omega), if_neg (by omega), if_pos h1, if_pos h2]
      rfl
    · subst h2
      rw [Int.mul_zero]
      unfold sg
      simp
    · have := Int.mul_neg_of_neg_of_pos h1 h2
      unfold sg
      rw [if_pos (by omega), if_pos h1, if_neg (by omega), if_neg (by omega)]
      rfl
  · subst h1
    rw [Int.zero_mul]
    unfold sg
    simp
  · rcases Int.lt_trichotomy y 0 with h2 | h2 | h2
    · have := Int.mul_neg_of_pos_of_neg h1 h2
      unfold sg
      rw [if_pos (by omega), if_neg (by omega), if_neg (by omega), if_pos h2]
      rfl
    · subst h2
      rw [Int.mul_zero]
      unfold sg
      simp
    · have := Int.mul_pos h1 h2
      unfold sg
      rw [if_neg (by omega), if_neg (by omega), if_neg (by omega), if_neg (by omega), if_neg (by omega), if_neg (by omega)]
      rfl
theorem sg_cases (x : Int) : (x < 0 ∧ sg x = -1) ∨ (x = 0 ∧ sg x = 0) ∨ (0 < x ∧ sg x = 1) := by
  unfold sg
  rcases Int.lt_trichotomy x 0 with h | h | h
  · exact Or.inl ⟨h, if_pos h⟩
  · exact Or.inr (Or.inl ⟨h, by rw [if_neg (by omega), if_pos h]⟩)
  · exact Or.inr (Or.inr ⟨h, by rw [if_neg (by omega), if_neg (by omega)]⟩)
theorem tx_eq (x y : Int) : ((tx x).toList == (tx y).toList) = decide (x = y) := by
  by_cases h : x = y
  · rw [h, decide_eq_true rfl]; simp
  · rw [decide_eq_false h, beq_eq_false_iff_ne, Lib.toList_data, Lib.toList_data]
    intro e
    exact h (tx_inj.1 (ba_ext e))
theorem Sub_ok (x y : Int) (w : World) (tb : Tb w) (hx : dn x ≤ 1000) (hy : dn y ≤ 1000) (hd : dn (x - y) ≤ 1000) :
    Calls Tryz.prog 25 #[.string (tx x), .string (tx y)] w (GivesE2 (tx (x - y)) 0 w) := (Sub_tx x y w tb hx hy).mono fun _ _ h => h.ok hd
theorem t0lit : tx 0 = ⟨#[48]⟩ := lit_tx (by simp [Lib.itoa, Lib.decDigits])
set_option maxHeartbeats 8000000 in
set_option maxRecDepth 100000 in
theorem order_any (a b c : ByteArray) (w : World) (tb : Tb w) (ha : a.size ≤ 9223372036854775807) (hb : b.size ≤ 9223372036854775807) (hc : c.size ≤ 9223372036854775807) :
    Calls Tryz.prog 6 #[.string a, .string b, .string c] w fun e w' => e = .returned (.bool true) ∧ Below w.heap.size w w' := by
  have B0 := Lib.hid (Below.refl w.heap.size w)
  have T0 := Lib.hid tb
  go_enter Tryz.func6, Tryz.ntmps6
  go_wp2_with fail
  (with_reducible refine Calls.mono (fit_any a 400 _ ha (by omega) (by omega)) ?_)
  rintro e w1 ⟨X, hX, rfl, hb⟩
  have B1 := Lib.hid (B0.out.trans (hb.mono B0.out.size))
  have T1 := Lib.hid (T0.out.below hb)
  clear hb
  obtain ⟨SX, hSX⟩ : ∃ s, s = tx X := ⟨_, rfl⟩
  rw [← hSX]
  have HSX := Lib.hid hSX
  clear hSX
  go_wp2_with fail
  (with_reducible refine Calls.mono (fit_any b 400 _ hb (by omega) (by omega)) ?_)
  rintro e w2 ⟨Y, hY, rfl, hb⟩
  have B2 := Lib.hid (B1.out.trans (hb.mono B1.out.size))
  have T2 := Lib.hid (T1.out.below hb)
  clear hb
  obtain ⟨SY, hSY⟩ : ∃ s, s = tx Y := ⟨_, rfl⟩
  rw [← hSY]
  have HSY := Lib.hid hSY
  clear hSY
  go_wp2_with fail
  (with_reducible refine Calls.mono (fit_any c 400 _ hc (by omega) (by omega)) ?_)
  rintro e w3 ⟨Z, hZ, rfl, hb⟩
  have B3 := Lib.hid (B2.out.trans (hb.mono B2.out.size))
  have T3 := Lib.hid (T2.out.below hb)
  clear hb
  obtain ⟨SZ, hSZ⟩ : ∃ s, s = tx Z := ⟨_, rfl⟩
  rw [← hSZ]
  have HSZ := Lib.hid hSZ
  clear hSZ
  have hSX := HSX.out
  have hSY := HSY.out
  have hSZ := HSZ.out
  have AW := Lib.hid (fun W (tb : Tb W) => awake_any W tb)
  have hxy : dn (X - Y) ≤ 401 := by rw [show X - Y = X + -Y by omega]; exact dn_plus hX (by rw [dn_neg]; exact hY)
  have hxz := dn_plus hX hZ
  have hyz := dn_plus hY hZ
  have pxz := dn_times hX hZ (by omega)
  have pyz := dn_times hY hZ (by omega)
  have CM1 := Lib.hid (fun W => Cmp_tx X Y W (by omega) (by omega))
  have SB := Lib.hid (fun W tb => Sub_ok X Y W tb (by omega) (by omega) (by omega))
  have SG := Lib.hid (fun W => Sign_tx (X - Y) W (by omega))
  have CM2 := Lib.hid (fun W => Cmp_tx Y X W (by omega) (by omega))
  have SU1 := Lib.hid (fun W tb => sum_tx X Z W tb (by omega) (by omega) (by omega))
  have SU2 := Lib.hid (fun W tb => sum_tx Y Z W tb (by omega) (by omega) (by omega))
  have CM3 := Lib.hid (fun W => Cmp_tx (X + Z) (Y + Z) W (by omega) (by omega))
  have PR1 := Lib.hid (fun W tb => product_tx X Z W tb (by omega) (by omega) (by omega))
  have PR2 := Lib.hid (fun W tb => product_tx Y Z W tb (by omega) (by omega) (by omega))
  have CM4 := Lib.hid (fun W => Cmp_tx (X * Z) (Y * Z) W (by omega) (by omega))
  have SGZ := Lib.hid (fun W => Sign_tx Z W (by omega))
  have CM5 := Lib.hid (fun W => Cmp_tx Y Z W (by omega) (by omega))
  have CM6 := Lib.hid (fun W => Cmp_tx X Z W (by omega) (by omega))
  have AB := Lib.hid (fun W => Abs_tx X W (by omega))
  have CM7 := Lib.hid (fun W => Cmp_tx X.natAbs 0 W (by rw [dn_abs]; omega) (by rw [dn_zero]; omega))
  have eXY := tx_eq X Y
  rw [cmp3_sg] at CM1 CM2 CM3 CM4 CM5 CM6 CM7
  rw [show Y - X = -(X - Y) by omega] at CM2
  rw [show X + Z - (Y + Z) = X - Y by omega] at CM3
  rw [show X * Z - Y * Z = (X - Y) * Z by rw [Int.sub_mul], sg_mul] at CM4
  have hq := sg_cases (X - Z)
  have hp := sg_cases (Y - Z)
  have hr := sg_cases ((X.natAbs : Int) - 0)
  have hneg : sg (-(X - Y)) = - sg (X - Y) := by
    rcases sg_cases (X - Y) with ⟨h1, h2⟩ | ⟨h1, h2⟩ | ⟨h1, h2⟩ <;> rcases sg_cases (-(X - Y)) with ⟨h3, h4⟩ | ⟨h3, h4⟩ | ⟨h3, h4⟩ <;> omega
  rw [hneg] at CM2
  have hr0 : 0 ≤ sg ((X.natAbs : Int) - 0) := by omega
  obtain ⟨p, hpe⟩ : ∃ p, p = sg (Y - Z) := ⟨_, rfl⟩
  obtain ⟨q, hqe⟩ : ∃ q, q = sg (X - Z) := ⟨_, rfl⟩
  obtain ⟨r, hre⟩ : ∃ r, r = sg ((X.natAbs : Int) - 0) := ⟨_, rfl⟩
  rw [← hpe] at CM5 hp
  rw [← hqe] at CM6 hq
  rw [← hre] at CM7 hr0
  have hpq : sg (X - Y) ≤ 0 → ¬ 0 < p → q ≤ 0 := by
    intro h1 h2
    rcases sg_cases (X - Y) with ⟨h3, h4⟩ | ⟨h3, h4⟩ | ⟨h3, h4⟩ <;> omega
  have hoc : (sg (X - Y) = -1 ∧ decide (X = Y) = false) ∨ (sg (X - Y) = 0 ∧ decide (X = Y) = true) ∨ (sg (X - Y) = 1 ∧ decide (X = Y) = false) := by
    rcases sg_cases (X - Y) with ⟨h1, h2⟩ | ⟨h1, h2⟩ | ⟨h1, h2⟩
    · exact Or.inl ⟨h2, decide_eq_false (by omega)⟩
    · exact Or.inr (Or.inl ⟨h2, decide_eq_true (by omega)⟩)
    · exact Or.inr (Or.inr ⟨h2, decide_eq_false (by omega)⟩)
  have hzc : sg Z = -1 ∨ sg Z = 0 ∨ sg Z = 1 := by rcases sg_cases Z with ⟨_, h⟩ | ⟨_, h⟩ | ⟨_, h⟩ <;> omega
  rw [t0lit] at CM7
  obtain ⟨SD, hSD⟩ : ∃ s, s = tx (X - Y) := ⟨_, rfl⟩
  obtain ⟨S1, hS1⟩ : ∃ s, s = tx (X + Z) := ⟨_, rfl⟩
  obtain ⟨S2, hS2⟩ : ∃ s, s = tx (Y + Z) := ⟨_, rfl⟩
  obtain ⟨P1, hP1⟩ : ∃ s, s = tx (X * Z) := ⟨_, rfl⟩
  obtain ⟨P2, hP2⟩ : ∃ s, s = tx (Y * Z) := ⟨_, rfl⟩
  obtain ⟨SA, hSA⟩ : ∃ s, s = tx (X.natAbs) := ⟨_, rfl⟩
  rw [← hSD] at SB SG
  rw [← hS1] at SU1 CM3
  rw [← hS2] at SU2 CM3
  rw [← hP1] at PR1 CM4
  rw [← hP2] at PR2 CM4
  rw [← hSA] at AB CM7
  rw [← hSX] at CM1 SB CM2 SU1 PR1 CM6 AB eXY
  rw [← hSY] at CM1 SB CM2 SU2 PR2 CM5 eXY
  rw [← hSZ] at SU1 SU2 PR1 PR2 SGZ CM5 CM6
  obtain ⟨sz, hsz⟩ : ∃ s, s = sg Z := ⟨_, rfl⟩
  rw [← hsz] at SGZ CM4 hzc
  obtain ⟨oo, hoo⟩ : ∃ s, s = sg (X - Y) := ⟨_, rfl⟩
  rw [← hoo] at CM1 SG CM2 CM3 CM4 hpq hoc
  obtain ⟨bb, hbb⟩ : ∃ s, s = decide (X = Y) := ⟨_, rfl⟩
  rw [← hbb] at eXY hoc
  have HPQ := Lib.hid hpq
  clear hpq hq hp hr hneg hoo hsz hpe hqe hre hSD hS1 hS2 hP1 hP2 hSA hSX hSY hSZ hxy hxz hyz pxz pyz hX hY hZ hbb
  rcases hoc with ⟨rfl, rfl⟩ | ⟨rfl, rfl⟩ | ⟨rfl, rfl⟩
  · rcases hzc with rfl | rfl | rfl
    · by_cases hp : 0 < p
      · go_wp2_with fail
        (with_reducible refine Calls.mono (CM1.out _) ?_)
        rintro e w4 ⟨rfl, hb⟩
        have B4 := Lib.hid (B3.out.trans (hb.mono B3.out.size))
        have T4 := Lib.hid (T3.out.below hb)
        clear hb
        go_wp2_with fail
        (with_reducible refine Calls.mono (SB.out _ T4.out) ?_)
        rintro e w5 ⟨rfl, hb⟩
        have B5 := Lib.hid (B4.out.trans (hb.mono B4.out.size))
        have T5 := Lib.hid (T4.out.below hb)
        clear hb
        go_wp2_with fail
        (with_reducible refine Calls.mono (SG.out _) ?_)
        rintro e w' ⟨rfl, rfl⟩
        go_wp2_with fail
        (with_reducible refine Calls.mono (CM2.out _) ?_)
        rintro e w6 ⟨rfl, hb⟩
        have B6 := Lib.hid (B5.out.trans (hb.mono B5.out.size))
        have T6 := Lib.hid (T5.out.below hb)
        clear hb
        go_wp2_with fail
        (with_reducible refine Calls.mono (SU1.out _ T6.out) ?_)
        rintro e w7 ⟨rfl, hb⟩
        have B7 := Lib.hid (B6.out.trans (hb.mono B6.out.size))
        have T7 := Lib.hid (T6.out.below hb)
        clear hb
        go_wp2_with fail
        (with_reducible refine Calls.mono (SU2.out _ T7.out) ?_)
        rintro e w8 ⟨rfl, hb⟩
        have B8 := Lib.hid (B7.out.trans (hb.mono B7.out.size))
        have T8 := Lib.hid (T7.out.below hb)
        clear hb
        go_wp2_with fail
        (with_reducible refine Calls.mono (CM3.out _) ?_)
        rintro e w9 ⟨rfl, hb⟩
        have B9 := Lib.hid (B8.out.trans (hb.mono B8.out.size))
        have T9 := Lib.hid (T8.out.below hb)
        clear hb
        go_wp2_with fail
        (with_reducible refine Calls.mono (PR1.out _ T9.out) ?_)
        rintro e w10 ⟨rfl, hb⟩
        have B10 := Lib.hid (B9.out.trans (hb.mono B9.out.size))
        have T10 := Lib.hid (T9.out.below hb)
        clear hb
        go_wp2_with fail
        (with_reducible refine Calls.mono (PR2.out _ T10.out) ?_)
        rintro e w11 ⟨rfl, hb⟩
        have B11 := Lib.hid (B10.out.trans (hb.mono B10.out.size))
        have T11 := Lib.hid (T10.out.below hb)
        clear hb
        go_wp2_with fail
        (with_reducible refine Calls.mono (CM4.out _) ?_)
        rintro e w12 ⟨rfl, hb⟩
        have B12 := Lib.hid (B11.out.trans (hb.mono B11.out.size))
        have T12 := Lib.hid (T11.out.below hb)
        clear hb
        go_wp2_with fail
        (with_reducible refine Calls.mono (SGZ.out _) ?_)
        rintro e w' ⟨rfl, rfl⟩
        go_wp2_with fail
        (with_reducible refine Calls.mono (CM5.out _) ?_)
        rintro e w13 ⟨rfl, hb⟩
        have B13 := Lib.hid (B12.out.trans (hb.mono B12.out.size))
        have T13 := Lib.hid (T12.out.below hb)
        clear hb
        go_wp2_with fail
        (with_reducible refine Calls.mono (AB.out _) ?_)
        rintro e w' ⟨rfl, rfl⟩
        go_wp2_with fail
        (with_reducible refine Calls.mono (CM7.out _) ?_)
        rintro e w14 ⟨rfl, hb⟩
        have B14 := Lib.hid (B13.out.trans (hb.mono B13.out.size))
        have T14 := Lib.hid (T13.out.below hb)
        clear hb
        go_wp2_with fail
        (with_reducible refine Calls.mono (AW.out _ T14.out) ?_)
        rintro e w15 ⟨rfl, hb⟩
        have B15 := Lib.hid (B14.out.trans (hb.mono B14.out.size))
        have T15 := Lib.hid (T14.out.below hb)
        clear hb
        go_wp2
        go_ret
        exact ⟨rfl, B15.out⟩
      · have hq := HPQ.out (by omega) hp
        go_wp2_with fail
        (with_reducible refine Calls.mono (CM1.out _) ?_)
        rintro e w4 ⟨rfl, hb⟩
        have B4 := Lib.hid (B3.out.trans (hb.mono B3.out.size))
        have T4 := Lib.hid (T3.out.below hb)
        clear hb
        go_wp2_with fail
        (with_reducible refine Calls.mono (SB.out _ T4.out) ?_)
        rintro e w5 ⟨rfl, hb⟩
        have B5 := Lib.hid (B4.out.trans (hb.mono B4.out.size))
        have T5 := Lib.hid (T4.out.below hb)
        clear hb
        go_wp2_with fail
        (with_reducible refine Calls.mono (SG.out _) ?_)
        rintro e w' ⟨rfl, rfl⟩
        go_wp2_with fail
        (with_reducible refine Calls.mono (CM2.out _) ?_)
        rintro e w6 ⟨rfl, hb⟩
        have B6 := Lib.hid (B5.out.trans (hb.mono B5.out.size))
        have T6 := Lib.hid (T5.out.below hb)
        clear hb
        go_wp2_with fail
        (with_reducible refine Calls.mono (SU1.out _ T6.out) ?_)
        rintro e w7 ⟨rfl, hb⟩
        have B7 := Lib.hid (B6.out.trans (hb.mono B6.out.size))
        have T7 := Lib.hid (T6.out.below hb)
        clear hb
        go_wp2_with fail
        (with_reducible refine Calls.mono (SU2.out _ T7.out) ?_)
        rintro e w8 ⟨rfl, hb⟩
        have B8 := Lib.hid (B7.out.trans (hb.mono B7.out.size))
        have T8 := Lib.hid (T7.out.below hb)
        clear hb
        go_wp2_with fail
        (with_reducible refine Calls.mono (CM3.out _) ?_)
        rintro e w9 ⟨rfl, hb⟩
        have B9 := Lib.hid (B8.out.trans (hb.mono B8.out.size))
        have T9 := Lib.hid (T8.out.below hb)
        clear hb
        go_wp2_with fail
        (with_reducible refine Calls.mono (PR1.out _ T9.out) ?_)
        rintro e w10 ⟨rfl, hb⟩
        have B10 := Lib.hid (B9.out.trans (hb.mono B9.out.size))
        have T10 := Lib.hid (T9.out.below hb)
        clear hb
        go_wp2_with fail
        (with_reducible refine Calls.mono (PR2.out _ T10.out) ?_)
        rintro e w11 ⟨rfl, hb⟩
        have B11 := Lib.hid (B10.out.trans (hb.mono B10.out.size))
        have T11 := Lib.hid (T10.out.below hb)
        clear hb
        go_wp2_with fail
        (with_reducible refine Calls.mono (CM4.out _) ?_)
        rintro e w12 ⟨rfl, hb⟩
        have B12 := Lib.hid (B11.out.trans (hb.mono B11.out.size))
        have T12 := Lib.hid (T11.out.below hb)
        clear hb
        go_wp2_with fail
        (with_reducible refine Calls.mono (SGZ.out _) ?_)
        rintro e w' ⟨rfl, rfl⟩
        go_wp2_with fail
        (with_reducible refine Calls.mono (CM5.out _) ?_)
        rintro e w13 ⟨rfl, hb⟩
        have B13 := Lib.hid (B12.out.trans (hb.mono B12.out.size))
        have T13 := Lib.hid (T12.out.below hb)
        clear hb
        go_wp2_with fail
        (with_reducible refine Calls.mono (CM6.out _) ?_)
        rintro e w14 ⟨rfl, hb⟩
        have B14 := Lib.hid (B13.out.trans (hb.mono B13.out.size))
        have T14 := Lib.hid (T13.out.below hb)
        clear hb
        go_wp2_with fail
        (with_reducible refine Calls.mono (AB.out _) ?_)
        rintro e w' ⟨rfl, rfl⟩
        go_wp2_with fail
        (with_reducible refine Calls.mono (CM7.out _) ?_)
        rintro e w15 ⟨rfl, hb⟩
        have B15 := Lib.hid (B14.out.trans (hb.mono B14.out.size))
        have T15 := Lib.hid (T14.out.below hb)
        clear hb
        go_wp2_with fail
        (with_reducible refine Calls.mono (AW.out _ T15.out) ?_)
        rintro e w16 ⟨rfl, hb⟩
        have B16 := Lib.hid (B15.out.trans (hb.mono B15.out.size))
        have T16 := Lib.hid (T15.out.below hb)
        clear hb
        go_wp2
        go_ret
        exact ⟨rfl, B16.out⟩
    · by_cases hp : 0 < p
      · go_wp2_with fail
        (with_reducible refine Calls.mono (CM1.out _) ?_)
        rintro e w4 ⟨rfl, hb⟩
        have B4 := Lib.hid (B3.out.trans (hb.mono B3.out.size))
        have T4 := Lib.hid (T3.out.below hb)
        clear hb
        go_wp2_with fail
        (with_reducible refine Calls.mono (SB.out _ T4.out) ?_)
        rintro e w5 ⟨rfl, hb⟩
        have B5 := Lib.hid (B4.out.trans (hb.mono B4.out.size))
        have T5 := Lib.hid (T4.out.below hb)
        clear hb
        go_wp2_with fail
        (with_reducible refine Calls.mono (SG.out _) ?_)
        rintro e w' ⟨rfl, rfl⟩
        go_wp2_with fail
        (with_reducible refine Calls.mono (CM2.out _) ?_)
        rintro e w6 ⟨rfl, hb⟩
        have B6 := Lib.hid (B5.out.trans (hb.mono B5.out.size))
        have T6 := Lib.hid (T5.out.below hb)
        clear hb
        go_wp2_with fail
        (with_reducible refine Calls.mono (SU1.out _ T6.out) ?_)
        rintro e w7 ⟨rfl, hb⟩
        have B7 := Lib.hid (B6.out.trans (hb.mono B6.out.size))
        have T7 := Lib.hid (T6.out.below hb)
        clear hb
        go_wp2_with fail
        (with_reducible refine Calls.mono (SU2.out _ T7.out) ?_)
        rintro e w8 ⟨rfl, hb⟩
        have B8 := Lib.hid (B7.out.trans (hb.mono B7.out.size))
        have T8 := Lib.hid (T7.out.below hb)
        clear hb
        go_wp2_with fail
        (with_reducible refine Calls.mono (CM3.out _) ?_)
        rintro e w9 ⟨rfl, hb⟩
        have B9 := Lib.hid (B8.out.trans (hb.mono B8.out.size))
        have T9 := Lib.hid (T8.out.below hb)
        clear hb
        go_wp2_with fail
        (with_reducible refine Calls.mono (PR1.out _ T9.out) ?_)
        rintro e w10 ⟨rfl, hb⟩
        have B10 := Lib.hid (B9.out.trans (hb.mono B9.out.size))
        have T10 := Lib.hid (T9.out.below hb)
        clear hb
        go_wp2_with fail
        (with_reducible refine Calls.mono (PR2.out _ T10.out) ?_)
        rintro e w11 ⟨rfl, hb⟩
        have B11 := Lib.hid (B10.out.trans (hb.mono B10.out.size))
        have T11 := Lib.hid (T10.out.below hb)
        clear hb
        go_wp2_with fail
        (with_reducible refine Calls.mono (CM4.out _) ?_)
        rintro e w12 ⟨rfl, hb⟩
        have B12 := Lib.hid (B11.out.trans (hb.mono B11.out.size))
        have T12 := Lib.hid (T11.out.below hb)
        clear hb
        go_wp2_with fail
        (with_reducible refine Calls.mono (SGZ.out _) ?_)
        rintro e w' ⟨rfl, rfl⟩
        go_wp2_with fail
        (with_reducible refine Calls.mono (CM5.out _) ?_)
        rintro e w13 ⟨rfl, hb⟩
        have B13 := Lib.hid (B12.out.trans (hb.mono B12.out.size))
        have T13 := Lib.hid (T12.out.below hb)
        clear hb
        go_wp2_with fail
        (with_reducible refine Calls.mono (AB.out _) ?_)
        rintro e w' ⟨rfl, rfl⟩
        go_wp2_with fail
        (with_reducible refine Calls.mono (CM7.out _) ?_)
        rintro e w14 ⟨rfl, hb⟩
        have B14 := Lib.hid (B13.out.trans (hb.mono B13.out.size))
        have T14 := Lib.hid (T13.out.below hb)
        clear hb
        go_wp2_with fail
        (with_reducible refine Calls.mono (AW.out _ T14.out) ?_)
        rintro e w15 ⟨rfl, hb⟩
        have B15 := Lib.hid (B14.out.trans (hb.mono B14.out.size))
        have T15 := Lib.hid (T14.out.below hb)
        clear hb
        go_wp2
        go_ret
        exact ⟨rfl, B15.out⟩
      · have hq := HPQ.out (by omega) hp
        go_wp2_with fail
        (with_reducible refine Calls.mono (CM1.out _) ?_)
        rintro e w4 ⟨rfl, hb⟩
        have B4 := Lib.hid (B3.out.trans (hb.mono B3.out.size))
        have T4 := Lib.hid (T3.out.below hb)
        clear hb
        go_wp2_with fail
        (with_reducible refine Calls.mono (SB.out _ T4.out) ?_)
        rintro e w5 ⟨rfl, hb⟩
        have B5 := Lib.hid (B4.out.trans (hb.mono B4.out.size))
        have T5 := Lib.hid (T4.out.below hb)
        clear hb
        go_wp2_with fail
        (with_reducible refine Calls.mono (SG.out _) ?_)
        rintro e w' ⟨rfl, rfl⟩
        go_wp2_with fail
        (with_reducible refine Calls.mono (CM2.out _) ?_)
        rintro e w6 ⟨rfl, hb⟩
        have B6 := Lib.hid (B5.out.trans (hb.mono B5.out.size))
        have T6 := Lib.hid (T5.out.below hb)
        clear hb
        go_wp2_with fail
        (with_reducible refine Calls.mono (SU1.out _ T6.out) ?_)
        rintro e w7 ⟨rfl, hb⟩
        have B7 := Lib.hid (B6.out.trans (hb.mono B6.out.size))
        have T7 := Lib.hid (T6.out.below hb)
        clear hb
        go_wp2_with fail
        (with_reducible refine Calls.mono (SU2.out _ T7.out) ?_)
        rintro e w8 ⟨rfl, hb⟩
        have B8 := Lib.hid (B7.out.trans (hb.mono B7.out.size))
        have T8 := Lib.hid (T7.out.below hb)
        clear hb
        go_wp2_with fail
        (with_reducible refine Calls.mono (CM3.out _) ?_)
        rintro e w9 ⟨rfl, hb⟩
        have B9 := Lib.hid (B8.out.trans (hb.mono B8.out.size))
        have T9 := Lib.hid (T8.out.below hb)
        clear hb
        go_wp2_with fail
        (with_reducible refine Calls.mono (PR1.out _ T9.out) ?_)
        rintro e w10 ⟨rfl, hb⟩
        have B10 := Lib.hid (B9.out.trans (hb.mono B9.out.size))
        have T10 := Lib.hid (T9.out.below hb)
        clear hb
        go_wp2_with fail
        (with_reducible refine Calls.mono (PR2.out _ T10.out) ?_)
        rintro e w11 ⟨rfl, hb⟩
        have B11 := Lib.hid (B10.out.trans (hb.mono B10.out.size))
        have T11 := Lib.hid (T10.out.below hb)
        clear hb
        go_wp2_with fail
        (with_reducible refine Calls.mono (CM4.out _) ?_)
        rintro e w12 ⟨rfl, hb⟩
        have B12 := Lib.hid (B11.out.trans (hb.mono B11.out.size))
        have T12 := Lib.hid (T11.out.below hb)
        clear hb
        go_wp2_with fail
        (with_reducible refine Calls.mono (SGZ.out _) ?_)
        rintro e w' ⟨rfl, rfl⟩
        go_wp2_with fail
        (with_reducible refine Calls.mono (CM5.out _) ?_)
        rintro e w13 ⟨rfl, hb⟩
        have B13 := Lib.hid (B12.out.trans (hb.mono B12.out.size))
        have T13 := Lib.hid (T12.out.below hb)
        clear hb
        go_wp2_with fail
        (with_reducible refine Calls.mono (CM6.out _) ?_)
        rintro e w14 ⟨rfl, hb⟩
        have B14 := Lib.hid (B13.out.trans (hb.mono B13.out.size))
        have T14 := Lib.hid (T13.out.below hb)
        clear hb
        go_wp2_with fail
        (with_reducible refine Calls.mono (AB.out _) ?_)
        rintro e w' ⟨rfl, rfl⟩
        go_wp2_with fail
        (with_reducible refine Calls.mono (CM7.out _) ?_)
        rintro e w15 ⟨rfl, hb⟩
        have B15 := Lib.hid (B14.out.trans (hb.mono B14.out.size))
        have T15 := Lib.hid (T14.out.below hb)
        clear hb
        go_wp2_with fail
        (with_reducible refine Calls.mono (AW.out _ T15.out) ?_)
        rintro e w16 ⟨rfl, hb⟩
        have B16 := Lib.hid (B15.out.trans (hb.mono B15.out.size))
        have T16 := Lib.hid (T15.out.below hb)
        clear hb
        go_wp2
        go_ret
        exact ⟨rfl, B16.out⟩
    · by_cases hp : 0 < p
      · go_wp2_with fail
        (with_reducible refine Calls.mono (CM1.out _) ?_)
        rintro e w4 ⟨rfl, hb⟩
        have B4 := Lib.hid (B3.out.trans (hb.mono B3.out.size))
        have T4 := Lib.hid (T3.out.below hb)
        clear hb
        go_wp2_with fail
        (with_reducible refine Calls.mono (SB.out _ T4.out) ?_)
        rintro e w5 ⟨rfl, hb⟩
        have B5 := Lib.hid (B4.out.trans (hb.mono B4.out.size))
        have T5 := Lib.hid (T4.out.below hb)
        clear hb
        go_wp2_with fail
        (with_reducible refine Calls.mono (SG.out _) ?_)
        rintro e w' ⟨rfl, rfl⟩
        go_wp2_with fail
        (with_reducible refine Calls.mono (CM2.out _) ?_)
        rintro e w6 ⟨rfl, hb⟩
        have B6 := Lib.hid (B5.out.trans (hb.mono B5.out.size))
        have T6 := Lib.hid (T5.out.below hb)
        clear hb
        go_wp2_with fail
        (with_reducible refine Calls.mono (SU1.out _ T6.out) ?_)
        rintro e w7 ⟨rfl, hb⟩
        have B7 := Lib.hid (B6.out.trans (hb.mono B6.out.size))
        have T7 := Lib.hid (T6.out.below hb)
        clear hb
        go_wp2_with fail
        (with_reducible refine Calls.mono (SU2.out _ T7.out) ?_)
        rintro e w8 ⟨rfl, hb⟩
        have B8 := Lib.hid (B7.out.trans (hb.mono B7.out.size))
        have T8 := Lib.hid (T7.out.below hb)
        clear hb
        go_wp2_with fail
        (with_reducible refine Calls.mono (CM3.out _) ?_)
        rintro e w9 ⟨rfl, hb⟩
        have B9 := Lib.hid (B8.out.trans (hb.mono B8.out.size))
        have T9 := Lib.hid (T8.out.below hb)
        clear hb
        go_wp2_with fail
        (with_reducible refine Calls.mono (PR1.out _ T9.out) ?_)
        rintro e w10 ⟨rfl, hb⟩
        have B10 := Lib.hid (B9.out.trans (hb.mono B9.out.size))
        have T10 := Lib.hid (T9.out.below hb)
        clear hb
        go_wp2_with fail
        (with_reducible refine Calls.mono (PR2.out _ T10.out) ?_)
        rintro e w11 ⟨rfl, hb⟩
        have B11 := Lib.hid (B10.out.trans (hb.mono B10.out.size))
        have T11 := Lib.hid (T10.out.below hb)
        clear hb
        go_wp2_with fail
        (with_reducible refine Calls.mono (CM4.out _) ?_)
        rintro e w12 ⟨rfl, hb⟩
        have B12 := Lib.hid (B11.out.trans (hb.mono B11.out.size))
        have T12 := Lib.hid (T11.out.below hb)
        clear hb
        go_wp2_with fail
        (with_reducible refine Calls.mono (SGZ.out _) ?_)
        rintro e w' ⟨rfl, rfl⟩
        go_wp2_with fail
        (with_reducible refine Calls.mono (CM5.out _) ?_)
        rintro e w13 ⟨rfl, hb⟩
        have B13 := Lib.hid (B12.out.trans (hb.mono B12.out.size))
        have T13 := Lib.hid (T12.out.below hb)
        clear hb
        go_wp2_with fail
        (with_reducible refine Calls.mono (AB.out _) ?_)
        rintro e w' ⟨rfl, rfl⟩
        go_wp2_with fail
        (with_reducible refine Calls.mono (CM7.out _) ?_)
        rintro e w14 ⟨rfl, hb⟩
        have B14 := Lib.hid (B13.out.trans (hb.mono B13.out.size))
        have T14 := Lib.hid (T13.out.below hb)
        clear hb
        go_wp2_with fail
        (with_reducible refine Calls.mono (AW.out _ T14.out) ?_)
        rintro e w15 ⟨rfl, hb⟩
        have B15 := Lib.hid (B14.out.trans (hb.mono B14.out.size))
        have T15 := Lib.hid (T14.out.below hb)
        clear hb
        go_wp2
        go_ret
        exact ⟨rfl, B15.out⟩
      · have hq := HPQ.out (by omega) hp
        go_wp2_with fail
        (with_reducible refine Calls.mono (CM1.out _) ?_)
        rintro e w4 ⟨rfl, hb⟩
        have B4 := Lib.hid (B3.out.trans (hb.mono B3.out.size))
        have T4 := Lib.hid (T3.out.below hb)
        clear hb
        go_wp2_with fail
        (with_reducible refine Calls.mono (SB.out _ T4.out) ?_)
        rintro e w5 ⟨rfl, hb⟩
        have B5 := Lib.hid (B4.out.trans (hb.mono B4.out.size))
        have T5 := Lib.hid (T4.out.below hb)
        clear hb
        go_wp2_with fail
        (with_reducible refine Calls.mono (SG.out _) ?_)
        rintro e w' ⟨rfl, rfl⟩
        go_wp2_with fail
        (with_reducible refine Calls.mono (CM2.out _) ?_)
        rintro e w6 ⟨rfl, hb⟩
        have B6 := Lib.hid (B5.out.trans (hb.mono B5.out.size))
        have T6 := Lib.hid (T5.out.below hb)
        clear hb
        go_wp2_with fail
        (with_reducible refine Calls.mono (SU1.out _ T6.out) ?_)
        rintro e w7 ⟨rfl, hb⟩
        have B7 := Lib.hid (B6.out.trans (hb.mono B6.out.size))
        have T7 := Lib.hid (T6.out.below hb)
        clear hb
        go_wp2_with fail
        (with_reducible refine Calls.mono (SU2.out _ T7.out) ?_)
        rintro e w8 ⟨rfl, hb⟩
        have B8 := Lib.hid (B7.out.trans (hb.mono B7.out.size))
        have T8 := Lib.hid (T7.out.below hb)
        clear hb
        go_wp2_with fail
        (with_reducible refine Calls.mono (CM3.out _) ?_)
        rintro e w9 ⟨rfl, hb⟩
        have B9 := Lib.hid (B8.out.trans (hb.mono B8.out.size))
        have T9 := Lib.hid (T8.out.below hb)
        clear hb
        go_wp2_with fail
        (with_reducible refine Calls.mono (PR1.out _ T9.out) ?_)
        rintro e w10 ⟨rfl, hb⟩
        have B10 := Lib.hid (B9.out.trans (hb.mono B9.out.size))
        have T10 := Lib.hid (T9.out.below hb)
        clear hb
        go_wp2_with fail
        (with_reducible refine Calls.mono (PR2.out _ T10.out) ?_)
        rintro e w11 ⟨rfl, hb⟩
        have B11 := Lib.hid (B10.out.trans (hb.mono B10.out.size))
        have T11 := Lib.hid (T10.out.below hb)
        clear hb
        go_wp2_with fail
        (with_reducible refine Calls.mono (CM4.out _) ?_)
        rintro e w12 ⟨rfl, hb⟩
        have B12 := Lib.hid (B11.out.trans (hb.mono B11.out.size))
        have T12 := Lib.hid (T11.out.below hb)
        clear hb
        go_wp2_with fail
        (with_reducible refine Calls.mono (SGZ.out _) ?_)
        rintro e w' ⟨rfl, rfl⟩
        go_wp2_with fail
        (with_reducible refine Calls.mono (CM5.out _) ?_)
        rintro e w13 ⟨rfl, hb⟩
        have B13 := Lib.hid (B12.out.trans (hb.mono B12.out.size))
        have T13 := Lib.hid (T12.out.below hb)
        clear hb
        go_wp2_with fail
        (with_reducible refine Calls.mono (CM6.out _) ?_)
        rintro e w14 ⟨rfl, hb⟩
        have B14 := Lib.hid (B13.out.trans (hb.mono B13.out.size))
        have T14 := Lib.hid (T13.out.below hb)
        clear hb
        go_wp2_with fail
        (with_reducible refine Calls.mono (AB.out _) ?_)
        rintro e w' ⟨rfl, rfl⟩
        go_wp2_with fail
        (with_reducible refine Calls.mono (CM7.out _) ?_)
        rintro e w15 ⟨rfl, hb⟩
        have B15 := Lib.hid (B14.out.trans (hb.mono B14.out.size))
        have T15 := Lib.hid (T14.out.below hb)
        clear hb
        go_wp2_with fail
        (with_reducible refine Calls.mono (AW.out _ T15.out) ?_)
        rintro e w16 ⟨rfl, hb⟩
        have B16 := Lib.hid (B15.out.trans (hb.mono B15.out.size))
        have T16 := Lib.hid (T15.out.below hb)
        clear hb
        go_wp2
        go_ret
        exact ⟨rfl, B16.out⟩
  · rcases hzc with rfl | rfl | rfl
    · by_cases hp : 0 < p
      · go_wp2_with fail
        (with_reducible refine Calls.mono (CM1.out _) ?_)
        rintro e w4 ⟨rfl, hb⟩
        have B4 := Lib.hid (B3.out.trans (hb.mono B3.out.size))
        have T4 := Lib.hid (T3.out.below hb)
        clear hb
        go_wp2_with fail
        (with_reducible refine Calls.mono (SB.out _ T4.out) ?_)
        rintro e w5 ⟨rfl, hb⟩
        have B5 := Lib.hid (B4.out.trans (hb.mono B4.out.size))
        have T5 := Lib.hid (T4.out.below hb)
        clear hb
        go_wp2_with fail
        (with_reducible refine Calls.mono (SG.out _) ?_)
        rintro e w' ⟨rfl, rfl⟩
        go_wp2_with fail
        (with_reducible refine Calls.mono (CM2.out _) ?_)
        rintro e w6 ⟨rfl, hb⟩
        have B6 := Lib.hid (B5.out.trans (hb.mono B5.out.size))
        have T6 := Lib.hid (T5.out.below hb)
        clear hb
        go_wp2_with fail
        (with_reducible refine Calls.mono (SU1.out _ T6.out) ?_)
        rintro e w7 ⟨rfl, hb⟩
        have B7 := Lib.hid (B6.out.trans (hb.mono B6.out.size))
        have T7 := Lib.hid (T6.out.below hb)
        clear hb
        go_wp2_with fail
        (with_reducible refine Calls.mono (SU2.out _ T7.out) ?_)
        rintro e w8 ⟨rfl, hb⟩
        have B8 := Lib.hid (B7.out.trans (hb.mono B7.out.size))
        have T8 := Lib.hid (T7.out.below hb)
        clear hb
        go_wp2_with fail
        (with_reducible refine Calls.mono (CM3.out _) ?_)
        rintro e w9 ⟨rfl, hb⟩
        have B9 := Lib.hid (B8.out.trans (hb.mono B8.out.size))
        have T9 := Lib.hid (T8.out.below hb)
        clear hb
        go_wp2_with fail
        (with_reducible refine Calls.mono (PR1.out _ T9.out) ?_)
        rintro e w10 ⟨rfl, hb⟩
        have B10 := Lib.hid (B9.out.trans (hb.mono B9.out.size))
        have T10 := Lib.hid (T9.out.below hb)
        clear hb
        go_wp2_with fail
        (with_reducible refine Calls.mono (PR2.out _ T10.out) ?_)
        rintro e w11 ⟨rfl, hb⟩
        have B11 := Lib.hid (B10.out.trans (hb.mono B10.out.size))
        have T11 := Lib.hid (T10.out.below hb)
        clear hb
        go_wp2_with fail
        (with_reducible refine Calls.mono (CM4.out _) ?_)
        rintro e w12 ⟨rfl, hb⟩
        have B12 := Lib.hid (B11.out.trans (hb.mono B11.out.size))
        have T12 := Lib.hid (T11.out.below hb)
        clear hb
        go_wp2_with fail
        (with_reducible refine Calls.mono (SGZ.out _) ?_)
        rintro e w' ⟨rfl, rfl⟩
        go_wp2_with fail
        (with_reducible refine Calls.mono (CM5.out _) ?_)
        rintro e w13 ⟨rfl, hb⟩
        have B13 := Lib.hid (B12.out.trans (hb.mono B12.out.size))
        have T13 := Lib.hid (T12.out.below hb)
        clear hb
        go_wp2_with fail
        (with_reducible refine Calls.mono (AB.out _) ?_)
        rintro e w' ⟨rfl, rfl⟩
        go_wp2_with fail
        (with_reducible refine Calls.mono (CM7.out _) ?_)
        rintro e w14 ⟨rfl, hb⟩
        have B14 := Lib.hid (B13.out.trans (hb.mono B13.out.size))
        have T14 := Lib.hid (T13.out.below hb)
        clear hb
        go_wp2_with fail
        (with_reducible refine Calls.mono (AW.out _ T14.out) ?_)
        rintro e w15 ⟨rfl, hb⟩
        have B15 := Lib.hid (B14.out.trans (hb.mono B14.out.size))
        have T15 := Lib.hid (T14.out.below hb)
        clear hb
        go_wp2
        go_ret
        exact ⟨rfl, B15.out⟩
      · have hq := HPQ.out (by omega) hp
        go_wp2_with fail
        (with_reducible refine Calls.mono (CM1.out _) ?_)
        rintro e w4 ⟨rfl, hb⟩
        have B4 := Lib.hid (B3.out.trans (hb.mono B3.out.size))
        have T4 := Lib.hid (T3.out.below hb)
        clear hb
        go_wp2_with fail
        (with_reducible refine Calls.mono (SB.out _ T4.out) ?_)
        rintro e w5 ⟨rfl, hb⟩
        have B5 := Lib.hid (B4.out.trans (hb.mono B4.out.size))
        have T5 := Lib.hid (T4.out.below hb)
        clear hb
        go_wp2_with fail
        (with_reducible refine Calls.mono (SG.out _) ?_)
        rintro e w' ⟨rfl, rfl⟩
        go_wp2_with fail
        (with_reducible refine Calls.mono (CM2.out _) ?_)
        rintro e w6 ⟨rfl, hb⟩
        have B6 := Lib.hid (B5.out.trans (hb.mono B5.out.size))
        have T6 := Lib.hid (T5.out.below hb)
        clear hb
        go_wp2_with fail
        (with_reducible refine Calls.mono (SU1.out _ T6.out) ?_)
        rintro e w7 ⟨rfl, hb⟩
        have B7 := Lib.hid (B6.out.trans (hb.mono B6.out.size))
        have T7 := Lib.hid (T6.out.below hb)
        clear hb
        go_wp2_with fail
        (with_reducible refine Calls.mono (SU2.out _ T7.out) ?_)
        rintro e w8 ⟨rfl, hb⟩
        have B8 := Lib.hid (B7.out.trans (hb.mono B7.out.size))
        have T8 := Lib.hid (T7.out.below hb)
        clear hb
        go_wp2_with fail
        (with_reducible refine Calls.mono (CM3.out _) ?_)
        rintro e w9 ⟨rfl, hb⟩
        have B9 := Lib.hid (B8.out.trans (hb.mono B8.out.size))
        have T9 := Lib.hid (T8.out.below hb)
        clear hb
        go_wp2_with fail
        (with_reducible refine Calls.mono (PR1.out _ T9.out) ?_)
        rintro e w10 ⟨rfl, hb⟩
        have B10 := Lib.hid (B9.out.trans (hb.mono B9.out.size))
        have T10 := Lib.hid (T9.out.below hb)
        clear hb
        go_wp2_with fail
        (with_reducible refine Calls.mono (PR2.out _ T10.out) ?_)
        rintro e w11 ⟨rfl, hb⟩
        have B11 := Lib.hid (B10.out.trans (hb.mono B10.out.size))
        have T11 := Lib.hid (T10.out.below hb)
        clear hb
        go_wp2_with fail
        (with_reducible refine Calls.mono (CM4.out _) ?_)
        rintro e w12 ⟨rfl, hb⟩
        have B12 := Lib.hid (B11.out.trans (hb.mono B11.out.size))
        have T12 := Lib.hid (T11.out.below hb)
        clear hb
        go_wp2_with fail
        (with_reducible refine Calls.mono (SGZ.out _) ?_)
        rintro e w' ⟨rfl, rfl⟩
        go_wp2_with fail
        (with_reducible refine Calls.mono (CM5.out _) ?_)
        rintro e w13 ⟨rfl, hb⟩
        have B13 := Lib.hid (B12.out.trans (hb.mono B12.out.size))
        have T13 := Lib.hid (T12.out.below hb)
        clear hb
        go_wp2_with fail
        (with_reducible refine Calls.mono (CM6.out _) ?_)
        rintro e w14 ⟨rfl, hb⟩
        have B14 := Lib.hid (B13.out.trans (hb.mono B13.out.size))
        have T14 := Lib.hid (T13.out.below hb)
        clear hb
        go_wp2_with fail
        (with_reducible refine Calls.mono (AB.out _) ?_)
        rintro e w' ⟨rfl, rfl⟩
        go_wp2_with fail
        (with_reducible refine Calls.mono (CM7.out _) ?_)
        rintro e w15 ⟨rfl, hb⟩
        have B15 := Lib.hid (B14.out.trans (hb.mono B14.out.size))
        have T15 := Lib.hid (T14.out.below hb)
        clear hb
        go_wp2_with fail
        (with_reducible refine Calls.mono (AW.out _ T15.out) ?_)
        rintro e w16 ⟨rfl, hb⟩
        have B16 := Lib.hid (B15.out.trans (hb.mono B15.out.size))
        have T16 := Lib.hid (T15.out.below hb)
        clear hb
        go_wp2
        go_ret
        exact ⟨rfl, B16.out⟩
    · by_cases hp : 0 < p
      · go_wp2_with fail
        (with_reducible refine Calls.mono (CM1.out _) ?_)
        rintro e w4 ⟨rfl, hb⟩
        have B4 := Lib.hid (B3.out.trans (hb.mono B3.out.size))
        have T4 := Lib.hid (T3.out.below hb)
        clear hb
        go_wp2_with fail
        (with_reducible refine Calls.mono (SB.out _ T4.out) ?_)
        rintro e w5 ⟨rfl, hb⟩
        have B5 := Lib.hid (B4.out.trans (hb.mono B4.out.size))
        have T5 := Lib.hid (T4.out.below hb)
        clear hb
        go_wp2_with fail
        (with_reducible refine Calls.mono (SG.out _) ?_)
        rintro e w' ⟨rfl, rfl⟩
        go_wp2_with fail
        (with_reducible refine Calls.mono (CM2.out _) ?_)
        rintro e w6 ⟨rfl, hb⟩
        have B6 := Lib.hid (B5.out.trans (hb.mono B5.out.size))
        have T6 := Lib.hid (T5.out.below hb)
        clear hb
        go_wp2_with fail
        (with_reducible refine Calls.mono (SU1.out _ T6.out) ?_)
        rintro e w7 ⟨rfl, hb⟩
        have B7 := Lib.hid (B6.out.trans (hb.mono B6.out.size))
        have T7 := Lib.hid (T6.out.below hb)
        clear hb
        go_wp2_with fail
        (with_reducible refine Calls.mono (SU2.out _ T7.out) ?_)
        rintro e w8 ⟨rfl, hb⟩
        have B8 := Lib.hid (B7.out.trans (hb.mono B7.out.size))
        have T8 := Lib.hid (T7.out.below hb)
        clear hb
        go_wp2_with fail
        (with_reducible refine Calls.mono (CM3.out _) ?_)
        rintro e w9 ⟨rfl, hb⟩
        have B9 := Lib.hid (B8.out.trans (hb.mono B8.out.size))
        have T9 := Lib.hid (T8.out.below hb)
        clear hb
        go_wp2_with fail
        (with_reducible refine Calls.mono (PR1.out _ T9.out) ?_)
        rintro e w10 ⟨rfl, hb⟩
        have B10 := Lib.hid (B9.out.trans (hb.mono B9.out.size))
        have T10 := Lib.hid (T9.out.below hb)
        clear hb
        go_wp2_with fail
        (with_reducible refine Calls.mono (PR2.out _ T10.out) ?_)
        rintro e w11 ⟨rfl, hb⟩
        have B11 := Lib.hid (B10.out.trans (hb.mono B10.out.size))
        have T11 := Lib.hid (T10.out.below hb)
        clear hb
        go_wp2_with fail
        (with_reducible refine Calls.mono (CM4.out _) ?_)
        rintro e w12 ⟨rfl, hb⟩
        have B12 := Lib.hid (B11.out.trans (hb.mono B11.out.size))
        have T12 := Lib.hid (T11.out.below hb)
        clear hb
        go_wp2_with fail
        (with_reducible refine Calls.mono (SGZ.out _) ?_)
        rintro e w' ⟨rfl, rfl⟩
        go_wp2_with fail
        (with_reducible refine Calls.mono (CM5.out _) ?_)
        rintro e w13 ⟨rfl, hb⟩
        have B13 := Lib.hid (B12.out.trans (hb.mono B12.out.size))
        have T13 := Lib.hid (T12.out.below hb)
        clear hb
        go_wp2_with fail
        (with_reducible refine Calls.mono (AB.out _) ?_)
        rintro e w' ⟨rfl, rfl⟩
        go_wp2_with fail
        (with_reducible refine Calls.mono (CM7.out _) ?_)
        rintro e w14 ⟨rfl, hb⟩
        have B14 := Lib.hid (B13.out.trans (hb.mono B13.out.size))
        have T14 := Lib.hid (T13.out.below hb)
        clear hb
        go_wp2_with fail
        (with_reducible refine Calls.mono (AW.out _ T14.out) ?_)
        rintro e w15 ⟨rfl, hb⟩
        have B15 := Lib.hid (B14.out.trans (hb.mono B14.out.size))
        have T15 := Lib.hid (T14.out.below hb)
        clear hb
        go_wp2
        go_ret
        exact ⟨rfl, B15.out⟩
      · have hq := HPQ.out (by omega) hp
        go_wp2_with fail
        (with_reducible refine Calls.mono (CM1.out _) ?_)
        rintro e w4 ⟨rfl, hb⟩
        have B4 := Lib.hid (B3.out.trans (hb.mono B3.out.size))
        have T4 := Lib.hid (T3.out.below hb)
        clear hb
        go_wp2_with fail
        (with_reducible refine Calls.mono (SB.out _ T4.out) ?_)
        rintro e w5 ⟨rfl, hb⟩
        have B5 := Lib.hid (B4.out.trans (hb.mono B4.out.size))
        have T5 := Lib.hid (T4.out.below hb)
        clear hb
        go_wp2_with fail
        (with_reducible refine Calls.mono (SG.out _) ?_)
        rintro e w' ⟨rfl, rfl⟩
        go_wp2_with fail
        (with_reducible refine Calls.mono (CM2.out _) ?_)
        rintro e w6 ⟨rfl, hb⟩
        have B6 := Lib.hid (B5.out.trans (hb.mono B5.out.size))
        have T6 := Lib.hid (T5.out.below hb)
        clear hb
        go_wp2_with fail
        (with_reducible refine Calls.mono (SU1.out _ T6.out) ?_)
        rintro e w7 ⟨rfl, hb⟩
        have B7 := Lib.hid (B6.out.trans (hb.mono B6.out.size))
        have T7 := Lib.hid (T6.out.below hb)
        clear hb
        go_wp2_with fail
        (with_reducible refine Calls.mono (SU2.out _ T7.out) ?_)
        rintro e w8 ⟨rfl, hb⟩
        have B8 := Lib.hid (B7.out.trans (hb.mono B7.out.size))
        have T8 := Lib.hid (T7.out.below hb)
        clear hb
        go_wp2_with fail
        (with_reducible refine Calls.mono (CM3.out _) ?_)
        rintro e w9 ⟨rfl, hb⟩
        have B9 := Lib.hid (B8.out.trans (hb.mono B8.out.size))
        have T9 := Lib.hid (T8.out.below hb)
        clear hb
        go_wp2_with fail
        (with_reducible refine Calls.mono (PR1.out _ T9.out) ?_)
        rintro e w10 ⟨rfl, hb⟩
        have B10 := Lib.hid (B9.out.trans (hb.mono B9.out.size))
        have T10 := Lib.hid (T9.out.below hb)
        clear hb
        go_wp2_with fail
        (with_reducible refine Calls.mono (PR2.out _ T10.out) ?_)
        rintro e w11 ⟨rfl, hb⟩
        have B11 := Lib.hid (B10.out.trans (hb.mono B10.out.size))
        have T11 := Lib.hid (T10.out.below hb)
        clear hb
        go_wp2_with fail
        (with_reducible refine Calls.mono (CM4.out _) ?_)
        rintro e w12 ⟨rfl, hb⟩
        have B12 := Lib.hid (B11.out.trans (hb.mono B11.out.size))
        have T12 := Lib.hid (T11.out.below hb)
        clear hb
        go_wp2_with fail
        (with_reducible refine Calls.mono (SGZ.out _) ?_)
        rintro e w' ⟨rfl, rfl⟩
        go_wp2_with fail
        (with_reducible refine Calls.mono (CM5.out _) ?_)
        rintro e w13 ⟨rfl, hb⟩
        have B13 := Lib.hid (B12.out.trans (hb.mono B12.out.size))
        have T13 := Lib.hid (T12.out.below hb)
        clear hb
        go_wp2_with fail
        (with_reducible refine Calls.mono (CM6.out _) ?_)
        rintro e w14 ⟨rfl, hb⟩
        have B14 := Lib.hid (B13.out.trans (hb.mono B13.out.size))
        have T14 := Lib.hid (T13.out.below hb)
        clear hb
        go_wp2_with fail
        (with_reducible refine Calls.mono (AB.out _) ?_)
        rintro e w' ⟨rfl, rfl⟩
        go_wp2_with fail
        (with_reducible refine Calls.mono (CM7.out _) ?_)
        rintro e w15 ⟨rfl, hb⟩
        have B15 := Lib.hid (B14.out.trans (hb.mono B14.out.size))
        have T15 := Lib.hid (T14.out.below hb)
        clear hb
        go_wp2_with fail
        (with_reducible refine Calls.mono (AW.out _ T15.out) ?_)
        rintro e w16 ⟨rfl, hb⟩
        have B16 := Lib.hid (B15.out.trans (hb.mono B15.out.size))
        have T16 := Lib.hid (T15.out.below hb)
        clear hb
        go_wp2
        go_ret
        exact ⟨rfl, B16.out⟩
    · by_cases hp : 0 < p
      · go_wp2_with fail
        (with_reducible refine Calls.mono (CM1.out _) ?_)
        rintro e w4 ⟨rfl, hb⟩
        have B4 := Lib.hid (B3.out.trans (hb.mono B3.out.size))
        have T4 := Lib.hid (T3.out.below hb)
        clear hb
        go_wp2_with fail
        (with_reducible refine Calls.mono (SB.out _ T4.out) ?_)
        rintro e w5 ⟨rfl, hb⟩
        have B5 := Lib.hid (B4.out.trans (hb.mono B4.out.size))
        have T5 := Lib.hid (T4.out.below hb)
        clear hb
        go_wp2_with fail
        (with_reducible refine Calls.mono (SG.out _) ?_)
        rintro e w' ⟨rfl, rfl⟩
        go_wp2_with fail
        (with_reducible refine Calls.mono (CM2.out _) ?_)
        rintro e w6 ⟨rfl, hb⟩
        have B6 := Lib.hid (B5.out.trans (hb.mono B5.out.size))
        have T6 := Lib.hid (T5.out.below hb)
        clear hb
        go_wp2_with fail
        (with_reducible refine Calls.mono (SU1.out _ T6.out) ?_)
        rintro e w7 ⟨rfl, hb⟩
        have B7 := Lib.hid (B6.out.trans (hb.mono B6.out.size))
        have T7 := Lib.hid (T6.out.below hb)
        clear hb
        go_wp2_with fail
        (with_reducible refine Calls.mono (SU2.out _ T7.out) ?_)
        rintro e w8 ⟨rfl, hb⟩
        have B8 := Lib.hid (B7.out.trans (hb.mono B7.out.size))
        have T8 := Lib.hid (T7.out.below hb)
        clear hb
        go_wp2_with fail
        (with_reducible refine Calls.mono (CM3.out _) ?_)
        rintro e w9 ⟨rfl, hb⟩
        have B9 := Lib.hid (B8.out.trans (hb.mono B8.out.size))
        have T9 := Lib.hid (T8.out.below hb)
        clear hb
        go_wp2_with fail
        (with_reducible refine Calls.mono (PR1.out _ T9.out) ?_)
        rintro e w10 ⟨rfl, hb⟩
        have B10 := Lib.hid (B9.out.trans (hb.mono B9.out.size))
        have T10 := Lib.hid (T9.out.below hb)
        clear hb
        go_wp2_with fail
        (with_reducible refine Calls.mono (PR2.out _ T10.out) ?_)
        rintro e w11 ⟨rfl, hb⟩
        have B11 := Lib.hid (B10.out.trans (hb.mono B10.out.size))
        have T11 := Lib.hid (T10.out.below hb)
        clear hb
        go_wp2_with fail
        (with_reducible refine Calls.mono (CM4.out _) ?_)
        rintro e w12 ⟨rfl, hb⟩
        have B12 := Lib.hid (B11.out.trans (hb.mono B11.out.size))
        have T12 := Lib.hid (T11.out.below hb)
        clear hb
        go_wp2_with fail
        (with_reducible refine Calls.mono (SGZ.out _) ?_)
        rintro e w' ⟨rfl, rfl⟩
        go_wp2_with fail
        (with_reducible refine Calls.mono (CM5.out _) ?_)
        rintro e w13 ⟨rfl, hb⟩
        have B13 := Lib.hid (B12.out.trans (hb.mono B12.out.size))
        have T13 := Lib.hid (T12.out.below hb)
        clear hb
        go_wp2_with fail
        (with_reducible refine Calls.mono (AB.out _) ?_)
        rintro e w' ⟨rfl, rfl⟩
        go_wp2_with fail
        (with_reducible refine Calls.mono (CM7.out _) ?_)
        rintro e w14 ⟨rfl, hb⟩
        have B14 := Lib.hid (B13.out.trans (hb.mono B13.out.size))
        have T14 := Lib.hid (T13.out.below hb)
        clear hb
        go_wp2_with fail
        (with_reducible refine Calls.mono (AW.out _ T14.out) ?_)
        rintro e w15 ⟨rfl, hb⟩
        have B15 := Lib.hid (B14.out.trans (hb.mono B14.out.size))
        have T15 := Lib.hid (T14.out.below hb)
        clear hb
        go_wp2
        go_ret
        exact ⟨rfl, B15.out⟩
      · have hq := HPQ.out (by omega) hp
        go_wp2_with fail
        (with_reducible refine Calls.mono (CM1.out _) ?_)
        rintro e w4 ⟨rfl, hb⟩
        have B4 := Lib.hid (B3.out.trans (hb.mono B3.out.size))
        have T4 := Lib.hid (T3.out.below hb)
        clear hb
        go_wp2_with fail
        (with_reducible refine Calls.mono (SB.out _ T4.out) ?_)
        rintro e w5 ⟨rfl, hb⟩
        have B5 := Lib.hid (B4.out.trans (hb.mono B4.out.size))
        have T5 := Lib.hid (T4.out.below hb)
        clear hb
        go_wp2_with fail
        (with_reducible refine Calls.mono (SG.out _) ?_)
        rintro e w' ⟨rfl, rfl⟩
        go_wp2_with fail
        (with_reducible refine Calls.mono (CM2.out _) ?_)
        rintro e w6 ⟨rfl, hb⟩
        have B6 := Lib.hid (B5.out.trans (hb.mono B5.out.size))
        have T6 := Lib.hid (T5.out.below hb)
        clear hb
        go_wp2_with fail
        (with_reducible refine Calls.mono (SU1.out _ T6.out) ?_)
        rintro e w7 ⟨rfl, hb⟩
        have B7 := Lib.hid (B6.out.trans (hb.mono B6.out.size))
        have T7 := Lib.hid (T6.out.below hb)
        clear hb
        go_wp2_with fail
        (with_reducible refine Calls.mono (SU2.out _ T7.out) ?_)
        rintro e w8 ⟨rfl, hb⟩
        have B8 := Lib.hid (B7.out.trans (hb.mono B7.out.size))
        have T8 := Lib.hid (T7.out.below hb)
        clear hb
        go_wp2_with fail
        (with_reducible refine Calls.mono (CM3.out _) ?_)
        rintro e w9 ⟨rfl, hb⟩
        have B9 := Lib.hid (B8.out.trans (hb.mono B8.out.size))
        have T9 := Lib.hid (T8.out.below hb)
        clear hb
        go_wp2_with fail
        (with_reducible refine Calls.mono (PR1.out _ T9.out) ?_)
        rintro e w10 ⟨rfl, hb⟩
        have B10 := Lib.hid (B9.out.trans (hb.mono B9.out.size))
        have T10 := Lib.hid (T9.out.below hb)
        clear hb
        go_wp2_with fail
        (with_reducible refine Calls.mono (PR2.out _ T10.out) ?_)
        rintro e w11 ⟨rfl, hb⟩
        have B11 := Lib.hid (B10.out.trans (hb.mono B10.out.size))
        have T11 := Lib.hid (T10.out.below hb)
        clear hb
        go_wp2_with fail
        (with_reducible refine Calls.mono (CM4.out _) ?_)
        rintro e w12 ⟨rfl, hb⟩
        have B12 := Lib.hid (B11.out.trans (hb.mono B11.out.size))
        have T12 := Lib.hid (T11.out.below hb)
        clear hb
        go_wp2_with fail
        (with_reducible refine Calls.mono (SGZ.out _) ?_)
        rintro e w' ⟨rfl, rfl⟩
        go_wp2_with fail
        (with_reducible refine Calls.mono (CM5.out _) ?_)
        rintro e w13 ⟨rfl, hb⟩
        have B13 := Lib.hid (B12.out.trans (hb.mono B12.out.size))
        have T13 := Lib.hid (T12.out.below hb)
        clear hb
        go_wp2_with fail
        (with_reducible refine Calls.mono (CM6.out _) ?_)
        rintro e w14 ⟨rfl, hb⟩
        have B14 := Lib.hid (B13.out.trans (hb.mono B13.out.size))
        have T14 := Lib.hid (T13.out.below hb)
        clear hb
        go_wp2_with fail
        (with_reducible refine Calls.mono (AB.out _) ?_)
        rintro e w' ⟨rfl, rfl⟩
        go_wp2_with fail
        (with_reducible refine Calls.mono (CM7.out _) ?_)
        rintro e w15 ⟨rfl, hb⟩
        have B15 := Lib.hid (B14.out.trans (hb.mono B14.out.size))
        have T15 := Lib.hid (T14.out.below hb)
        clear hb
        go_wp2_with fail
        (with_reducible refine Calls.mono (AW.out _ T15.out) ?_)
        rintro e w16 ⟨rfl, hb⟩
        have B16 := Lib.hid (B15.out.trans (hb.mono B15.out.size))
        have T16 := Lib.hid (T15.out.below hb)
        clear hb
        go_wp2
        go_ret
        exact ⟨rfl, B16.out⟩
  · rcases hzc with rfl | rfl | rfl
    · go_wp2_with fail
      (with_reducible refine Calls.mono (CM1.out _) ?_)
      rintro e w4 ⟨rfl, hb⟩
      have B4 := Lib.hid (B3.out.trans (hb.mono B3.out.size))
      have T4 := Lib.hid (T3.out.below hb)
      clear hb
      go_wp2_with fail
      (with_reducible refine Calls.mono (SB.out _ T4.out) ?_)
      rintro e w5 ⟨rfl, hb⟩
      have B5 := Lib.hid (B4.out.trans (hb.mono B4.out.size))
      have T5 := Lib.hid (T4.out.below hb)
      clear hb
      go_wp2_with fail
      (with_reducible refine Calls.mono (SG.out _) ?_)
      rintro e w' ⟨rfl, rfl⟩
      go_wp2_with fail
      (with_reducible refine Calls.mono (CM2.out _) ?_)
      rintro e w6 ⟨rfl, hb⟩
      have B6 := Lib.hid (B5.out.trans (hb.mono B5.out.size))
      have T6 := Lib.hid (T5.out.below hb)
      clear hb
      go_wp2_with fail
      (with_reducible refine Calls.mono (SU1.out _ T6.out) ?_)
      rintro e w7 ⟨rfl, hb⟩
      have B7 := Lib.hid (B6.out.trans (hb.mono B6.out.size))
      have T7 := Lib.hid (T6.out.below hb)
      clear hb
      go_wp2_with fail
      (with_reducible refine Calls.mono (SU2.out _ T7.out) ?_)
      rintro e w8 ⟨rfl, hb⟩
      have B8 := Lib.hid (B7.out.trans (hb.mono B7.out.size))
      have T8 := Lib.hid (T7.out.below hb)
      clear hb
      go_wp2_with fail
      (with_reducible refine Calls.mono (CM3.out _) ?_)
      rintro e w9 ⟨rfl, hb⟩
      have B9 := Lib.hid (B8.out.trans (hb.mono B8.out.size))
      have T9 := Lib.hid (T8.out.below hb)
      clear hb
      go_wp2_with fail
      (with_reducible refine Calls.mono (PR1.out _ T9.out) ?_)
      rintro e w10 ⟨rfl, hb⟩
      have B10 := Lib.hid (B9.out.trans (hb.mono B9.out.size))
      have T10 := Lib.hid (T9.out.below hb)
      clear hb
      go_wp2_with fail
      (with_reducible refine Calls.mono (PR2.out _ T10.out) ?_)
      rintro e w11 ⟨rfl, hb⟩
      have B11 := Lib.hid (B10.out.trans (hb.mono B10.out.size))
      have T11 := Lib.hid (T10.out.below hb)
      clear hb
      go_wp2_with fail
      (with_reducible refine Calls.mono (CM4.out _) ?_)
      rintro e w12 ⟨rfl, hb⟩
      have B12 := Lib.hid (B11.out.trans (hb.mono B11.out.size))
      have T12 := Lib.hid (T11.out.below hb)
      clear hb
      go_wp2_with fail
      (with_reducible refine Calls.mono (SGZ.out _) ?_)
      rintro e w' ⟨rfl, rfl⟩
      go_wp2_with fail
      (with_reducible refine Calls.mono (AB.out _) ?_)
      rintro e w' ⟨rfl, rfl⟩
      go_wp2_with fail
      (with_reducible refine Calls.mono (CM7.out _) ?_)
      rintro e w13 ⟨rfl, hb⟩
      have B13 := Lib.hid (B12.out.trans (hb.mono B12.out.size))
      have T13 := Lib.hid (T12.out.below hb)
      clear hb
      go_wp2_with fail
      (with_reducible refine Calls.mono (AW.out _ T13.out) ?_)
      rintro e w14 ⟨rfl, hb⟩
      have B14 := Lib.hid (B13.out.trans (hb.mono B13.out.size))
      have T14 := Lib.hid (T13.out.below hb)
      clear hb
      go_wp2
      go_ret
      exact ⟨rfl, B14.out⟩
    · go_wp2_with fail
      (with_reducible refine Calls.mono (CM1.out _) ?_)
      rintro e w4 ⟨rfl, hb⟩
      have B4 := Lib.hid (B3.out.trans (hb.mono B3.out.size))
      have T4 := Lib.hid (T3.out.below hb)
      clear hb
      go_wp2_with fail
      (with_reducible refine Calls.mono (SB.out _ T4.out) ?_)
      rintro e w5 ⟨rfl, hb⟩
      have B5 := Lib.hid (B4.out.trans (hb.mono B4.out.size))
      have T5 := Lib.hid (T4.out.below hb)
      clear hb
      go_wp2_with fail
      (with_reducible refine Calls.mono (SG.out _) ?_)
      rintro e w' ⟨rfl, rfl⟩
      go_wp2_with fail
      (with_reducible refine Calls.mono (CM2.out _) ?_)
      rintro e w6 ⟨rfl, hb⟩
      have B6 := Lib.hid (B5.out.trans (hb.mono B5.out.size))
      have T6 := Lib.hid (T5.out.below hb)
      clear hb
      go_wp2_with fail
      (with_reducible refine Calls.mono (SU1.out _ T6.out) ?_)
      rintro e w7 ⟨rfl, hb⟩
      have B7 := Lib.hid (B6.out.trans (hb.mono B6.out.size))
      have T7 := Lib.hid (T6.out.below hb)
      clear hb
      go_wp2_with fail
      (with_reducible refine Calls.mono (SU2.out _ T7.out) ?_)
      rintro e w8 ⟨rfl, hb⟩
      have B8 := Lib.hid (B7.out.trans (hb.mono B7.out.size))
      have T8 := Lib.hid (T7.out.below hb)
      clear hb
      go_wp2_with fail
      (with_reducible refine Calls.mono (CM3.out _) ?_)
      rintro e w9 ⟨rfl, hb⟩
      have B9 := Lib.hid (B8.out.trans (hb.mono B8.out.size))
      have T9 := Lib.hid (T8.out.below hb)
      clear hb
      go_wp2_with fail
      (with_reducible refine Calls.mono (PR1.out _ T9.out) ?_)
      rintro e w10 ⟨rfl, hb⟩
      have B10 := Lib.hid (B9.out.trans (hb.mono B9.out.size))
      have T10 := Lib.hid (T9.out.below hb)
      clear hb
      go_wp2_with fail
      (with_reducible refine Calls.mono (PR2.out _ T10.out) ?_)
      rintro e w11 ⟨rfl, hb⟩
      have B11 := Lib.hid (B10.out.trans (hb.mono B10.out.size))
      have T11 := Lib.hid (T10.out.below hb)
      clear hb
      go_wp2_with fail
      (with_reducible refine Calls.mono (CM4.out _) ?_)
      rintro e w12 ⟨rfl, hb⟩
      have B12 := Lib.hid (B11.out.trans (hb.mono B11.out.size))
      have T12 := Lib.hid (T11.out.below hb)
      clear hb
      go_wp2_with fail
      (with_reducible refine Calls.mono (SGZ.out _) ?_)
      rintro e w' ⟨rfl, rfl⟩
      go_wp2_with fail
      (with_reducible refine Calls.mono (AB.out _) ?_)
      rintro e w' ⟨rfl, rfl⟩
      go_wp2_with fail
      (with_reducible refine Calls.mono (CM7.out _) ?_)
      rintro e w13 ⟨rfl, hb⟩
      have B13 := Lib.hid (B12.out.trans (hb.mono B12.out.size))
      have T13 := Lib.hid (T12.out.below hb)
      clear hb
      go_wp2_with fail
      (with_reducible refine Calls.mono (AW.out _ T13.out) ?_)
      rintro e w14 ⟨rfl, hb⟩
      have B14 := Lib.hid (B13.out.trans (hb.mono B13.out.size))
      have T14 := Lib.hid (T13.out.below hb)
      clear hb
      go_wp2
      go_ret
      exact ⟨rfl, B14.out⟩
    · go_wp2_with fail
      (with_reducible refine Calls.mono (CM1.out _) ?_)
      rintro e w4 ⟨rfl, hb⟩
      have B4 := Lib.hid (B3.out.trans (hb.mono B3.out.size))
      have T4 := Lib.hid (T3.out.below hb)
      clear hb
      go_wp2_with fail
      (with_reducible refine Calls.mono (SB.out _ T4.out) ?_)
      rintro e w5 ⟨rfl, hb⟩
      have B5 := Lib.hid (B4.out.trans (hb.mono B4.out.size))
      have T5 := Lib.hid (T4.out.below hb)
      clear hb
      go_wp2_with fail
      (with_reducible refine Calls.mono (SG.out _) ?_)
      rintro e w' ⟨rfl, rfl⟩
      go_wp2_with fail
      (with_reducible refine Calls.mono (CM2.out _) ?_)
      rintro e w6 ⟨rfl, hb⟩
      have B6 := Lib.hid (B5.out.trans (hb.mono B5.out.size))
      have T6 := Lib.hid (T5.out.below hb)
      clear hb
      go_wp2_with fail
      (with_reducible refine Calls.mono (SU1.out _ T6.out) ?_)
      rintro e w7 ⟨rfl, hb⟩
      have B7 := Lib.hid (B6.out.trans (hb.mono B6.out.size))
      have T7 := Lib.hid (T6.out.below hb)
      clear hb
      go_wp2_with fail
      (with_reducible refine Calls.mono (SU2.out _ T7.out) ?_)
      rintro e w8 ⟨rfl, hb⟩
      have B8 := Lib.hid (B7.out.trans (hb.mono B7.out.size))
      have T8 := Lib.hid (T7.out.below hb)
      clear hb
      go_wp2_with fail
      (with_reducible refine Calls.mono (CM3.out _) ?_)
      rintro e w9 ⟨rfl, hb⟩
      have B9 := Lib.hid (B8.out.trans (hb.mono B8.out.size))
      have T9 := Lib.hid (T8.out.below hb)
      clear hb
      go_wp2_with fail
      (with_reducible refine Calls.mono (PR1.out _ T9.out) ?_)
      rintro e w10 ⟨rfl, hb⟩
      have B10 := Lib.hid (B9.out.trans (hb.mono B9.out.size))
      have T10 := Lib.hid (T9.out.below hb)
      clear hb
      go_wp2_with fail
      (with_reducible refine Calls.mono (PR2.out _ T10.out) ?_)
      rintro e w11 ⟨rfl, hb⟩
      have B11 := Lib.hid (B10.out.trans (hb.mono B10.out.size))
      have T11 := Lib.hid (T10.out.below hb)
      clear hb
      go_wp2_with fail
      (with_reducible refine Calls.mono (CM4.out _) ?_)
      rintro e w12 ⟨rfl, hb⟩
      have B12 := Lib.hid (B11.out.trans (hb.mono B11.out.size))
      have T12 := Lib.hid (T11.out.below hb)
      clear hb
      go_wp2_with fail
      (with_reducible refine Calls.mono (SGZ.out _) ?_)
      rintro e w' ⟨rfl, rfl⟩
      go_wp2_with fail
      (with_reducible refine Calls.mono (AB.out _) ?_)
      rintro e w' ⟨rfl, rfl⟩
      go_wp2_with fail
      (with_reducible refine Calls.mono (CM7.out _) ?_)
      rintro e w13 ⟨rfl, hb⟩
      have B13 := Lib.hid (B12.out.trans (hb.mono B12.out.size))
      have T13 := Lib.hid (T12.out.below hb)
      clear hb
      go_wp2_with fail
      (with_reducible refine Calls.mono (AW.out _ T13.out) ?_)
      rintro e w14 ⟨rfl, hb⟩
      have B14 := Lib.hid (B13.out.trans (hb.mono B13.out.size))
      have T14 := Lib.hid (T13.out.below hb)
      clear hb
      go_wp2
      go_ret
      exact ⟨rfl, B14.out⟩
end Go.Proofs.YtgeokeffondmhaaGreatDoor
