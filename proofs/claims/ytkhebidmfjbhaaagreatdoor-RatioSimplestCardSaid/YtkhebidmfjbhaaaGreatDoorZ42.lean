/-
  What the reference of layer 3 returns: Reduced, Fit.
  What the laws' helpers sum and product return.
  What the order's functions return for numbers, by how the numbers lie.
  The simplest number between two numbers: what it is, and that Simplest returns it.
  What simpler of layer 3's laws returns for a number that is no simpler than the other.
  What the reference's split returns for a number, and its comparisons.
-/
import Derived.Test.YtkhebidmfjbhaaaGreatDoorZ39
import Derived.Test.YtkhebidmfjbhaaaGreatDoorZ41
import Derived.Deep.RegionHeld3
import Derived.Deep.Cut
import Derived.BigQuiet
namespace Go.Proofs.YtkhebidmfjbhaaaGreatDoor
open Go.RowKit

theorem red_neg_g_o (X Y A B G : ByteArray) (c : Int) (w : World) (CM : ∀ W, Calls Tryz.prog 121 #[.string Y, .string ⟨#[48]⟩] W (GivesI c W)) (hc : c < 0) (OX : ∀ W, Calls Tryz.prog 112 #[.string X] W (GivesY A W)) (OY : ∀ W, Calls Tryz.prog 112 #[.string Y] W (GivesY B W)) (DV : ∀ W, Calls Tryz.prog 144 #[.string A, .string B] W (GivesY G W)) (hg : (G.toList == [49]) = true) (h1 : (B.toList == [49]) = true) : Calls Tryz.prog 113 #[.string X, .string Y] w (GivesY A w) := by
  replace CM := Lib.hid CM
  replace DV := Lib.hid DV
  replace OX := Lib.hid OX
  replace OY := Lib.hid OY
  go_enter Tryz.func113, Tryz.ntmps113
  go_wp2_with fail
  refine (CM.out _).mono ?_
  rintro e w1 ⟨rfl, hb1⟩
  have B := Lib.hid hb1
  clear hb1
  go_wp2_with fail
  refine (OX.out _).mono ?_
  rintro e w2 ⟨rfl, hb2⟩
  replace B := Lib.hid (B.out.trans (hb2.mono B.out.size))
  clear hb2
  go_wp2_with fail
  refine (OY.out _).mono ?_
  rintro e w3 ⟨rfl, hb3⟩
  replace B := Lib.hid (B.out.trans (hb3.mono B.out.size))
  clear hb3
  go_wp2_with fail
  refine (DV.out _).mono ?_
  rintro e w4 ⟨rfl, hb4⟩
  replace B := Lib.hid (B.out.trans (hb4.mono B.out.size))
  clear hb4
  go_wp2
  go_ret
  exact ⟨rfl, B.out⟩
theorem red_neg_g_f (X Y A B G : ByteArray) (c : Int) (w : World) (CM : ∀ W, Calls Tryz.prog 121 #[.string Y, .string ⟨#[48]⟩] W (GivesI c W)) (hc : c < 0) (OX : ∀ W, Calls Tryz.prog 112 #[.string X] W (GivesY A W)) (OY : ∀ W, Calls Tryz.prog 112 #[.string Y] W (GivesY B W)) (DV : ∀ W, Calls Tryz.prog 144 #[.string A, .string B] W (GivesY G W)) (hg : (G.toList == [49]) = true) (h1 : (B.toList == [49]) = false) (z1 : A.size ≤ 100000) (z2 : B.size ≤ 100000) : Calls Tryz.prog 113 #[.string X, .string Y] w (GivesY (A ++ ⟨#[47]⟩ ++ B) w) := by
  replace CM := Lib.hid CM
  replace DV := Lib.hid DV
  replace OX := Lib.hid OX
  replace OY := Lib.hid OY
  have y1 : ¬ 9223372036854775807 < A.size + 1 := by omega
  have y2 : ¬ 9223372036854775807 < A.size + 1 + B.size := by omega
  go_enter Tryz.func113, Tryz.ntmps113
  go_wp2_with fail
  refine (CM.out _).mono ?_
  rintro e w1 ⟨rfl, hb1⟩
  have B := Lib.hid hb1
  clear hb1
  go_wp2_with fail
  refine (OX.out _).mono ?_
  rintro e w2 ⟨rfl, hb2⟩
  replace B := Lib.hid (B.out.trans (hb2.mono B.out.size))
  clear hb2
  go_wp2_with fail
  refine (OY.out _).mono ?_
  rintro e w3 ⟨rfl, hb3⟩
  replace B := Lib.hid (B.out.trans (hb3.mono B.out.size))
  clear hb3
  go_wp2_with fail
  refine (DV.out _).mono ?_
  rintro e w4 ⟨rfl, hb4⟩
  replace B := Lib.hid (B.out.trans (hb4.mono B.out.size))
  clear hb4
  go_wp2
  go_ret
  exact ⟨rfl, B.out⟩
theorem red_neg_n_o (X Y A B G C D : ByteArray) (c : Int) (w : World) (CM : ∀ W, Calls Tryz.prog 121 #[.string Y, .string ⟨#[48]⟩] W (GivesI c W)) (hc : c < 0) (OX : ∀ W, Calls Tryz.prog 112 #[.string X] W (GivesY A W)) (OY : ∀ W, Calls Tryz.prog 112 #[.string Y] W (GivesY B W)) (DV : ∀ W, Calls Tryz.prog 144 #[.string A, .string B] W (GivesY G W)) (R S : ByteArray) (hg : (G.toList == [49]) = false) (Q1 : ∀ W, Calls Tryz.prog 153 #[.string A, .string G] W (GivesQQ C R W)) (Q2 : ∀ W, Calls Tryz.prog 153 #[.string B, .string G] W (GivesQQ D S W)) (h1 : (D.toList == [49]) = true) : Calls Tryz.prog 113 #[.string X, .string Y] w (GivesY C w) := by
  replace CM := Lib.hid CM
  replace DV := Lib.hid DV
  replace OX := Lib.hid OX
  replace OY := Lib.hid OY
  replace Q1 := Lib.hid Q1
  replace Q2 := Lib.hid Q2
  go_enter Tryz.func113, Tryz.ntmps113
  go_wp2_with fail
  refine (CM.out _).mono ?_
  rintro e w1 ⟨rfl, hb1⟩
  have B := Lib.hid hb1
  clear hb1
  go_wp2_with fail
  refine (OX.out _).mono ?_
  rintro e w2 ⟨rfl, hb2⟩
  replace B := Lib.hid (B.out.trans (hb2.mono B.out.size))
  clear hb2
  go_wp2_with fail
  refine (OY.out _).mono ?_
  rintro e w3 ⟨rfl, hb3⟩
  replace B := Lib.hid (B.out.trans (hb3.mono B.out.size))
  clear hb3
  go_wp2_with fail
  refine (DV.out _).mono ?_
  rintro e w4 ⟨rfl, hb4⟩
  replace B := Lib.hid (B.out.trans (hb4.mono B.out.size))
  clear hb4
  go_wp2_with fail
  refine (Q1.out _).mono ?_
  rintro e w5 ⟨rfl, hb5⟩
  replace B := Lib.hid (B.out.trans (hb5.mono B.out.size))
  clear hb5
  go_wp2_with fail
  refine (Q2.out _).mono ?_
  rintro e w6 ⟨rfl, hb6⟩
  replace B := Lib.hid (B.out.trans (hb6.mono B.out.size))
  clear hb6
  go_wp2
  go_ret
  exact ⟨rfl, B.out⟩
theorem red_neg_n_f (X Y A B G C D : ByteArray) (c : Int) (w : World) (CM : ∀ W, Calls Tryz.prog 121 #[.string Y, .string ⟨#[48]⟩] W (GivesI c W)) (hc : c < 0) (OX : ∀ W, Calls Tryz.prog 112 #[.string X] W (GivesY A W)) (OY : ∀ W, Calls Tryz.prog 112 #[.string Y] W (GivesY B W)) (DV : ∀ W, Calls Tryz.prog 144 #[.string A, .string B] W (GivesY G W)) (R S : ByteArray) (hg : (G.toList == [49]) = false) (Q1 : ∀ W, Calls Tryz.prog 153 #[.string A, .string G] W (GivesQQ C R W)) (Q2 : ∀ W, Calls Tryz.prog 153 #[.string B, .string G] W (GivesQQ D S W)) (h1 : (D.toList == [49]) = false) (z1 : C.size ≤ 100000) (z2 : D.size ≤ 100000) : Calls Tryz.prog 113 #[.string X, .string Y] w (GivesY (C ++ ⟨#[47]⟩ ++ D) w) := by
  replace CM := Lib.hid CM
  replace DV := Lib.hid DV
  replace OX := Lib.hid OX
  replace OY := Lib.hid OY
  replace Q1 := Lib.hid Q1
  replace Q2 := Lib.hid Q2
  have y1 : ¬ 9223372036854775807 < C.size + 1 := by omega
  have y2 : ¬ 9223372036854775807 < C.size + 1 + D.size := by omega
  go_enter Tryz.func113, Tryz.ntmps113
  go_wp2_with fail
  refine (CM.out _).mono ?_
  rintro e w1 ⟨rfl, hb1⟩
  have B := Lib.hid hb1
  clear hb1
  go_wp2_with fail
  refine (OX.out _).mono ?_
  rintro e w2 ⟨rfl, hb2⟩
  replace B := Lib.hid (B.out.trans (hb2.mono B.out.size))
  clear hb2
  go_wp2_with fail
  refine (OY.out _).mono ?_
  rintro e w3 ⟨rfl, hb3⟩
  replace B := Lib.hid (B.out.trans (hb3.mono B.out.size))
  clear hb3
  go_wp2_with fail
  refine (DV.out _).mono ?_
  rintro e w4 ⟨rfl, hb4⟩
  replace B := Lib.hid (B.out.trans (hb4.mono B.out.size))
  clear hb4
  go_wp2_with fail
  refine (Q1.out _).mono ?_
  rintro e w5 ⟨rfl, hb5⟩
  replace B := Lib.hid (B.out.trans (hb5.mono B.out.size))
  clear hb5
  go_wp2_with fail
  refine (Q2.out _).mono ?_
  rintro e w6 ⟨rfl, hb6⟩
  replace B := Lib.hid (B.out.trans (hb6.mono B.out.size))
  clear hb6
  go_wp2
  go_ret
  exact ⟨rfl, B.out⟩
theorem red_pos_g_o (A B G : ByteArray) (c : Int) (w : World) (CM : ∀ W, Calls Tryz.prog 121 #[.string B, .string ⟨#[48]⟩] W (GivesI c W)) (hc : ¬ c < 0) (DV : ∀ W, Calls Tryz.prog 144 #[.string A, .string B] W (GivesY G W)) (hg : (G.toList == [49]) = true) (h1 : (B.toList == [49]) = true) : Calls Tryz.prog 113 #[.string A, .string B] w (GivesY A w) := by
  replace CM := Lib.hid CM
  replace DV := Lib.hid DV
  go_enter Tryz.func113, Tryz.ntmps113
  go_wp2_with fail
  refine (CM.out _).mono ?_
  rintro e w1 ⟨rfl, hb1⟩
  have B := Lib.hid hb1
  clear hb1
  go_wp2_with fail
  refine (DV.out _).mono ?_
  rintro e w4 ⟨rfl, hb4⟩
  replace B := Lib.hid (B.out.trans (hb4.mono B.out.size))
  clear hb4
  go_wp2
  go_ret
  exact ⟨rfl, B.out⟩
theorem red_pos_g_f (A B G : ByteArray) (c : Int) (w : World) (CM : ∀ W, Calls Tryz.prog 121 #[.string B, .string ⟨#[48]⟩] W (GivesI c W)) (hc : ¬ c < 0) (DV : ∀ W, Calls Tryz.prog 144 #[.string A, .string B] W (GivesY G W)) (hg : (G.toList == [49]) = true) (h1 : (B.toList == [49]) = false) (z1 : A.size ≤ 100000) (z2 : B.size ≤ 100000) : Calls Tryz.prog 113 #[.string A, .string B] w (GivesY (A ++ ⟨#[47]⟩ ++ B) w) := by
  replace CM := Lib.hid CM
  replace DV := Lib.hid DV
  have y1 : ¬ 9223372036854775807 < A.size + 1 := by omega
  have y2 : ¬ 9223372036854775807 < A.size + 1 + B.size := by omega
  go_enter Tryz.func113, Tryz.ntmps113
  go_wp2_with fail
  refine (CM.out _).mono ?_
  rintro e w1 ⟨rfl, hb1⟩
  have B := Lib.hid hb1
  clear hb1
  go_wp2_with fail
  refine (DV.out _).mono ?_
  rintro e w4 ⟨rfl, hb4⟩
  replace B := Lib.hid (B.out.trans (hb4.mono B.out.size))
  clear hb4
  go_wp2
  go_ret
  exact ⟨rfl, B.out⟩
theorem red_pos_n_o (A B G C D : ByteArray) (c : Int) (w : World) (CM : ∀ W, Calls Tryz.prog 121 #[.string B, .string ⟨#[48]⟩] W (GivesI c W)) (hc : ¬ c < 0) (DV : ∀ W, Calls Tryz.prog 144 #[.string A, .string B] W (GivesY G W)) (R S : ByteArray) (hg : (G.toList == [49]) = false) (Q1 : ∀ W, Calls Tryz.prog 153 #[.string A, .string G] W (GivesQQ C R W)) (Q2 : ∀ W, Calls Tryz.prog 153 #[.string B, .string G] W (GivesQQ D S W)) (h1 : (D.toList == [49]) = true) : Calls Tryz.prog 113 #[.string A, .string B] w (GivesY C w) := by
  replace CM := Lib.hid CM
  replace DV := Lib.hid DV
  replace Q1 := Lib.hid Q1
  replace Q2 := Lib.hid Q2
  go_enter Tryz.func113, Tryz.ntmps113
  go_wp2_with fail
  refine (CM.out _).mono ?_
  rintro e w1 ⟨rfl, hb1⟩
  have B := Lib.hid hb1
  clear hb1
  go_wp2_with fail
  refine (DV.out _).mono ?_
  rintro e w4 ⟨rfl, hb4⟩
  replace B := Lib.hid (B.out.trans (hb4.mono B.out.size))
  clear hb4
  go_wp2_with fail
  refine (Q1.out _).mono ?_
  rintro e w5 ⟨rfl, hb5⟩
  replace B := Lib.hid (B.out.trans (hb5.mono B.out.size))
  clear hb5
  go_wp2_with fail
  refine (Q2.out _).mono ?_
  rintro e w6 ⟨rfl, hb6⟩
  replace B := Lib.hid (B.out.trans (hb6.mono B.out.size))
  clear hb6
  go_wp2
  go_ret
  exact ⟨rfl, B.out⟩
theorem red_pos_n_f (A B G C D : ByteArray) (c : Int) (w : World) (CM : ∀ W, Calls Tryz.prog 121 #[.string B, .string ⟨#[48]⟩] W (GivesI c W)) (hc : ¬ c < 0) (DV : ∀ W, Calls Tryz.prog 144 #[.string A, .string B] W (GivesY G W)) (R S : ByteArray) (hg : (G.toList == [49]) = false) (Q1 : ∀ W, Calls Tryz.prog 153 #[.string A, .string G] W (GivesQQ C R W)) (Q2 : ∀ W, Calls Tryz.prog 153 #[.string B, .string G] W (GivesQQ D S W)) (h1 : (D.toList == [49]) = false) (z1 : C.size ≤ 100000) (z2 : D.size ≤ 100000) : Calls Tryz.prog 113 #[.string A, .string B] w (GivesY (C ++ ⟨#[47]⟩ ++ D) w) := by
  replace CM := Lib.hid CM
  replace DV := Lib.hid DV
  replace Q1 := Lib.hid Q1
  replace Q2 := Lib.hid Q2
  have y1 : ¬ 9223372036854775807 < C.size + 1 := by omega
  have y2 : ¬ 9223372036854775807 < C.size + 1 + D.size := by omega
  go_enter Tryz.func113, Tryz.ntmps113
  go_wp2_with fail
  refine (CM.out _).mono ?_
  rintro e w1 ⟨rfl, hb1⟩
  have B := Lib.hid hb1
  clear hb1
  go_wp2_with fail
  refine (DV.out _).mono ?_
  rintro e w4 ⟨rfl, hb4⟩
  replace B := Lib.hid (B.out.trans (hb4.mono B.out.size))
  clear hb4
  go_wp2_with fail
  refine (Q1.out _).mono ?_
  rintro e w5 ⟨rfl, hb5⟩
  replace B := Lib.hid (B.out.trans (hb5.mono B.out.size))
  clear hb5
  go_wp2_with fail
  refine (Q2.out _).mono ?_
  rintro e w6 ⟨rfl, hb6⟩
  replace B := Lib.hid (B.out.trans (hb6.mono B.out.size))
  clear hb6
  go_wp2
  go_ret
  exact ⟨rfl, B.out⟩
theorem tx1_dec (z : Int) : ((tx z).toList == [49]) = decide (z = 1) := tx_lit z 1 _ (by simp [Lib.itoa, Lib.decDigits])
theorem tx_size_le {z : Int} (h : dn z ≤ 40000) : (tx z).size ≤ 100000 := Nat.le_trans (tx_sz h) (by omega)
theorem reduced_pos (n d : Int) (w : World) (hn : dn n ≤ 40000) (hd : dn d ≤ 40000) (h0 : 0 < d) : Calls Tryz.prog 113 #[.string (tx n), .string (tx d)] w (GivesY (qx (Rat.divInt n d)) w) := by
  have q := quo_pos n d h0
  have hg0 : (Int.gcd n d : Int) ≠ 0 := by
    have := Int.gcd_pos_of_ne_zero_right n (show d ≠ 0 by omega)
    omega
  have CM : ∀ W, Calls Tryz.prog 121 #[.string (tx d), .string ⟨#[48]⟩] W (GivesI (cmp3 d 0) W) := fun W => by
    have h := rcompare_any d 0 W (by omega) (by rw [dn_zero]; omega)
    rwa [show tx 0 = ⟨#[48]⟩ by unfold tx; simp [Lib.itoa, Lib.decDigits]] at h
  have hc : ¬ cmp3 d 0 < 0 := by rw [cmp3_gt h0]; decide
  have DV := fun W => rdivisor_any n d W hn hd
  have dd1 : dn (n.fdiv (Int.gcd n d)) ≤ 40000 := fdiv_dk hg0 hn
  have dd2 : dn (d.fdiv (Int.gcd n d)) ≤ 40000 := fdiv_dk hg0 hd
  have hdg : dn (Int.gcd n d : Int) ≤ 40000 := Nat.le_trans (dn_abs_le (x := (Int.gcd n d : Int)) (y := d) (by have := Int.gcd_le_right n h0; omega)) hd
  unfold qx
  rw [← q.1, ← q.2]
  by_cases hg : (Int.gcd n d : Int) = 1
  · rw [hg, Int.fdiv_one, Int.fdiv_one] at q ⊢
    have e1 : ((tx (Int.gcd n d : Int)).toList == [49]) = true := by rw [tx1_dec, hg]; rfl
    by_cases h1 : d = 1
    · rw [if_pos (by omega)]
      exact red_pos_g_o _ _ _ _ w CM hc DV e1 (by rw [tx1_dec]; exact decide_eq_true h1)
    · rw [if_neg (by omega)]
      exact red_pos_g_f _ _ _ _ w CM hc DV e1 (by rw [tx1_dec]; exact decide_eq_false h1) (tx_size_le hn) (tx_size_le hd)
  · have e1 : ((tx (Int.gcd n d : Int)).toList == [49]) = false := by rw [tx1_dec]; exact decide_eq_false hg
    have Q1 := fun W => rquo_any n (Int.gcd n d) W hn hdg hg0
    have Q2 := fun W => rquo_any d (Int.gcd n d) W hd hdg hg0
    by_cases h1 : d.fdiv (Int.gcd n d) = 1
    · rw [if_pos (by omega)]
      exact red_pos_n_o _ _ _ _ _ _ w CM hc DV _ _ e1 Q1 Q2 (by rw [tx1_dec]; exact decide_eq_true h1)
    · rw [if_neg (by omega)]
      exact red_pos_n_f _ _ _ _ _ _ w CM hc DV _ _ e1 Q1 Q2 (by rw [tx1_dec]; exact decide_eq_false h1) (tx_size_le dd1) (tx_size_le dd2)
theorem reduced_any (n d : Int) (w : World) (hn : dn n ≤ 40000) (hd : dn d ≤ 40000) (h0 : d ≠ 0) : Calls Tryz.prog 113 #[.string (tx n), .string (tx d)] w (GivesY (qx (Rat.divInt n d)) w) := by
  rcases Int.lt_or_gt_of_ne h0 with h | h
  · have hm : 0 < -d := by omega
    have eq : Rat.divInt n d = Rat.divInt (-n) (-d) := by rw [Rat.divInt_eq_divInt_iff h0 (by omega)]; grind
    have q := quo_pos (-n) (-d) hm
    rw [eq]
    rw [← dn_neg] at hn hd
    have hg0 : (Int.gcd (-n) (-d) : Int) ≠ 0 := by
      have := Int.gcd_pos_of_ne_zero_right (-n) (show -d ≠ 0 by omega)
      omega
    have CM : ∀ W, Calls Tryz.prog 121 #[.string (tx d), .string ⟨#[48]⟩] W (GivesI (cmp3 d 0) W) := fun W => by
      have h := rcompare_any d 0 W (by rw [← dn_neg]; omega) (by rw [dn_zero]; omega)
      rwa [show tx 0 = ⟨#[48]⟩ by unfold tx; simp [Lib.itoa, Lib.decDigits]] at h
    have hc : cmp3 d 0 < 0 := by rw [cmp3_lt h]; decide
    have OX := fun W => ropp_any n W (by rw [← dn_neg]; omega)
    have OY := fun W => ropp_any d W (by rw [← dn_neg]; omega)
    have DV := fun W => rdivisor_any (-n) (-d) W hn hd
    have dd1 : dn ((-n).fdiv (Int.gcd (-n) (-d))) ≤ 40000 := fdiv_dk hg0 hn
    have dd2 : dn ((-d).fdiv (Int.gcd (-n) (-d))) ≤ 40000 := fdiv_dk hg0 hd
    have hdg : dn (Int.gcd (-n) (-d) : Int) ≤ 40000 := Nat.le_trans (dn_abs_le (x := (Int.gcd (-n) (-d) : Int)) (y := -d) (by have := Int.gcd_le_right (-n) hm; omega)) hd
    unfold qx
    rw [← q.1, ← q.2]
    by_cases hg : (Int.gcd (-n) (-d) : Int) = 1
    · rw [hg, Int.fdiv_one, Int.fdiv_one] at q ⊢
      have e1 : ((tx (Int.gcd (-n) (-d) : Int)).toList == [49]) = true := by rw [tx1_dec, hg]; rfl
      by_cases h1 : -d = 1
      · rw [if_pos (by omega)]
        exact red_neg_g_o _ _ _ _ _ _ w CM hc OX OY DV e1 (by rw [tx1_dec]; exact decide_eq_true h1)
      · rw [if_neg (by omega)]
        exact red_neg_g_f _ _ _ _ _ _ w CM hc OX OY DV e1 (by rw [tx1_dec]; exact decide_eq_false h1) (tx_size_le hn) (tx_size_le hd)
    · have e1 : ((tx (Int.gcd (-n) (-d) : Int)).toList == [49]) = false := by rw [tx1_dec]; exact decide_eq_false hg
      have Q1 := fun W => rquo_any (-n) (Int.gcd (-n) (-d)) W hn hdg hg0
      have Q2 := fun W => rquo_any (-d) (Int.gcd (-n) (-d)) W hd hdg hg0
      by_cases h1 : (-d).fdiv (Int.gcd (-n) (-d)) = 1
      · rw [if_pos (by omega)]
        exact red_neg_n_o _ _ _ _ _ _ _ _ w CM hc OX OY DV _ _ e1 Q1 Q2 (by rw [tx1_dec]; exact decide_eq_true h1)
      · rw [if_neg (by omega)]
        exact red_neg_n_f _ _ _ _ _ _ _ _ w CM hc OX OY DV _ _ e1 Q1 Q2 (by rw [tx1_dec]; exact decide_eq_false h1) (tx_size_le dd1) (tx_size_le dd2)
  · exact reduced_pos n d w hn hd h
theorem fit3_any (s t : ByteArray) (most : Nat) (w : World) (hs : s.size ≤ 9223372036854775807) (ht : t.size ≤ 9223372036854775807) (h1 : 1 ≤ most) (h2 : most ≤ 1000) : Calls Tryz.prog 65 #[.string s, .string t, .int .i64 most] w (fun e w' => ∃ q : Rat, Sm most q ∧ GivesY (qx q) w e w') := by
  have F1 := Lib.hid (fun W => fit_any t most W ht h1 h2)
  have F2 := Lib.hid (fun W => fit_any s most W hs h1 h2)
  have M1 := Lib.hid h1
  have M2 := Lib.hid h2
  clear hs ht h1 h2
  go_enter Tryz.func65, Tryz.ntmps65
  go_wp2_with fail
  refine (F1.out _).mono ?_
  rintro e w1 ⟨z, hz, rfl, hb1⟩
  have BB := Lib.hid hb1
  clear hb1
  have P1 := Lib.hid (fun W => rpos_any z W (by have := M2.out; omega))
  obtain ⟨A, hA⟩ : ∃ s : ByteArray, s = tx z := ⟨_, rfl⟩
  rw [← hA] at P1
  rw [← hA]
  clear hA
  go_wp2_with fail
  refine (P1.out _).mono ?_
  rintro e w2 ⟨rfl, hb2⟩
  replace BB := Lib.hid (BB.out.trans (hb2.mono BB.out.size))
  clear hb2
  obtain ⟨B, hB⟩ : ∃ s : ByteArray, s = tx (z.natAbs : Int) := ⟨_, rfl⟩
  rw [← hB]
  by_cases hz0 : z = 0
  · have e0 : (B.toList == [48]) = true := by rw [hB, tx_lit _ 0 _ (by simp [Lib.itoa, Lib.decDigits])]; exact decide_eq_true (by omega)
    have HB := Lib.hid hB
    clear hB
    go_wp2_with fail
    refine (F2.out _).mono ?_
    rintro e w3 ⟨y, hy, rfl, hb3⟩
    replace BB := Lib.hid (BB.out.trans (hb3.mono BB.out.size))
    clear hb3
    have RD := Lib.hid (fun W => reduced_any y 1 W (by have := M2.out; omega) (by rw [dn_one]; omega) (by omega))
    obtain ⟨C, hC⟩ : ∃ s : ByteArray, s = tx y := ⟨_, rfl⟩
    rw [← hC] at RD
    rw [← hC]
    clear hC
    rw [tx_1] at RD
    go_wp2_with fail
    refine (RD.out _).mono ?_
    rintro e w4 ⟨rfl, hb4⟩
    replace BB := Lib.hid (BB.out.trans (hb4.mono BB.out.size))
    clear hb4
    obtain ⟨Q, hQ⟩ : ∃ s : ByteArray, s = qx (Rat.divInt y 1) := ⟨_, rfl⟩
    rw [← hQ]
    have HQ := Lib.hid hQ
    clear hQ
    go_wp2
    go_ret
    exact ⟨Rat.divInt y 1, Sm.divInt hy (by have := M1.out; rw [dn_one]; exact this) (by omega), by rw [HQ.out]; rfl, BB.out⟩
  · have e0 : (B.toList == [48]) = false := by rw [hB, tx_lit _ 0 _ (by simp [Lib.itoa, Lib.decDigits])]; exact decide_eq_false (by omega)
    have HB := Lib.hid hB
    clear hB
    go_wp2_with fail
    refine (F2.out _).mono ?_
    rintro e w3 ⟨y, hy, rfl, hb3⟩
    replace BB := Lib.hid (BB.out.trans (hb3.mono BB.out.size))
    clear hb3
    have RD := Lib.hid (fun W => reduced_any y (z.natAbs : Int) W (by have := M2.out; omega) (by rw [dn_abs]; have := M2.out; omega) (by omega))
    obtain ⟨C, hC⟩ : ∃ s : ByteArray, s = tx y := ⟨_, rfl⟩
    rw [← hC] at RD
    rw [← hC]
    clear hC
    rw [← HB.out] at RD
    go_wp2_with fail
    refine (RD.out _).mono ?_
    rintro e w4 ⟨rfl, hb4⟩
    replace BB := Lib.hid (BB.out.trans (hb4.mono BB.out.size))
    clear hb4
    obtain ⟨Q, hQ⟩ : ∃ s : ByteArray, s = qx (Rat.divInt y (z.natAbs : Int)) := ⟨_, rfl⟩
    rw [← hQ]
    have HQ := Lib.hid hQ
    clear hQ
    go_wp2
    go_ret
    exact ⟨Rat.divInt y (z.natAbs : Int), Sm.divInt hy (by rw [dn_abs]; exact hz) (by omega), by rw [HQ.out]; rfl, BB.out⟩
end Go.Proofs.YtkhebidmfjbhaaaGreatDoor
namespace Go.Proofs.YtkhebidmfjbhaaaGreatDoor
open Go.RowKit

theorem q0_lit : qx 0 = ⟨#[48]⟩ := by
  have h := qx_int 0
  rw [show ((0 : Int) : Rat) = 0 by simp] at h
  rw [h, lt2 0 _ io0]
/-- The call goes on from the world b. -/
theorem armL {P : Program} {f : Nat} {args : Array Value} {W b : World} {Q Q' : Ending → World → Prop} (g : Below b.heap.size b W) (hc : Calls P f args W Q) (hk : ∀ e W', Q e W' ∧ Below b.heap.size b W → Q' e W') : Calls P f args W Q' :=
  hc.mono (fun e W' q => hk e W' ⟨q, g⟩)
/-- Two texts in a box. -/
structure Bx2 (W : World) (k : Nat) (s t : ByteArray) : Prop where
  c0 : W.cell? ⟨k, 0, none⟩ = some (.string s)
  c1 : W.cell? ⟨k, 1, none⟩ = some (.string t)
theorem Bx2.new (w : World) (s t : ByteArray) (T : TypeId) (k : Nat) (hk : k = w.heap.size) : Bx2 (w.alloc (.cells #[.string s, .string t] T)) k s t := ⟨by rw [World.cell?_alloc_at _ _ _ _ hk]; rfl, by rw [World.cell?_alloc_at _ _ _ _ hk]; rfl⟩
theorem Bx2.below {W W' : World} {k : Nat} {s t : ByteArray} (h : Bx2 W k s t) (hb : Below W.heap.size W W') : Bx2 W' k s t :=
  have hk := World.block_lt_of_cell? W ⟨k, 0, none⟩ h.c0
  ⟨(below_at hb 0 hk).trans h.c0, (below_at hb 1 hk).trans h.c1⟩
end Go.Proofs.YtkhebidmfjbhaaaGreatDoor
namespace Go.Proofs.YtkhebidmfjbhaaaGreatDoor
open Go.RowKit

theorem lt_crossed {a b : Rat} : a < b ↔ a.num * (b.den : Int) < b.num * (a.den : Int) := Rat.lt_iff a b
theorem ecmp_lt {a b : Rat} (h : a < b) : ecmp (some a) (some b) = -1 := by
  have h1 := lt_crossed.1 h
  show cmp3 (a.num * (b.den : Int)) (b.num * (a.den : Int)) = -1
  unfold cmp3
  rw [if_pos h1]
theorem ecmp_gt {a b : Rat} (h : b < a) : ecmp (some a) (some b) = 1 := by
  have h1 := lt_crossed.1 h
  show cmp3 (a.num * (b.den : Int)) (b.num * (a.den : Int)) = 1
  unfold cmp3
  rw [if_neg (by omega), if_pos h1]
theorem ecmp_self (a : Option Rat) : ecmp a a = 0 := by
  unfold ecmp cmp3
  rw [if_neg (by omega), if_neg (by omega)]
theorem inf_ecmp (a : Rat) : ecmp none (some a) = 1 := by
  have h := a.den_pos
  show cmp3 (1 * (a.den : Int)) (a.num * 0) = 1
  unfold cmp3
  rw [if_neg (by omega), if_pos (by omega)]
theorem elt_q {a b : Rat} : elt (some a) (some b) = decide (a < b) := by
  show decide (a.num * (b.den : Int) < b.num * (a.den : Int)) = _
  exact decide_eq_decide.mpr lt_crossed.symm
theorem inf_elt (x : Option Rat) : elt none x = false := by
  cases x with
  | none => exact decide_eq_false (show ¬ (1 : Int) * 0 < 1 * 0 by omega)
  | some a =>
    have h := a.den_pos
    exact decide_eq_false (show ¬ (1 : Int) * (a.den : Int) < a.num * 0 by omega)
theorem sme_q {a : Rat} (h : Sm 1000 a) : SmE 1000 (some a) := h
theorem sme_inf : SmE 1000 none := trivial

theorem Cmp_lt {a b : Rat} (w : World) (ha : Sm 1000 a) (hb : Sm 1000 b) (h : a < b) : Calls Tryz.prog 25 #[.string (qx a), .string (qx b)] w (GivesI (-1) w) := by
  have := Cmp_e (a := some a) (b := some b) w (sme_q ha) (sme_q hb)
  rw [ecmp_lt h] at this
  exact this
theorem Cmp_gt {a b : Rat} (w : World) (ha : Sm 1000 a) (hb : Sm 1000 b) (h : b < a) : Calls Tryz.prog 25 #[.string (qx a), .string (qx b)] w (GivesI 1 w) := by
  have := Cmp_e (a := some a) (b := some b) w (sme_q ha) (sme_q hb)
  rw [ecmp_gt h] at this
  exact this
theorem Cmp_same {a b : Rat} (w : World) (ha : Sm 1000 a) (h : a = b) : Calls Tryz.prog 25 #[.string (qx a), .string (qx b)] w (GivesI 0 w) := by
  subst h
  have := Cmp_e (a := some a) (b := some a) w (sme_q ha) (sme_q ha)
  rw [ecmp_self] at this
  exact this
/-- How two numbers lie, as a sign. -/
def oc (a b : Rat) : Int := if a < b then -1 else if b < a then 1 else 0
theorem oc_lt {a b : Rat} (h : a < b) : oc a b = -1 := if_pos h
theorem oc_gt {a b : Rat} (h : b < a) : oc a b = 1 := by unfold oc; rw [if_neg (by grind), if_pos h]
theorem oc_self (a : Rat) : oc a a = 0 := by unfold oc; rw [if_neg (by grind), if_neg (by grind)]
theorem oc_eq {a b : Rat} (h : a = b) : oc a b = 0 := by subst h; exact oc_self a
theorem q_lies (a b : Rat) : a < b ∨ a = b ∨ b < a := by grind
theorem Cmp_oc {a b : Rat} (w : World) (ha : Sm 1000 a) (hb : Sm 1000 b) {n : Int} (hn : oc a b = n) : Calls Tryz.prog 25 #[.string (qx a), .string (qx b)] w (GivesI n w) := by
  subst hn
  rcases q_lies a b with h | h | h
  · rw [oc_lt h]; exact Cmp_lt w ha hb h
  · rw [oc_eq h]; exact Cmp_same w ha h
  · rw [oc_gt h]; exact Cmp_gt w ha hb h
theorem num_sign {a : Rat} : (a < 0 ↔ a.num < 0) ∧ (0 < a ↔ 0 < a.num) := by
  have h := a.den_pos
  constructor
  · rw [lt_crossed]
    simp
  · rw [lt_crossed]
    simp
end Go.Proofs.YtkhebidmfjbhaaaGreatDoor
namespace Go.Proofs.YtkhebidmfjbhaaaGreatDoor
open Go.RowKit

theorem le_crossed {a b : Rat} : a ≤ b ↔ a.num * (b.den : Int) ≤ b.num * (a.den : Int) := by
  have h := lt_crossed (a := b) (b := a)
  constructor
  · intro h1
    have h2 : ¬ b < a := by grind
    rw [h] at h2
    omega
  · intro h1
    have h2 : ¬ b < a := by rw [h]; omega
    grind
theorem sq_si {a : Rat} {b : Option Rat} (h0 : 0 < a) (h : elt b (some a) = false) : Si a.num a.den (eN b) (eD b) (sq a b).num (sq a b).den :=
  sterms_rat _ _ _ _ _ (iv_of (num_sign.2.1 h0) h) (by omega)
theorem sq_some {l h : Rat} (h0 : 0 < l) (hlh : l ≤ h) : l ≤ sq l (some h) ∧ sq l (some h) ≤ h ∧ 0 < sq l (some h) ∧ ∀ q, l ≤ q → q ≤ h → (sq l (some h)).den ≤ q.den ∧ (sq l (some h)).num ≤ q.num := by
  have si := sq_si (a := l) (b := some h) h0 (by rw [elt_q]; exact decide_eq_false (by grind))
  refine ⟨le_crossed.2 si.lo, le_crossed.2 si.hi, num_sign.2.2 si.N0, fun q h1 h2 => ?_⟩
  have hq := q.den_pos
  have := si.least q.num q.den (by omega) (le_crossed.1 h1) (le_crossed.1 h2)
  exact ⟨by omega, this.2⟩
theorem sq_none {l : Rat} (h0 : 0 < l) : l ≤ sq l none ∧ 0 < sq l none ∧ (sq l none).den = 1 ∧ (sq l none).num ≤ l.num := by
  have si := sq_si (a := l) (b := none) h0 (inf_elt _)
  have hl := l.den_pos
  have hn := num_sign.2.1 h0
  have hm : l.num * 1 ≤ l.num * (l.den : Int) := Int.mul_le_mul_of_nonneg_left (by omega) (by omega)
  have := si.least l.num 1 (by omega) hm (show l.num * 0 ≤ 1 * 1 by omega)
  have hp := (sq l none).den_pos
  exact ⟨le_crossed.2 si.lo, num_sign.2.2 si.N0, by omega, this.2⟩
/-- The simplest number from l to h. -/
def spl (l h : Rat) : Rat := if 0 < l then sq l (some h) else if h < 0 then -(sq (-h) (some (-l))) else 0
theorem spl_neg {l h : Rat} (hlh : l ≤ h) : spl (-h) (-l) = -(spl l h) := by
  unfold spl
  by_cases h1 : 0 < l
  · rw [if_pos h1, if_neg (by grind), if_pos (by grind), Rat.neg_neg, Rat.neg_neg]
  · rw [if_neg h1]
    by_cases h2 : h < 0
    · rw [if_pos h2, if_pos (by grind), Rat.neg_neg]
    · rw [if_neg h2, if_neg (by grind), if_neg (by grind)]
      grind
/-- q is no simpler than s. -/
structure NoSim (q s : Rat) : Prop where
  den : s.den ≤ q.den
  num : s.num.natAbs ≤ q.num.natAbs
  sgn : q.num.natAbs = s.num.natAbs → sg q.num ≤ sg s.num
theorem spl_in {l h : Rat} (hlh : l ≤ h) : l ≤ spl l h ∧ spl l h ≤ h ∧ ∀ q, l ≤ q → q ≤ h → NoSim q (spl l h) := by
  unfold spl
  by_cases h1 : 0 < l
  · rw [if_pos h1]
    obtain ⟨a1, a2, a3, a4⟩ := sq_some h1 hlh
    refine ⟨a1, a2, fun q q1 q2 => ?_⟩
    obtain ⟨b1, b2⟩ := a4 q q1 q2
    have p := num_sign.2.1 a3
    exact ⟨b1, by omega, fun _ => by rw [sg_1 p, sg_1 (by omega)]; omega⟩
  · rw [if_neg h1]
    by_cases h2 : h < 0
    · rw [if_pos h2]
      obtain ⟨a1, a2, a3, a4⟩ := sq_some (l := -h) (h := -l) (by grind) (by grind)
      refine ⟨by grind, by grind, fun q q1 q2 => ?_⟩
      obtain ⟨b1, b2⟩ := a4 (-q) (by grind) (by grind)
      have p := num_sign.2.1 a3
      rw [Rat.neg_den] at b1
      rw [Rat.neg_num] at b2
      exact ⟨by rw [Rat.neg_den]; exact b1, by rw [Rat.neg_num]; omega, fun _ => by rw [Rat.neg_num, sg_m1 (by omega), sg_m1 (by omega)]; omega⟩
    · rw [if_neg h2]
      refine ⟨by grind, by grind, fun q q1 q2 => ⟨?_, ?_, ?_⟩⟩
      · have := q.den_pos
        exact this
      · exact Nat.zero_le _
      · intro e
        have e0 : q.num = 0 := by
          have : (0 : Rat).num = 0 := rfl
          rw [this] at e
          omega
        rw [e0]
        exact Int.le_refl _
theorem NoSim.sm {q s : Rat} {k : Nat} (h : NoSim q s) (hq : Sm k q) : Sm k s := by
  have h1 := dn_mono (x := (s.num.natAbs : Int)) (y := (q.num.natAbs : Int)) (by omega) (by have := h.num; omega)
  rw [dn_abs, dn_abs] at h1
  have h2 := dn_mono (x := (s.den : Int)) (y := (q.den : Int)) (by omega) (by have := h.den; omega)
  exact ⟨Nat.le_trans h1 hq.1, Nat.le_trans h2 hq.2⟩
theorem spl_sm {l h : Rat} {k : Nat} (hlh : l ≤ h) (hl : Sm k l) : Sm k (spl l h) := ((spl_in hlh).2.2 l (by grind) hlh).sm hl
theorem Simplest_spl {l h : Rat} (w : World) (tb : Tb w) (hlh : l ≤ h) (hl : Sm 1000 l) (hh : Sm 1000 h) : Calls Tryz.prog 64 #[.string (qx l), .string (qx h)] w (GivesSn (qx (spl l h)) 0 w) := by
  have hs := spl_sm hlh hl
  have he : elt (some h) (some l) = false := by rw [elt_q]; exact decide_eq_false (by grind)
  have ls := less_e (a := some h) (b := some l) hh hl
  rw [he] at ls
  unfold spl at hs ⊢
  by_cases h1 : 0 < l
  · rw [if_pos h1] at hs ⊢
    exact (Simplest_q (a := l) (b := some h) w tb hl hh (num_sign.2.1 h1) he).mono fun _ _ g => GivesQx.ok g hs
  · rw [if_neg h1] at hs ⊢
    by_cases h2 : h < 0
    · rw [if_pos h2] at hs ⊢
      have hn := num_sign.1.1 h2
      have hl0 : l < 0 := by grind
      have iv := iv_of (a := -h) (b := some (-l)) (by rw [Rat.neg_num]; omega) (by rw [elt_q]; exact decide_eq_false (by grind))
      have r := simplest_run iv (hh.neg).1 (hh.neg).2 (hl.neg).1 (hl.neg).2
      exact (Simplest_neg _ _ _ _ _ _ w (sq (-h) (some (-l))) (-(sq (-h) (some (-l)))) _ _ tb (PR.q hl) (PE.e (x := some h) hh) ls (sg_m1 (num_sign.1.1 hl0)) (sg_m1 hn) (OpR1.neg h) (OpR1.neg l) r (OpR1.neg _)).mono fun _ _ g => GivesQx.ok g hs
    · rw [if_neg h2, q0_lit]
      exact Simplest_zero _ _ _ _ _ _ w (PR.q hl) (PE.e (x := some h) hh) ls _ _ rfl rfl (by
        have : ¬ 0 < l.num := fun c => h1 (num_sign.2.2 c)
        unfold sg
        split
        · omega
        · split <;> omega) (by
        have : ¬ h.num < 0 := fun c => h2 (num_sign.1.2 c)
        show 0 ≤ sg h.num
        unfold sg
        rw [if_neg this]
        split <;> omega)
/-- The simplest number from l on. -/
def spi (l : Rat) : Rat := if 0 < l then sq l none else 0
theorem spi_in (l : Rat) : l ≤ spi l ∧ (spi l).den = 1 ∧ (spi l).num.natAbs ≤ l.num.natAbs := by
  unfold spi
  by_cases h1 : 0 < l
  · rw [if_pos h1]
    obtain ⟨a1, a2, a3, a4⟩ := sq_none h1
    have p := num_sign.2.1 a2
    exact ⟨a1, a3, by omega⟩
  · rw [if_neg h1]
    exact ⟨by grind, rfl, Nat.zero_le _⟩
theorem spi_sm {l : Rat} {k : Nat} (hk : 1 ≤ k) (hl : Sm k l) : Sm k (spi l) := by
  obtain ⟨_, h2, h3⟩ := spi_in l
  have h1 := dn_mono (x := ((spi l).num.natAbs : Int)) (y := (l.num.natAbs : Int)) (by omega) (by omega)
  rw [dn_abs, dn_abs] at h1
  exact ⟨Nat.le_trans h1 hl.1, by rw [h2]; show dn 1 ≤ k; rw [dn_one]; omega⟩
theorem Simplest_spi {l : Rat} (w : World) (tb : Tb w) (hl : Sm 1000 l) : Calls Tryz.prog 64 #[.string (qx l), .string ⟨#[105, 110, 102]⟩] w (GivesSn (qx (spi l)) 0 w) := by
  have hs := spi_sm (by omega) hl
  have he : elt none (some l) = false := inf_elt _
  have ls := less_e (a := none) (b := some l) sme_inf hl
  rw [he] at ls
  unfold spi at hs ⊢
  by_cases h1 : 0 < l
  · rw [if_pos h1] at hs ⊢
    exact (Simplest_q (a := l) (b := none) w tb hl sme_inf (num_sign.2.1 h1) he).mono fun _ _ g => GivesQx.ok g hs
  · rw [if_neg h1, q0_lit]
    exact Simplest_zero _ _ _ _ _ _ w (PR.q hl) (PE.e (x := none) sme_inf) ls _ _ rfl rfl (by
      have : ¬ 0 < l.num := fun c => h1 (num_sign.2.2 c)
      unfold sg
      split
      · omega
      · split <;> omega) (by show 0 ≤ sg 1; decide)
end Go.Proofs.YtkhebidmfjbhaaaGreatDoor
namespace Go.Proofs.YtkhebidmfjbhaaaGreatDoor
open Go.RowKit

theorem simpler_of (s t DA DB NA NB MA MB : ByteArray) (d n p q : Int) (w : World) (D1 : ∀ W, Calls Tryz.prog 21 #[.string s] W (GivesY DA W)) (D2 : ∀ W, Calls Tryz.prog 21 #[.string t] W (GivesY DB W)) (D3 : ∀ W, Calls Tryz.prog 129 #[.string DA, .string DB] W (GivesJ d W))
    (N1 : ∀ W, Calls Tryz.prog 19 #[.string s] W (GivesY NA W)) (N2 : ∀ W, Calls Tryz.prog 76 #[.string NA] W fun e w' => e = .returned (.string MA) ∧ W = w') (N3 : ∀ W, Calls Tryz.prog 19 #[.string t] W (GivesY NB W)) (N4 : ∀ W, Calls Tryz.prog 76 #[.string NB] W fun e w' => e = .returned (.string MB) ∧ W = w') (N5 : ∀ W, Calls Tryz.prog 129 #[.string MA, .string MB] W (GivesJ n W))
    (S1 : ∀ W, Calls Tryz.prog 23 #[.string s] W (GivesI p W)) (S2 : ∀ W, Calls Tryz.prog 23 #[.string t] W (GivesI q W)) (h : d = 1 ∨ (d = 0 ∧ n = 1) ∨ (d = 0 ∧ n = 0 ∧ p ≤ q)) :
    Calls Tryz.prog 71 #[.string s, .string t] w fun e w' => e = .returned (.bool false) ∧ Below w.heap.size w w' := by
  replace D1 := Lib.hid D1
  replace D2 := Lib.hid D2
  replace D3 := Lib.hid D3
  replace N1 := Lib.hid N1
  replace N2 := Lib.hid N2
  replace N3 := Lib.hid N3
  replace N4 := Lib.hid N4
  replace N5 := Lib.hid N5
  replace S1 := Lib.hid S1
  replace S2 := Lib.hid S2
  have B0 := Lib.hid (Below.refl w.heap.size w)
  rcases h with rfl | ⟨rfl, rfl⟩ | ⟨rfl, rfl, hpq⟩
  · go_enter Tryz.func71, Tryz.ntmps71
    go_wp2_with fail
    (with_reducible refine Calls.mono (D1.out _) ?_)
    rintro e w1 ⟨rfl, hb⟩
    have B1 := Lib.hid (B0.out.trans (hb.mono B0.out.size))
    clear hb
    go_wp2_with fail
    (with_reducible refine Calls.mono (D2.out _) ?_)
    rintro e w2 ⟨rfl, hb⟩
    have B2 := Lib.hid (B1.out.trans (hb.mono B1.out.size))
    clear hb
    go_wp2_with fail
    (with_reducible refine Calls.mono (D3.out _) ?_)
    rintro e w3 ⟨rfl, hb⟩
    have B3 := Lib.hid (B2.out.trans (hb.mono B2.out.size))
    clear hb
    go_wp2_with fail
    (with_reducible refine Calls.mono (N1.out _) ?_)
    rintro e w4 ⟨rfl, hb⟩
    have B4 := Lib.hid (B3.out.trans (hb.mono B3.out.size))
    clear hb
    go_wp2_with fail
    (with_reducible refine Calls.mono (N2.out _) ?_)
    rintro e w' ⟨rfl, rfl⟩
    go_wp2_with fail
    (with_reducible refine Calls.mono (N3.out _) ?_)
    rintro e w5 ⟨rfl, hb⟩
    have B5 := Lib.hid (B4.out.trans (hb.mono B4.out.size))
    clear hb
    go_wp2_with fail
    (with_reducible refine Calls.mono (N4.out _) ?_)
    rintro e w' ⟨rfl, rfl⟩
    go_wp2_with fail
    (with_reducible refine Calls.mono (N5.out _) ?_)
    rintro e w6 ⟨rfl, hb⟩
    have B6 := Lib.hid (B5.out.trans (hb.mono B5.out.size))
    clear hb
    go_wp2
    go_ret
    exact ⟨rfl, B6.out⟩
  · go_enter Tryz.func71, Tryz.ntmps71
    go_wp2_with fail
    (with_reducible refine Calls.mono (D1.out _) ?_)
    rintro e w1 ⟨rfl, hb⟩
    have B1 := Lib.hid (B0.out.trans (hb.mono B0.out.size))
    clear hb
    go_wp2_with fail
    (with_reducible refine Calls.mono (D2.out _) ?_)
    rintro e w2 ⟨rfl, hb⟩
    have B2 := Lib.hid (B1.out.trans (hb.mono B1.out.size))
    clear hb
    go_wp2_with fail
    (with_reducible refine Calls.mono (D3.out _) ?_)
    rintro e w3 ⟨rfl, hb⟩
    have B3 := Lib.hid (B2.out.trans (hb.mono B2.out.size))
    clear hb
    go_wp2_with fail
    (with_reducible refine Calls.mono (N1.out _) ?_)
    rintro e w4 ⟨rfl, hb⟩
    have B4 := Lib.hid (B3.out.trans (hb.mono B3.out.size))
    clear hb
    go_wp2_with fail
    (with_reducible refine Calls.mono (N2.out _) ?_)
    rintro e w' ⟨rfl, rfl⟩
    go_wp2_with fail
    (with_reducible refine Calls.mono (N3.out _) ?_)
    rintro e w5 ⟨rfl, hb⟩
    have B5 := Lib.hid (B4.out.trans (hb.mono B4.out.size))
    clear hb
    go_wp2_with fail
    (with_reducible refine Calls.mono (N4.out _) ?_)
    rintro e w' ⟨rfl, rfl⟩
    go_wp2_with fail
    (with_reducible refine Calls.mono (N5.out _) ?_)
    rintro e w6 ⟨rfl, hb⟩
    have B6 := Lib.hid (B5.out.trans (hb.mono B5.out.size))
    clear hb
    go_wp2
    go_ret
    exact ⟨rfl, B6.out⟩
  · have epq : ¬ q < p := by omega
    clear hpq
    go_enter Tryz.func71, Tryz.ntmps71
    go_wp2_with fail
    (with_reducible refine Calls.mono (D1.out _) ?_)
    rintro e w1 ⟨rfl, hb⟩
    have B1 := Lib.hid (B0.out.trans (hb.mono B0.out.size))
    clear hb
    go_wp2_with fail
    (with_reducible refine Calls.mono (D2.out _) ?_)
    rintro e w2 ⟨rfl, hb⟩
    have B2 := Lib.hid (B1.out.trans (hb.mono B1.out.size))
    clear hb
    go_wp2_with fail
    (with_reducible refine Calls.mono (D3.out _) ?_)
    rintro e w3 ⟨rfl, hb⟩
    have B3 := Lib.hid (B2.out.trans (hb.mono B2.out.size))
    clear hb
    go_wp2_with fail
    (with_reducible refine Calls.mono (N1.out _) ?_)
    rintro e w4 ⟨rfl, hb⟩
    have B4 := Lib.hid (B3.out.trans (hb.mono B3.out.size))
    clear hb
    go_wp2_with fail
    (with_reducible refine Calls.mono (N2.out _) ?_)
    rintro e w' ⟨rfl, rfl⟩
    go_wp2_with fail
    (with_reducible refine Calls.mono (N3.out _) ?_)
    rintro e w5 ⟨rfl, hb⟩
    have B5 := Lib.hid (B4.out.trans (hb.mono B4.out.size))
    clear hb
    go_wp2_with fail
    (with_reducible refine Calls.mono (N4.out _) ?_)
    rintro e w' ⟨rfl, rfl⟩
    go_wp2_with fail
    (with_reducible refine Calls.mono (N5.out _) ?_)
    rintro e w6 ⟨rfl, hb⟩
    have B6 := Lib.hid (B5.out.trans (hb.mono B5.out.size))
    clear hb
    go_wp2_with fail
    (with_reducible refine Calls.mono (S1.out _) ?_)
    rintro e w7 ⟨rfl, hb⟩
    have B7 := Lib.hid (B6.out.trans (hb.mono B6.out.size))
    clear hb
    go_wp2_with fail
    (with_reducible refine Calls.mono (S2.out _) ?_)
    rintro e w8 ⟨rfl, hb⟩
    have B8 := Lib.hid (B7.out.trans (hb.mono B7.out.size))
    clear hb
    go_wp2
    go_ret
    exact ⟨ret_bool (decide_eq_false (by omega)), B8.out⟩
theorem cmp3_ge {x y : Int} (h : y ≤ x) : cmp3 x y = 1 ∨ (cmp3 x y = 0 ∧ x = y) := by
  unfold cmp3
  rw [if_neg (by omega)]
  by_cases h2 : y < x
  · exact .inl (if_pos h2)
  · exact .inr ⟨if_neg h2, by omega⟩
theorem simpler_no {a b : Rat} (w : World) (ha : Sm 1000 a) (hb : Sm 1000 b) (h : NoSim a b) : Calls Tryz.prog 71 #[.string (qx a), .string (qx b)] w fun e w' => e = .returned (.bool false) ∧ Below w.heap.size w w' := by
  have h1 := h.den
  have h2 := h.num
  refine simpler_of _ _ _ _ _ _ _ _ _ _ _ _ w (fun W => Den_q a W ha) (fun W => Den_q b W hb) (fun W => Cmp_tx _ _ W ha.2 hb.2) (fun W => Num_q a W ha) (fun W => Abs_tx _ W ha.1) (fun W => Num_q b W hb) (fun W => Abs_tx _ W hb.1) (fun W => Cmp_tx _ _ W (by rw [dn_abs]; exact ha.1) (by rw [dn_abs]; exact hb.1)) (fun W => Sign_q a W ha) (fun W => Sign_q b W hb) ?_
  rcases cmp3_ge (x := (a.den : Int)) (y := (b.den : Int)) (by omega) with e | ⟨e, e2⟩
  · exact .inl e
  · rcases cmp3_ge (x := (a.num.natAbs : Int)) (y := (b.num.natAbs : Int)) (by omega) with f | ⟨f, f2⟩
    · exact .inr (.inl ⟨e, f⟩)
    · exact .inr (.inr ⟨e, f, h.sgn (by omega)⟩)
end Go.Proofs.YtkhebidmfjbhaaaGreatDoor
namespace Go.Proofs.YtkhebidmfjbhaaaGreatDoor
open Go.RowKit

theorem byte_no {s : ByteArray} {k : Nat} (h : k < s.size) (hn : ¬ s.data.toList[k]? = some 47) : ((s[k].toNat : Int) == 47) = false := by
  have hl : k < s.data.toList.length := by rw [len_size]; exact h
  rw [beq_eq_false_iff_ne]
  intro e
  apply hn
  rw [List.getElem?_eq_getElem hl]
  have h1 : (some s[k] == some (UInt8.ofNat 47)) = true := (byte_beq s[k] 47 (by decide)).trans (beq_iff_eq.2 e)
  exact beq_iff_eq.1 h1
theorem byte_yes {s : ByteArray} {k : Nat} (h : k < s.size) (hn : s.data.toList[k]? = some 47) : ((s[k].toNat : Int) == 47) = true := by
  have hl : k < s.data.toList.length := by rw [len_size]; exact h
  rw [List.getElem?_eq_getElem hl] at hn
  have h2 : s[k] = 47 := Option.some.inj hn
  rw [h2]
  rfl
theorem rsplit_no (s : ByteArray) (w : World) (h : ¬ 47 ∈ s.data.toList) (hs : s.size ≤ 9223372036854775807) :
    Calls Tryz.prog 84 #[.string s] w (GivesS2 s ⟨#[49]⟩ false w) := by
  have hb := Lib.hid (show ∀ k (hk : k < s.size), ((s[k].toNat : Int) == 47) = false from fun k hk => byte_no hk (fun e => h (List.mem_of_getElem? e)))
  clear h
  go_enter Tryz.func84, Tryz.ntmps84
  go_wp2
  go_loop [5] (fun i => ∃ k : Nat, k ≤ s.size ∧ i = .int .i64 k) (fun i => s.size - (intOf i).toNat)
  case atStart => exact ⟨0, Nat.zero_le _, rfl⟩
  case round =>
    obtain ⟨k, hk, rfl⟩ := hrel
    by_cases hlt : k < s.size
    · have e := hb.out k hlt
      go_wp2
      go_round
      case rel => exact ⟨k + 1, by omega, by go_num⟩
      case measure => simp [intOf]; omega
    · go_wp2
      exact bodyPost_ret (v := .tuple #[.string s, .string ⟨#[49]⟩, .bool false]) (by simp [results, Tryz.results84, go_sem]) rfl ⟨rfl, Below.refl _ _⟩
theorem rsplit_at (s a b : ByteArray) (w : World) (h : s = a ++ ⟨#[47]⟩ ++ b) (ha : ¬ 47 ∈ a.data.toList) (hs : s.size ≤ 4611686018427387904) :
    Calls Tryz.prog 84 #[.string s] w (GivesS2 a b true w) := by
  have ed : s.data.toList = a.data.toList ++ 47 :: b.data.toList := by rw [h, ba_mid]
  have e1 : s.extract 0 a.size = a := by
    apply ba_ext
    rw [ByteArray.data_extract, Array.toList_extract, ed, List.extract_eq_take_drop]
    show List.take (a.data.toList.length - 0) (List.drop 0 _) = _
    simp
  have hz : s.size = a.size + 1 + b.size := by rw [h, ByteArray.size_append, ByteArray.size_append]; rfl
  have e2 : s.extract (a.size + 1) s.size = b := by
    apply ba_ext
    rw [hz, ByteArray.data_extract, Array.toList_extract, ed, List.extract_eq_take_drop]
    show List.take (a.data.toList.length + 1 + b.data.toList.length - (a.data.toList.length + 1)) (List.drop (a.data.toList.length + 1) _) = _
    rw [List.drop_append, List.drop_eq_nil_of_le (by omega), show a.data.toList.length + 1 - a.data.toList.length = 1 by omega, show a.data.toList.length + 1 + b.data.toList.length - (a.data.toList.length + 1) = b.data.toList.length by omega]
    show List.take b.data.toList.length b.data.toList = _
    rw [List.take_length]
  have e3 : s.extract (a.size + 1) (a.size + 1 + b.size) = b := by rw [← hz]; exact e2
  have hb := Lib.hid (show ∀ k (hk : k < s.size), k < a.size → ((s[k].toNat : Int) == 47) = false from fun k hk hka => byte_no hk (fun e => by
    rw [ed, List.getElem?_append_left (by rw [len_size]; exact hka)] at e
    exact ha (List.mem_of_getElem? e)))
  have hlt : a.size < s.size := by omega
  have hy : ((s[a.size].toNat : Int) == 47) = true := byte_yes hlt (by rw [ed, List.getElem?_append_right (by rw [len_size]; omega), len_size, Nat.sub_self]; rfl)
  clear h ed ha
  go_enter Tryz.func84, Tryz.ntmps84
  go_wp2
  go_loop [5] (fun i => ∃ k : Nat, k ≤ a.size ∧ i = .int .i64 k) (fun i => s.size - (intOf i).toNat)
  case atStart => exact ⟨0, Nat.zero_le _, rfl⟩
  case round =>
    obtain ⟨k, hk, rfl⟩ := hrel
    by_cases hka : k = a.size
    · subst hka
      go_upto_region 5 with fail
      go_quiet (fail)
      go_wp2
      exact bodyPost_ret (v := .tuple #[.string a, .string b, .bool true]) (by simp [results, Tryz.results84, go_sem]) rfl ⟨rfl, below_drewN (Below.refl _ _) _⟩
    · have hk1 : k < s.size := by omega
      have e := hb.out k hk1 (by omega)
      go_wp2
      go_round
      case rel => exact ⟨k + 1, by omega, by go_num⟩
      case measure => simp [intOf]; omega
theorem tx_szd (z : Int) : (tx z).size ≤ dn z + 1 := by have := tx_size z; split at this <;> omega
theorem rsplit_q (q : Rat) (w : World) (h : Sm 1000000 q) : Calls Tryz.prog 84 #[.string (qx q)] w (GivesS2 (tx q.num) (tx q.den) (decide (q.den ≠ 1)) w) := by
  by_cases hd : q.den = 1
  · have e : qx q = tx q.num := by unfold qx; rw [if_pos hd]
    have e1 : (⟨#[49]⟩ : ByteArray) = tx q.den := by rw [hd]; exact (lt2 1 _ io1).symm
    rw [e, ← e1, decide_eq_false (fun h => h hd)]
    exact rsplit_no _ w (no47 _) (by have := tx_szd q.num; have := h.1; omega)
  · rw [decide_eq_true hd]
    exact rsplit_at _ _ _ w (qx_frac hd) (no47 _) (by
      rw [qx_frac hd, ByteArray.size_append, ByteArray.size_append]
      have h1 := tx_szd q.num
      have h2 := tx_szd (q.den : Int)
      have h3 := h.1
      have h4 := h.2
      show _ + 1 + _ ≤ _
      omega)
end Go.Proofs.YtkhebidmfjbhaaaGreatDoor
