/-
  What the reference's Plus, Opposite, Minus, Compare and Positive return.
  What the reference's Times returns.
  Which texts are integers to the reference, and small facts.
  The text of a rational number, and what join returns.
  What number returns: the integer that a text is.
-/
import Derived.Test.YtkhebidmfjbhaaaGreatDoorZ26
import Derived.BigRegion
import Derived.Test.YtkhebidmfjbhaaaGreatDoorZ24
import Derived.Test.YtkhebidmfjbhaaaGreatDoorZ25
import Derived.Deep.RegionHeld3
import Derived.Deep.Cut
import Derived.Test.YtkhebidmfjbhaaaGreatDoorZ05
namespace Go.Proofs.YtkhebidmfjbhaaaGreatDoor
open Go.RowKit

theorem RowD.below {w w' : World} {a : Option Addr} {n : Nat} {z : Int} (h : RowD w w.heap.size a n z) (hb : Below w.heap.size w w') : RowD w' w'.heap.size a n z := fun h0 => by
  obtain ⟨g, o, e, hg, hc⟩ := h h0
  exact ⟨g, o, e, Nat.lt_of_lt_of_le hg hb.size, fun j hj => (below_at hb (o + j) hg).trans (hc j hj)⟩
/-- The value of a short integer, 0 of another one. -/
def sv (z : Int) : Int := if dn z ≤ 9 then z else 0
theorem rshort_any (z : Int) (w : World) (hd : dn z ≤ 100000) :
    Calls Tryz.prog 162 #[.string (tx z)] w fun e w' => e = .returned (.tuple #[.int .i64 (sv z), .bool (decide (dn z ≤ 9))]) ∧ w = w' := by
  unfold sv
  by_cases h : dn z ≤ 9
  · rw [if_pos h, decide_eq_true h]; exact rshort_yes z w h
  · rw [if_neg h, decide_eq_false h]; exact rshort_no z w hd (by omega)
theorem rdg (z : Int) (p : Bool) (Z : Int) (n : Nat) (T : ByteArray) (hp : p = decide (z < 0)) (hZ : Z = z.natAbs) (hn : n = Ten.nl Z) (hT : T = tx z) (w : World) (hd : dn z ≤ 100000) :
    Calls Tryz.prog 156 #[.string T] w fun e w' => ∃ a c, e = .returned (.tuple #[.bool p, .slice a n c]) ∧ n ≤ c ∧ RowD w' w'.heap.size a n Z ∧ Below w.heap.size w w' := by
  subst hn hZ hp hT
  refine (rdigits_any z w hd).mono ?_
  rintro e w' ⟨a, c, h1, h2, h3, h4, _⟩
  exact ⟨a, c, h1, h2, h3, h4⟩
theorem rdg2 (z : Int) (p : Bool) (Z : Int) (n : Nat) (T : ByteArray) (hp : p = decide (z < 0)) (hZ : Z = z.natAbs) (hn : n = Ten.nl Z) (hT : T = tx z) (w : World) (hd : dn z ≤ 100000) :
    Calls Tryz.prog 156 #[.string T] w fun e w' => ∃ g o c, e = .returned (.tuple #[.bool p, .slice (some ⟨g, o, none⟩) n c]) ∧ n ≤ c ∧ g < w'.heap.size ∧ RowD w' w'.heap.size (some ⟨g, o, none⟩) n Z ∧ Below w.heap.size w w' := by
  subst hn hZ hp hT
  refine (rdigits_any z w hd).mono ?_
  rintro e w' ⟨a, c, h1, h2, h3, h4, g, o, h5, h6⟩
  subst h5
  exact ⟨g, o, c, h1, h2, h6, h3, h4⟩
theorem sv_bd {z : Int} (h : dn z ≤ 9) : -1000000000 < z ∧ z < 1000000000 := by
  have h1 := dn_lt (x := (z.natAbs : Int)) (by omega)
  rw [dn_abs] at h1
  have h2 := Ten.bp_mono h
  have h3 : Ten.bp 9 = 1000000000 := by decide
  omega
theorem rplus_short (x y : Int) (w : World) (h1 : dn x ≤ 9) (h2 : dn y ≤ 9) :
    Calls Tryz.prog 124 #[.string (tx x), .string (tx y)] w (GivesY (tx (x + y)) w) := by
  have SX := Lib.hid (fun W => rshort_yes x W h1)
  have SY := Lib.hid (fun W => rshort_yes y W h2)
  obtain ⟨e1, e2⟩ := sv_bd h1
  obtain ⟨e3, e4⟩ := sv_bd h2
  have NB := Lib.hid (fun W => rnumber_any (x + y) W (by omega) (by omega))
  obtain ⟨A, hA⟩ : ∃ T, T = tx x := ⟨_, rfl⟩
  obtain ⟨B, hB⟩ : ∃ T, T = tx y := ⟨_, rfl⟩
  obtain ⟨T, hT⟩ : ∃ T, T = tx (x + y) := ⟨_, rfl⟩
  rw [← hA] at SX ⊢
  rw [← hB] at SY ⊢
  rw [← hT] at NB ⊢
  clear hA hB hT h1 h2
  go_enter Tryz.func124, Tryz.ntmps124
  go_wp2_with fail
  refine (SX.out w).mono ?_
  rintro e w' ⟨rfl, rfl⟩
  go_wp2_with fail
  refine (SY.out w).mono ?_
  rintro e w' ⟨rfl, rfl⟩
  go_wp2_with fail
  refine (NB.out w).mono ?_
  rintro e w' ⟨rfl, hb⟩
  have HB := Lib.hid hb
  clear hb
  go_wp2
  go_ret
  exact ⟨rfl, HB.out⟩
set_option maxHeartbeats 2000000 in
set_option maxRecDepth 100000 in
theorem rplus_long (x y : Int) (w : World) (hx : dn x ≤ 50000) (hy : dn y ≤ 50000) (h9 : ¬ (dn x ≤ 9 ∧ dn y ≤ 9)) :
    Calls Tryz.prog 124 #[.string (tx x), .string (tx y)] w (GivesY (tx (x + y)) w) := by
  have SX := Lib.hid (fun W => rshort_any x W (by omega))
  have SY := Lib.hid (fun W => rshort_any y W (by omega))
  obtain ⟨b1, hb1⟩ : ∃ b, b = decide (dn x ≤ 9) := ⟨_, rfl⟩
  obtain ⟨b2, hb2⟩ : ∃ b, b = decide (dn y ≤ 9) := ⟨_, rfl⟩
  obtain ⟨m1, hm1⟩ : ∃ m, m = sv x := ⟨_, rfl⟩
  obtain ⟨m2, hm2⟩ : ∃ m, m = sv y := ⟨_, rfl⟩
  obtain ⟨A, hA⟩ : ∃ T, T = tx x := ⟨_, rfl⟩
  obtain ⟨B, hB⟩ : ∃ T, T = tx y := ⟨_, rfl⟩
  rw [← hb1, ← hm1, ← hA] at SX
  rw [← hb2, ← hm2, ← hB] at SY
  have hbb : b1 = false ∨ b1 = true ∧ b2 = false := by
    rw [hb1, hb2]
    by_cases h1 : dn x ≤ 9 <;> by_cases h2 : dn y ≤ 9 <;> simp [h1, h2]
    exact h9 ⟨h1, h2⟩
  obtain ⟨px, hpx⟩ : ∃ b, b = decide (x < 0) := ⟨_, rfl⟩
  obtain ⟨qy, hqy⟩ : ∃ b, b = decide (y < 0) := ⟨_, rfl⟩
  obtain ⟨X, hX⟩ : ∃ X : Int, X = x.natAbs := ⟨_, rfl⟩
  obtain ⟨Y, hY⟩ : ∃ Y : Int, Y = y.natAbs := ⟨_, rfl⟩
  obtain ⟨n, hn⟩ : ∃ n, n = Ten.nl X := ⟨_, rfl⟩
  obtain ⟨k, hk⟩ : ∃ k, k = Ten.nl Y := ⟨_, rfl⟩
  have DX := Lib.hid (fun W => rdg x px X n A hpx hX hn hA W (by omega))
  have DY := Lib.hid (fun W => rdg y qy Y k B hqy hY hk hB W (by omega))
  have HX0 : Hid (0 ≤ X) := Lib.hid (by omega)
  have HY0 : Hid (0 ≤ Y) := Lib.hid (by omega)
  have HXL : Hid (X < Ten.bp n) := Lib.hid (by rw [hn]; exact Ten.nl_lt HX0.out)
  have HYL : Hid (Y < Ten.bp k) := Lib.hid (by rw [hk]; exact Ten.nl_lt HY0.out)
  have hnn : n ≤ 50000 := by
    refine Nat.le_trans (hn ▸ Ten.nl_le ?_) hx
    have := dn_lt HX0.out
    rwa [hX, dn_abs, ← hX] at this
  have hkk : k ≤ 50000 := by
    refine Nat.le_trans (hk ▸ Ten.nl_le ?_) hy
    have := dn_lt HY0.out
    rwa [hY, dn_abs, ← hY] at this
  have HN1 := Lib.hid hn
  have HN2 := Lib.hid hk
  have HR : Hid ((px = qy → (if px = true then -(X + Y) else X + Y) = x + y) ∧ (¬ px = qy → (X < Y → (if qy = true then -(Y - X) else Y - X) = x + y) ∧ (Y ≤ X → (if px = true then -(X - Y) else X - Y) = x + y))) := Lib.hid (by
    rw [hpx, hqy]
    by_cases h1 : x < 0 <;> by_cases h2 : y < 0 <;> simp [h1, h2] <;> omega)
  rw [← hA, ← hB]
  clear hb1 hb2 hm1 hm2 hA hB hpx hqy hX hY hn hk hx hy h9
  go_enter Tryz.func124, Tryz.ntmps124
  go_wp2_with fail
  refine (SX.out w).mono ?_
  rintro e w' ⟨rfl, rfl⟩
  go_wp2_with fail
  refine (SY.out w).mono ?_
  rintro e w' ⟨rfl, rfl⟩
  rcases hbb with rfl | ⟨rfl, rfl⟩
  · go_wp2_with fail
    refine (DX.out w).mono ?_
    rintro e w1 ⟨a1, c1, rfl, hc1, hr1, hb1⟩
    have R1 := Lib.hid hr1
    have B1 := Lib.hid hb1
    have HC1 := Lib.hid hc1
    clear hr1 hb1 hc1
    go_wp2_with fail
    refine (DY.out w1).mono ?_
    rintro e w2 ⟨a2, c2, rfl, hc2, hr2, hb2⟩
    replace R1 := Lib.hid (R1.out.below hb2)
    have R2 := Lib.hid hr2
    have HC2 := Lib.hid hc2
    have B2 := Lib.hid (B1.out.trans (hb2.mono B1.out.size))
    clear hr2 hb2 hc2
    by_cases hpq : px = qy
    · subst hpq
      have hpp : (px == px) = true := by cases px <;> rfl
      have RS := Lib.hid (HR.out.1 rfl)
      clear HR
      go_wp2_with fail
      refine (rsum_any a1 a2 n c1 k c2 X Y w2 HX0.out HXL.out HY0.out HYL.out (by omega) (by omega) R1.out R2.out).mono ?_
      rintro e w3 ⟨a3, n3, c3, rfl, h31, h32, h33, h34, hr3, hb3⟩
      have R3 := Lib.hid hr3
      have B3 := Lib.hid (B2.out.trans (hb3.mono B2.out.size))
      have H31 := Lib.hid h31
      have H33 := Lib.hid h33
      have H34 := Lib.hid h34
      have h35 : n3 ≤ 1000000 := by omega
      clear h31 h32 h33 h34 hr3 hb3
      go_wp2_with fail
      refine (rtext_any px a3 n3 c3 (X + Y) w3 H33.out H34.out H31.out h35 R3.out).mono ?_
      rintro e w4 ⟨rfl, hb4⟩
      have B4 := Lib.hid (B3.out.trans (hb4.mono B3.out.size))
      rw [RS.out]
      obtain ⟨T, hT⟩ : ∃ T, T = tx (x + y) := ⟨_, rfl⟩
      rw [← hT]
      have HT := Lib.hid hT
      clear hb4 hT
      go_wp2
      go_ret
      exact ⟨ret_s HT.out, B4.out⟩
    · have hpp : (px == qy) = false := by rw [beq_eq_false_iff_ne]; exact hpq
      have RD := Lib.hid (HR.out.2 hpq)
      clear HR
      go_wp2_with fail
      refine (rsize_any a1 a2 n c1 k c2 X Y w2 HX0.out HY0.out HN1.out HN2.out (by omega) (by omega) R1.out R2.out).mono ?_
      rintro e w3 ⟨rfl, hb3⟩
      replace R1 := Lib.hid (R1.out.below hb3)
      replace R2 := Lib.hid (R2.out.below hb3)
      have B3 := Lib.hid (B2.out.trans (hb3.mono B2.out.size))
      clear hb3
      by_cases hxy : X < Y
      · have hcm : cmp3 X Y < 0 := by rw [cmp3_lt hxy]; decide
        have HXY := Lib.hid hxy
        have RS := Lib.hid (RD.out.1 hxy)
        generalize cmp3 X Y = cm at *
        clear hxy RD
        go_wp2_with fail
        refine (rdiff_any a2 a1 k c2 n c1 Y X w3 HY0.out HYL.out HX0.out HXL.out (Int.le_of_lt HXY.out) (by omega) (by omega) R2.out R1.out).mono ?_
        rintro e w4 ⟨a4, c4, rfl, h41, h42, hr4, hb4, _⟩
        have R4 := Lib.hid hr4
        have B4 := Lib.hid (B3.out.trans (hb4.mono B3.out.size))
        have H41 := Lib.hid h41
        have H43 := Lib.hid (Ten.nl_lt h42)
        have H42 := Lib.hid h42
        have H44 : Hid (Ten.nl (Y - X) ≤ 1000000) := Lib.hid (Nat.le_trans (Ten.nl_le (k := k) (by have := HYL.out; have := HX0.out; omega)) (by omega))
        clear h41 h42 hr4 hb4
        obtain ⟨n4, hn4⟩ : ∃ n4, n4 = Ten.nl (Y - X) := ⟨_, rfl⟩
        rw [← hn4] at R4 H41 H43 H44 ⊢
        clear hn4
        go_wp2_with fail
        refine (rtext_any qy a4 n4 c4 (Y - X) w4 H42.out H43.out H41.out H44.out R4.out).mono ?_
        rintro e w5 ⟨rfl, hb5⟩
        have B5 := Lib.hid (B4.out.trans (hb5.mono B4.out.size))
        rw [RS.out]
        obtain ⟨T, hT⟩ : ∃ T, T = tx (x + y) := ⟨_, rfl⟩
        rw [← hT]
        have HT := Lib.hid hT
        clear hb5 hT
        go_wp2
        go_ret
        exact ⟨ret_s HT.out, B5.out⟩
      · have hcm : ¬ cmp3 X Y < 0 := by
          rcases Decidable.em (Y < X) with h | h
          · rw [cmp3_gt h]; decide
          · rw [show X = Y by omega, cmp3_eq]; decide
        have hyx : Y ≤ X := by omega
        have HXY := Lib.hid hyx
        have RS := Lib.hid (RD.out.2 hyx)
        generalize cmp3 X Y = cm at *
        clear hxy hyx RD
        go_wp2_with fail
        refine (rdiff_any a1 a2 n c1 k c2 X Y w3 HX0.out HXL.out HY0.out HYL.out HXY.out (by omega) (by omega) R1.out R2.out).mono ?_
        rintro e w4 ⟨a4, c4, rfl, h41, h42, hr4, hb4, _⟩
        have R4 := Lib.hid hr4
        have B4 := Lib.hid (B3.out.trans (hb4.mono B3.out.size))
        have H41 := Lib.hid h41
        have H43 := Lib.hid (Ten.nl_lt h42)
        have H42 := Lib.hid h42
        have H44 : Hid (Ten.nl (X - Y) ≤ 1000000) := Lib.hid (Nat.le_trans (Ten.nl_le (k := n) (by have := HXL.out; have := HY0.out; omega)) (by omega))
        clear h41 h42 hr4 hb4
        obtain ⟨n4, hn4⟩ : ∃ n4, n4 = Ten.nl (X - Y) := ⟨_, rfl⟩
        rw [← hn4] at R4 H41 H43 H44 ⊢
        clear hn4
        go_wp2_with fail
        refine (rtext_any px a4 n4 c4 (X - Y) w4 H42.out H43.out H41.out H44.out R4.out).mono ?_
        rintro e w5 ⟨rfl, hb5⟩
        have B5 := Lib.hid (B4.out.trans (hb5.mono B4.out.size))
        rw [RS.out]
        obtain ⟨T, hT⟩ : ∃ T, T = tx (x + y) := ⟨_, rfl⟩
        rw [← hT]
        have HT := Lib.hid hT
        clear hb5 hT
        go_wp2
        go_ret
        exact ⟨ret_s HT.out, B5.out⟩
  · go_wp2_with fail
    refine (DX.out w).mono ?_
    rintro e w1 ⟨a1, c1, rfl, hc1, hr1, hb1⟩
    have R1 := Lib.hid hr1
    have B1 := Lib.hid hb1
    have HC1 := Lib.hid hc1
    clear hr1 hb1 hc1
    go_wp2_with fail
    refine (DY.out w1).mono ?_
    rintro e w2 ⟨a2, c2, rfl, hc2, hr2, hb2⟩
    replace R1 := Lib.hid (R1.out.below hb2)
    have R2 := Lib.hid hr2
    have HC2 := Lib.hid hc2
    have B2 := Lib.hid (B1.out.trans (hb2.mono B1.out.size))
    clear hr2 hb2 hc2
    by_cases hpq : px = qy
    · subst hpq
      have hpp : (px == px) = true := by cases px <;> rfl
      have RS := Lib.hid (HR.out.1 rfl)
      clear HR
      go_wp2_with fail
      refine (rsum_any a1 a2 n c1 k c2 X Y w2 HX0.out HXL.out HY0.out HYL.out (by omega) (by omega) R1.out R2.out).mono ?_
      rintro e w3 ⟨a3, n3, c3, rfl, h31, h32, h33, h34, hr3, hb3⟩
      have R3 := Lib.hid hr3
      have B3 := Lib.hid (B2.out.trans (hb3.mono B2.out.size))
      have H31 := Lib.hid h31
      have H33 := Lib.hid h33
      have H34 := Lib.hid h34
      have h35 : n3 ≤ 1000000 := by omega
      clear h31 h32 h33 h34 hr3 hb3
      go_wp2_with fail
      refine (rtext_any px a3 n3 c3 (X + Y) w3 H33.out H34.out H31.out h35 R3.out).mono ?_
      rintro e w4 ⟨rfl, hb4⟩
      have B4 := Lib.hid (B3.out.trans (hb4.mono B3.out.size))
      rw [RS.out]
      obtain ⟨T, hT⟩ : ∃ T, T = tx (x + y) := ⟨_, rfl⟩
      rw [← hT]
      have HT := Lib.hid hT
      clear hb4 hT
      go_wp2
      go_ret
      exact ⟨ret_s HT.out, B4.out⟩
    · have hpp : (px == qy) = false := by rw [beq_eq_false_iff_ne]; exact hpq
      have RD := Lib.hid (HR.out.2 hpq)
      clear HR
      go_wp2_with fail
      refine (rsize_any a1 a2 n c1 k c2 X Y w2 HX0.out HY0.out HN1.out HN2.out (by omega) (by omega) R1.out R2.out).mono ?_
      rintro e w3 ⟨rfl, hb3⟩
      replace R1 := Lib.hid (R1.out.below hb3)
      replace R2 := Lib.hid (R2.out.below hb3)
      have B3 := Lib.hid (B2.out.trans (hb3.mono B2.out.size))
      clear hb3
      by_cases hxy : X < Y
      · have hcm : cmp3 X Y < 0 := by rw [cmp3_lt hxy]; decide
        have HXY := Lib.hid hxy
        have RS := Lib.hid (RD.out.1 hxy)
        generalize cmp3 X Y = cm at *
        clear hxy RD
        go_wp2_with fail
        refine (rdiff_any a2 a1 k c2 n c1 Y X w3 HY0.out HYL.out HX0.out HXL.out (Int.le_of_lt HXY.out) (by omega) (by omega) R2.out R1.out).mono ?_
        rintro e w4 ⟨a4, c4, rfl, h41, h42, hr4, hb4, _⟩
        have R4 := Lib.hid hr4
        have B4 := Lib.hid (B3.out.trans (hb4.mono B3.out.size))
        have H41 := Lib.hid h41
        have H43 := Lib.hid (Ten.nl_lt h42)
        have H42 := Lib.hid h42
        have H44 : Hid (Ten.nl (Y - X) ≤ 1000000) := Lib.hid (Nat.le_trans (Ten.nl_le (k := k) (by have := HYL.out; have := HX0.out; omega)) (by omega))
        clear h41 h42 hr4 hb4
        obtain ⟨n4, hn4⟩ : ∃ n4, n4 = Ten.nl (Y - X) := ⟨_, rfl⟩
        rw [← hn4] at R4 H41 H43 H44 ⊢
        clear hn4
        go_wp2_with fail
        refine (rtext_any qy a4 n4 c4 (Y - X) w4 H42.out H43.out H41.out H44.out R4.out).mono ?_
        rintro e w5 ⟨rfl, hb5⟩
        have B5 := Lib.hid (B4.out.trans (hb5.mono B4.out.size))
        rw [RS.out]
        obtain ⟨T, hT⟩ : ∃ T, T = tx (x + y) := ⟨_, rfl⟩
        rw [← hT]
        have HT := Lib.hid hT
        clear hb5 hT
        go_wp2
        go_ret
        exact ⟨ret_s HT.out, B5.out⟩
      · have hcm : ¬ cmp3 X Y < 0 := by
          rcases Decidable.em (Y < X) with h | h
          · rw [cmp3_gt h]; decide
          · rw [show X = Y by omega, cmp3_eq]; decide
        have hyx : Y ≤ X := by omega
        have HXY := Lib.hid hyx
        have RS := Lib.hid (RD.out.2 hyx)
        generalize cmp3 X Y = cm at *
        clear hxy hyx RD
        go_wp2_with fail
        refine (rdiff_any a1 a2 n c1 k c2 X Y w3 HX0.out HXL.out HY0.out HYL.out HXY.out (by omega) (by omega) R1.out R2.out).mono ?_
        rintro e w4 ⟨a4, c4, rfl, h41, h42, hr4, hb4, _⟩
        have R4 := Lib.hid hr4
        have B4 := Lib.hid (B3.out.trans (hb4.mono B3.out.size))
        have H41 := Lib.hid h41
        have H43 := Lib.hid (Ten.nl_lt h42)
        have H42 := Lib.hid h42
        have H44 : Hid (Ten.nl (X - Y) ≤ 1000000) := Lib.hid (Nat.le_trans (Ten.nl_le (k := n) (by have := HXL.out; have := HY0.out; omega)) (by omega))
        clear h41 h42 hr4 hb4
        obtain ⟨n4, hn4⟩ : ∃ n4, n4 = Ten.nl (X - Y) := ⟨_, rfl⟩
        rw [← hn4] at R4 H41 H43 H44 ⊢
        clear hn4
        go_wp2_with fail
        refine (rtext_any px a4 n4 c4 (X - Y) w4 H42.out H43.out H41.out H44.out R4.out).mono ?_
        rintro e w5 ⟨rfl, hb5⟩
        have B5 := Lib.hid (B4.out.trans (hb5.mono B4.out.size))
        rw [RS.out]
        obtain ⟨T, hT⟩ : ∃ T, T = tx (x + y) := ⟨_, rfl⟩
        rw [← hT]
        have HT := Lib.hid hT
        clear hb5 hT
        go_wp2
        go_ret
        exact ⟨ret_s HT.out, B5.out⟩
theorem rplus_any (x y : Int) (w : World) (hx : dn x ≤ 50000) (hy : dn y ≤ 50000) :
    Calls Tryz.prog 124 #[.string (tx x), .string (tx y)] w (GivesY (tx (x + y)) w) := by
  by_cases h : dn x ≤ 9 ∧ dn y ≤ 9
  · exact rplus_short x y w h.1 h.2
  · exact rplus_long x y w hx hy h
theorem ropp_any (x : Int) (w : World) (hx : dn x ≤ 50000) :
    Calls Tryz.prog 112 #[.string (tx x)] w (GivesY (tx (-x)) w) := by
  obtain ⟨px, hpx⟩ : ∃ b, b = decide (x < 0) := ⟨_, rfl⟩
  obtain ⟨X, hX⟩ : ∃ X : Int, X = x.natAbs := ⟨_, rfl⟩
  obtain ⟨n, hn⟩ : ∃ n, n = Ten.nl X := ⟨_, rfl⟩
  obtain ⟨A, hA⟩ : ∃ T, T = tx x := ⟨_, rfl⟩
  have DX := Lib.hid (fun W => rdg x px X n A hpx hX hn hA W (by omega))
  have HX0 : Hid (0 ≤ X) := Lib.hid (by omega)
  have HXL : Hid (X < Ten.bp n) := Lib.hid (by rw [hn]; exact Ten.nl_lt HX0.out)
  have hnn : n ≤ 50000 := by
    refine Nat.le_trans (hn ▸ Ten.nl_le ?_) hx
    have := dn_lt HX0.out
    rwa [hX, dn_abs, ← hX] at this
  have RS : Hid ((if (!px) = true then -X else X) = -x) := Lib.hid (by
    rw [hpx]
    by_cases h1 : x < 0 <;> simp [h1] <;> omega)
  rw [← hA]
  clear hA hpx hX hn hx
  go_enter Tryz.func112, Tryz.ntmps112
  go_wp2_with fail
  refine (DX.out w).mono ?_
  rintro e w1 ⟨a1, c1, rfl, hc1, hr1, hb1⟩
  have R1 := Lib.hid hr1
  have B1 := Lib.hid hb1
  have HC1 := Lib.hid hc1
  clear hr1 hb1 hc1
  go_wp2_with fail
  refine (rtext_any (!px) a1 n c1 X w1 HX0.out HXL.out HC1.out (by omega) R1.out).mono ?_
  rintro e w4 ⟨rfl, hb4⟩
  have B4 := Lib.hid (B1.out.trans (hb4.mono B1.out.size))
  rw [RS.out]
  obtain ⟨T, hT⟩ : ∃ T, T = tx (-x) := ⟨_, rfl⟩
  rw [← hT]
  have HT := Lib.hid hT
  clear hb4 hT
  go_wp2
  go_ret
  exact ⟨ret_s HT.out, B4.out⟩
theorem rpos_any (x : Int) (w : World) (hx : dn x ≤ 50000) :
    Calls Tryz.prog 127 #[.string (tx x)] w (GivesY (tx (x.natAbs : Int)) w) := by
  obtain ⟨px, hpx⟩ : ∃ b, b = decide (x < 0) := ⟨_, rfl⟩
  obtain ⟨X, hX⟩ : ∃ X : Int, X = x.natAbs := ⟨_, rfl⟩
  obtain ⟨n, hn⟩ : ∃ n, n = Ten.nl X := ⟨_, rfl⟩
  obtain ⟨A, hA⟩ : ∃ T, T = tx x := ⟨_, rfl⟩
  have DX := Lib.hid (fun W => rdg x px X n A hpx hX hn hA W (by omega))
  have HX0 : Hid (0 ≤ X) := Lib.hid (by omega)
  have HXL : Hid (X < Ten.bp n) := Lib.hid (by rw [hn]; exact Ten.nl_lt HX0.out)
  have hnn : n ≤ 50000 := by
    refine Nat.le_trans (hn ▸ Ten.nl_le ?_) hx
    have := dn_lt HX0.out
    rwa [hX, dn_abs, ← hX] at this
  rw [← hA, ← hX]
  clear hA hpx hX hn hx
  go_enter Tryz.func127, Tryz.ntmps127
  go_wp2_with fail
  refine (DX.out w).mono ?_
  rintro e w1 ⟨a1, c1, rfl, hc1, hr1, hb1⟩
  have R1 := Lib.hid hr1
  have B1 := Lib.hid hb1
  have HC1 := Lib.hid hc1
  clear hr1 hb1 hc1
  go_wp2_with fail
  refine (rtext_any false a1 n c1 X w1 HX0.out HXL.out HC1.out (by omega) R1.out).mono ?_
  rintro e w4 ⟨rfl, hb4⟩
  have B4 := Lib.hid (B1.out.trans (hb4.mono B1.out.size))
  simp only [Bool.false_eq_true, if_false]
  obtain ⟨T, hT⟩ : ∃ T, T = tx X := ⟨_, rfl⟩
  rw [← hT]
  have HT := Lib.hid hT
  clear hb4 hT
  go_wp2
  go_ret
  exact ⟨ret_s HT.out, B4.out⟩
theorem rminus_any (x y : Int) (w : World) (hx : dn x ≤ 50000) (hy : dn y ≤ 50000) :
    Calls Tryz.prog 183 #[.string (tx x), .string (tx y)] w (GivesY (tx (x - y)) w) := by
  have OP := Lib.hid (fun W => ropp_any y W hy)
  have PL := Lib.hid (fun W => rplus_any x (-y) W hx (by rw [dn_neg]; exact hy))
  rw [show x + -y = x - y by omega] at PL
  obtain ⟨A, hA⟩ : ∃ T, T = tx x := ⟨_, rfl⟩
  obtain ⟨B, hB⟩ : ∃ T, T = tx y := ⟨_, rfl⟩
  obtain ⟨C, hC⟩ : ∃ T, T = tx (-y) := ⟨_, rfl⟩
  obtain ⟨T, hT⟩ : ∃ T, T = tx (x - y) := ⟨_, rfl⟩
  rw [← hB, ← hC] at OP
  rw [← hA, ← hC, ← hT] at PL
  rw [← hA, ← hB, ← hT]
  clear hA hB hC hT hx hy
  go_enter Tryz.func183, Tryz.ntmps183
  go_wp2_with fail
  refine (OP.out w).mono ?_
  rintro e w1 ⟨rfl, hb1⟩
  have B1 := Lib.hid hb1
  clear hb1
  go_wp2_with fail
  refine (PL.out w1).mono ?_
  rintro e w2 ⟨rfl, hb2⟩
  have B2 := Lib.hid (B1.out.trans (hb2.mono B1.out.size))
  clear hb2
  go_wp2
  go_ret
  exact ⟨rfl, B2.out⟩
set_option maxHeartbeats 2000000 in
theorem rcompare_any (x y : Int) (w : World) (hx : dn x ≤ 50000) (hy : dn y ≤ 50000) :
    Calls Tryz.prog 121 #[.string (tx x), .string (tx y)] w (GivesI (cmp3 x y) w) := by
  obtain ⟨A, hA⟩ : ∃ T, T = tx x := ⟨_, rfl⟩
  obtain ⟨B, hB⟩ : ∃ T, T = tx y := ⟨_, rfl⟩
  obtain ⟨px, hpx⟩ : ∃ b, b = decide (x < 0) := ⟨_, rfl⟩
  obtain ⟨qy, hqy⟩ : ∃ b, b = decide (y < 0) := ⟨_, rfl⟩
  obtain ⟨X, hX⟩ : ∃ X : Int, X = x.natAbs := ⟨_, rfl⟩
  obtain ⟨Y, hY⟩ : ∃ Y : Int, Y = y.natAbs := ⟨_, rfl⟩
  obtain ⟨n, hn⟩ : ∃ n, n = Ten.nl X := ⟨_, rfl⟩
  obtain ⟨k, hk⟩ : ∃ k, k = Ten.nl Y := ⟨_, rfl⟩
  have DX := Lib.hid (fun W => rdg x px X n A hpx hX hn hA W (by omega))
  have DY := Lib.hid (fun W => rdg y qy Y k B hqy hY hk hB W (by omega))
  have HX0 : Hid (0 ≤ X) := Lib.hid (by omega)
  have HY0 : Hid (0 ≤ Y) := Lib.hid (by omega)
  have HXL : Hid (X < Ten.bp n) := Lib.hid (by rw [hn]; exact Ten.nl_lt HX0.out)
  have HYL : Hid (Y < Ten.bp k) := Lib.hid (by rw [hk]; exact Ten.nl_lt HY0.out)
  have hnn : n ≤ 50000 := by
    refine Nat.le_trans (hn ▸ Ten.nl_le ?_) hx
    have := dn_lt HX0.out
    rwa [hX, dn_abs, ← hX] at this
  have hkk : k ≤ 50000 := by
    refine Nat.le_trans (hk ▸ Ten.nl_le ?_) hy
    have := dn_lt HY0.out
    rwa [hY, dn_abs, ← hY] at this
  have HN1 := Lib.hid hn
  have HN2 := Lib.hid hk
  have HR : Hid ((px = true → qy = false → cmp3 x y = -1) ∧ (px = false → qy = true → cmp3 x y = 1) ∧ (px = true → qy = true → cmp3 x y = cmp3 Y X) ∧ (px = false → qy = false → cmp3 x y = cmp3 X Y)) := Lib.hid (by
    rw [hpx, hqy]
    unfold cmp3
    by_cases h1 : x < 0 <;> by_cases h2 : y < 0 <;> simp [h1, h2] <;> (repeat' split) <;> omega)
  rw [← hA, ← hB]
  clear hA hB hpx hqy hX hY hn hk hx hy
  go_enter Tryz.func121, Tryz.ntmps121
  go_wp2_with fail
  refine (DX.out w).mono ?_
  rintro e w1 ⟨a1, c1, rfl, hc1, hr1, hb1⟩
  have R1 := Lib.hid hr1
  have B1 := Lib.hid hb1
  clear hr1 hb1 hc1
  go_wp2_with fail
  refine (DY.out w1).mono ?_
  rintro e w2 ⟨a2, c2, rfl, hc2, hr2, hb2⟩
  replace R1 := Lib.hid (R1.out.below hb2)
  have R2 := Lib.hid hr2
  have B2 := Lib.hid (B1.out.trans (hb2.mono B1.out.size))
  clear hr2 hb2 hc2
  cases px <;> cases qy
  · go_wp2_with fail
    refine (rsize_any a1 a2 n c1 k c2 X Y w2 HX0.out HY0.out HN1.out HN2.out (by omega) (by omega) R1.out R2.out).mono ?_
    rintro e w3 ⟨rfl, hb3⟩
    have B3 := Lib.hid (B2.out.trans (hb3.mono B2.out.size))
    clear hb3
    go_wp2
    go_ret
    exact ⟨ret_i (HR.out.2.2.2 (by trivial) (by trivial)).symm, B3.out⟩
  · go_wp2
    go_ret
    exact ⟨ret_i (HR.out.2.1 (by trivial) (by trivial)).symm, B2.out⟩
  · go_wp2
    go_ret
    exact ⟨ret_i (HR.out.1 (by trivial) (by trivial)).symm, B2.out⟩
  · go_wp2_with fail
    refine (rsize_any a2 a1 k c2 n c1 Y X w2 HY0.out HX0.out HN2.out HN1.out (by omega) (by omega) R2.out R1.out).mono ?_
    rintro e w3 ⟨rfl, hb3⟩
    have B3 := Lib.hid (B2.out.trans (hb3.mono B2.out.size))
    clear hb3
    go_wp2
    go_ret
    exact ⟨ret_i (HR.out.2.2.1 (by trivial) (by trivial)).symm, B3.out⟩
end Go.Proofs.YtkhebidmfjbhaaaGreatDoor
namespace Go.Proofs.YtkhebidmfjbhaaaGreatDoor
open Go.RowKit

def upd (f : Nat → Int) (i : Nat) (v : Int) : Nat → Int := fun j => if j = i then v else f j
theorem upd_same (f : Nat → Int) (i : Nat) (v : Int) : upd f i v i = v := by unfold upd; rw [if_pos rfl]
theorem upd_other (f : Nat → Int) {i j : Nat} (v : Int) (h : j ≠ i) : upd f i v j = f j := by unfold upd; rw [if_neg h]
/-- Block g of w1 is the call's own: L ints f 0, f 1 .. -/
structure RowI (w w1 : World) (g L : Nat) (f : Nat → Int) : Prop where
  below : Below w.heap.size w w1
  ge : w.heap.size ≤ g
  lt : g < w1.heap.size
  cells : ∀ j, j < L → w1.cell? ⟨g, j, none⟩ = some (.int .i64 (f j))
  free : ∀ j, j < L → w1.frozen? ⟨g, j, none⟩ = false
theorem RowI.set {w w1 : World} {g L : Nat} {f : Nat → Int} (h : RowI w w1 g L f) (i : Nat) (hi : i < L) (t : Int) : RowI w (w1.setCell ⟨g, i, none⟩ (.int .i64 t)) g L (upd f i t) where
  below := below_set h.below i h.ge _
  ge := h.ge
  lt := by rw [World.size_setCell]; exact h.lt
  cells := fun j hj => by
    by_cases hji : j = i
    · subst hji; rw [upd_same, World.cell?_setCell_same w1 _ _ (h.cells j hj)]
    · rw [upd_other f t hji, World.cell?_setCell_other w1 _ _ _ (by intro e; injection e; omega), h.cells j hj]
  free := fun j hj => by rw [World.frozen?_setCell]; exact h.free j hj
theorem RowI.drewN {w w1 : World} {g L : Nat} {f : Nat → Int} (h : RowI w w1 g L f) (q : Nat) : RowI w (w1.drewN q) g L f := ⟨below_drewN h.below q, h.ge, h.lt, h.cells, h.free⟩
theorem RowI.row {w w1 : World} {g L : Nat} {f : Nat → Int} {P : Int} (h : RowI w w1 g L f) (hf : ∀ j, j < L → f j = Ten.lz P j) : RowD w1 w1.heap.size (some ⟨g, 0, none⟩) L P := fun _ => ⟨g, 0, rfl, h.lt, fun j hj => by rw [Nat.zero_add, h.cells j hj, hf j hj]⟩
end Go.Proofs.YtkhebidmfjbhaaaGreatDoor
namespace Go.Proofs.YtkhebidmfjbhaaaGreatDoor
open Go.RowKit

end Go.Proofs.YtkhebidmfjbhaaaGreatDoor
namespace Go.Proofs.YtkhebidmfjbhaaaGreatDoor
open Go.RowKit

/-- The text of a rational number. -/
def qx (a : Rat) : ByteArray := if a.den = 1 then tx a.num else tx a.num ++ ⟨#[47]⟩ ++ tx a.den
theorem join_one (S T : ByteArray) (w : World) (h : (T.toList == [49]) = true) :
    Calls Tryz.prog 88 #[.string S, .string T] w (GivesY S w) := by
  go_enter Tryz.func88, Tryz.ntmps88
  go_wp2
  go_ret
  exact ⟨rfl, Below.refl _ _⟩
theorem join_two (S T : ByteArray) (w : World) (h : (T.toList == [49]) = false) (hs : S.size ≤ 100000) (ht : T.size ≤ 100000) :
    Calls Tryz.prog 88 #[.string S, .string T] w (GivesY (S ++ ⟨#[47]⟩ ++ T) w) := by
  have h1 : ¬ 9223372036854775807 < S.size + 1 := by omega
  have h2 : ¬ 9223372036854775807 < S.size + 1 + T.size := by omega
  go_enter Tryz.func88, Tryz.ntmps88
  go_wp2
  go_ret
  exact ⟨rfl, Below.refl _ _⟩
theorem tx_lit (z u : Int) (l : List UInt8) (h : Lib.itoa u = l) : ((tx z).toList == l) = decide (z = u) := by
  have h0 : (tx u).toList = l := by rw [Lib.toList_data, tx_list]; exact h
  by_cases h1 : z = u
  · rw [h1, h0, decide_eq_true rfl, beq_iff_eq]
  · rw [decide_eq_false h1, beq_eq_false_iff_ne]
    intro e
    rw [← h0, Lib.toList_data, Lib.toList_data] at e
    exact h1 (tx_inj.1 (ba_ext e))
theorem tx_den1 (n : Nat) : ((tx n).toList == [49]) = decide (n = 1) := by
  rw [tx_lit n 1 _ (by simp [Lib.itoa, Lib.decDigits])]; exact decide_eq_decide.mpr (by omega)
theorem tx_sz {z : Int} {k : Nat} (h : dn z ≤ k) : (tx z).size ≤ k + 1 := by have := tx_size z; split at this <;> omega
theorem join_qx (a : Rat) (w : World) (h : dn a.num ≤ 50000) (h' : dn a.den ≤ 50000) :
    Calls Tryz.prog 88 #[.string (tx a.num), .string (tx a.den)] w (GivesY (qx a) w) := by
  have e := tx_den1 a.den
  unfold qx
  split
  · rename_i hd
    rw [decide_eq_true hd] at e
    exact join_one _ _ w e
  · rename_i hd
    rw [decide_eq_false hd] at e
    exact join_two _ _ w e (Nat.le_trans (tx_sz h) (by omega)) (Nat.le_trans (tx_sz h') (by omega))
theorem dig_run {x : Int} {p v : Value} {b : Bool} {W : World} (hx : IntV W p v b x) : Calls Tryz.prog 151 #[.agg #[p, v]] W (GivesI (dn x) W) := by
  have h := digits_any p v _ W hx.1
  rw [dn_abs] at h
  exact h
theorem text_run {x : Int} {p v : Value} {b : Bool} {w W : World} (hx : IntV W p v b x) (tb : Tb w) (hb : Below w.heap.size w W) (h : dn x ≤ 100000) : Calls Tryz.prog 123 #[.agg #[p, v, .bool b]] W (GivesY (tx x) W) := Text_any p v x b W (tb.below hb) hx.1 hx.2 h

/-- The call hands back a text and an error's number. -/
def GivesSn (s : ByteArray) (n : Int) (w : World) (e : Ending) (w' : World) : Prop := e = .returned (.tuple #[.string s, .int .i64 n]) ∧ Below w.heap.size w w'

set_option maxHeartbeats 4000000 in
set_option maxRecDepth 100000 in
theorem rtext_ok (px vx : Value) (ix : Bool) (py vy : Value) (iy : Bool) (x y : Int) (w : World) (hx : IntV w px vx ix x) (hy : IntV w py vy iy y) (tb : Tb w) (Q : ByteArray) (hq : ∀ W, Calls Tryz.prog 88 #[.string (tx x), .string (tx y)] W (GivesY Q W)) (h1 : dn x ≤ 1000) (h2 : dn y ≤ 1000) :
    Calls Tryz.prog 103 #[.agg #[px, vx, .bool ix, py, vy, .bool iy]] w (GivesSn Q 0 w) := by
  obtain ⟨M, hM⟩ : ∃ M : Int, max (dn x : Int) (dn y : Int) = M := ⟨_, rfl⟩
  have hM2 : M ≤ 1000 := by omega
  have hM1 : decide (1000 < M) = false := decide_eq_false (by omega)
  have D1 := Lib.hid (show dn x ≤ 100000 by omega)
  have D2 := Lib.hid (show dn y ≤ 100000 by omega)
  have TB := Lib.hid tb
  obtain ⟨S, hS⟩ : ∃ S, tx x = S := ⟨_, rfl⟩
  obtain ⟨T, hT⟩ : ∃ T, tx y = T := ⟨_, rfl⟩
  rw [hS, hT] at hq
  have JO := Lib.hid hq
  have HS := Lib.hid hS
  have HT := Lib.hid hT
  clear hS hT hM2 tb
  obtain ⟨xt, xa, xn, rfl, rfl, -, -, -, -, -, -⟩ := hx.1.form
  obtain ⟨xs, hxs⟩ : ∃ s, s = ix := ⟨_, rfl⟩; subst hxs
  obtain ⟨yt, ya, yn, rfl, rfl, -, -, -, -, -, -⟩ := hy.1.form
  obtain ⟨ys, hys⟩ : ∃ s, s = iy := ⟨_, rfl⟩; subst hys
  obtain ⟨W0, hW0⟩ : ∃ W0, W0 = (w.alloc (.cells #[.int .u64 xt, .slice xa xn xn, .bool xs, .int .u64 yt, .slice ya yn yn, .bool ys] 76)) := ⟨_, rfl⟩
  have ST : St w W0 [(w.heap.size, .int .u64 xt, .slice xa xn xn, xs, .int .u64 yt, .slice ya yn yn, ys)] [] [(.int .u64 yt, .slice ya yn yn, ys, y), (.int .u64 xt, .slice xa xn xn, xs, x)] := by
    rw [hW0]
    exact (((St.zero).know hx).know hy).allocR (k := w.heap.size) (t := 76) (by first | rfl | (simp; done) | (simp; omega))
  replace ST := Lib.hid ST
  clear hx hy h1 h2 hq
  go_enter Tryz.func103, Tryz.ntmps103
  go_wp2_with fail
  rw [← hW0]
  clear hW0
  go_upto_region 1 with fail
  go_region_held3 (fun W => (W.cell? ⟨w.heap.size, 0, none⟩ = some (.int .u64 xt) ∧ W.cell? ⟨w.heap.size, 1, none⟩ = some (.slice xa xn xn) ∧ W.cell? ⟨w.heap.size, 2, none⟩ = some (.bool xs) ∧ W.cell? ⟨w.heap.size, 3, none⟩ = some (.int .u64 yt) ∧ W.cell? ⟨w.heap.size, 4, none⟩ = some (.slice ya yn yn) ∧ W.cell? ⟨w.heap.size, 5, none⟩ = some (.bool ys))) ((exact St.rat (w := w) (by ((with_reducible iterate 4 try first | apply St.drew | apply St.alloc | apply St.allocR | apply St.putR); ((with_reducible exact ST.out); all_goals (first | rfl | (simp; done) | (simp; omega))))) (by with_reducible ((repeat ((fail_if_success exact mem0); apply List.mem_cons_of_mem)); exact mem0)))) (first | (go_at_call 151; refine St.arm (w := w) (by ((with_reducible iterate 4 try first | apply St.drew | apply St.alloc | apply St.allocR | apply St.putR); ((with_reducible exact ST.out); all_goals (first | rfl | (simp; done) | (simp; omega))))) (by intro H; with_reducible exact dig_run (x := x) (H.int (by with_reducible ((repeat ((fail_if_success exact mem0); apply List.mem_cons_of_mem)); exact mem0)))) ?_; rintro e w1 ⟨⟨rfl, hb1⟩, H⟩; replace ST := Lib.hid (H.call hb1); clear hb1 H) | (go_at_call 151; refine St.arm (w := w) (by ((with_reducible iterate 4 try first | apply St.drew | apply St.alloc | apply St.allocR | apply St.putR); ((with_reducible exact ST.out); all_goals (first | rfl | (simp; done) | (simp; omega))))) (by intro H; with_reducible exact dig_run (x := y) (H.int (by with_reducible ((repeat ((fail_if_success exact mem0); apply List.mem_cons_of_mem)); exact mem0)))) ?_; rintro e w2 ⟨⟨rfl, hb2⟩, H⟩; replace ST := Lib.hid (H.call hb2); clear hb2 H) | fail)
  go_upto_region 3 with fail
  go_region_held3 (fun W => (W.cell? ⟨w.heap.size, 0, none⟩ = some (.int .u64 xt) ∧ W.cell? ⟨w.heap.size, 1, none⟩ = some (.slice xa xn xn) ∧ W.cell? ⟨w.heap.size, 2, none⟩ = some (.bool xs) ∧ W.cell? ⟨w.heap.size, 3, none⟩ = some (.int .u64 yt) ∧ W.cell? ⟨w.heap.size, 4, none⟩ = some (.slice ya yn yn) ∧ W.cell? ⟨w.heap.size, 5, none⟩ = some (.bool ys))) ((exact St.rat (w := w) (by ((with_reducible iterate 4 try first | apply St.drew | apply St.alloc | apply St.allocR | apply St.putR); ((with_reducible exact ST.out); all_goals (first | rfl | (simp; done) | (simp; omega))))) (by with_reducible ((repeat ((fail_if_success exact mem0); apply List.mem_cons_of_mem)); exact mem0)))) (first | (go_at_call 123; refine St.arm (w := w) (by ((with_reducible iterate 4 try first | apply St.drew | apply St.alloc | apply St.allocR | apply St.putR); ((with_reducible exact ST.out); all_goals (first | rfl | (simp; done) | (simp; omega))))) (by intro H; with_reducible exact text_run (x := x) (H.int (by with_reducible ((repeat ((fail_if_success exact mem0); apply List.mem_cons_of_mem)); exact mem0))) TB.out H.below D1.out) ?_; rintro e w3 ⟨⟨rfl, hb3⟩, H⟩; replace ST := Lib.hid (H.call hb3); clear hb3 H; rw [HS.out]) | (go_at_call 123; refine St.arm (w := w) (by ((with_reducible iterate 4 try first | apply St.drew | apply St.alloc | apply St.allocR | apply St.putR); ((with_reducible exact ST.out); all_goals (first | rfl | (simp; done) | (simp; omega))))) (by intro H; with_reducible exact text_run (x := y) (H.int (by with_reducible ((repeat ((fail_if_success exact mem0); apply List.mem_cons_of_mem)); exact mem0))) TB.out H.below D2.out) ?_; rintro e w4 ⟨⟨rfl, hb4⟩, H⟩; replace ST := Lib.hid (H.call hb4); clear hb4 H; rw [HT.out]) | (go_at_call 88; refine St.arm (w := w) (by ((with_reducible iterate 4 try first | apply St.drew | apply St.alloc | apply St.allocR | apply St.putR); ((with_reducible exact ST.out); all_goals (first | rfl | (simp; done) | (simp; omega))))) (by intro H; with_reducible exact JO.out _) ?_; rintro e w5 ⟨⟨rfl, hb5⟩, H⟩; replace ST := Lib.hid (H.call hb5); clear hb5 H) | fail)
  all_goals
    go_wp2
    exact bodyPost_ret (v := .tuple #[.string Q, .int .i64 0]) (by simp [results, Tryz.results103, go_sem]) rfl ⟨rfl, ST.out.below⟩
set_option maxHeartbeats 4000000 in
set_option maxRecDepth 100000 in
theorem rtext_long (px vx : Value) (ix : Bool) (py vy : Value) (iy : Bool) (x y : Int) (w : World) (hx : IntV w px vx ix x) (hy : IntV w py vy iy y) (h : ¬ (dn x ≤ 1000 ∧ dn y ≤ 1000)) :
    Calls Tryz.prog 103 #[.agg #[px, vx, .bool ix, py, vy, .bool iy]] w (GivesSn ⟨#[]⟩ 3 w) := by
  obtain ⟨M, hM⟩ : ∃ M : Int, max (dn x : Int) (dn y : Int) = M := ⟨_, rfl⟩
  have hM1 : decide (1000 < M) = true := decide_eq_true (by omega)
  obtain ⟨xt, xa, xn, rfl, rfl, -, -, -, -, -, -⟩ := hx.1.form
  obtain ⟨xs, hxs⟩ : ∃ s, s = ix := ⟨_, rfl⟩; subst hxs
  obtain ⟨yt, ya, yn, rfl, rfl, -, -, -, -, -, -⟩ := hy.1.form
  obtain ⟨ys, hys⟩ : ∃ s, s = iy := ⟨_, rfl⟩; subst hys
  obtain ⟨W0, hW0⟩ : ∃ W0, W0 = (w.alloc (.cells #[.int .u64 xt, .slice xa xn xn, .bool xs, .int .u64 yt, .slice ya yn yn, .bool ys] 76)) := ⟨_, rfl⟩
  have ST : St w W0 [(w.heap.size, .int .u64 xt, .slice xa xn xn, xs, .int .u64 yt, .slice ya yn yn, ys)] [] [(.int .u64 yt, .slice ya yn yn, ys, y), (.int .u64 xt, .slice xa xn xn, xs, x)] := by
    rw [hW0]
    exact (((St.zero).know hx).know hy).allocR (k := w.heap.size) (t := 76) (by first | rfl | (simp; done) | (simp; omega))
  replace ST := Lib.hid ST
  clear hx hy h
  go_enter Tryz.func103, Tryz.ntmps103
  go_wp2_with fail
  rw [← hW0]
  clear hW0
  go_upto_region 1 with fail
  go_region_held3 (fun W => (W.cell? ⟨w.heap.size, 0, none⟩ = some (.int .u64 xt) ∧ W.cell? ⟨w.heap.size, 1, none⟩ = some (.slice xa xn xn) ∧ W.cell? ⟨w.heap.size, 2, none⟩ = some (.bool xs) ∧ W.cell? ⟨w.heap.size, 3, none⟩ = some (.int .u64 yt) ∧ W.cell? ⟨w.heap.size, 4, none⟩ = some (.slice ya yn yn) ∧ W.cell? ⟨w.heap.size, 5, none⟩ = some (.bool ys))) ((exact St.rat (w := w) (by ((with_reducible iterate 4 try first | apply St.drew | apply St.alloc | apply St.allocR | apply St.putR); ((with_reducible exact ST.out); all_goals (first | rfl | (simp; done) | (simp; omega))))) (by with_reducible ((repeat ((fail_if_success exact mem0); apply List.mem_cons_of_mem)); exact mem0)))) (first | (go_at_call 151; refine St.arm (w := w) (by ((with_reducible iterate 4 try first | apply St.drew | apply St.alloc | apply St.allocR | apply St.putR); ((with_reducible exact ST.out); all_goals (first | rfl | (simp; done) | (simp; omega))))) (by intro H; with_reducible exact dig_run (x := x) (H.int (by with_reducible ((repeat ((fail_if_success exact mem0); apply List.mem_cons_of_mem)); exact mem0)))) ?_; rintro e w1 ⟨⟨rfl, hb1⟩, H⟩; replace ST := Lib.hid (H.call hb1); clear hb1 H) | (go_at_call 151; refine St.arm (w := w) (by ((with_reducible iterate 4 try first | apply St.drew | apply St.alloc | apply St.allocR | apply St.putR); ((with_reducible exact ST.out); all_goals (first | rfl | (simp; done) | (simp; omega))))) (by intro H; with_reducible exact dig_run (x := y) (H.int (by with_reducible ((repeat ((fail_if_success exact mem0); apply List.mem_cons_of_mem)); exact mem0)))) ?_; rintro e w2 ⟨⟨rfl, hb2⟩, H⟩; replace ST := Lib.hid (H.call hb2); clear hb2 H) | fail)
  all_goals
    go_wp2
    exact bodyPost_ret (v := .tuple #[.string ⟨#[]⟩, .int .i64 3]) (by simp [results, Tryz.results103, go_sem]) rfl ⟨rfl, ST.out.below⟩
/-- The text of a rational number, or the error that it is too long. -/
def GivesQx (a : Rat) (w : World) (e : Ending) (w' : World) : Prop := GivesSn (if dn a.num ≤ 1000 ∧ dn a.den ≤ 1000 then qx a else ⟨#[]⟩) (if dn a.num ≤ 1000 ∧ dn a.den ≤ 1000 then 0 else 3) w e w'
theorem ratext_any (p v : Value) (b : Bool) (q u : Value) (c : Bool) (a : Rat) (w : World) (tb : Tb w) (hx : IntV w p v b a.num) (hy : IntV w q u c a.den) :
    Calls Tryz.prog 103 #[.agg #[p, v, .bool b, q, u, .bool c]] w (GivesQx a w) := by
  unfold GivesQx
  by_cases h : dn a.num ≤ 1000 ∧ dn a.den ≤ 1000
  · rw [if_pos h, if_pos h]
    exact rtext_ok p v b q u c _ _ w hx hy tb _ (fun W => join_qx a W (by omega) (by omega)) h.1 h.2
  · rw [if_neg h, if_neg h]
    exact rtext_long p v b q u c _ _ w hx hy h

end Go.Proofs.YtkhebidmfjbhaaaGreatDoor
namespace Go.Proofs.YtkhebidmfjbhaaaGreatDoor
open Go.RowKit

theorem number_tx (z : Int) (w : World) (hz : dn z ≤ 1000) :
    Calls Tryz.prog 115 #[.string (tx z)] w (GivesP z w) := by
  have VL := Lib.hid (fun w => Valid_tx z w hz)
  have CT := Lib.hid (fun w => cut_any (tx z) w)
  rw [dg_tx, neg_tx] at CT
  have RD := Lib.hid (fun w => Read_td z w (by omega))
  have S0 := Lib.hid (Res.new w 74 w.heap.size rfl)
  have B0 := Lib.hid (alloc_below w (.cells #[.int .u64 0, .slice none 0 0, .bool false] 74))
  obtain ⟨b, hb⟩ : ∃ b, b = decide (z < 0) := ⟨_, rfl⟩
  obtain ⟨D, hD⟩ : ∃ D, D = td z.natAbs := ⟨_, rfl⟩
  rw [← hb, ← hD] at CT RD
  obtain ⟨X, hX⟩ : ∃ X, X = tx z := ⟨_, rfl⟩
  rw [← hX] at CT VL ⊢
  have HB := Lib.hid hb
  clear hb hD hX
  go_enter Tryz.func115, Tryz.ntmps115
  go_wp2_with fail
  refine (VL.out _).mono ?_
  rintro e w' ⟨rfl, rfl⟩
  go_wp2_with fail
  refine (CT.out _).mono ?_
  rintro e w' ⟨rfl, rfl⟩
  go_wp2_with fail
  refine (RD.out _).mono ?_
  rintro e w2 ⟨p2, v2, rfl, hv2, hb2⟩
  rw [← HB.out]
  have S2 := Lib.hid (S0.out.below hb2 (by simp))
  have B2 := Lib.hid (B0.out.trans (hb2.mono (by simp)))
  have H2 := Lib.hid hv2
  obtain ⟨t9, a9, n9, rfl, rfl, -, -, -, -, -, -⟩ := hv2.form
  clear hv2 hb2
  obtain ⟨r0, r1, r2, r3, r4, r5⟩ := S2.out
  go_wp2
  exact bodyPost_ret (v := .tuple #[.agg #[.int .u64 t9, .slice a9 n9 n9, .bool b], .bool true]) (by simp [results, Tryz.results115, go_sem, r0, r1, r2]) rfl ⟨_, _, by rw [← HB.out], H2.out.put3 r1 r2 _ _ _, below_set (below_set (below_set B2.out 0 (Nat.le_refl _) _) 1 (Nat.le_refl _) _) 2 (Nat.le_refl _) _⟩
theorem number_no (s : ByteArray) (w : World) (hm : s.size ≤ 9223372036854775807) (h : isT s.data.toList = false) :
    Calls Tryz.prog 115 #[.string s] w (GivesP0 w) := by
  have VL := Lib.hid (fun w => Valid_bad s w hm h)
  clear h
  go_enter Tryz.func115, Tryz.ntmps115
  go_wp2_with fail
  refine (VL.out _).mono ?_
  rintro e w' ⟨rfl, rfl⟩
  go_wp2
  exact bodyPost_ret (v := .tuple #[.agg #[.int .u64 0, .slice none 0 0, .bool false], .bool false]) (by simp [results, Tryz.results115, go_sem]) rfl ⟨rfl, (Below.refl _ _).alloc (Nat.le_refl _) _⟩
end Go.Proofs.YtkhebidmfjbhaaaGreatDoor
