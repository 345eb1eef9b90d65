/-
  What the reference's Plus, Opposite, Minus, Compare and Positive return.
  What the reference's Times returns.
  Appends to a row of the call's own, and where the new row lies; numbers in rows with a known place.
  What the reference's Valid, Long and Is return.
  What the reference's exported functions return: limited, Sign, Cmp, Neg, Abs, Add, Sub, Mul.
-/
import Derived.Test.YtphbfjcaehiboaaGreatDoorZu
import Derived.BigRegion
import Derived.Lib.IndexBytes
namespace Go.Proofs.YtphbfjcaehiboaaGreatDoor
open Go.RowKit

theorem RowD.below {w w' : World} {a : Option Addr} {n : Nat} {z : Int} (h : RowD w w.heap.size a n z) (hb : Below w.heap.size w w') : RowD w' w'.heap.size a n z := fun h0 => by
  obtain ⟨g, o, e, hg, hc⟩ := h h0
  exact ⟨g, o, e, Nat.lt_of_lt_of_le hg hb.size, fun j hj => (below_at hb (o + j) hg).trans (hc j hj)⟩
/-- The value of a short integer, 0 of another one. -/
def sv (z : Int) : Int := if dn z ≤ 9 then z else 0
theorem rshort_any (z : Int) (w : World) (hd : dn z ≤ 100000) :
    Calls Tryz.prog 85 #[.string (tx z)] w fun e w' => e = .returned (.tuple #[.int .i64 (sv z), .bool (decide (dn z ≤ 9))]) ∧ w = w' := by
  unfold sv
  by_cases h : dn z ≤ 9
  · rw [if_pos h, decide_eq_true h]; exact rshort_yes z w h
  · rw [if_neg h, decide_eq_false h]; exact rshort_no z w hd (by omega)
theorem rdg (z : Int) (p : Bool) (Z : Int) (n : Nat) (T : ByteArray) (hp : p = decide (z < 0)) (hZ : Z = z.natAbs) (hn : n = Ten.nl Z) (hT : T = tx z) (w : World) (hd : dn z ≤ 100000) :
    Calls Tryz.prog 73 #[.string T] w fun e w' => ∃ a c, e = .returned (.tuple #[.bool p, .slice a n c]) ∧ n ≤ c ∧ RowD w' w'.heap.size a n Z ∧ Below w.heap.size w w' := by
  subst hn hZ hp hT
  refine (rdigits_any z w hd).mono ?_
  rintro e w' ⟨a, c, h1, h2, h3, h4, _⟩
  exact ⟨a, c, h1, h2, h3, h4⟩
theorem rdg2 (z : Int) (p : Bool) (Z : Int) (n : Nat) (T : ByteArray) (hp : p = decide (z < 0)) (hZ : Z = z.natAbs) (hn : n = Ten.nl Z) (hT : T = tx z) (w : World) (hd : dn z ≤ 100000) :
    Calls Tryz.prog 73 #[.string T] w fun e w' => ∃ g o c, e = .returned (.tuple #[.bool p, .slice (some ⟨g, o, none⟩) n c]) ∧ n ≤ c ∧ g < w'.heap.size ∧ RowD w' w'.heap.size (some ⟨g, o, none⟩) n Z ∧ Below w.heap.size w w' := by
  subst hn hZ hp hT
  refine (rdigits_any z w hd).mono ?_
  rintro e w' ⟨a, c, h1, h2, h3, h4, g, o, h5, h6⟩
  subst h5
  exact ⟨g, o, c, h1, h2, h6, h3, h4⟩
theorem sv_bd {z : Int} (h : dn z ≤ 9) : -1000000000 < z ∧ z < 1000000000 := by
  have h1 := dn_lt (x := (z.natAbs : Int)) (by omega)
  rw [dn_abs] at h1
  have h2 := Ten.bp_mono h
  have h3 : Ten.bp 9 = 1000000000 := by decide
  omega
theorem rplus_short (x y : Int) (w : World) (h1 : dn x ≤ 9) (h2 : dn y ≤ 9) :
    Calls Tryz.prog 51 #[.string (tx x), .string (tx y)] w (GivesY (tx (x + y)) w) := by
  have SX := Lib.hid (fun W => rshort_yes x W h1)
  have SY := Lib.hid (fun W => rshort_yes y W h2)
  obtain ⟨e1, e2⟩ := sv_bd h1
  obtain ⟨e3, e4⟩ := sv_bd h2
  have NB := Lib.hid (fun W => rnumber_any (x + y) W (by omega) (by omega))
  obtain ⟨A, hA⟩ : ∃ T, T = tx x := ⟨_, rfl⟩
  obtain ⟨B, hB⟩ : ∃ T, T = tx y := ⟨_, rfl⟩
  obtain ⟨T, hT⟩ : ∃ T, T = tx (x + y) := ⟨_, rfl⟩
  rw [← hA] at SX ⊢
  rw [← hB] at SY ⊢
  rw [← hT] at NB ⊢
  clear hA hB hT h1 h2
  go_enter Tryz.func51, Tryz.ntmps51
  go_wp2_with fail
  refine (SX.out w).mono ?_
  rintro e w' ⟨rfl, rfl⟩
  go_wp2_with fail
  refine (SY.out w).mono ?_
  rintro e w' ⟨rfl, rfl⟩
  go_wp2_with fail
  refine (NB.out w).mono ?_
  rintro e w' ⟨rfl, hb⟩
  have HB := Lib.hid hb
  clear hb
  go_wp2
  go_ret
  exact ⟨rfl, HB.out⟩
set_option maxHeartbeats 2000000 in
set_option maxRecDepth 100000 in
theorem rplus_long (x y : Int) (w : World) (hx : dn x ≤ 50000) (hy : dn y ≤ 50000) (h9 : ¬ (dn x ≤ 9 ∧ dn y ≤ 9)) :
    Calls Tryz.prog 51 #[.string (tx x), .string (tx y)] w (GivesY (tx (x + y)) w) := by
  have SX := Lib.hid (fun W => rshort_any x W (by omega))
  have SY := Lib.hid (fun W => rshort_any y W (by omega))
  obtain ⟨b1, hb1⟩ : ∃ b, b = decide (dn x ≤ 9) := ⟨_, rfl⟩
  obtain ⟨b2, hb2⟩ : ∃ b, b = decide (dn y ≤ 9) := ⟨_, rfl⟩
  obtain ⟨m1, hm1⟩ : ∃ m, m = sv x := ⟨_, rfl⟩
  obtain ⟨m2, hm2⟩ : ∃ m, m = sv y := ⟨_, rfl⟩
  obtain ⟨A, hA⟩ : ∃ T, T = tx x := ⟨_, rfl⟩
  obtain ⟨B, hB⟩ : ∃ T, T = tx y := ⟨_, rfl⟩
  rw [← hb1, ← hm1, ← hA] at SX
  rw [← hb2, ← hm2, ← hB] at SY
  have hbb : b1 = false ∨ b1 = true ∧ b2 = false := by
    rw [hb1, hb2]
    by_cases h1 : dn x ≤ 9 <;> by_cases h2 : dn y ≤ 9 <;> simp [h1, h2]
    exact h9 ⟨h1, h2⟩
  obtain ⟨px, hpx⟩ : ∃ b, b = decide (x < 0) := ⟨_, rfl⟩
  obtain ⟨qy, hqy⟩ : ∃ b, b = decide (y < 0) := ⟨_, rfl⟩
  obtain ⟨X, hX⟩ : ∃ X : Int, X = x.natAbs := ⟨_, rfl⟩
  obtain ⟨Y, hY⟩ : ∃ Y : Int, Y = y.natAbs := ⟨_, rfl⟩
  obtain ⟨n, hn⟩ : ∃ n, n = Ten.nl X := ⟨_, rfl⟩
  obtain ⟨k, hk⟩ : ∃ k, k = Ten.nl Y := ⟨_, rfl⟩
  have DX := Lib.hid (fun W => rdg x px X n A hpx hX hn hA W (by omega))
  have DY := Lib.hid (fun W => rdg y qy Y k B hqy hY hk hB W (by omega))
  have HX0 : Hid (0 ≤ X) := Lib.hid (by omega)
  have HY0 : Hid (0 ≤ Y) := Lib.hid (by omega)
  have HXL : Hid (X < Ten.bp n) := Lib.hid (by rw [hn]; exact Ten.nl_lt HX0.out)
  have HYL : Hid (Y < Ten.bp k) := Lib.hid (by rw [hk]; exact Ten.nl_lt HY0.out)
  have hnn : n ≤ 50000 := by
    refine Nat.le_trans (hn ▸ Ten.nl_le ?_) hx
    have := dn_lt HX0.out
    rwa [hX, dn_abs, ← hX] at this
  have hkk : k ≤ 50000 := by
    refine Nat.le_trans (hk ▸ Ten.nl_le ?_) hy
    have := dn_lt HY0.out
    rwa [hY, dn_abs, ← hY] at this
  have HN1 := Lib.hid hn
  have HN2 := Lib.hid hk
  have HR : Hid ((px = qy → (if px = true then -(X + Y) else X + Y) = x + y) ∧ (¬ px = qy → (X < Y → (if qy = true then -(Y - X) else Y - X) = x + y) ∧ (Y ≤ X → (if px = true then -(X - Y) else X - Y) = x + y))) := Lib.hid (by
    rw [hpx, hqy]
    by_cases h1 : x < 0 <;> by_cases h2 : y < 0 <;> simp [h1, h2] <;> omega)
  rw [← hA, ← hB]
  clear hb1 hb2 hm1 hm2 hA hB hpx hqy hX hY hn hk hx hy h9
  go_enter Tryz.func51, Tryz.ntmps51
  go_wp2_with fail
  refine (SX.out w).mono ?_
  rintro e w' ⟨rfl, rfl⟩
  go_wp2_with fail
  refine (SY.out w).mono ?_
  rintro e w' ⟨rfl, rfl⟩
  rcases hbb with rfl | ⟨rfl, rfl⟩
  · go_wp2_with fail
    refine (DX.out w).mono ?_
    rintro e w1 ⟨a1, c1, rfl, hc1, hr1, hb1⟩
    have R1 := Lib.hid hr1
    have B1 := Lib.hid hb1
    have HC1 := Lib.hid hc1
    clear hr1 hb1 hc1
    go_wp2_with fail
    refine (DY.out w1).mono ?_
    rintro e w2 ⟨a2, c2, rfl, hc2, hr2, hb2⟩
    replace R1 := Lib.hid (R1.out.below hb2)
    have R2 := Lib.hid hr2
    have HC2 := Lib.hid hc2
    have B2 := Lib.hid (B1.out.trans (hb2.mono B1.out.size))
    clear hr2 hb2 hc2
    by_cases hpq : px = qy
    · subst hpq
      have hpp : (px == px) = true := by cases px <;> rfl
      have RS := Lib.hid (HR.out.1 rfl)
      clear HR
      go_wp2_with fail
      refine (rsum_any a1 a2 n c1 k c2 X Y w2 HX0.out HXL.out HY0.out HYL.out (by omega) (by omega) R1.out R2.out).mono ?_
      rintro e w3 ⟨a3, n3, c3, rfl, h31, h32, h33, h34, hr3, hb3⟩
      have R3 := Lib.hid hr3
      have B3 := Lib.hid (B2.out.trans (hb3.mono B2.out.size))
      have H31 := Lib.hid h31
      have H33 := Lib.hid h33
      have H34 := Lib.hid h34
      have h35 : n3 ≤ 1000000 := by omega
      clear h31 h32 h33 h34 hr3 hb3
      go_wp2_with fail
      refine (rtext_any px a3 n3 c3 (X + Y) w3 H33.out H34.out H31.out h35 R3.out).mono ?_
      rintro e w4 ⟨rfl, hb4⟩
      have B4 := Lib.hid (B3.out.trans (hb4.mono B3.out.size))
      rw [RS.out]
      obtain ⟨T, hT⟩ : ∃ T, T = tx (x + y) := ⟨_, rfl⟩
      rw [← hT]
      have HT := Lib.hid hT
      clear hb4 hT
      go_wp2
      go_ret
      exact ⟨ret_s HT.out, B4.out⟩
    · have hpp : (px == qy) = false := by rw [beq_eq_false_iff_ne]; exact hpq
      have RD := Lib.hid (HR.out.2 hpq)
      clear HR
      go_wp2_with fail
      refine (rsize_any a1 a2 n c1 k c2 X Y w2 HX0.out HY0.out HN1.out HN2.out (by omega) (by omega) R1.out R2.out).mono ?_
      rintro e w3 ⟨rfl, hb3⟩
      replace R1 := Lib.hid (R1.out.below hb3)
      replace R2 := Lib.hid (R2.out.below hb3)
      have B3 := Lib.hid (B2.out.trans (hb3.mono B2.out.size))
      clear hb3
      by_cases hxy : X < Y
      · have hcm : cmp3 X Y < 0 := by rw [cmp3_lt hxy]; decide
        have HXY := Lib.hid hxy
        have RS := Lib.hid (RD.out.1 hxy)
        generalize cmp3 X Y = cm at *
        clear hxy RD
        go_wp2_with fail
        refine (rdiff_any a2 a1 k c2 n c1 Y X w3 HY0.out HYL.out HX0.out HXL.out (Int.le_of_lt HXY.out) (by omega) (by omega) R2.out R1.out).mono ?_
        rintro e w4 ⟨a4, c4, rfl, h41, h42, hr4, hb4, _⟩
        have R4 := Lib.hid hr4
        have B4 := Lib.hid (B3.out.trans (hb4.mono B3.out.size))
        have H41 := Lib.hid h41
        have H43 := Lib.hid (Ten.nl_lt h42)
        have H42 := Lib.hid h42
        have H44 : Hid (Ten.nl (Y - X) ≤ 1000000) := Lib.hid (Nat.le_trans (Ten.nl_le (k := k) (by have := HYL.out; have := HX0.out; omega)) (by omega))
        clear h41 h42 hr4 hb4
        obtain ⟨n4, hn4⟩ : ∃ n4, n4 = Ten.nl (Y - X) := ⟨_, rfl⟩
        rw [← hn4] at R4 H41 H43 H44 ⊢
        clear hn4
        go_wp2_with fail
        refine (rtext_any qy a4 n4 c4 (Y - X) w4 H42.out H43.out H41.out H44.out R4.out).mono ?_
        rintro e w5 ⟨rfl, hb5⟩
        have B5 := Lib.hid (B4.out.trans (hb5.mono B4.out.size))
        rw [RS.out]
        obtain ⟨T, hT⟩ : ∃ T, T = tx (x + y) := ⟨_, rfl⟩
        rw [← hT]
        have HT := Lib.hid hT
        clear hb5 hT
        go_wp2
        go_ret
        exact ⟨ret_s HT.out, B5.out⟩
      · have hcm : ¬ cmp3 X Y < 0 := by
          rcases Decidable.em (Y < X) with h | h
          · rw [cmp3_gt h]; decide
          · rw [show X = Y by omega, cmp3_eq]; decide
        have hyx : Y ≤ X := by omega
        have HXY := Lib.hid hyx
        have RS := Lib.hid (RD.out.2 hyx)
        generalize cmp3 X Y = cm at *
        clear hxy hyx RD
        go_wp2_with fail
        refine (rdiff_any a1 a2 n c1 k c2 X Y w3 HX0.out HXL.out HY0.out HYL.out HXY.out (by omega) (by omega) R1.out R2.out).mono ?_
        rintro e w4 ⟨a4, c4, rfl, h41, h42, hr4, hb4, _⟩
        have R4 := Lib.hid hr4
        have B4 := Lib.hid (B3.out.trans (hb4.mono B3.out.size))
        have H41 := Lib.hid h41
        have H43 := Lib.hid (Ten.nl_lt h42)
        have H42 := Lib.hid h42
        have H44 : Hid (Ten.nl (X - Y) ≤ 1000000) := Lib.hid (Nat.le_trans (Ten.nl_le (k := n) (by have := HXL.out; have := HY0.out; omega)) (by omega))
        clear h41 h42 hr4 hb4
        obtain ⟨n4, hn4⟩ : ∃ n4, n4 = Ten.nl (X - Y) := ⟨_, rfl⟩
        rw [← hn4] at R4 H41 H43 H44 ⊢
        clear hn4
        go_wp2_with fail
        refine (rtext_any px a4 n4 c4 (X - Y) w4 H42.out H43.out H41.out H44.out R4.out).mono ?_
        rintro e w5 ⟨rfl, hb5⟩
        have B5 := Lib.hid (B4.out.trans (hb5.mono B4.out.size))
        rw [RS.out]
        obtain ⟨T, hT⟩ : ∃ T, T = tx (x + y) := ⟨_, rfl⟩
        rw [← hT]
        have HT := Lib.hid hT
        clear hb5 hT
        go_wp2
        go_ret
        exact ⟨ret_s HT.out, B5.out⟩
  · go_wp2_with fail
    refine (DX.out w).mono ?_
    rintro e w1 ⟨a1, c1, rfl, hc1, hr1, hb1⟩
    have R1 := Lib.hid hr1
    have B1 := Lib.hid hb1
    have HC1 := Lib.hid hc1
    clear hr1 hb1 hc1
    go_wp2_with fail
    refine (DY.out w1).mono ?_
    rintro e w2 ⟨a2, c2, rfl, hc2, hr2, hb2⟩
    replace R1 := Lib.hid (R1.out.below hb2)
    have R2 := Lib.hid hr2
    have HC2 := Lib.hid hc2
    have B2 := Lib.hid (B1.out.trans (hb2.mono B1.out.size))
    clear hr2 hb2 hc2
    by_cases hpq : px = qy
    · subst hpq
      have hpp : (px == px) = true := by cases px <;> rfl
      have RS := Lib.hid (HR.out.1 rfl)
      clear HR
      go_wp2_with fail
      refine (rsum_any a1 a2 n c1 k c2 X Y w2 HX0.out HXL.out HY0.out HYL.out (by omega) (by omega) R1.out R2.out).mono ?_
      rintro e w3 ⟨a3, n3, c3, rfl, h31, h32, h33, h34, hr3, hb3⟩
      have R3 := Lib.hid hr3
      have B3 := Lib.hid (B2.out.trans (hb3.mono B2.out.size))
      have H31 := Lib.hid h31
      have H33 := Lib.hid h33
      have H34 := Lib.hid h34
      have h35 : n3 ≤ 1000000 := by omega
      clear h31 h32 h33 h34 hr3 hb3
      go_wp2_with fail
      refine (rtext_any px a3 n3 c3 (X + Y) w3 H33.out H34.out H31.out h35 R3.out).mono ?_
      rintro e w4 ⟨rfl, hb4⟩
      have B4 := Lib.hid (B3.out.trans (hb4.mono B3.out.size))
      rw [RS.out]
      obtain ⟨T, hT⟩ : ∃ T, T = tx (x + y) := ⟨_, rfl⟩
      rw [← hT]
      have HT := Lib.hid hT
      clear hb4 hT
      go_wp2
      go_ret
      exact ⟨ret_s HT.out, B4.out⟩
    · have hpp : (px == qy) = false := by rw [beq_eq_false_iff_ne]; exact hpq
      have RD := Lib.hid (HR.out.2 hpq)
      clear HR
      go_wp2_with fail
      refine (rsize_any a1 a2 n c1 k c2 X Y w2 HX0.out HY0.out HN1.out HN2.out (by omega) (by omega) R1.out R2.out).mono ?_
      rintro e w3 ⟨rfl, hb3⟩
      replace R1 := Lib.hid (R1.out.below hb3)
      replace R2 := Lib.hid (R2.out.below hb3)
      have B3 := Lib.hid (B2.out.trans (hb3.mono B2.out.size))
      clear hb3
      by_cases hxy : X < Y
      · have hcm : cmp3 X Y < 0 := by rw [cmp3_lt hxy]; decide
        have HXY := Lib.hid hxy
        have RS := Lib.hid (RD.out.1 hxy)
        generalize cmp3 X Y = cm at *
        clear hxy RD
        go_wp2_with fail
        refine (rdiff_any a2 a1 k c2 n c1 Y X w3 HY0.out HYL.out HX0.out HXL.out (Int.le_of_lt HXY.out) (by omega) (by omega) R2.out R1.out).mono ?_
        rintro e w4 ⟨a4, c4, rfl, h41, h42, hr4, hb4, _⟩
        have R4 := Lib.hid hr4
        have B4 := Lib.hid (B3.out.trans (hb4.mono B3.out.size))
        have H41 := Lib.hid h41
        have H43 := Lib.hid (Ten.nl_lt h42)
        have H42 := Lib.hid h42
        have H44 : Hid (Ten.nl (Y - X) ≤ 1000000) := Lib.hid (Nat.le_trans (Ten.nl_le (k := k) (by have := HYL.out; have := HX0.out; omega)) (by omega))
        clear h41 h42 hr4 hb4
        obtain ⟨n4, hn4⟩ : ∃ n4, n4 = Ten.nl (Y - X) := ⟨_, rfl⟩
        rw [← hn4] at R4 H41 H43 H44 ⊢
        clear hn4
        go_wp2_with fail
        refine (rtext_any qy a4 n4 c4 (Y - X) w4 H42.out H43.out H41.out H44.out R4.out).mono ?_
        rintro e w5 ⟨rfl, hb5⟩
        have B5 := Lib.hid (B4.out.trans (hb5.mono B4.out.size))
        rw [RS.out]
        obtain ⟨T, hT⟩ : ∃ T, T = tx (x + y) := ⟨_, rfl⟩
        rw [← hT]
        have HT := Lib.hid hT
        clear hb5 hT
        go_wp2
        go_ret
        exact ⟨ret_s HT.out, B5.out⟩
      · have hcm : ¬ cmp3 X Y < 0 := by
          rcases Decidable.em (Y < X) with h | h
          · rw [cmp3_gt h]; decide
          · rw [show X = Y by omega, cmp3_eq]; decide
        have hyx : Y ≤ X := by omega
        have HXY := Lib.hid hyx
        have RS := Lib.hid (RD.out.2 hyx)
        generalize cmp3 X Y = cm at *
        clear hxy hyx RD
        go_wp2_with fail
        refine (rdiff_any a1 a2 n c1 k c2 X Y w3 HX0.out HXL.out HY0.out HYL.out HXY.out (by omega) (by omega) R1.out R2.out).mono ?_
        rintro e w4 ⟨a4, c4, rfl, h41, h42, hr4, hb4, _⟩
        have R4 := Lib.hid hr4
        have B4 := Lib.hid (B3.out.trans (hb4.mono B3.out.size))
        have H41 := Lib.hid h41
        have H43 := Lib.hid (Ten.nl_lt h42)
        have H42 := Lib.hid h42
        have H44 : Hid (Ten.nl (X - Y) ≤ 1000000) := Lib.hid (Nat.le_trans (Ten.nl_le (k := n) (by have := HXL.out; have := HY0.out; omega)) (by omega))
        clear h41 h42 hr4 hb4
        obtain ⟨n4, hn4⟩ : ∃ n4, n4 = Ten.nl (X - Y) := ⟨_, rfl⟩
        rw [← hn4] at R4 H41 H43 H44 ⊢
        clear hn4
        go_wp2_with fail
        refine (rtext_any px a4 n4 c4 (X - Y) w4 H42.out H43.out H41.out H44.out R4.out).mono ?_
        rintro e w5 ⟨rfl, hb5⟩
        have B5 := Lib.hid (B4.out.trans (hb5.mono B4.out.size))
        rw [RS.out]
        obtain ⟨T, hT⟩ : ∃ T, T = tx (x + y) := ⟨_, rfl⟩
        rw [← hT]
        have HT := Lib.hid hT
        clear hb5 hT
        go_wp2
        go_ret
        exact ⟨ret_s HT.out, B5.out⟩
theorem rplus_any (x y : Int) (w : World) (hx : dn x ≤ 50000) (hy : dn y ≤ 50000) :
    Calls Tryz.prog 51 #[.string (tx x), .string (tx y)] w (GivesY (tx (x + y)) w) := by
  by_cases h : dn x ≤ 9 ∧ dn y ≤ 9
  · exact rplus_short x y w h.1 h.2
  · exact rplus_long x y w hx hy h
theorem ropp_any (x : Int) (w : World) (hx : dn x ≤ 50000) :
    Calls Tryz.prog 43 #[.string (tx x)] w (GivesY (tx (-x)) w) := by
  obtain ⟨px, hpx⟩ : ∃ b, b = decide (x < 0) := ⟨_, rfl⟩
  obtain ⟨X, hX⟩ : ∃ X : Int, X = x.natAbs := ⟨_, rfl⟩
  obtain ⟨n, hn⟩ : ∃ n, n = Ten.nl X := ⟨_, rfl⟩
  obtain ⟨A, hA⟩ : ∃ T, T = tx x := ⟨_, rfl⟩
  have DX := Lib.hid (fun W => rdg x px X n A hpx hX hn hA W (by omega))
  have HX0 : Hid (0 ≤ X) := Lib.hid (by omega)
  have HXL : Hid (X < Ten.bp n) := Lib.hid (by rw [hn]; exact Ten.nl_lt HX0.out)
  have hnn : n ≤ 50000 := by
    refine Nat.le_trans (hn ▸ Ten.nl_le ?_) hx
    have := dn_lt HX0.out
    rwa [hX, dn_abs, ← hX] at this
  have RS : Hid ((if (!px) = true then -X else X) = -x) := Lib.hid (by
    rw [hpx]
    by_cases h1 : x < 0 <;> simp [h1] <;> omega)
  rw [← hA]
  clear hA hpx hX hn hx
  go_enter Tryz.func43, Tryz.ntmps43
  go_wp2_with fail
  refine (DX.out w).mono ?_
  rintro e w1 ⟨a1, c1, rfl, hc1, hr1, hb1⟩
  have R1 := Lib.hid hr1
  have B1 := Lib.hid hb1
  have HC1 := Lib.hid hc1
  clear hr1 hb1 hc1
  go_wp2_with fail
  refine (rtext_any (!px) a1 n c1 X w1 HX0.out HXL.out HC1.out (by omega) R1.out).mono ?_
  rintro e w4 ⟨rfl, hb4⟩
  have B4 := Lib.hid (B1.out.trans (hb4.mono B1.out.size))
  rw [RS.out]
  obtain ⟨T, hT⟩ : ∃ T, T = tx (-x) := ⟨_, rfl⟩
  rw [← hT]
  have HT := Lib.hid hT
  clear hb4 hT
  go_wp2
  go_ret
  exact ⟨ret_s HT.out, B4.out⟩
theorem rpos_any (x : Int) (w : World) (hx : dn x ≤ 50000) :
    Calls Tryz.prog 44 #[.string (tx x)] w (GivesY (tx (x.natAbs : Int)) w) := by
  obtain ⟨px, hpx⟩ : ∃ b, b = decide (x < 0) := ⟨_, rfl⟩
  obtain ⟨X, hX⟩ : ∃ X : Int, X = x.natAbs := ⟨_, rfl⟩
  obtain ⟨n, hn⟩ : ∃ n, n = Ten.nl X := ⟨_, rfl⟩
  obtain ⟨A, hA⟩ : ∃ T, T = tx x := ⟨_, rfl⟩
  have DX := Lib.hid (fun W => rdg x px X n A hpx hX hn hA W (by omega))
  have HX0 : Hid (0 ≤ X) := Lib.hid (by omega)
  have HXL : Hid (X < Ten.bp n) := Lib.hid (by rw [hn]; exact Ten.nl_lt HX0.out)
  have hnn : n ≤ 50000 := by
    refine Nat.le_trans (hn ▸ Ten.nl_le ?_) hx
    have := dn_lt HX0.out
    rwa [hX, dn_abs, ← hX] at this
  rw [← hA, ← hX]
  clear hA hpx hX hn hx
  go_enter Tryz.func44, Tryz.ntmps44
  go_wp2_with fail
  refine (DX.out w).mono ?_
  rintro e w1 ⟨a1, c1, rfl, hc1, hr1, hb1⟩
  have R1 := Lib.hid hr1
  have B1 := Lib.hid hb1
  have HC1 := Lib.hid hc1
  clear hr1 hb1 hc1
  go_wp2_with fail
  refine (rtext_any false a1 n c1 X w1 HX0.out HXL.out HC1.out (by omega) R1.out).mono ?_
  rintro e w4 ⟨rfl, hb4⟩
  have B4 := Lib.hid (B1.out.trans (hb4.mono B1.out.size))
  simp only [Bool.false_eq_true, if_false]
  obtain ⟨T, hT⟩ : ∃ T, T = tx X := ⟨_, rfl⟩
  rw [← hT]
  have HT := Lib.hid hT
  clear hb4 hT
  go_wp2
  go_ret
  exact ⟨ret_s HT.out, B4.out⟩
theorem rminus_any (x y : Int) (w : World) (hx : dn x ≤ 50000) (hy : dn y ≤ 50000) :
    Calls Tryz.prog 53 #[.string (tx x), .string (tx y)] w (GivesY (tx (x - y)) w) := by
  have OP := Lib.hid (fun W => ropp_any y W hy)
  have PL := Lib.hid (fun W => rplus_any x (-y) W hx (by rw [dn_neg]; exact hy))
  rw [show x + -y = x - y by omega] at PL
  obtain ⟨A, hA⟩ : ∃ T, T = tx x := ⟨_, rfl⟩
  obtain ⟨B, hB⟩ : ∃ T, T = tx y := ⟨_, rfl⟩
  obtain ⟨C, hC⟩ : ∃ T, T = tx (-y) := ⟨_, rfl⟩
  obtain ⟨T, hT⟩ : ∃ T, T = tx (x - y) := ⟨_, rfl⟩
  rw [← hB, ← hC] at OP
  rw [← hA, ← hC, ← hT] at PL
  rw [← hA, ← hB, ← hT]
  clear hA hB hC hT hx hy
  go_enter Tryz.func53, Tryz.ntmps53
  go_wp2_with fail
  refine (OP.out w).mono ?_
  rintro e w1 ⟨rfl, hb1⟩
  have B1 := Lib.hid hb1
  clear hb1
  go_wp2_with fail
  refine (PL.out w1).mono ?_
  rintro e w2 ⟨rfl, hb2⟩
  have B2 := Lib.hid (B1.out.trans (hb2.mono B1.out.size))
  clear hb2
  go_wp2
  go_ret
  exact ⟨rfl, B2.out⟩
set_option maxHeartbeats 2000000 in
theorem rcompare_any (x y : Int) (w : World) (hx : dn x ≤ 50000) (hy : dn y ≤ 50000) :
    Calls Tryz.prog 36 #[.string (tx x), .string (tx y)] w (GivesI (cmp3 x y) w) := by
  obtain ⟨A, hA⟩ : ∃ T, T = tx x := ⟨_, rfl⟩
  obtain ⟨B, hB⟩ : ∃ T, T = tx y := ⟨_, rfl⟩
  obtain ⟨px, hpx⟩ : ∃ b, b = decide (x < 0) := ⟨_, rfl⟩
  obtain ⟨qy, hqy⟩ : ∃ b, b = decide (y < 0) := ⟨_, rfl⟩
  obtain ⟨X, hX⟩ : ∃ X : Int, X = x.natAbs := ⟨_, rfl⟩
  obtain ⟨Y, hY⟩ : ∃ Y : Int, Y = y.natAbs := ⟨_, rfl⟩
  obtain ⟨n, hn⟩ : ∃ n, n = Ten.nl X := ⟨_, rfl⟩
  obtain ⟨k, hk⟩ : ∃ k, k = Ten.nl Y := ⟨_, rfl⟩
  have DX := Lib.hid (fun W => rdg x px X n A hpx hX hn hA W (by omega))
  have DY := Lib.hid (fun W => rdg y qy Y k B hqy hY hk hB W (by omega))
  have HX0 : Hid (0 ≤ X) := Lib.hid (by omega)
  have HY0 : Hid (0 ≤ Y) := Lib.hid (by omega)
  have HXL : Hid (X < Ten.bp n) := Lib.hid (by rw [hn]; exact Ten.nl_lt HX0.out)
  have HYL : Hid (Y < Ten.bp k) := Lib.hid (by rw [hk]; exact Ten.nl_lt HY0.out)
  have hnn : n ≤ 50000 := by
    refine Nat.le_trans (hn ▸ Ten.nl_le ?_) hx
    have := dn_lt HX0.out
    rwa [hX, dn_abs, ← hX] at this
  have hkk : k ≤ 50000 := by
    refine Nat.le_trans (hk ▸ Ten.nl_le ?_) hy
    have := dn_lt HY0.out
    rwa [hY, dn_abs, ← hY] at this
  have HN1 := Lib.hid hn
  have HN2 := Lib.hid hk
  have HR : Hid ((px = true → qy = false → cmp3 x y = -1) ∧ (px = false → qy = true → cmp3 x y = 1) ∧ (px = true → qy = true → cmp3 x y = cmp3 Y X) ∧ (px = false → qy = false → cmp3 x y = cmp3 X Y)) := Lib.hid (by
    rw [hpx, hqy]
    unfold cmp3
    by_cases h1 : x < 0 <;> by_cases h2 : y < 0 <;> simp [h1, h2] <;> (repeat' split) <;> omega)
  rw [← hA, ← hB]
  clear hA hB hpx hqy hX hY hn hk hx hy
  go_enter Tryz.func36, Tryz.ntmps36
  go_wp2_with fail
  refine (DX.out w).mono ?_
  rintro e w1 ⟨a1, c1, rfl, hc1, hr1, hb1⟩
  have R1 := Lib.hid hr1
  have B1 := Lib.hid hb1
  clear hr1 hb1 hc1
  go_wp2_with fail
  refine (DY.out w1).mono ?_
  rintro e w2 ⟨a2, c2, rfl, hc2, hr2, hb2⟩
  replace R1 := Lib.hid (R1.out.below hb2)
  have R2 := Lib.hid hr2
  have B2 := Lib.hid (B1.out.trans (hb2.mono B1.out.size))
  clear hr2 hb2 hc2
  cases px <;> cases qy
  · go_wp2_with fail
    refine (rsize_any a1 a2 n c1 k c2 X Y w2 HX0.out HY0.out HN1.out HN2.out (by omega) (by omega) R1.out R2.out).mono ?_
    rintro e w3 ⟨rfl, hb3⟩
    have B3 := Lib.hid (B2.out.trans (hb3.mono B2.out.size))
    clear hb3
    go_wp2
    go_ret
    exact ⟨ret_i (HR.out.2.2.2 (by trivial) (by trivial)).symm, B3.out⟩
  · go_wp2
    go_ret
    exact ⟨ret_i (HR.out.2.1 (by trivial) (by trivial)).symm, B2.out⟩
  · go_wp2
    go_ret
    exact ⟨ret_i (HR.out.1 (by trivial) (by trivial)).symm, B2.out⟩
  · go_wp2_with fail
    refine (rsize_any a2 a1 k c2 n c1 Y X w2 HY0.out HX0.out HN2.out HN1.out (by omega) (by omega) R2.out R1.out).mono ?_
    rintro e w3 ⟨rfl, hb3⟩
    have B3 := Lib.hid (B2.out.trans (hb3.mono B2.out.size))
    clear hb3
    go_wp2
    go_ret
    exact ⟨ret_i (HR.out.2.2.1 (by trivial) (by trivial)).symm, B3.out⟩
end Go.Proofs.YtphbfjcaehiboaaGreatDoor
namespace Go.Proofs.YtphbfjcaehiboaaGreatDoor
open Go.RowKit

/-- The number that m cells make from cell i on. -/
def tl (f : Nat → Int) : Nat → Nat → Int
  | _, 0 => 0
  | i, m + 1 => f i + 10 * tl f (i + 1) m
def upd (f : Nat → Int) (i : Nat) (v : Int) : Nat → Int := fun j => if j = i then v else f j
theorem upd_same (f : Nat → Int) (i : Nat) (v : Int) : upd f i v i = v := by unfold upd; rw [if_pos rfl]
theorem upd_other (f : Nat → Int) {i j : Nat} (v : Int) (h : j ≠ i) : upd f i v j = f j := by unfold upd; rw [if_neg h]
theorem tl_low (f : Nat → Int) (t : Nat) (v : Int) : ∀ (m i : Nat), t < i → tl (upd f t v) i m = tl f i m
  | 0, _, _ => rfl
  | m + 1, i, h => by
    rw [tl, tl, tl_low f t v m (i + 1) (by omega), upd_other f v (by omega)]
theorem tl_upd (f : Nat → Int) (v : Int) : ∀ (m i t : Nat), t < m → tl (upd f (i + t) v) i m = tl f i m + (v - f (i + t)) * Ten.bp t
  | m + 1, i, 0, _ => by
    rw [tl, tl, Nat.add_zero, tl_low f i v m (i + 1) (by omega), upd_same, Ten.bp_zero]
    omega
  | m + 1, i, t + 1, h => by
    have ih := tl_upd f v m (i + 1) t (by omega)
    rw [show i + 1 + t = i + (t + 1) by omega] at ih
    rw [tl, tl, ih, upd_other f v (by omega), Ten.bp_succ, Int.mul_add, ← Int.mul_assoc, Int.mul_comm 10 (v - f (i + (t + 1))), Int.mul_assoc]
    omega
theorem tl_none : ∀ (m i : Nat), tl (fun _ => 0) i m = 0
  | 0, _ => rfl
  | m + 1, i => by rw [tl, tl_none m (i + 1)]; rfl
theorem carry_step {f : Nat → Int} {i m : Nat} {P : Int} (h : tl f i (m + 2) = P / Ten.bp i) :
    f i % 10 = Ten.lz P i ∧ tl (upd (upd f (i + 1) (f (i + 1) + f i / 10)) i (f i % 10)) (i + 1) (m + 1) = P / Ten.bp (i + 1) := by
  have h1 := tl_upd f (f (i + 1) + f i / 10) (m + 1) (i + 1) 0 (by omega)
  rw [Nat.add_zero, Ten.bp_zero] at h1
  rw [tl_low _ _ _ _ _ (by omega), h1, Ten.div_succ]
  unfold Ten.lz
  rw [← h, tl]
  generalize tl f (i + 1) (m + 1) = T
  omega
theorem conv_step {X Y V : Int} {i j : Nat} (h : V = X % Ten.bp i * Y + Ten.bp i * Ten.lz X i * (Y % Ten.bp j)) (v f : Int) (hv : v = f + Ten.lz X i * Ten.lz Y j) :
    V + (v - f) * Ten.bp (i + j) = X % Ten.bp i * Y + Ten.bp i * Ten.lz X i * (Y % Ten.bp (j + 1)) := by
  rw [h, hv, Ten.mod_succ Y j, Int.mul_add, Ten.bp_add]
  have e : (f + Ten.lz X i * Ten.lz Y j - f) * (Ten.bp i * Ten.bp j) = Ten.bp i * Ten.lz X i * (Ten.bp j * Ten.lz Y j) := by
    rw [show f + Ten.lz X i * Ten.lz Y j - f = Ten.lz X i * Ten.lz Y j by omega]
    ac_rfl
  rw [e]
  omega
theorem conv_end {X Y V : Int} {i k : Nat} (hY0 : 0 ≤ Y) (hY : Y < Ten.bp k) (h : V = X % Ten.bp i * Y + Ten.bp i * Ten.lz X i * (Y % Ten.bp k)) : V = X % Ten.bp (i + 1) * Y := by
  rw [h, Ten.mod_self hY0 hY, Ten.mod_succ, Int.add_mul]
theorem dig_mul {a b : Int} (ha : 0 ≤ a ∧ a < 10) (hb : 0 ≤ b ∧ b < 10) : 0 ≤ a * b ∧ a * b ≤ 81 := by
  have h1 := Int.mul_nonneg ha.1 hb.1
  have h2 := Int.mul_le_mul_of_nonneg_right (show a ≤ 9 by omega) hb.1
  omega
/-- Block g of w1 is the call's own: L ints f 0, f 1 .. -/
structure RowI (w w1 : World) (g L : Nat) (f : Nat → Int) : Prop where
  below : Below w.heap.size w w1
  ge : w.heap.size ≤ g
  lt : g < w1.heap.size
  cells : ∀ j, j < L → w1.cell? ⟨g, j, none⟩ = some (.int .i64 (f j))
  free : ∀ j, j < L → w1.frozen? ⟨g, j, none⟩ = false
theorem mk_i64 (n : Nat) (hn : n ≤ 1000000) (w : World) : (Instr.makeSlice 55 (.int .i64 (n : Int)) (.int .i64 (n : Int))).run Tryz.prog w = .ok (.slice (some ⟨w.heap.size, 0, none⟩) n n) (w.alloc (.cells (madeCells #[.int .i64 0] n) 3)) :=
  run_make_row' _ _ (.int .i64 0) 8 und64i infoI64 rfl .i64 .i64 n (by omega) (by omega) w
theorem made_int (n j : Nat) (h : j < n) : (madeCells #[Value.int .i64 0] n)[j]? = some (.int .i64 0) := by
  unfold madeCells
  simp [h, Nat.mod_one]
theorem RowI.made (w : World) (L : Nat) : RowI w (w.alloc (.cells (madeCells #[.int .i64 0] L) 3)) w.heap.size L (fun _ => 0) where
  below := (Below.refl _ _).alloc (Nat.le_refl _) _
  ge := Nat.le_refl _
  lt := by simp
  cells := fun j hj => by rw [World.cell?_alloc_new, made_int L j hj]
  free := fun j hj => by rw [World.frozen?_alloc_new]
theorem RowI.set {w w1 : World} {g L : Nat} {f : Nat → Int} (h : RowI w w1 g L f) (i : Nat) (hi : i < L) (t : Int) : RowI w (w1.setCell ⟨g, i, none⟩ (.int .i64 t)) g L (upd f i t) where
  below := below_set h.below i h.ge _
  ge := h.ge
  lt := by rw [World.size_setCell]; exact h.lt
  cells := fun j hj => by
    by_cases hji : j = i
    · subst hji; rw [upd_same, World.cell?_setCell_same w1 _ _ (h.cells j hj)]
    · rw [upd_other f t hji, World.cell?_setCell_other w1 _ _ _ (by intro e; injection e; omega), h.cells j hj]
  free := fun j hj => by rw [World.frozen?_setCell]; exact h.free j hj
theorem RowI.drewN {w w1 : World} {g L : Nat} {f : Nat → Int} (h : RowI w w1 g L f) (q : Nat) : RowI w (w1.drewN q) g L f := ⟨below_drewN h.below q, h.ge, h.lt, h.cells, h.free⟩
theorem RowI.drew {w w1 : World} {g L : Nat} {f : Nat → Int} (h : RowI w w1 g L f) : RowI w w1.drew g L f := ⟨h.below.drew, h.ge, h.lt, h.cells, h.free⟩
theorem RowI.row {w w1 : World} {g L : Nat} {f : Nat → Int} {P : Int} (h : RowI w w1 g L f) (hf : ∀ j, j < L → f j = Ten.lz P j) : RowD w1 w1.heap.size (some ⟨g, 0, none⟩) L P := fun _ => ⟨g, 0, rfl, h.lt, fun j hj => by rw [Nat.zero_add, h.cells j hj, hf j hj]⟩
theorem rtimes_short (x y : Int) (w : World) (h1 : dn x ≤ 9) (h2 : dn y ≤ 9) :
    Calls Tryz.prog 55 #[.string (tx x), .string (tx y)] w (GivesY (tx (x * y)) w) := by
  have SX := Lib.hid (fun W => rshort_yes x W h1)
  have SY := Lib.hid (fun W => rshort_yes y W h2)
  obtain ⟨e1, e2⟩ := sv_bd h1
  obtain ⟨e3, e4⟩ := sv_bd h2
  have hb : -9223372036854775808 ≤ x * y ∧ x * y ≤ 9223372036854775807 := by
    have h3 : (x * y).natAbs ≤ 1000000000 * 1000000000 := by rw [Int.natAbs_mul]; exact Nat.mul_le_mul (by omega) (by omega)
    omega
  obtain ⟨e5, e6⟩ := hb
  have NB := Lib.hid (fun W => rnumber_any (x * y) W e5 e6)
  obtain ⟨A, hA⟩ : ∃ T, T = tx x := ⟨_, rfl⟩
  obtain ⟨B, hB⟩ : ∃ T, T = tx y := ⟨_, rfl⟩
  obtain ⟨T, hT⟩ : ∃ T, T = tx (x * y) := ⟨_, rfl⟩
  rw [← hA] at SX ⊢
  rw [← hB] at SY ⊢
  rw [← hT] at NB ⊢
  clear hA hB hT h1 h2
  go_enter Tryz.func55, Tryz.ntmps55
  go_wp2_with fail
  refine (SX.out w).mono ?_
  rintro e w' ⟨rfl, rfl⟩
  go_wp2_with fail
  refine (SY.out w).mono ?_
  rintro e w' ⟨rfl, rfl⟩
  go_wp2_with fail
  refine (NB.out w).mono ?_
  rintro e w' ⟨rfl, hb⟩
  have HB := Lib.hid hb
  clear hb
  go_wp2
  go_ret
  exact ⟨rfl, HB.out⟩
set_option maxHeartbeats 40000000 in
set_option maxRecDepth 100000 in
theorem rtimes_long (x y : Int) (w : World) (hx : dn x ≤ 50000) (hy : dn y ≤ 50000) (h9 : ¬ (dn x ≤ 9 ∧ dn y ≤ 9)) :
    Calls Tryz.prog 55 #[.string (tx x), .string (tx y)] w (GivesY (tx (x * y)) w) := by
  have SX := Lib.hid (fun W => rshort_any x W (by omega))
  have SY := Lib.hid (fun W => rshort_any y W (by omega))
  obtain ⟨b1, hb1⟩ : ∃ b, b = decide (dn x ≤ 9) := ⟨_, rfl⟩
  obtain ⟨b2, hb2⟩ : ∃ b, b = decide (dn y ≤ 9) := ⟨_, rfl⟩
  obtain ⟨m1, hm1⟩ : ∃ m, m = sv x := ⟨_, rfl⟩
  obtain ⟨m2, hm2⟩ : ∃ m, m = sv y := ⟨_, rfl⟩
  obtain ⟨A, hA⟩ : ∃ T, T = tx x := ⟨_, rfl⟩
  obtain ⟨B, hB⟩ : ∃ T, T = tx y := ⟨_, rfl⟩
  rw [← hb1, ← hm1, ← hA] at SX
  rw [← hb2, ← hm2, ← hB] at SY
  have hbb : b1 = false ∨ b1 = true ∧ b2 = false := by
    rw [hb1, hb2]
    by_cases h1 : dn x ≤ 9 <;> by_cases h2 : dn y ≤ 9 <;> simp [h1, h2]
    exact h9 ⟨h1, h2⟩
  obtain ⟨px, hpx⟩ : ∃ b, b = decide (x < 0) := ⟨_, rfl⟩
  obtain ⟨qy, hqy⟩ : ∃ b, b = decide (y < 0) := ⟨_, rfl⟩
  obtain ⟨X, hX⟩ : ∃ X : Int, X = x.natAbs := ⟨_, rfl⟩
  obtain ⟨Y, hY⟩ : ∃ Y : Int, Y = y.natAbs := ⟨_, rfl⟩
  obtain ⟨n, hn⟩ : ∃ n, n = Ten.nl X := ⟨_, rfl⟩
  obtain ⟨k, hk⟩ : ∃ k, k = Ten.nl Y := ⟨_, rfl⟩
  have DX := Lib.hid (fun W => rdg x px X n A hpx hX hn hA W (by omega))
  have DY := Lib.hid (fun W => rdg y qy Y k B hqy hY hk hB W (by omega))
  have HX0 : Hid (0 ≤ X) := Lib.hid (by omega)
  have HY0 : Hid (0 ≤ Y) := Lib.hid (by omega)
  have HXL : Hid (X < Ten.bp n) := Lib.hid (by rw [hn]; exact Ten.nl_lt HX0.out)
  have HYL : Hid (Y < Ten.bp k) := Lib.hid (by rw [hk]; exact Ten.nl_lt HY0.out)
  have hnn : n ≤ 50000 := by
    refine Nat.le_trans (hn ▸ Ten.nl_le ?_) hx
    have := dn_lt HX0.out
    rwa [hX, dn_abs, ← hX] at this
  have hkk : k ≤ 50000 := by
    refine Nat.le_trans (hk ▸ Ten.nl_le ?_) hy
    have := dn_lt HY0.out
    rwa [hY, dn_abs, ← hY] at this
  have HN1 := Lib.hid hn
  have HN2 := Lib.hid hk
  have HR : Hid ((if (!(px == qy)) = true then -(X * Y) else X * Y) = x * y) := Lib.hid (by
    rw [hpx, hqy, hX, hY]
    by_cases h1 : x < 0 <;> by_cases h2 : y < 0
    · rw [decide_eq_true h1, decide_eq_true h2, show (x.natAbs : Int) = -x by omega, show (y.natAbs : Int) = -y by omega, Int.neg_mul_neg]; rfl
    · rw [decide_eq_true h1, decide_eq_false h2, show (x.natAbs : Int) = -x by omega, show (y.natAbs : Int) = y by omega, Int.neg_mul, Int.neg_neg]; rfl
    · rw [decide_eq_false h1, decide_eq_true h2, show (x.natAbs : Int) = x by omega, show (y.natAbs : Int) = -y by omega, Int.mul_neg, Int.neg_neg]; rfl
    · rw [decide_eq_false h1, decide_eq_false h2, show (x.natAbs : Int) = x by omega, show (y.natAbs : Int) = y by omega]; rfl)
  obtain ⟨sg, hsg⟩ : ∃ sg, (!(px == qy)) = sg := ⟨_, rfl⟩
  rw [hsg] at HR
  obtain ⟨P, hP⟩ : ∃ P, P = X * Y := ⟨_, rfl⟩
  rw [← hP] at HR
  have HP := Lib.hid hP
  have HP0 : Hid (0 ≤ P) := Lib.hid (by rw [hP]; exact Int.mul_nonneg HX0.out HY0.out)
  have HPL : Hid (P < Ten.bp (n + k)) := Lib.hid (by rw [hP]; exact Ten.mul_lt_bp HX0.out HY0.out HXL.out HYL.out)
  have MK := Lib.hid (mk_i64 (n + k + 1) (by omega))
  rw [show ((n + k + 1 : Nat) : Int) = (n : Int) + (k : Int) + 1 by omega] at MK
  have hmk := MK.out
  rw [← hA, ← hB]
  clear hb1 hb2 hm1 hm2 hA hB hpx hqy hX hY hn hk hx hy h9 hP MK
  go_enter Tryz.func55, Tryz.ntmps55
  go_wp2_with fail
  refine (SX.out w).mono ?_
  rintro e w' ⟨rfl, rfl⟩
  go_wp2_with fail
  refine (SY.out w).mono ?_
  rintro e w' ⟨rfl, rfl⟩
  rcases hbb with rfl | ⟨rfl, rfl⟩
  all_goals
    go_wp2_with fail
    refine (DX.out w).mono ?_
    rintro e w1 ⟨a1, c1, rfl, hc1, hr1, hb1⟩
    have R1 := Lib.hid hr1
    have B1 := Lib.hid hb1
    clear hr1 hb1 hc1
    go_wp2_with fail
    refine (DY.out w1).mono ?_
    rintro e w2 ⟨a2, c2, rfl, hc2, hr2, hb2⟩
    replace R1 := Lib.hid (R1.out.below hb2)
    have R2 := Lib.hid hr2
    have B2 := Lib.hid (B1.out.trans (hb2.mono B1.out.size))
    have HF := Lib.hid (RowI.made w2 (n + k + 1))
    obtain ⟨g, hg⟩ : ∃ g, g = w2.heap.size := ⟨_, rfl⟩
    rw [← hg] at HF
    have HG := Lib.hid hg
    clear hr2 hb2 hc2
    go_wp2_with fail
    rw [← hg]
    clear hg
    go_loopw [14] (fun vi wr => ∃ (i : Nat) (f : Nat → Int), i ≤ n ∧ vi = .int .i64 i ∧ RowI w2 wr g (n + k + 1) f ∧ Hid (tl f 0 (n + k + 1) = X % Ten.bp i * Y) ∧ Hid (∀ t, 0 ≤ f t ∧ f t ≤ 81 * i)) (fun vi _ => n - (intOf vi).toNat)
    case atStart => exact ⟨0, fun _ => 0, by omega, rfl, HF.out, Lib.hid (by rw [tl_none, Ten.mod_zero, Int.zero_mul]), Lib.hid (fun t => ⟨Int.le_refl _, by show (0 : Int) ≤ _; omega⟩)⟩
    case round =>
      clear HF
      obtain ⟨i, f, hi, rfl, hrow, hval, hbd⟩ := hrel
      have RW := Lib.hid hrow
      clear hrow
      by_cases hin : i < n
      · obtain ⟨g1, o1, rfl, hg1, hcx⟩ := R1.out (by omega)
        have hx1 := hcx i hin
        have hlx := Ten.lz_bd X i
        have HX1 : Hid (∀ W, Below w2.heap.size w2 W → W.cell? ⟨g1, o1 + i, none⟩ = some (.int .i64 (Ten.lz X i))) := Lib.hid (fun W hW => (below_at hW (o1 + i) hg1).trans hx1)
        clear hcx hx1
        obtain ⟨lx, hlxe⟩ : ∃ lx, lx = Ten.lz X i := ⟨_, rfl⟩
        rw [← hlxe] at hlx HX1
        have HLX := Lib.hid hlxe
        have hvs : tl f 0 (n + k + 1) = X % Ten.bp i * Y + Ten.bp i * lx * (Y % Ten.bp 0) := by rw [hval.out, Ten.mod_zero, Int.mul_zero, Int.add_zero]
        have HVS := Lib.hid hvs
        clear hvs hlxe
        go_wp2_with fail
        go_loopw [15] (fun vj wr => ∃ (j : Nat) (f : Nat → Int), j ≤ k ∧ vj = .int .i64 j ∧ RowI w2 wr g (n + k + 1) f ∧ Hid (tl f 0 (n + k + 1) = X % Ten.bp i * Y + Ten.bp i * lx * (Y % Ten.bp j)) ∧ Hid (∀ t, 0 ≤ f t ∧ f t ≤ 81 * (i + 1)) ∧ Hid (∀ t, i + j ≤ t → f t ≤ 81 * i)) (fun vj _ => k - (intOf vj).toNat)
        case atStart => exact ⟨0, f, by omega, rfl, RW.out, HVS, Lib.hid (fun t => ⟨(hbd.out t).1, by have := (hbd.out t).2; omega⟩), Lib.hid (fun t _ => (hbd.out t).2)⟩
        case round =>
          clear RW HVS hval hbd f
          obtain ⟨j, f, hj, rfl, hrow, hval, hbd, hbd2⟩ := hrel
          have RW := Lib.hid hrow
          clear hrow
          by_cases hjk : j < k
          · obtain ⟨g2, o2, rfl, hg2, hcy⟩ := R2.out (by omega)
            have c1 := HX1.out _ RW.out.below
            have c2 := (below_at RW.out.below (o2 + j) hg2).trans (hcy j hjk)
            have c3 := RW.out.cells (i + j) (by omega)
            have c4 := RW.out.free (i + j) (by omega)
            have hly := Ten.lz_bd Y j
            obtain ⟨m0, m1⟩ := dig_mul hlx hly
            have hcv := conv_step (X := X) (Y := Y) (V := tl f 0 (n + k + 1)) (i := i) (j := j) (by rw [← HLX.out]; exact hval.out) (f (i + j) + lx * Ten.lz Y j) (f (i + j)) (by rw [← HLX.out])
            have hup := tl_upd f (f (i + j) + lx * Ten.lz Y j) (n + k + 1) 0 (i + j) (by omega)
            rw [Nat.zero_add, hcv, ← HLX.out] at hup
            obtain ⟨f0, f1⟩ := hbd.out (i + j)
            have f2 := hbd2.out (i + j) (Nat.le_refl _)
            have hi5 : (i : Int) ≤ 50000 := by omega
            obtain ⟨ly, hlye⟩ : ∃ ly, ly = Ten.lz Y j := ⟨_, rfl⟩
            rw [← hlye] at hly m0 m1 c2 hup
            have HUP := Lib.hid hup
            have HNB : Hid (∀ t, 0 ≤ upd f (i + j) (f (i + j) + lx * ly) t ∧ upd f (i + j) (f (i + j) + lx * ly) t ≤ 81 * (i + 1)) := Lib.hid (fun t => by
              by_cases e : t = i + j
              · subst e; rw [upd_same]; omega
              · rw [upd_other _ _ e]; exact hbd.out t)
            have HNB2 : Hid (∀ t, i + (j + 1) ≤ t → upd f (i + j) (f (i + j) + lx * ly) t ≤ 81 * i) := Lib.hid (fun t ht => by
              rw [upd_other _ _ (by omega)]; exact hbd2.out t (by omega))
            have HRW := Lib.hid (RW.out.set (i + j) (by omega) (f (i + j) + lx * ly))
            clear hcy hcv hup hlye hbd hbd2 hval
            obtain ⟨fv, hfv⟩ : ∃ fv, fv = f (i + j) := ⟨_, rfl⟩
            rw [← hfv] at c3 f0 f1 f2 HUP HNB HNB2 HRW
            clear hfv
            go_wp2_with fail
            go_region
            go_wp2
            go_roundw
            case rel => exact ⟨j + 1, _, by omega, by go_num, by first | exact HRW.out.drew | exact HRW.out.drewN _ | exact (RW.out.drew.set (i + j) (by omega) _) | exact (RW.out.drewN _).set (i + j) (by omega) _, HUP, HNB, HNB2⟩
            case measure => simp [intOf]; omega
          · obtain rfl : j = k := by omega
            have hce := conv_end (X := X) (Y := Y) (V := tl f 0 (n + j + 1)) (i := i) (k := j) HY0.out HYL.out (by rw [← HLX.out]; exact hval.out)
            have HCE := Lib.hid hce
            have HBD := Lib.hid (fun t => (⟨(hbd.out t).1, by have := (hbd.out t).2; omega⟩ : 0 ≤ f t ∧ f t ≤ 81 * ((i + 1 : Nat) : Int)))
            clear hce hval hbd hbd2
            go_wp2
            go_roundw
            case rel => exact ⟨i + 1, f, by omega, by go_num, RW.out, HCE, HBD⟩
            case measure => simp [intOf]; omega
      · obtain rfl : i = n := by omega
        have hvP : tl f 0 (i + k + 1) = P / Ten.bp 0 := by rw [hval.out, Ten.mod_self HX0.out HXL.out, Ten.div_bp_zero, HP.out]
        have HVP := Lib.hid hvP
        have HB := Lib.hid (fun t => (⟨(hbd.out t).1, by have := (hbd.out t).2; omega⟩ : 0 ≤ f t ∧ f t ≤ 4050000))
        clear hvP hval hbd
        go_wp2_with fail
        go_loopw [16] (fun vj wr => ∃ (j : Nat) (f : Nat → Int), j + 1 ≤ i + k + 1 ∧ vj = .int .i64 j ∧ RowI w2 wr g (i + k + 1) f ∧ Hid (∀ t, t < j → f t = Ten.lz P t) ∧ Hid (tl f j (i + k + 1 - j) = P / Ten.bp j) ∧ Hid (∀ t, 0 ≤ f t ∧ f t ≤ 8100000) ∧ Hid (∀ t, j < t → f t ≤ 4050000)) (fun vj _ => i + k + 1 - (intOf vj).toNat)
        case atStart => exact ⟨0, f, by omega, rfl, RW.out, Lib.hid (fun t ht => absurd ht (by omega)), HVP, Lib.hid (fun t => ⟨(HB.out t).1, by have := (HB.out t).2; omega⟩), Lib.hid (fun t _ => (HB.out t).2)⟩
        case round =>
          clear RW HVP HB f
          obtain ⟨j, f, hj, rfl, hrow, hdig, hval, hbd, hbd2⟩ := hrel
          have RW := Lib.hid hrow
          clear hrow
          by_cases hjk : j + 1 < i + k + 1
          · have hjk' : (j : Int) + 1 < (i : Int) + (k : Int) + 1 := by omega
            have hv := hval.out
            rw [show i + k + 1 - j = (i + k + 1 - (j + 1) - 1) + 2 by omega] at hv
            obtain ⟨s1, s2⟩ := carry_step hv
            rw [show i + k + 1 - (j + 1) - 1 + 1 = i + k + 1 - (j + 1) by omega] at s2
            have c1 := RW.out.cells j (by omega)
            have c2 := RW.out.cells (j + 1) (by omega)
            have c3 := RW.out.free j (by omega)
            have c4 := RW.out.free (j + 1) (by omega)
            obtain ⟨f0, f1⟩ := hbd.out j
            obtain ⟨f2, f3⟩ := hbd.out (j + 1)
            have f4 := hbd2.out (j + 1) (by omega)
            have S2 := Lib.hid s2
            have HD : Hid (∀ t, t < j + 1 → upd (upd f (j + 1) (f (j + 1) + f j / 10)) j (f j % 10) t = Ten.lz P t) := Lib.hid (fun t ht => by
              by_cases e : t = j
              · subst e; rw [upd_same]; exact s1
              · rw [upd_other _ _ e, upd_other _ _ (by omega)]; exact hdig.out t (by omega))
            have HNB : Hid (∀ t, 0 ≤ upd (upd f (j + 1) (f (j + 1) + f j / 10)) j (f j % 10) t ∧ upd (upd f (j + 1) (f (j + 1) + f j / 10)) j (f j % 10) t ≤ 8100000) := Lib.hid (fun t => by
              by_cases e : t = j
              · subst e; rw [upd_same]; omega
              · rw [upd_other _ _ e]
                by_cases e2 : t = j + 1
                · subst e2; rw [upd_same]; omega
                · rw [upd_other _ _ e2]; exact hbd.out t)
            have HNB2 : Hid (∀ t, j + 1 < t → upd (upd f (j + 1) (f (j + 1) + f j / 10)) j (f j % 10) t ≤ 4050000) := Lib.hid (fun t ht => by
              rw [upd_other _ _ (by omega), upd_other _ _ (by omega)]; exact hbd2.out t (by omega))
            have HST : Hid (∀ W, RowI w2 W g (i + k + 1) f → RowI w2 (W.setCell ⟨g, j + 1, none⟩ (.int .i64 (f (j + 1) + f j / 10))) g (i + k + 1) (upd f (j + 1) (f (j + 1) + f j / 10))) := Lib.hid (fun W h => h.set (j + 1) (by omega) _)
            have HST2 : Hid (∀ W f', RowI w2 W g (i + k + 1) f' → RowI w2 (W.setCell ⟨g, j, none⟩ (.int .i64 (f j % 10))) g (i + k + 1) (upd f' j (f j % 10))) := Lib.hid (fun W f' h => h.set j (by omega) _)
            clear hv s1 s2 hval hbd hbd2 hdig
            generalize hfa : f j = fa at *
            generalize hfb : f (j + 1) = fb at *
            clear hfa hfb
            go_wp2_with fail
            go_region
            go_wp2
            go_roundw
            case rel => exact ⟨j + 1, _, by omega, by go_num, by first | exact (HST2.out _ _ (HST.out _ RW.out)).drew | exact HST2.out _ _ ((HST.out _ (RW.out.drewN _)).drewN _) | exact (HST2.out _ _ ((HST.out _ RW.out).drewN _)).drewN _ | exact HST2.out _ _ (HST.out _ RW.out), HD, S2, HNB, HNB2⟩
            case measure => simp [intOf]; omega
          · have hje : j = i + k := by omega
            have hjk' : ¬ (j : Int) + 1 < (i : Int) + (k : Int) + 1 := by omega
            have hall : ∀ t, t < i + k + 1 → f t = Ten.lz P t := fun t ht => by
              by_cases e : t = j
              · have h1 := hval.out
                rw [show i + k + 1 - j = 1 by omega, tl, tl] at h1
                rw [e]
                rw [hje] at h1 ⊢
                rw [Ten.div_zero HP0.out HPL.out] at h1
                rw [Ten.lz_high HP0.out HPL.out (Nat.le_refl _)]
                omega
              · exact hdig.out t (by omega)
            have HROW := Lib.hid (RW.out.row hall)
            have HBE := Lib.hid (B2.out.trans (RW.out.below.mono B2.out.size))
            have HPL2 : Hid (P < Ten.bp (i + k + 1)) := Lib.hid (Int.lt_of_lt_of_le HPL.out (Ten.bp_mono (by omega)))
            clear hall hval hdig hbd hbd2
            go_wp2_with fail
            refine (rtext_any sg (some ⟨g, 0, none⟩) (i + k + 1) (i + k + 1) P wr HP0.out HPL2.out (Nat.le_refl _) (by omega) HROW.out).mono ?_
            rintro e w4 ⟨rfl, hb4⟩
            have B4 := Lib.hid (HBE.out.trans (hb4.mono HBE.out.size))
            rw [HR.out]
            obtain ⟨T, hT⟩ : ∃ T, T = tx (x * y) := ⟨_, rfl⟩
            rw [← hT]
            have HT := Lib.hid hT
            clear hb4 hT
            go_wp2
            go_ret
            exact ⟨ret_s HT.out, B4.out⟩
theorem rtimes_any (x y : Int) (w : World) (hx : dn x ≤ 50000) (hy : dn y ≤ 50000) :
    Calls Tryz.prog 55 #[.string (tx x), .string (tx y)] w (GivesY (tx (x * y)) w) := by
  by_cases h : dn x ≤ 9 ∧ dn y ≤ 9
  · exact rtimes_short x y w h.1 h.2
  · exact rtimes_long x y w hx hy h
end Go.Proofs.YtphbfjcaehiboaaGreatDoor
namespace Go.Proofs.YtphbfjcaehiboaaGreatDoor
open Go.RowKit
open Go

theorem below_own {w w' : World} {B : Nat} {e : TypeId} {size n : Nat} {v : Value} {xs : List Value} (h : w.ownsRow B e size v n xs) (hb : Below w.heap.size w w') : w'.ownsRow B e size v n xs := by
  refine ⟨h.1, ?_⟩
  rcases h.2 with hn | ⟨g, cap, cur, rfl, hB, hg, rest⟩
  · exact .inl hn
  · refine .inr ⟨g, cap, cur, rfl, hB, ?_, rest⟩
    rw [hb.block g (Array.getElem?_eq_some_iff.1 hg).1]
    exact hg
theorem run_append_at {P : Program} (w : World) (base : Nat) (t ty e : TypeId) (i : TypeInfo) (z : Value) (size bytes : Nat) (ht : P.underlying t = some (.slice e)) (hi : P.info? e = some i) (hz : i.zero = some z)
    (hsize : i.size = size) (hby : i.bytes = bytes) (hzs : z.cells.size = size) (hsz : 0 < size)
    (v : Value) (n : Nat) (xs : List Value) (hown : w.ownsRow base e size v n xs)
    (a : Addr) (m c : Nat) (news : List Value) (hl : news.length = m * size) (hnews : ∀ j u, news[j]? = some u → w.cell? (a.add j) = some u) (h1 : ∀ u ∈ news, u.oneCell' = true)
    (h63 : n + m ≤ maxLen) (hbytes : (n + m) * bytes ≤ 140737488355328) (hbase : base ≤ w.heap.size) :
    ∃ v' w', (Builtin.append_ #[t, t] ty #[v, .slice (some a) m c]).run P w = .ok v' w' ∧ w'.ownsRow base e size v' (n + m) (xs ++ news) ∧ w.grownBy w' v.ownBlock ∧
      (v' = .slice none 0 0 ↔ v = .slice none 0 0 ∧ m = 0) ∧ (∀ k, v'.ownBlock = some k → v.ownBlock = some k ∨ w.heap.size ≤ k) := by
  obtain ⟨v', w', hr, h2, h3, h4⟩ := run_append_own (P := P) w base t ty e i z size bytes ht hi hz hsize hby hzs hsz v n xs hown a m c news hl hnews h1 h63 hbytes hbase
  refine ⟨v', w', hr, h2, h3, h4, ?_⟩
  intro k hk
  rcases hown.2 with ⟨rfl, rfl⟩ | ⟨g, cap, cur, rfl, hbg, hg, hnc, hcm, hcs, htake⟩
  · obtain ⟨v2, w2, hr2, h5, _, _⟩ := run_append_own (P := P) w w.heap.size t ty e i z size bytes ht hi hz hsize hby hzs hsz (.slice none 0 0) 0 [] (World.ownsRow_nil _ _ _ _) a m c news hl hnews h1 h63 hbytes (Nat.le_refl _)
    rw [hr] at hr2
    injection hr2 with e1 e2
    subst e1 e2
    exact .inr (h5.lt k hk).1
  · by_cases hroom : n + m ≤ cap
    · have hfit : n * i.size + news.length ≤ cur.size := by rw [hl, hcs, hsize, ← Nat.add_mul]; exact Nat.mul_le_mul_right _ hroom
      have hr' := run_append_room (P := P) w t ty e i ht hi g n cap cur hg a m c news (by rw [hsize]; exact hl) hnews h1 hroom hfit
      rw [hr] at hr'
      injection hr' with e1 e2
      subst e1
      exact .inl hk
    · have holds : ∀ j u, xs[j]? = some u → w.cell? ((⟨g, 0, none⟩ : Addr).add j) = some u := hown.cells (g := g) rfl
      have hr' := run_append_grow (P := P) w t ty e i z ht hi hz ⟨g, 0, none⟩ n cap xs (by rw [hsize]; exact hown.1) holds a m c news (by rw [hsize]; exact hl) hnews (by omega) (by unfold maxLen at h63; omega) (growslice_fits (by omega) (by rw [hby]; exact hbytes))
      rw [hr] at hr'
      injection hr' with e1 e2
      subst e1
      have : w.heap.size = k := by simpa [Value.ownBlock] using hk
      exact .inr (by omega)
theorem wpList_append_at {P : Program} (w : World) {ops : Array Oper} {rest : List Oper} {o : Oper} {a : Act} {Q : Exit → Act → World → Prop} (hgd : o.guard = none) (s x : Operand) (t : TypeId)
    (ho : o.op = .call { callee := .builtin .append, args := #[s, x], argTypes := #[t, t] })
    (base : Nat) (e : TypeId) (i : TypeInfo) (z : Value) (size bytes : Nat) (ht : P.underlying t = some (.slice e)) (hi : P.info? e = some i) (hz : i.zero = some z)
    (hsize : i.size = size) (hby : i.bytes = bytes) (hzs : z.cells.size = size) (hsz : 0 < size)
    (v : Value) (n : Nat) (xs : List Value) (hs : a.eval s = v) (hown : w.ownsRow base e size v n xs)
    (ad : Addr) (m c : Nat) (news : List Value) (hx : a.eval x = .slice (some ad) m c) (hl : news.length = m * size) (hnews : ∀ j u, news[j]? = some u → w.cell? (ad.add j) = some u) (h1 : ∀ u ∈ news, u.oneCell' = true)
    (h63 : n + m ≤ maxLen) (hbytes : (n + m) * bytes ≤ 140737488355328) (hbase : base ≤ w.heap.size)
    (h : ∀ v' w', w'.ownsRow base e size v' (n + m) (xs ++ news) → w.grownBy w' v.ownBlock → (v' = .slice none 0 0 ↔ v = .slice none 0 0 ∧ m = 0) → (∀ k, v'.ownBlock = some k → v.ownBlock = some k ∨ w.heap.size ≤ k) → wpList P ops Q rest (a.put o.dst v') w') : wpList P ops Q (o :: rest) a w := by
  refine wpList_plain hgd fun K hK => ?_
  obtain ⟨v', w', hr, h2, h3, h4, h5⟩ := run_append_at (P := P) w base t o.type e i z size bytes ht hi hz hsize hby hzs hsz v n xs hown ad m c news hl hnews h1 h63 hbytes hbase
  unfold Oper.wp
  simp [execOp, ho, resolve, invoke, builtin, hs, hx, hr, Result.andThen]
  exact hK _ _ (h v' w' h2 h3 h4 h5)
/-- The row at o of block g holds n digits of z. -/
def RowP (w : World) (g o n : Nat) (z : Int) : Prop := g < w.heap.size ∧ ∀ j, j < n → w.cell? ⟨g, o + j, none⟩ = some (.int .i64 (Ten.lz z j))
theorem RowP.row {w : World} {g o n : Nat} {z : Int} (h : RowP w g o n z) : RowD w w.heap.size (some ⟨g, o, none⟩) n z := fun _ => ⟨g, o, rfl, h.1, h.2⟩
theorem RowP.of {w : World} {B g o n : Nat} {z : Int} (h : RowD w B (some ⟨g, o, none⟩) n z) (hg : g < w.heap.size) : RowP w g o n z := ⟨hg, fun j hj => by
  obtain ⟨g', o', e, _, hc⟩ := h (by omega)
  injection e with e
  injection e with e1 e2
  subst e1 e2
  exact hc j hj⟩
theorem RowP.below {w w' : World} {g o n : Nat} {z : Int} (h : RowP w g o n z) (hb : Below w.heap.size w w') : RowP w' g o n z :=
  ⟨Nat.lt_of_lt_of_le h.1 hb.size, fun j hj => (below_at hb (o + j) h.1).trans (h.2 j hj)⟩
theorem RowP.grown {w w' : World} {row : Option Nat} {g o n : Nat} {z : Int} (h : RowP w g o n z) (hg : w.grownBy w' row) (hne : row ≠ some g) : RowP w' g o n z :=
  ⟨Nat.lt_of_lt_of_le h.1 hg.size, fun j hj => (World.cell?_of_block (hg.block g h.1 (fun e => hne e.symm))).trans (h.2 j hj)⟩
theorem RowP.vals {w : World} {g o n : Nat} {z : Int} (h : RowP w g o n z) : ∀ j u, (vals (dl z n))[j]? = some u → w.cell? ((⟨g, o, none⟩ : Addr).add j) = some u := by
  intro j u hu
  have hj : j < n := by
    rcases Nat.lt_or_ge j n with c | c
    · exact c
    · rw [List.getElem?_eq_none (by unfold Go.Proofs.YtphbfjcaehiboaaGreatDoor.vals; rw [List.length_map, dl_len]; exact c)] at hu
      cases hu
  have e : u = .int .i64 (Ten.lz z j) := by
    unfold Go.Proofs.YtphbfjcaehiboaaGreatDoor.vals dl at hu
    simp [hj] at hu
    rw [← hu]
    have := Ten.lz_bd z j
    congr 1
    omega
  rw [e, ← h.2 j hj]
  have hadd : (⟨g, o, none⟩ : Addr).add j = ⟨g, o + j, none⟩ := by unfold Addr.add; split <;> simp_all
  rw [hadd]
end Go.Proofs.YtphbfjcaehiboaaGreatDoor
namespace Go.Proofs.YtphbfjcaehiboaaGreatDoor
open Go.RowKit

theorem isDig_int (c : UInt8) : isDig c = decide (48 ≤ (c.toNat : Int) ∧ (c.toNat : Int) ≤ 57) := by
  unfold isDig
  rw [← Bool.decide_and]
  exact decide_eq_decide.2 (by omega)
/-- Each byte is a digit. -/
def allD (s : ByteArray) : Bool := s.data.toList.all isDig
/-- The first k bytes are digits. -/
def DigTo (t : ByteArray) (k : Nat) : Prop := ∀ j, (h : j < k) → (h2 : j < t.size) → isDig t[j] = true
theorem DigTo.next {t : ByteArray} {k : Nat} (h : DigTo t k) (hk : k < t.size) (hd : 48 ≤ (t[k].toNat : Int) ∧ (t[k].toNat : Int) ≤ 57) : DigTo t (k + 1) := fun j hj h2 => by
  by_cases e : j = k
  · subst e; rw [isDig_int]; exact decide_eq_true hd
  · exact h j (by omega) h2
theorem DigTo.all {t : ByteArray} {k : Nat} (h : DigTo t k) (hk : ¬ k < t.size) : allD t = true := by
  unfold allD
  rw [List.all_eq_true]
  intro x hx
  obtain ⟨j, hj, e⟩ := List.mem_iff_getElem.1 hx
  have hj' : j < t.size := by rw [Array.length_toList] at hj; exact hj
  have := h j (by omega) hj'
  rw [← e]
  exact this
theorem DigTo.no {t : ByteArray} {k : Nat} (hk : k < t.size) (hd : ¬ (48 ≤ (t[k].toNat : Int) ∧ (t[k].toNat : Int) ≤ 57)) : allD t = false := by
  unfold allD
  rw [List.all_eq_false]
  refine ⟨t[k], ?_, by rw [isDig_int, decide_eq_false hd]; simp⟩
  have : t.data.toList[k]'(by rw [Array.length_toList]; exact hk) ∈ t.data.toList := List.getElem_mem _
  exact this
set_option maxHeartbeats 1000000 in
theorem rvalid_plain (s : ByteArray) (w : World) (hs : s.size ≤ 9223372036854775807) (h0 : 0 < s.size) (hm : ((s[0].toNat : Int) == 45) = false) (h8 : ((s[0].toNat : Int) == 48) = false ∨ s.size = 1) :
    Calls Tryz.prog 39 #[.string s] w fun e w' => e = .returned (.bool (allD s)) ∧ w = w' := by
  have h8' : ((s[0].toNat : Int) == 48) = false ∨ ((s[0].toNat : Int) == 48) = true ∧ ¬ (1 : Int) < s.size := by
    rcases h8 with h | h
    · exact .inl h
    · cases e : ((s[0].toNat : Int) == 48)
      · exact .inl rfl
      · exact .inr ⟨rfl, by omega⟩
  clear h8
  have hz : ((s.size : Int) == 0) = false := by rw [beq_eq_false_iff_ne]; omega
  rcases h8' with h8 | ⟨h8, h81⟩
  all_goals
    go_enter Tryz.func39, Tryz.ntmps39
    go_wp2
    go_loop [4] (fun i => ∃ k : Nat, k ≤ s.size ∧ i = .int .i64 k ∧ Hid (DigTo s k)) (fun i => s.size - (intOf i).toNat)
    case atStart => exact ⟨0, Nat.zero_le _, rfl, Lib.hid (fun j h => absurd h (by omega))⟩
    case round =>
      obtain ⟨k, hk, rfl, HD⟩ := hrel
      by_cases hlt : k < s.size
      · by_cases hd : 48 ≤ (s[k].toNat : Int) ∧ (s[k].toNat : Int) ≤ 57
        · have HN := Lib.hid (HD.out.next hlt hd)
          obtain ⟨hd1, hd2⟩ := hd
          go_wp2
          go_round
          case rel => exact ⟨k + 1, by omega, by go_num, HN⟩
          case measure => simp [intOf]; omega
        · have HN := Lib.hid (DigTo.no hlt hd)
          have hd' : (s[k].toNat : Int) < 48 ∨ 48 ≤ (s[k].toNat : Int) ∧ 57 < (s[k].toNat : Int) := by omega
          clear hd
          rcases hd' with hd | ⟨hd, hd2⟩
          all_goals
            go_wp2
            go_ret
            exact ⟨ret_bool HN.out.symm, rfl⟩
      · have HN := Lib.hid (HD.out.all hlt)
        go_wp2
        go_ret
        exact ⟨ret_bool HN.out.symm, rfl⟩
set_option maxHeartbeats 1000000 in
theorem rvalid_minus (s t : ByteArray) (w : World) (hs : s.size ≤ 9223372036854775807) (ht : s.extract 1 s.size = t) (htm : t.size ≤ 9223372036854775807) (h0 : 0 < s.size) (hm : ((s[0].toNat : Int) == 45) = true) (t0 : 0 < t.size) (h8 : ((t[0].toNat : Int) == 48) = false) :
    Calls Tryz.prog 39 #[.string s] w fun e w' => e = .returned (.bool (allD t)) ∧ w = w' := by
  have hz : ((t.size : Int) == 0) = false := by rw [beq_eq_false_iff_ne]; omega
  go_enter Tryz.func39, Tryz.ntmps39
  go_wp2
  clear ht
  go_loop [4] (fun i => ∃ k : Nat, k ≤ t.size ∧ i = .int .i64 k ∧ Hid (DigTo t k)) (fun i => t.size - (intOf i).toNat)
  case atStart => exact ⟨0, Nat.zero_le _, rfl, Lib.hid (fun j h => absurd h (by omega))⟩
  case round =>
    obtain ⟨k, hk, rfl, HD⟩ := hrel
    by_cases hlt : k < t.size
    · by_cases hd : 48 ≤ (t[k].toNat : Int) ∧ (t[k].toNat : Int) ≤ 57
      · have HN := Lib.hid (HD.out.next hlt hd)
        obtain ⟨hd1, hd2⟩ := hd
        go_wp2
        go_round
        case rel => exact ⟨k + 1, by omega, by go_num, HN⟩
        case measure => simp [intOf]; omega
      · have HN := Lib.hid (DigTo.no hlt hd)
        have hd' : (t[k].toNat : Int) < 48 ∨ 48 ≤ (t[k].toNat : Int) ∧ 57 < (t[k].toNat : Int) := by omega
        clear hd
        rcases hd' with hd | ⟨hd, hd2⟩
        all_goals
          go_wp2
          go_ret
          exact ⟨ret_bool HN.out.symm, rfl⟩
    · have HN := Lib.hid (HD.out.all hlt)
      go_wp2
      go_ret
      exact ⟨ret_bool HN.out.symm, rfl⟩
theorem rvalid_empty (s : ByteArray) (w : World) (h0 : s.size = 0) :
    Calls Tryz.prog 39 #[.string s] w fun e w' => e = .returned (.bool false) ∧ w = w' := by
  go_enter Tryz.func39, Tryz.ntmps39
  go_wp2
  go_ret
  exact ⟨rfl, rfl⟩
theorem rvalid_zeros (s : ByteArray) (w : World) (hs : s.size ≤ 9223372036854775807) (h0 : 1 < s.size) (hm : ((s[0].toNat : Int) == 45) = false) (h8 : ((s[0].toNat : Int) == 48) = true) :
    Calls Tryz.prog 39 #[.string s] w fun e w' => e = .returned (.bool false) ∧ w = w' := by
  have h01 : 0 < s.size := by omega
  have h1i : (1 : Int) < s.size := by omega
  have hz : ((s.size : Int) == 0) = false := by rw [beq_eq_false_iff_ne]; omega
  go_enter Tryz.func39, Tryz.ntmps39
  go_wp2
  go_ret
  exact ⟨rfl, rfl⟩
theorem rvalid_minus_empty (s t : ByteArray) (w : World) (hs : s.size ≤ 9223372036854775807) (ht : s.extract 1 s.size = t) (h0 : 0 < s.size) (hm : ((s[0].toNat : Int) == 45) = true) (t0 : t.size = 0) :
    Calls Tryz.prog 39 #[.string s] w fun e w' => e = .returned (.bool false) ∧ w = w' := by
  go_enter Tryz.func39, Tryz.ntmps39
  go_wp2
  go_ret
  exact ⟨rfl, rfl⟩
theorem rvalid_minus_zero (s t : ByteArray) (w : World) (hs : s.size ≤ 9223372036854775807) (ht : s.extract 1 s.size = t) (htm : t.size ≤ 9223372036854775807) (h0 : 0 < s.size) (hm : ((s[0].toNat : Int) == 45) = true) (t0 : 0 < t.size) (h8 : ((t[0].toNat : Int) == 48) = true) :
    Calls Tryz.prog 39 #[.string s] w fun e w' => e = .returned (.bool false) ∧ w = w' := by
  have hz : ((t.size : Int) == 0) = false := by rw [beq_eq_false_iff_ne]; omega
  go_enter Tryz.func39, Tryz.ntmps39
  go_wp2
  go_ret
  exact ⟨rfl, rfl⟩
theorem len_size (s : ByteArray) : s.data.toList.length = s.size := by rw [Array.length_toList]; rfl
theorem head_get {s : ByteArray} (h : 0 < s.size) : s.data.toList.head? = some s[0] := by
  have hl : 0 < s.data.toList.length := by rw [len_size]; exact h
  rw [List.head?_eq_getElem?, List.getElem?_eq_getElem hl]
  rfl
theorem byte_beq (c : UInt8) (k : Nat) (hk : k < 256) : (some c == some (UInt8.ofNat k)) = ((c.toNat : Int) == k) := by
  rw [Bool.eq_iff_iff, beq_iff_eq, beq_iff_eq, Option.some.injEq]
  constructor
  · intro h; rw [h]; simp; omega
  · intro h
    have h2 : c.toNat = k := by omega
    rw [← h2]; simp
theorem isT_plain {s : ByteArray} (h0 : 0 < s.size) (hm : ((s[0].toNat : Int) == 45) = false) : isT s.data.toList = (decide (s.size ≤ 1000) && !(((s[0].toNat : Int) == 48) && decide (1 < s.size)) && allD s) := by
  have e1 : digs s.data.toList = s.data.toList := by
    unfold digs
    rw [head_get h0, if_neg]
    intro h
    have := byte_beq s[0] 45 (by omega)
    rw [show ((45 : Nat) : Int) = 45 by rfl, hm] at this
    rw [beq_eq_false_iff_ne] at this
    exact this h
  have e2 : s.data.toList.isEmpty = false := by
    rw [List.isEmpty_eq_false_iff]
    intro h
    have := len_size s
    rw [h] at this
    simp at this
    omega
  unfold isT
  rw [e1, e2, len_size, head_get h0]
  have := byte_beq s[0] 48 (by omega)
  rw [show (UInt8.ofNat 48) = (48 : UInt8) by rfl] at this
  rw [this]
  rfl
theorem isT_minus {s t : ByteArray} (ht : s.extract 1 s.size = t) (h0 : 0 < s.size) (hm : ((s[0].toNat : Int) == 45) = true) :
    t.size = s.size - 1 ∧ (t.size = 0 → isT s.data.toList = false) ∧ ∀ h1 : 0 < t.size, isT s.data.toList = (decide (t.size ≤ 1000) && !((t[0].toNat : Int) == 48) && allD t) := by
  have e0 : s.data.toList.head? = some 45 := by
    rw [head_get h0]
    have := byte_beq s[0] 45 (by omega)
    rw [show ((45 : Nat) : Int) = 45 by rfl, hm] at this
    exact beq_iff_eq.1 this
  have e1 : digs s.data.toList = t.data.toList := by
    unfold digs
    rw [if_pos e0, ← ht, Lib.extract_to_end, List.drop_one]
  have e2 : t.size = s.size - 1 := by
    rw [← len_size t, ← ht, Lib.extract_to_end, List.length_drop, len_size]
  refine ⟨e2, fun h => ?_, fun h1 => ?_⟩
  · have e3 : t.data.toList = [] := List.eq_nil_of_length_eq_zero (by rw [len_size]; exact h)
    unfold isT
    rw [e1, e3]
    rfl
  · have e3 : t.data.toList.isEmpty = false := by
      rw [List.isEmpty_eq_false_iff]
      intro h
      have := len_size t
      rw [h] at this
      simp at this
      omega
    unfold isT
    rw [e1, e3, len_size, len_size, head_get h1]
    have := byte_beq t[0] 48 (by omega)
    rw [show (UInt8.ofNat 48) = (48 : UInt8) by rfl] at this
    rw [this, decide_eq_true (show 1 < s.size by omega), Bool.and_true]
    rfl
theorem rDigits_plain (s : ByteArray) (w : World) (_hs : s.size ≤ 9223372036854775807) (h0 : 0 < s.size) (hm : ((s[0].toNat : Int) == 45) = false) :
    Calls Tryz.prog 76 #[.string s] w fun e w' => e = .returned (.int .i64 s.size) ∧ w = w' := by
  go_enter Tryz.func76, Tryz.ntmps76
  go_wp2
  go_ret
  exact ⟨rfl, rfl⟩
theorem rDigits_minus (s : ByteArray) (w : World) (hs : s.size ≤ 9223372036854775807) (h0 : 0 < s.size) (hm : ((s[0].toNat : Int) == 45) = true) :
    Calls Tryz.prog 76 #[.string s] w fun e w' => e = .returned (.int .i64 ((s.size : Int) - 1)) ∧ w = w' := by
  go_enter Tryz.func76, Tryz.ntmps76
  go_wp2
  go_ret
  exact ⟨rfl, rfl⟩
theorem rDigits_empty (s : ByteArray) (w : World) (h0 : s.size = 0) :
    Calls Tryz.prog 76 #[.string s] w fun e w' => e = .returned (.int .i64 0) ∧ w = w' := by
  go_enter Tryz.func76, Tryz.ntmps76
  go_wp2
  go_ret
  exact ⟨rfl, rfl⟩
/-- Long, by what Digits returns. -/
theorem rLong_of (s : ByteArray) (n : Int) (w : World) (hd : Calls Tryz.prog 76 #[.string s] w fun e w' => e = .returned (.int .i64 n) ∧ w = w') :
    Calls Tryz.prog 38 #[.string s] w fun e w' => e = .returned (.bool (decide (1000 < n))) ∧ w = w' := by
  have D := Lib.hid hd
  clear hd
  go_enter Tryz.func38, Tryz.ntmps38
  go_wp2_with fail
  refine D.out.mono ?_
  rintro e w' ⟨rfl, rfl⟩
  go_wp2
  go_ret
  exact ⟨rfl, rfl⟩
theorem rLong_any (z : Int) (w : World) (hd : dn z ≤ 100000) :
    Calls Tryz.prog 38 #[.string (tx z)] w fun e w' => e = .returned (.bool (decide (1000 < dn z))) ∧ w = w' := by
  refine (rLong_of (tx z) (dn z) w (rDigits_any z w hd)).mono ?_
  rintro e w' ⟨h1, h2⟩
  exact ⟨by rw [h1]; exact ret_bool (decide_eq_decide.2 (by omega)), h2⟩
/-- Is, by what Long and Valid return. -/
theorem rIs_of (s : ByteArray) (l v : Bool) (w : World) (hl : Calls Tryz.prog 38 #[.string s] w fun e w' => e = .returned (.bool l) ∧ w = w')
    (hv : l = false → Calls Tryz.prog 39 #[.string s] w fun e w' => e = .returned (.bool v) ∧ w = w') :
    Calls Tryz.prog 8 #[.string s] w fun e w' => e = .returned (.bool (!l && v)) ∧ w = w' := by
  have L := Lib.hid hl
  have V := Lib.hid hv
  clear hl hv
  cases l
  · go_enter Tryz.func8, Tryz.ntmps8
    go_wp2_with fail
    refine L.out.mono ?_
    rintro e w' ⟨rfl, rfl⟩
    go_wp2_with fail
    refine (V.out trivial).mono ?_
    rintro e w' ⟨rfl, rfl⟩
    go_wp2
    go_ret
    exact ⟨rfl, rfl⟩
  · go_enter Tryz.func8, Tryz.ntmps8
    go_wp2_with fail
    refine L.out.mono ?_
    rintro e w' ⟨rfl, rfl⟩
    go_wp2
    go_ret
    exact ⟨rfl, rfl⟩
theorem Is_any (s : ByteArray) (w : World) (hs : s.size ≤ 9223372036854775807) :
    Calls Tryz.prog 8 #[.string s] w fun e w' => e = .returned (.bool (isT s.data.toList)) ∧ w = w' := by
  rcases Nat.eq_zero_or_pos s.size with h0 | h0
  · have e : isT s.data.toList = false := by
      have : s.data.toList = [] := List.eq_nil_of_length_eq_zero (by rw [len_size]; exact h0)
      rw [this]; rfl
    rw [e]
    refine (rIs_of s _ false w (rLong_of s _ w (rDigits_empty s w h0)) (fun _ => rvalid_empty s w h0)).mono ?_
    rintro e w' ⟨h1, h2⟩
    exact ⟨by rw [h1]; simp, h2⟩
  · cases hm : ((s[0].toNat : Int) == 45)
    · rw [isT_plain h0 hm]
      by_cases h8 : ((s[0].toNat : Int) == 48) = true ∧ 1 < s.size
      · refine (rIs_of s _ false w (rLong_of s _ w (rDigits_plain s w hs h0 hm)) (fun _ => rvalid_zeros s w hs h8.2 hm h8.1)).mono ?_
        rintro e w' ⟨h1, h2⟩
        exact ⟨by rw [h1, h8.1, decide_eq_true h8.2]; simp, h2⟩
      · refine (rIs_of s _ (allD s) w (rLong_of s _ w (rDigits_plain s w hs h0 hm)) (fun _ => rvalid_plain s w hs h0 hm ?_)).mono ?_
        · rcases Nat.lt_or_ge 1 s.size with h1 | h1
          · cases e : ((s[0].toNat : Int) == 48)
            · exact .inl rfl
            · exact absurd ⟨e, h1⟩ h8
          · exact .inr (by omega)
        · rintro e w' ⟨h1, h2⟩
          refine ⟨?_, h2⟩
          rw [h1]
          have e1 : (!decide ((1000 : Int) < s.size)) = decide (s.size ≤ 1000) := by rw [← decide_not]; exact decide_eq_decide.2 (by omega)
          have e2 : (((s[0].toNat : Int) == 48) && decide (1 < s.size)) = false := by
            cases e : ((s[0].toNat : Int) == 48)
            · rfl
            · rw [decide_eq_false (fun h => h8 ⟨e, h⟩)]; rfl
          rw [e1, e2]
          simp
    · obtain ⟨t, ht⟩ : ∃ t, s.extract 1 s.size = t := ⟨_, rfl⟩
      obtain ⟨e0, e1, e2⟩ := isT_minus ht h0 hm
      have hL := rLong_of s _ w (rDigits_minus s w hs h0 hm)
      rcases Nat.eq_zero_or_pos t.size with k0 | k0
      · rw [e1 k0]
        refine (rIs_of s _ false w hL (fun _ => rvalid_minus_empty s t w hs ht h0 hm k0)).mono ?_
        rintro e w' ⟨h1, h2⟩
        exact ⟨by rw [h1]; simp, h2⟩
      · rw [e2 k0]
        cases h8 : ((t[0].toNat : Int) == 48)
        · refine (rIs_of s _ (allD t) w hL (fun _ => rvalid_minus s t w hs ht (by omega) h0 hm k0 h8)).mono ?_
          rintro e w' ⟨h1, h2⟩
          refine ⟨?_, h2⟩
          rw [h1]
          have e3 : (!decide ((1000 : Int) < (s.size : Int) - 1)) = decide (t.size ≤ 1000) := by rw [← decide_not]; exact decide_eq_decide.2 (by omega)
          rw [e3]
          simp
        · refine (rIs_of s _ false w hL (fun _ => rvalid_minus_zero s t w hs ht (by omega) h0 hm k0 h8)).mono ?_
          rintro e w' ⟨h1, h2⟩
          exact ⟨by rw [h1]; simp, h2⟩
end Go.Proofs.YtphbfjcaehiboaaGreatDoor
namespace Go.Proofs.YtphbfjcaehiboaaGreatDoor
open Go.RowKit

theorem rlimited_any (z : Int) (w : World) (hd : dn z ≤ 100000) :
    Calls Tryz.prog 50 #[.string (tx z)] w fun e w' => e = .returned (.tuple #[.string (if dn z ≤ 1000 then tx z else ⟨#[]⟩), .int .i64 (if dn z ≤ 1000 then 0 else 3)]) ∧ w = w' := by
  have L := Lib.hid (rLong_any z w hd)
  obtain ⟨T, hT⟩ : ∃ T, T = tx z := ⟨_, rfl⟩
  rw [← hT] at L ⊢
  clear hT
  by_cases h : dn z ≤ 1000
  · rw [decide_eq_false (by omega)] at L
    rw [if_pos h, if_pos h]
    clear h hd
    go_enter Tryz.func50, Tryz.ntmps50
    go_wp2_with fail
    (with_reducible refine Calls.mono L.out ?_)
    rintro e w' ⟨rfl, rfl⟩
    go_wp2
    go_ret2
    exact ⟨rfl, rfl⟩
  · rw [decide_eq_true (by omega)] at L
    rw [if_neg h, if_neg h]
    clear h hd
    go_enter Tryz.func50, Tryz.ntmps50
    go_wp2_with fail
    (with_reducible refine Calls.mono L.out ?_)
    rintro e w' ⟨rfl, rfl⟩
    go_wp2
    go_ret2
    exact ⟨rfl, rfl⟩
theorem Is_tx (z : Int) (w : World) (hz : dn z ≤ 1000) : Calls Tryz.prog 8 #[.string (tx z)] w fun e w' => e = .returned (.bool true) ∧ w = w' := by
  have h := Is_any (tx z) w (by have := tx_le hz; omega)
  rwa [isT_tx hz] at h
theorem Is_bad (s : ByteArray) (w : World) (hs : s.size ≤ 9223372036854775807) (h : isT s.data.toList = false) : Calls Tryz.prog 8 #[.string s] w fun e w' => e = .returned (.bool false) ∧ w = w' := by
  have h2 := Is_any s w hs
  rwa [h] at h2

theorem ret_si {a b : ByteArray} {n m : Int} (h1 : a = b) (h2 : n = m) : (Ending.returned (.tuple #[.string a, .int .i64 n])) = .returned (.tuple #[.string b, .int .i64 m]) := by rw [h1, h2]
theorem dn_le2 {x : Int} {k : Nat} (h : (x.natAbs : Int) < Ten.bp (k + 1)) : dn x ≤ k + 1 := by
  rw [← dn_abs]
  exact dn_le (by omega) (by omega) h
theorem dn_abs_lt {x : Int} {k : Nat} (h : dn x ≤ k) : (x.natAbs : Int) < Ten.bp k := by
  have h1 := dn_lt (x := (x.natAbs : Int)) (by omega)
  rw [dn_abs] at h1
  exact Int.lt_of_lt_of_le h1 (Ten.bp_mono h)

set_option maxHeartbeats 800000 in
theorem RAdd_tx (x y : Int) (w : World) (hx : dn x ≤ 1000) (hy : dn y ≤ 1000) :
    Calls Tryz.prog 20 #[.string (tx x), .string (tx y)] w (GivesX (x + y) w) := by
  have IX := Lib.hid (fun W => Is_tx x W hx)
  have IY := Lib.hid (fun W => Is_tx y W hy)
  have OP := Lib.hid (fun W => rplus_any x y W (by omega) (by omega))
  have hd : dn (x + y) ≤ 2000 := by
    refine dn_le2 ?_
    have h1 := dn_abs_lt hx
    have h2 := dn_abs_lt hy
    exact Int.lt_of_lt_of_le (b := Ten.bp 1001) (by rw [Ten.bp_succ]; omega) (Ten.bp_mono (by omega))
  have LI := Lib.hid (fun W => rlimited_any (x + y) W (by omega))
  obtain ⟨A, hA⟩ : ∃ T, T = tx x := ⟨_, rfl⟩
  obtain ⟨B, hB⟩ : ∃ T, T = tx y := ⟨_, rfl⟩
  obtain ⟨C, hC⟩ : ∃ T, T = tx (x + y) := ⟨_, rfl⟩
  obtain ⟨D, hD⟩ : ∃ T, T = (if dn (x + y) ≤ 1000 then tx (x + y) else ⟨#[]⟩) := ⟨_, rfl⟩
  obtain ⟨E, hE⟩ : ∃ T : Int, T = (if dn (x + y) ≤ 1000 then 0 else 3) := ⟨_, rfl⟩
  rw [← hA] at IX OP ⊢
  rw [← hB] at IY OP ⊢
  rw [← hD, ← hE, ← hC] at LI
  rw [← hC] at OP
  have HD := Lib.hid hD
  have HE := Lib.hid hE
  clear hA hB hC hD hE hd hx hy
  go_enter Tryz.func20, Tryz.ntmps20
  go_wp2_with fail
  (with_reducible refine Calls.mono (IX.out _) ?_)
  rintro e w' ⟨rfl, rfl⟩
  go_wp2_with fail
  (with_reducible refine Calls.mono (IY.out _) ?_)
  rintro e w' ⟨rfl, rfl⟩
  go_wp2_with fail
  (with_reducible refine Calls.mono (OP.out _) ?_)
  rintro e w1 ⟨rfl, hb⟩
  have B1 := Lib.hid hb
  clear hb
  go_wp2_with fail
  (with_reducible refine Calls.mono (LI.out _) ?_)
  rintro e w' ⟨rfl, rfl⟩
  go_wp2
  go_ret2
  exact ⟨ret_si HD.out HE.out, B1.out⟩
theorem RAdd_bad (s t : ByteArray) (w : World) (hs : s.size ≤ 9223372036854775807) (ht : t.size ≤ 9223372036854775807) (h : isT s.data.toList = false ∨ isT t.data.toList = false) :
    Calls Tryz.prog 20 #[.string s, .string t] w (GivesEr 1 w) := by
  have IS := Lib.hid (fun W => Is_any s W hs)
  have IT := Lib.hid (fun W => Is_any t W ht)
  have B0 := Lib.hid (Below.refl w.heap.size w)
  cases es : isT s.data.toList
  · rw [es] at IS
    clear h es
    go_enter Tryz.func20, Tryz.ntmps20
    go_wp2_with fail
    (with_reducible refine Calls.mono (IS.out _) ?_)
    rintro e w' ⟨rfl, rfl⟩
    go_wp2
    go_ret2
    exact ⟨rfl, B0.out⟩
  · rw [es] at IS h
    have et : isT t.data.toList = false := by simpa using h
    rw [et] at IT
    clear h es et
    go_enter Tryz.func20, Tryz.ntmps20
    go_wp2_with fail
    (with_reducible refine Calls.mono (IS.out _) ?_)
    rintro e w' ⟨rfl, rfl⟩
    go_wp2_with fail
    (with_reducible refine Calls.mono (IT.out _) ?_)
    rintro e w' ⟨rfl, rfl⟩
    go_wp2
    go_ret2
    exact ⟨rfl, B0.out⟩
set_option maxHeartbeats 800000 in
theorem RSub_tx (x y : Int) (w : World) (hx : dn x ≤ 1000) (hy : dn y ≤ 1000) :
    Calls Tryz.prog 22 #[.string (tx x), .string (tx y)] w (GivesX (x - y) w) := by
  have IX := Lib.hid (fun W => Is_tx x W hx)
  have IY := Lib.hid (fun W => Is_tx y W hy)
  have OP := Lib.hid (fun W => rminus_any x y W (by omega) (by omega))
  have hd : dn (x - y) ≤ 2000 := by
    refine dn_le2 ?_
    have h1 := dn_abs_lt hx
    have h2 := dn_abs_lt hy
    exact Int.lt_of_lt_of_le (b := Ten.bp 1001) (by rw [Ten.bp_succ]; omega) (Ten.bp_mono (by omega))
  have LI := Lib.hid (fun W => rlimited_any (x - y) W (by omega))
  obtain ⟨A, hA⟩ : ∃ T, T = tx x := ⟨_, rfl⟩
  obtain ⟨B, hB⟩ : ∃ T, T = tx y := ⟨_, rfl⟩
  obtain ⟨C, hC⟩ : ∃ T, T = tx (x - y) := ⟨_, rfl⟩
  obtain ⟨D, hD⟩ : ∃ T, T = (if dn (x - y) ≤ 1000 then tx (x - y) else ⟨#[]⟩) := ⟨_, rfl⟩
  obtain ⟨E, hE⟩ : ∃ T : Int, T = (if dn (x - y) ≤ 1000 then 0 else 3) := ⟨_, rfl⟩
  rw [← hA] at IX OP ⊢
  rw [← hB] at IY OP ⊢
  rw [← hD, ← hE, ← hC] at LI
  rw [← hC] at OP
  have HD := Lib.hid hD
  have HE := Lib.hid hE
  clear hA hB hC hD hE hd hx hy
  go_enter Tryz.func22, Tryz.ntmps22
  go_wp2_with fail
  (with_reducible refine Calls.mono (IX.out _) ?_)
  rintro e w' ⟨rfl, rfl⟩
  go_wp2_with fail
  (with_reducible refine Calls.mono (IY.out _) ?_)
  rintro e w' ⟨rfl, rfl⟩
  go_wp2_with fail
  (with_reducible refine Calls.mono (OP.out _) ?_)
  rintro e w1 ⟨rfl, hb⟩
  have B1 := Lib.hid hb
  clear hb
  go_wp2_with fail
  (with_reducible refine Calls.mono (LI.out _) ?_)
  rintro e w' ⟨rfl, rfl⟩
  go_wp2
  go_ret2
  exact ⟨ret_si HD.out HE.out, B1.out⟩
theorem RSub_bad (s t : ByteArray) (w : World) (hs : s.size ≤ 9223372036854775807) (ht : t.size ≤ 9223372036854775807) (h : isT s.data.toList = false ∨ isT t.data.toList = false) :
    Calls Tryz.prog 22 #[.string s, .string t] w (GivesEr 1 w) := by
  have IS := Lib.hid (fun W => Is_any s W hs)
  have IT := Lib.hid (fun W => Is_any t W ht)
  have B0 := Lib.hid (Below.refl w.heap.size w)
  cases es : isT s.data.toList
  · rw [es] at IS
    clear h es
    go_enter Tryz.func22, Tryz.ntmps22
    go_wp2_with fail
    (with_reducible refine Calls.mono (IS.out _) ?_)
    rintro e w' ⟨rfl, rfl⟩
    go_wp2
    go_ret2
    exact ⟨rfl, B0.out⟩
  · rw [es] at IS h
    have et : isT t.data.toList = false := by simpa using h
    rw [et] at IT
    clear h es et
    go_enter Tryz.func22, Tryz.ntmps22
    go_wp2_with fail
    (with_reducible refine Calls.mono (IS.out _) ?_)
    rintro e w' ⟨rfl, rfl⟩
    go_wp2_with fail
    (with_reducible refine Calls.mono (IT.out _) ?_)
    rintro e w' ⟨rfl, rfl⟩
    go_wp2
    go_ret2
    exact ⟨rfl, B0.out⟩
set_option maxHeartbeats 800000 in
theorem RMul_tx (x y : Int) (w : World) (hx : dn x ≤ 1000) (hy : dn y ≤ 1000) :
    Calls Tryz.prog 24 #[.string (tx x), .string (tx y)] w (GivesX (x * y) w) := by
  have IX := Lib.hid (fun W => Is_tx x W hx)
  have IY := Lib.hid (fun W => Is_tx y W hy)
  have OP := Lib.hid (fun W => rtimes_any x y W (by omega) (by omega))
  have hd : dn (x * y) ≤ 2000 := by
    refine dn_le2 ?_
    have h1 := dn_abs_lt hx
    have h2 := dn_abs_lt hy
    rw [Int.natAbs_mul, Int.natCast_mul]
    exact Ten.mul_lt_bp (i := 1000) (j := 1000) (by omega) (by omega) h1 h2
  have LI := Lib.hid (fun W => rlimited_any (x * y) W (by omega))
  obtain ⟨A, hA⟩ : ∃ T, T = tx x := ⟨_, rfl⟩
  obtain ⟨B, hB⟩ : ∃ T, T = tx y := ⟨_, rfl⟩
  obtain ⟨C, hC⟩ : ∃ T, T = tx (x * y) := ⟨_, rfl⟩
  obtain ⟨D, hD⟩ : ∃ T, T = (if dn (x * y) ≤ 1000 then tx (x * y) else ⟨#[]⟩) := ⟨_, rfl⟩
  obtain ⟨E, hE⟩ : ∃ T : Int, T = (if dn (x * y) ≤ 1000 then 0 else 3) := ⟨_, rfl⟩
  rw [← hA] at IX OP ⊢
  rw [← hB] at IY OP ⊢
  rw [← hD, ← hE, ← hC] at LI
  rw [← hC] at OP
  have HD := Lib.hid hD
  have HE := Lib.hid hE
  clear hA hB hC hD hE hd hx hy
  go_enter Tryz.func24, Tryz.ntmps24
  go_wp2_with fail
  (with_reducible refine Calls.mono (IX.out _) ?_)
  rintro e w' ⟨rfl, rfl⟩
  go_wp2_with fail
  (with_reducible refine Calls.mono (IY.out _) ?_)
  rintro e w' ⟨rfl, rfl⟩
  go_wp2_with fail
  (with_reducible refine Calls.mono (OP.out _) ?_)
  rintro e w1 ⟨rfl, hb⟩
  have B1 := Lib.hid hb
  clear hb
  go_wp2_with fail
  (with_reducible refine Calls.mono (LI.out _) ?_)
  rintro e w' ⟨rfl, rfl⟩
  go_wp2
  go_ret2
  exact ⟨ret_si HD.out HE.out, B1.out⟩
theorem RMul_bad (s t : ByteArray) (w : World) (hs : s.size ≤ 9223372036854775807) (ht : t.size ≤ 9223372036854775807) (h : isT s.data.toList = false ∨ isT t.data.toList = false) :
    Calls Tryz.prog 24 #[.string s, .string t] w (GivesEr 1 w) := by
  have IS := Lib.hid (fun W => Is_any s W hs)
  have IT := Lib.hid (fun W => Is_any t W ht)
  have B0 := Lib.hid (Below.refl w.heap.size w)
  cases es : isT s.data.toList
  · rw [es] at IS
    clear h es
    go_enter Tryz.func24, Tryz.ntmps24
    go_wp2_with fail
    (with_reducible refine Calls.mono (IS.out _) ?_)
    rintro e w' ⟨rfl, rfl⟩
    go_wp2
    go_ret2
    exact ⟨rfl, B0.out⟩
  · rw [es] at IS h
    have et : isT t.data.toList = false := by simpa using h
    rw [et] at IT
    clear h es et
    go_enter Tryz.func24, Tryz.ntmps24
    go_wp2_with fail
    (with_reducible refine Calls.mono (IS.out _) ?_)
    rintro e w' ⟨rfl, rfl⟩
    go_wp2_with fail
    (with_reducible refine Calls.mono (IT.out _) ?_)
    rintro e w' ⟨rfl, rfl⟩
    go_wp2
    go_ret2
    exact ⟨rfl, B0.out⟩
theorem cmp3_zero (z : Int) : cmp3 z 0 = sg z := by
  unfold cmp3 sg
  (repeat' split) <;> omega
theorem tx_zero_lit : tx 0 = ⟨#[48]⟩ := by unfold tx; rw [show Lib.itoa 0 = [48] by simp [Lib.itoa, Lib.decDigits]]
theorem RSign_tx (z : Int) (w : World) (hz : dn z ≤ 1000) : Calls Tryz.prog 10 #[.string (tx z)] w (GivesI (sg z) w) := by
  have IX := Lib.hid (fun W => Is_tx z W hz)
  have CM := Lib.hid (fun W => rcompare_any z 0 W (by omega) (by rw [dn_zero]; omega))
  rw [cmp3_zero, tx_zero_lit] at CM
  obtain ⟨A, hA⟩ : ∃ T, T = tx z := ⟨_, rfl⟩
  obtain ⟨v, hv⟩ : ∃ v, v = sg z := ⟨_, rfl⟩
  rw [← hA] at IX CM ⊢
  rw [← hv] at CM ⊢
  clear hA hv hz
  go_enter Tryz.func10, Tryz.ntmps10
  go_wp2_with fail
  (with_reducible refine Calls.mono (IX.out _) ?_)
  rintro e w' ⟨rfl, rfl⟩
  go_wp2_with fail
  (with_reducible refine Calls.mono (CM.out _) ?_)
  rintro e w1 ⟨rfl, hb⟩
  have B1 := Lib.hid hb
  clear hb
  go_wp2
  go_ret
  exact ⟨rfl, B1.out⟩
theorem RSign_bad (s : ByteArray) (w : World) (hs : s.size ≤ 9223372036854775807) (h : isT s.data.toList = false) : Calls Tryz.prog 10 #[.string s] w (GivesI 0 w) := by
  have IX := Lib.hid (fun W => Is_bad s W hs h)
  have B0 := Lib.hid (Below.refl w.heap.size w)
  clear h
  go_enter Tryz.func10, Tryz.ntmps10
  go_wp2_with fail
  (with_reducible refine Calls.mono (IX.out _) ?_)
  rintro e w' ⟨rfl, rfl⟩
  go_wp2
  go_ret
  exact ⟨rfl, B0.out⟩
theorem RCmp_tx (x y : Int) (w : World) (hx : dn x ≤ 1000) (hy : dn y ≤ 1000) : Calls Tryz.prog 12 #[.string (tx x), .string (tx y)] w (GivesI (cmp3 x y) w) := by
  have IX := Lib.hid (fun W => Is_tx x W hx)
  have IY := Lib.hid (fun W => Is_tx y W hy)
  have CM := Lib.hid (fun W => rcompare_any x y W (by omega) (by omega))
  obtain ⟨A, hA⟩ : ∃ T, T = tx x := ⟨_, rfl⟩
  obtain ⟨B, hB⟩ : ∃ T, T = tx y := ⟨_, rfl⟩
  obtain ⟨v, hv⟩ : ∃ v, v = cmp3 x y := ⟨_, rfl⟩
  rw [← hA] at IX CM ⊢
  rw [← hB] at IY CM ⊢
  rw [← hv] at CM ⊢
  clear hA hB hv hx hy
  go_enter Tryz.func12, Tryz.ntmps12
  go_wp2_with fail
  (with_reducible refine Calls.mono (IX.out _) ?_)
  rintro e w' ⟨rfl, rfl⟩
  go_wp2_with fail
  (with_reducible refine Calls.mono (IY.out _) ?_)
  rintro e w' ⟨rfl, rfl⟩
  go_wp2_with fail
  (with_reducible refine Calls.mono (CM.out _) ?_)
  rintro e w1 ⟨rfl, hb⟩
  have B1 := Lib.hid hb
  clear hb
  go_wp2
  go_ret
  exact ⟨rfl, B1.out⟩
theorem RCmp_bad (s t : ByteArray) (w : World) (hs : s.size ≤ 9223372036854775807) (ht : t.size ≤ 9223372036854775807) (h : isT s.data.toList = false ∨ isT t.data.toList = false) :
    Calls Tryz.prog 12 #[.string s, .string t] w (GivesI 0 w) := by
  have IS := Lib.hid (fun W => Is_any s W hs)
  have IT := Lib.hid (fun W => Is_any t W ht)
  have B0 := Lib.hid (Below.refl w.heap.size w)
  cases es : isT s.data.toList
  · rw [es] at IS
    clear h es
    go_enter Tryz.func12, Tryz.ntmps12
    go_wp2_with fail
    (with_reducible refine Calls.mono (IS.out _) ?_)
    rintro e w' ⟨rfl, rfl⟩
    go_wp2
    go_ret
    exact ⟨rfl, B0.out⟩
  · rw [es] at IS h
    have et : isT t.data.toList = false := by simpa using h
    rw [et] at IT
    clear h es et
    go_enter Tryz.func12, Tryz.ntmps12
    go_wp2_with fail
    (with_reducible refine Calls.mono (IS.out _) ?_)
    rintro e w' ⟨rfl, rfl⟩
    go_wp2_with fail
    (with_reducible refine Calls.mono (IT.out _) ?_)
    rintro e w' ⟨rfl, rfl⟩
    go_wp2
    go_ret
    exact ⟨rfl, B0.out⟩
theorem RNeg_tx (z : Int) (w : World) (hz : dn z ≤ 1000) : Calls Tryz.prog 14 #[.string (tx z)] w (GivesY (tx (-z)) w) := by
  have IX := Lib.hid (fun W => Is_tx z W hz)
  have OP := Lib.hid (fun W => ropp_any z W (by omega))
  obtain ⟨A, hA⟩ : ∃ T, T = tx z := ⟨_, rfl⟩
  obtain ⟨C, hC⟩ : ∃ T, T = tx (-z) := ⟨_, rfl⟩
  rw [← hA] at IX OP ⊢
  rw [← hC] at OP ⊢
  clear hA hC hz
  go_enter Tryz.func14, Tryz.ntmps14
  go_wp2_with fail
  (with_reducible refine Calls.mono (IX.out _) ?_)
  rintro e w' ⟨rfl, rfl⟩
  go_wp2_with fail
  (with_reducible refine Calls.mono (OP.out _) ?_)
  rintro e w1 ⟨rfl, hb⟩
  have B1 := Lib.hid hb
  clear hb
  go_wp2
  go_ret
  exact ⟨rfl, B1.out⟩
theorem RNeg_bad (s : ByteArray) (w : World) (hs : s.size ≤ 9223372036854775807) (h : isT s.data.toList = false) : Calls Tryz.prog 14 #[.string s] w (GivesY ⟨#[]⟩ w) := by
  have IX := Lib.hid (fun W => Is_bad s W hs h)
  have B0 := Lib.hid (Below.refl w.heap.size w)
  clear h
  go_enter Tryz.func14, Tryz.ntmps14
  go_wp2_with fail
  (with_reducible refine Calls.mono (IX.out _) ?_)
  rintro e w' ⟨rfl, rfl⟩
  go_wp2
  go_ret
  exact ⟨rfl, B0.out⟩
theorem RAbs_tx (z : Int) (w : World) (hz : dn z ≤ 1000) : Calls Tryz.prog 16 #[.string (tx z)] w (GivesY (tx (z.natAbs)) w) := by
  have IX := Lib.hid (fun W => Is_tx z W hz)
  have OP := Lib.hid (fun W => rpos_any z W (by omega))
  obtain ⟨A, hA⟩ : ∃ T, T = tx z := ⟨_, rfl⟩
  obtain ⟨C, hC⟩ : ∃ T, T = tx (z.natAbs) := ⟨_, rfl⟩
  rw [← hA] at IX OP ⊢
  rw [← hC] at OP ⊢
  clear hA hC hz
  go_enter Tryz.func16, Tryz.ntmps16
  go_wp2_with fail
  (with_reducible refine Calls.mono (IX.out _) ?_)
  rintro e w' ⟨rfl, rfl⟩
  go_wp2_with fail
  (with_reducible refine Calls.mono (OP.out _) ?_)
  rintro e w1 ⟨rfl, hb⟩
  have B1 := Lib.hid hb
  clear hb
  go_wp2
  go_ret
  exact ⟨rfl, B1.out⟩
theorem RAbs_bad (s : ByteArray) (w : World) (hs : s.size ≤ 9223372036854775807) (h : isT s.data.toList = false) : Calls Tryz.prog 16 #[.string s] w (GivesY ⟨#[]⟩ w) := by
  have IX := Lib.hid (fun W => Is_bad s W hs h)
  have B0 := Lib.hid (Below.refl w.heap.size w)
  clear h
  go_enter Tryz.func16, Tryz.ntmps16
  go_wp2_with fail
  (with_reducible refine Calls.mono (IX.out _) ?_)
  rintro e w' ⟨rfl, rfl⟩
  go_wp2
  go_ret
  exact ⟨rfl, B0.out⟩
end Go.Proofs.YtphbfjcaehiboaaGreatDoor
