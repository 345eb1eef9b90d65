/-
  The law WholeDivisors answers true.
-/
import Derived.Test.YtgeokeffondmhaaDoorZsd
namespace Go.Proofs.YtgeokeffondmhaaDoor
open Go.RowKit

theorem Bez.dxk {A B x y : Int} {k : Nat} (h : Bez A B x y) (hB : dn B ≤ k) : dn x ≤ k := by
  obtain ⟨h1, h2, h3⟩ := h
  refine Nat.le_trans (dn_abs_le (x := x) (y := B) ?_) hB
  have h4 := per_mul (A := A) (B := B)
  rcases Decidable.em (B = 0) with e | e
  · subst e
    unfold per at h2
    simp at h2
    omega
  · have h5 := gcd_pos (A := A) e
    have h6 : per A B * 1 ≤ per A B * Int.gcd A B := Int.mul_le_mul_of_nonneg_left (by omega) (Int.le_of_lt (per_pos e))
    omega
theorem Bez.dyk {A B x y : Int} {k : Nat} (h : Bez A B x y) (hB : B ≠ 0) (hA : dn A ≤ k) (hk : 1 ≤ k) : dn y ≤ k := by
  have hy := bez_y hB h.1 h.2.1 h.2.2
  rcases Nat.le_total A.natAbs 1 with e | e
  · exact Nat.le_trans (dn_abs_le (x := y) (y := 1) (by omega)) (by rw [dn_one]; exact hk)
  · exact Nat.le_trans (dn_abs_le (x := y) (y := A) (by omega)) hA
theorem gcd_dn {x y : Int} {k : Nat} (hx : dn x ≤ k) (hy : dn y ≤ k) : dn (Int.gcd x y : Int) ≤ k := by
  have := gcd_le x y
  rcases Nat.le_total x.natAbs y.natAbs with e | e
  · exact Nat.le_trans (dn_abs_le (x := (Int.gcd x y : Int)) (y := y) (by omega)) hy
  · exact Nat.le_trans (dn_abs_le (x := (Int.gcd x y : Int)) (y := x) (by omega)) hx
theorem Gcd_ok (x y : Int) (w : World) (tb : Tb w) (hx : dn x ≤ 1000) (hy : dn y ≤ 1000) :
    Calls Tryd.prog 13 #[.string (tx x), .string (tx y)] w (GivesE2 (tx (Int.gcd x y : Int)) 0 w) := (Gcd_tx x y w tb hx hy).mono fun _ _ h => h.ok (gcd_dn hx hy)
/-- What Bezout hands back for any two integers of at most k digits. -/
theorem bez_all (x y : Int) (k : Nat) (w : World) (tb : Tb w) (hx : dn x ≤ k) (hy : dn y ≤ k) (h1 : 1 ≤ k) (h2 : k ≤ 1000) :
    Calls Tryd.prog 12 #[.string (tx x), .string (tx y)] w (fun e w' => ∃ x' y', (x * x' + y * y' = Int.gcd x y ∧ dn x' ≤ k ∧ dn y' ≤ k) ∧ GivesQ4 (tx (Int.gcd x y : Int)) (tx x') (tx y') 0 w e w') := by
  by_cases h0 : y = 0
  · refine (Bezout_zero x y w tb (by omega) (by omega) h0).mono fun e w' h => ⟨sg x, 0, ⟨?_, ?_, ?_⟩, ?_⟩
    · subst h0
      rw [Int.gcd_zero_right]
      rcases sg_cases x with ⟨a, b⟩ | ⟨a, b⟩ | ⟨a, b⟩ <;> rw [b] <;> omega
    · refine Nat.le_trans (dn_abs_le (x := sg x) (y := 1) ?_) (by rw [dn_one]; exact h1)
      rcases sg_cases x with ⟨a, b⟩ | ⟨a, b⟩ | ⟨a, b⟩ <;> rw [b] <;> decide
    · rw [dn_zero]; exact h1
    · subst h0
      rw [Int.gcd_zero_right, t0lit]
      exact h
  · exact (Bezout_tx x y w (by omega) (by omega) h0).mono fun e w' ⟨x', y', hb, h⟩ => ⟨x', y', ⟨hb.2.2, hb.dxk hy, hb.dyk h0 hx h1⟩, h⟩
theorem fdiv_gcd {x y : Int} (h : 0 < Int.gcd x y) : Int.gcd (x.fdiv (Int.gcd x y)) (y.fdiv (Int.gcd x y)) = 1 := by
  rw [Int.fdiv_eq_ediv_of_nonneg _ (by omega), Int.fdiv_eq_ediv_of_nonneg _ (by omega)]
  exact Int.gcd_ediv_gcd_ediv_gcd h
set_option maxHeartbeats 4000000 in
set_option maxRecDepth 100000 in
theorem divisors_any (a b c : ByteArray) (w : World) (tb : Tb w) (ha : a.size ≤ 9223372036854775807) (hb : b.size ≤ 9223372036854775807) (hc : c.size ≤ 9223372036854775807) :
    Calls Tryd.prog 4 #[.string a, .string b, .string c] w fun e w' => e = .returned (.bool true) ∧ Below w.heap.size w w' := by
  have B0 := Lib.hid (Below.refl w.heap.size w)
  have T0 := Lib.hid tb
  go_enter Tryd.func4, Tryd.ntmps4
  go_wp2_with fail
  (with_reducible refine Calls.mono (fit_any a 60 _ ha (by omega) (by omega)) ?_)
  rintro e w1 ⟨X, hX, rfl, hb⟩
  have B1 := Lib.hid (B0.out.trans (hb.mono B0.out.size))
  have T1 := Lib.hid (T0.out.below hb)
  clear hb
  obtain ⟨SX, hSX⟩ : ∃ s, s = tx X := ⟨_, rfl⟩
  rw [← hSX]
  have HSX := Lib.hid hSX
  clear hSX
  go_wp2_with fail
  (with_reducible refine Calls.mono (fit_any b 60 _ hb (by omega) (by omega)) ?_)
  rintro e w2 ⟨Y, hY, rfl, hb⟩
  have B2 := Lib.hid (B1.out.trans (hb.mono B1.out.size))
  have T2 := Lib.hid (T1.out.below hb)
  clear hb
  obtain ⟨SY, hSY⟩ : ∃ s, s = tx Y := ⟨_, rfl⟩
  rw [← hSY]
  have HSY := Lib.hid hSY
  clear hSY
  go_wp2_with fail
  (with_reducible refine Calls.mono (fit_any c 20 _ hc (by omega) (by omega)) ?_)
  rintro e w3 ⟨K, hK, rfl, hb⟩
  have B3 := Lib.hid (B2.out.trans (hb.mono B2.out.size))
  have T3 := Lib.hid (T2.out.below hb)
  clear hb
  obtain ⟨SK, hSK⟩ : ∃ s, s = tx K := ⟨_, rfl⟩
  rw [← hSK]
  have HSK := Lib.hid hSK
  clear hSK
  have hbz := bez_all X Y 60 _ T3.out hX hY (by omega) (by omega)
  rw [← HSX.out, ← HSY.out] at hbz
  obtain ⟨G, hG⟩ : ∃ G : Int, G = (Int.gcd X Y : Int) := ⟨_, rfl⟩
  rw [← hG] at hbz
  obtain ⟨SG, hSG⟩ : ∃ s, s = tx G := ⟨_, rfl⟩
  rw [← hSG] at hbz
  have BZ0 := Lib.hid hbz
  have HG := Lib.hid hG
  have HSG := Lib.hid hSG
  clear hbz hG hSG
  go_wp2_with fail
  refine Calls.mono BZ0.out ?_
  rintro e w4 ⟨M, N, ⟨hmn, hM, hN⟩, rfl, hb⟩
  have B4 := Lib.hid (B3.out.trans (hb.mono B3.out.size))
  have T4 := Lib.hid (T3.out.below hb)
  clear hb BZ0
  have hG := HG.out
  have hSG := HSG.out
  have hSX := HSX.out
  have hSY := HSY.out
  have hSK := HSK.out
  have hGd : dn G ≤ 60 := by rw [hG]; exact gcd_dn hX hY
  have AW := Lib.hid (fun W (tb : Tb W) => awake_any W tb)
  have dxm := dn_times hX hM (by omega)
  have dyn := dn_times hY hN (by omega)
  have dxk := dn_times hX hK (by omega)
  have dyk := dn_times hY hK (by omega)
  have dgk := dn_times hGd hK (by omega)
  have GC := Lib.hid (fun W tb => Gcd_ok X Y W tb (by omega) (by omega))
  rw [← hG] at GC
  have M1 := Lib.hid (fun W tb => product_tx X M W tb (by omega) (by omega) (by omega))
  have M2 := Lib.hid (fun W tb => product_tx Y N W tb (by omega) (by omega) (by omega))
  have A1 := Lib.hid (fun W tb => sum_tx (X * M) (Y * N) W tb (by omega) (by omega) (by rw [hmn]; omega))
  rw [hmn] at A1
  have M3 := Lib.hid (fun W tb => product_tx X K W tb (by omega) (by omega) (by omega))
  have M4 := Lib.hid (fun W tb => product_tx Y K W tb (by omega) (by omega) (by omega))
  have GK := Lib.hid (fun W tb => Gcd_ok (X * K) (Y * K) W tb (by omega) (by omega))
  have hgk : (Int.gcd (X * K) (Y * K) : Int) = (G * K).natAbs := by rw [Int.gcd_mul_right, Int.natAbs_mul, hG]; simp
  rw [hgk] at GK
  have M5 := Lib.hid (fun W tb => product_tx G K W tb (by omega) (by omega) (by omega))
  have AB := Lib.hid (fun W => Abs_tx (G * K) W (by omega))
  have eG := tx_is0 G
  obtain ⟨SM, hSM⟩ : ∃ s, s = tx (M) := ⟨_, rfl⟩
  obtain ⟨SN, hSN⟩ : ∃ s, s = tx (N) := ⟨_, rfl⟩
  obtain ⟨P1, hP1⟩ : ∃ s, s = tx (X * M) := ⟨_, rfl⟩
  obtain ⟨P2, hP2⟩ : ∃ s, s = tx (Y * N) := ⟨_, rfl⟩
  obtain ⟨P3, hP3⟩ : ∃ s, s = tx (X * K) := ⟨_, rfl⟩
  obtain ⟨P4, hP4⟩ : ∃ s, s = tx (Y * K) := ⟨_, rfl⟩
  obtain ⟨P5, hP5⟩ : ∃ s, s = tx (G * K) := ⟨_, rfl⟩
  obtain ⟨SA, hSA⟩ : ∃ s, s = tx ((G * K).natAbs) := ⟨_, rfl⟩
  rw [← hSM] at M1 ⊢
  rw [← hSN] at M2 ⊢
  rw [← hP1] at M1 A1
  rw [← hP2] at M2 A1
  rw [← hP3] at M3 GK
  rw [← hP4] at M4 GK
  rw [← hP5] at M5 AB
  rw [← hSA] at GK AB
  rw [← hSG] at GC A1 M5 eG
  rw [← hSX] at GC M1 M3
  rw [← hSY] at GC M2 M4
  rw [← hSK] at M3 M4 M5
  have IA := Lib.hid (fun W => is_yes SA W)
  have eGG : (SG.toList != SG.toList) = false := by simp
  have HMN := Lib.hid hmn
  clear hSM hSN hP1 hP2 hP3 hP4 hP5 hSA hmn hM hN dxm dyn dxk dyk dgk hgk hSG
  by_cases h0 : G = 0
  · rw [decide_eq_true h0] at eG
    have hxy : X = 0 ∧ Y = 0 := by
      rw [hG] at h0
      exact Int.gcd_eq_zero_iff.1 (by omega)
    have eX := tx_is0 X
    have eY := tx_is0 Y
    rw [← hSX, decide_eq_true hxy.1] at eX
    rw [← hSY, decide_eq_true hxy.2] at eY
    clear hG h0 hxy hSX hSY hSK hX hY hK hGd
    go_wp2_with fail
    (with_reducible refine Calls.mono (GC.out _ T4.out) ?_)
    rintro e w5 ⟨rfl, hb⟩
    have B5 := Lib.hid (B4.out.trans (hb.mono B4.out.size))
    have T5 := Lib.hid (T4.out.below hb)
    clear hb
    go_wp2_with fail
    (with_reducible refine Calls.mono (M1.out _ T5.out) ?_)
    rintro e w6 ⟨rfl, hb⟩
    have B6 := Lib.hid (B5.out.trans (hb.mono B5.out.size))
    have T6 := Lib.hid (T5.out.below hb)
    clear hb
    go_wp2_with fail
    (with_reducible refine Calls.mono (M2.out _ T6.out) ?_)
    rintro e w7 ⟨rfl, hb⟩
    have B7 := Lib.hid (B6.out.trans (hb.mono B6.out.size))
    have T7 := Lib.hid (T6.out.below hb)
    clear hb
    go_wp2_with fail
    (with_reducible refine Calls.mono (A1.out _ T7.out) ?_)
    rintro e w8 ⟨rfl, hb⟩
    have B8 := Lib.hid (B7.out.trans (hb.mono B7.out.size))
    have T8 := Lib.hid (T7.out.below hb)
    clear hb
    go_wp2_with fail
    (with_reducible refine Calls.mono (M3.out _ T8.out) ?_)
    rintro e w9 ⟨rfl, hb⟩
    have B9 := Lib.hid (B8.out.trans (hb.mono B8.out.size))
    have T9 := Lib.hid (T8.out.below hb)
    clear hb
    go_wp2_with fail
    (with_reducible refine Calls.mono (M4.out _ T9.out) ?_)
    rintro e w10 ⟨rfl, hb⟩
    have B10 := Lib.hid (B9.out.trans (hb.mono B9.out.size))
    have T10 := Lib.hid (T9.out.below hb)
    clear hb
    go_wp2_with fail
    (with_reducible refine Calls.mono (GK.out _ T10.out) ?_)
    rintro e w11 ⟨rfl, hb⟩
    have B11 := Lib.hid (B10.out.trans (hb.mono B10.out.size))
    have T11 := Lib.hid (T10.out.below hb)
    clear hb
    go_wp2_with fail
    (with_reducible refine Calls.mono (M5.out _ T11.out) ?_)
    rintro e w12 ⟨rfl, hb⟩
    have B12 := Lib.hid (B11.out.trans (hb.mono B11.out.size))
    have T12 := Lib.hid (T11.out.below hb)
    clear hb
    go_wp2_with fail
    (with_reducible refine Calls.mono (AB.out _) ?_)
    rintro e w' ⟨rfl, rfl⟩
    go_wp2_with fail
    (with_reducible refine Calls.mono (IA.out _) ?_)
    rintro e w' ⟨rfl, rfl⟩
    go_wp2_with fail
    (with_reducible refine Calls.mono (AW.out _ T12.out) ?_)
    rintro e w13 ⟨rfl, hb⟩
    have B13 := Lib.hid (B12.out.trans (hb.mono B12.out.size))
    have T13 := Lib.hid (T12.out.below hb)
    clear hb
    go_wp2
    go_ret
    exact ⟨rfl, B13.out⟩
  · rw [decide_eq_false h0] at eG
    have hgp : 0 < Int.gcd X Y := by omega
    have hr1 : X.fmod G = 0 := Int.fmod_eq_zero_of_dvd (by rw [hG]; exact Int.gcd_dvd_left X Y)
    have hr2 : Y.fmod G = 0 := Int.fmod_eq_zero_of_dvd (by rw [hG]; exact Int.gcd_dvd_right X Y)
    have hone := fdiv_gcd hgp
    rw [← hG] at hone
    have D1 := Lib.hid (fun W tb => DivMod_tx X G W tb (by omega) (by omega) h0)
    have D2 := Lib.hid (fun W tb => DivMod_tx Y G W tb (by omega) (by omega) h0)
    have hp1 : dn (X.fdiv G) ≤ 60 := Nat.le_trans (dn_abs_le (fdiv_abs h0)) hX
    have hp2 : dn (Y.fdiv G) ≤ 60 := Nat.le_trans (dn_abs_le (fdiv_abs h0)) hY
    have GO := Lib.hid (fun W tb => Gcd_ok (X.fdiv G) (Y.fdiv G) W tb (by omega) (by omega))
    rw [show (Int.gcd (X.fdiv G) (Y.fdiv G) : Int) = 1 by rw [hone]; rfl, t1] at GO
    rw [hr1] at D1
    rw [hr2] at D2
    have e0 := tx_is0 0
    rw [decide_eq_true rfl] at e0
    obtain ⟨SP, hSP⟩ : ∃ s, s = tx (X.fdiv G) := ⟨_, rfl⟩
    obtain ⟨SQ, hSQ⟩ : ∃ s, s = tx (Y.fdiv G) := ⟨_, rfl⟩
    obtain ⟨S0, hS0⟩ : ∃ s, s = tx 0 := ⟨_, rfl⟩
    rw [← hSP] at D1 GO
    rw [← hSQ] at D2 GO
    rw [← hS0] at D1 D2 e0
    rw [← hSX, ← HSG.out] at D1
    rw [← hSY, ← HSG.out] at D2
    have IO := Lib.hid (fun W => is_yes ⟨#[49]⟩ W)
    clear hG h0 hgp hr1 hr2 hone hp1 hp2 hSP hSQ hS0 hSX hSY hSK hX hY hK hGd
    go_wp2_with fail
    (with_reducible refine Calls.mono (GC.out _ T4.out) ?_)
    rintro e w5 ⟨rfl, hb⟩
    have B5 := Lib.hid (B4.out.trans (hb.mono B4.out.size))
    have T5 := Lib.hid (T4.out.below hb)
    clear hb
    go_wp2_with fail
    (with_reducible refine Calls.mono (M1.out _ T5.out) ?_)
    rintro e w6 ⟨rfl, hb⟩
    have B6 := Lib.hid (B5.out.trans (hb.mono B5.out.size))
    have T6 := Lib.hid (T5.out.below hb)
    clear hb
    go_wp2_with fail
    (with_reducible refine Calls.mono (M2.out _ T6.out) ?_)
    rintro e w7 ⟨rfl, hb⟩
    have B7 := Lib.hid (B6.out.trans (hb.mono B6.out.size))
    have T7 := Lib.hid (T6.out.below hb)
    clear hb
    go_wp2_with fail
    (with_reducible refine Calls.mono (A1.out _ T7.out) ?_)
    rintro e w8 ⟨rfl, hb⟩
    have B8 := Lib.hid (B7.out.trans (hb.mono B7.out.size))
    have T8 := Lib.hid (T7.out.below hb)
    clear hb
    go_wp2_with fail
    (with_reducible refine Calls.mono (M3.out _ T8.out) ?_)
    rintro e w9 ⟨rfl, hb⟩
    have B9 := Lib.hid (B8.out.trans (hb.mono B8.out.size))
    have T9 := Lib.hid (T8.out.below hb)
    clear hb
    go_wp2_with fail
    (with_reducible refine Calls.mono (M4.out _ T9.out) ?_)
    rintro e w10 ⟨rfl, hb⟩
    have B10 := Lib.hid (B9.out.trans (hb.mono B9.out.size))
    have T10 := Lib.hid (T9.out.below hb)
    clear hb
    go_wp2_with fail
    (with_reducible refine Calls.mono (GK.out _ T10.out) ?_)
    rintro e w11 ⟨rfl, hb⟩
    have B11 := Lib.hid (B10.out.trans (hb.mono B10.out.size))
    have T11 := Lib.hid (T10.out.below hb)
    clear hb
    go_wp2_with fail
    (with_reducible refine Calls.mono (M5.out _ T11.out) ?_)
    rintro e w12 ⟨rfl, hb⟩
    have B12 := Lib.hid (B11.out.trans (hb.mono B11.out.size))
    have T12 := Lib.hid (T11.out.below hb)
    clear hb
    go_wp2_with fail
    (with_reducible refine Calls.mono (AB.out _) ?_)
    rintro e w' ⟨rfl, rfl⟩
    go_wp2_with fail
    (with_reducible refine Calls.mono (IA.out _) ?_)
    rintro e w' ⟨rfl, rfl⟩
    go_wp2_with fail
    (with_reducible refine Calls.mono (D1.out _ T12.out) ?_)
    rintro e w13 ⟨rfl, hb⟩
    have B13 := Lib.hid (B12.out.trans (hb.mono B12.out.size))
    have T13 := Lib.hid (T12.out.below hb)
    clear hb
    go_wp2_with fail
    (with_reducible refine Calls.mono (D2.out _ T13.out) ?_)
    rintro e w14 ⟨rfl, hb⟩
    have B14 := Lib.hid (B13.out.trans (hb.mono B13.out.size))
    have T14 := Lib.hid (T13.out.below hb)
    clear hb
    go_wp2_with fail
    (with_reducible refine Calls.mono (GO.out _ T14.out) ?_)
    rintro e w15 ⟨rfl, hb⟩
    have B15 := Lib.hid (B14.out.trans (hb.mono B14.out.size))
    have T15 := Lib.hid (T14.out.below hb)
    clear hb
    go_wp2_with fail
    (with_reducible refine Calls.mono (IO.out _) ?_)
    rintro e w' ⟨rfl, rfl⟩
    go_wp2_with fail
    (with_reducible refine Calls.mono (AW.out _ T15.out) ?_)
    rintro e w16 ⟨rfl, hb⟩
    have B16 := Lib.hid (B15.out.trans (hb.mono B15.out.size))
    have T16 := Lib.hid (T15.out.below hb)
    clear hb
    go_wp2
    go_ret
    exact ⟨rfl, B16.out⟩
end Go.Proofs.YtgeokeffondmhaaDoor
