/-
  The law WholeDivision answers true.
-/
import Derived.Test.YtgeokeffondmhaaGreatDoorZr
import Derived.Test.YtgeokeffondmhaaGreatDoorZs
namespace Go.Proofs.YtgeokeffondmhaaGreatDoor
open Go.RowKit

theorem tx_is0 (z : Int) : ((tx z).toList == [48]) = decide (z = 0) := by
  have h0 : (tx 0).toList = [48] := by rw [Lib.toList_data, tx_list]; simp [Lib.itoa, Lib.decDigits]
  by_cases h : z = 0
  · rw [h, h0, decide_eq_true rfl]; rfl
  · rw [decide_eq_false h, beq_eq_false_iff_ne]
    intro e
    rw [← h0, Lib.toList_data, Lib.toList_data] at e
    exact h (tx_inj.1 (ba_ext e))
theorem dn_of_le {x : Int} {k : Nat} (hk : 1 ≤ k) (h : (x.natAbs : Int) < Ten.bp k) : dn x ≤ k := by
  rw [← dn_abs]
  exact dn_le (by omega) hk h
theorem abs_lt {x : Int} {k : Nat} (h : dn x ≤ k) : (x.natAbs : Int) < Ten.bp k := by
  have h1 := dn_lt (x := (x.natAbs : Int)) (by omega)
  rw [dn_abs] at h1
  exact Int.lt_of_lt_of_le h1 (Ten.bp_mono h)
theorem dn_plus {x y : Int} {k : Nat} (hx : dn x ≤ k) (hy : dn y ≤ k) : dn (x + y) ≤ k + 1 := by
  refine dn_of_le (by omega) ?_
  rw [Ten.bp_succ]
  have := abs_lt hx
  have := abs_lt hy
  omega
theorem dn_times {x y : Int} {j k : Nat} (hx : dn x ≤ j) (hy : dn y ≤ k) (hj : 1 ≤ j) : dn (x * y) ≤ j + k := by
  refine dn_of_le (by omega) ?_
  rw [Int.natAbs_mul, Int.natCast_mul]
  exact Ten.mul_lt_bp (by omega) (by omega) (abs_lt hx) (abs_lt hy)
/-- The floored remainder has the sign of the divisor. -/
theorem fmod_sg {x y : Int} (hy : y ≠ 0) (h : x.fmod y ≠ 0) : sg (x.fmod y) = sg y := by
  unfold sg
  rcases Int.lt_or_lt_of_ne hy with h1 | h1
  · have h2 := Int.fmod_nonneg_of_pos (-x) (show 0 < -y by omega)
    rw [Int.neg_fmod_neg] at h2
    rw [if_pos (by omega), if_pos h1]
  · have h2 := Int.fmod_nonneg_of_pos x h1
    rw [if_neg (by omega), if_neg h, if_neg (by omega), if_neg hy]
set_option maxHeartbeats 1000000 in
set_option maxRecDepth 100000 in
theorem division_any (a b : ByteArray) (w : World) (tb : Tb w) (ha : a.size ≤ 9223372036854775807) (hb' : b.size ≤ 9223372036854775807) :
    Calls Tryz.prog 5 #[.string a, .string b] w fun e w' => e = .returned (.bool true) ∧ Below w.heap.size w w' := by
  have B0 := Lib.hid (Below.refl w.heap.size w)
  have T0 := Lib.hid tb
  go_enter Tryz.func5, Tryz.ntmps5
  go_wp2_with fail
  (with_reducible refine Calls.mono (fit_any a 900 _ ha (by omega) (by omega)) ?_)
  rintro e w1 ⟨X, hX, rfl, hb⟩
  have B1 := Lib.hid (B0.out.trans (hb.mono B0.out.size))
  have T1 := Lib.hid (T0.out.below hb)
  clear hb
  obtain ⟨SX, hSX⟩ : ∃ s, s = tx X := ⟨_, rfl⟩
  rw [← hSX]
  have HSX := Lib.hid hSX
  clear hSX
  go_wp2_with fail
  (with_reducible refine Calls.mono (fit_any b 900 _ hb' (by omega) (by omega)) ?_)
  rintro e w2 ⟨Y, hY, rfl, hb⟩
  have B2 := Lib.hid (B1.out.trans (hb.mono B1.out.size))
  have T2 := Lib.hid (T1.out.below hb)
  clear hb
  obtain ⟨SY, hSY⟩ : ∃ s, s = tx Y := ⟨_, rfl⟩
  rw [← hSY]
  have hSX := HSX.out
  have AW := Lib.hid (fun W (tb : Tb W) => awake_any W tb)
  have eY := tx_is0 Y
  rw [← hSY] at eY
  by_cases hy : Y = 0
  · have DM := Lib.hid (fun W => DivMod_zero X W (by omega))
    rw [show tx 0 = SY by rw [hSY, hy], ← hSX] at DM
    rw [decide_eq_true hy] at eY
    have e0 : ((⟨#[]⟩ : ByteArray).toList == []) = true := by rw [Lib.toList_data]; rfl
    obtain ⟨E0, hE0⟩ : ∃ s, s = (⟨#[]⟩ : ByteArray) := ⟨_, rfl⟩
    rw [← hE0] at DM e0
    clear hX hY hSX hSY hy hE0
    go_wp2_with fail
    (with_reducible refine Calls.mono (DM.out _) ?_)
    rintro e w3 ⟨rfl, hb⟩
    have B3 := Lib.hid (B2.out.trans (hb.mono B2.out.size))
    have T3 := Lib.hid (T2.out.below hb)
    clear hb
    go_wp2_with fail
    (with_reducible refine Calls.mono (AW.out _ T3.out) ?_)
    rintro e w4 ⟨rfl, hb⟩
    have B4 := Lib.hid (B3.out.trans (hb.mono B3.out.size))
    have T4 := Lib.hid (T3.out.below hb)
    clear hb
    go_wp2
    go_ret
    exact ⟨rfl, B4.out⟩
  · have hq : Y * X.fdiv Y + X.fmod Y = X := Int.mul_fdiv_add_fmod X Y
    obtain ⟨Q, hQ⟩ : ∃ q, q = X.fdiv Y := ⟨_, rfl⟩
    obtain ⟨R, hR⟩ : ∃ r, r = X.fmod Y := ⟨_, rfl⟩
    have hqa : dn Q ≤ 900 := by rw [hQ]; exact Nat.le_trans (dn_abs_le (fdiv_abs hy)) hX
    have hra := fmod_abs (x := X) hy
    have hsg := fmod_sg (x := X) hy
    have DM := Lib.hid (fun W tb => DivMod_tx X Y W tb (by omega) (by omega) hy)
    rw [← hQ, ← hR] at hq DM
    rw [← hR] at hra hsg
    have hrn : dn R ≤ 900 := Nat.le_trans (dn_abs_le (Nat.le_of_lt hra)) hY
    have hp : dn (Q * Y) ≤ 901 := by
      have e : Q * Y = X + -R := by rw [Int.mul_comm]; omega
      rw [e]
      exact dn_plus hX (by rw [dn_neg]; exact hrn)
    have PR := Lib.hid (fun W tb => product_tx Q Y W tb (by omega) (by omega) (by omega))
    have SU := Lib.hid (fun W tb => sum_tx (Q * Y) R W tb (by omega) (by omega) (by rw [show Q * Y + R = X by rw [Int.mul_comm]; exact hq]; omega))
    rw [show Q * Y + R = X by rw [Int.mul_comm]; exact hq] at SU
    have SG1 := Lib.hid (fun W => Sign_tx R W (by omega))
    have SG2 := Lib.hid (fun W => Sign_tx Y W (by omega))
    have AB1 := Lib.hid (fun W => Abs_tx R W (by omega))
    have AB2 := Lib.hid (fun W => Abs_tx Y W (by omega))
    have CM := Lib.hid (fun W => Cmp_tx R.natAbs Y.natAbs W (by rw [dn_abs]; omega) (by rw [dn_abs]; omega))
    rw [cmp3_lt (by omega)] at CM
    have eR := tx_is0 R
    obtain ⟨SQ, hSQ⟩ : ∃ s, s = tx Q := ⟨_, rfl⟩
    obtain ⟨SR, hSR⟩ : ∃ s, s = tx R := ⟨_, rfl⟩
    obtain ⟨SP, hSP⟩ : ∃ s, s = tx (Q * Y) := ⟨_, rfl⟩
    obtain ⟨SA, hSA⟩ : ∃ s, s = tx R.natAbs := ⟨_, rfl⟩
    obtain ⟨SB, hSB⟩ : ∃ s, s = tx Y.natAbs := ⟨_, rfl⟩
    rw [← hSQ] at DM PR
    rw [← hSR] at DM SU SG1 AB1 eR
    rw [← hSP] at PR SU
    rw [← hSA] at AB1 CM
    rw [← hSB] at AB2 CM
    rw [← hSX] at DM SU
    rw [← hSY] at DM PR SG2 AB2
    rw [decide_eq_false hy] at eY
    have eX : (SX.toList != SX.toList) = false := by simp
    clear hX hY hSX hSY hq hQ hR hqa hra hrn hp hSQ hSR hSP hSA hSB
    by_cases h0 : R = 0
    · rw [decide_eq_true h0] at eR
      have eR' : (SR.toList != [48]) = false := by unfold bne; rw [eR]; rfl
      clear h0 hsg SG1 SG2
      go_wp2_with fail
      (with_reducible refine Calls.mono (DM.out _ T2.out) ?_)
      rintro e w3 ⟨rfl, hb⟩
      have B3 := Lib.hid (B2.out.trans (hb.mono B2.out.size))
      have T3 := Lib.hid (T2.out.below hb)
      clear hb
      go_wp2_with fail
      (with_reducible refine Calls.mono (PR.out _ T3.out) ?_)
      rintro e w4 ⟨rfl, hb⟩
      have B4 := Lib.hid (B3.out.trans (hb.mono B3.out.size))
      have T4 := Lib.hid (T3.out.below hb)
      clear hb
      go_wp2_with fail
      (with_reducible refine Calls.mono (SU.out _ T4.out) ?_)
      rintro e w5 ⟨rfl, hb⟩
      have B5 := Lib.hid (B4.out.trans (hb.mono B4.out.size))
      have T5 := Lib.hid (T4.out.below hb)
      clear hb
      go_wp2_with fail
      (with_reducible refine Calls.mono (AB1.out _) ?_)
      rintro e w' ⟨rfl, rfl⟩
      go_wp2_with fail
      (with_reducible refine Calls.mono (AB2.out _) ?_)
      rintro e w' ⟨rfl, rfl⟩
      go_wp2_with fail
      (with_reducible refine Calls.mono (CM.out _) ?_)
      rintro e w6 ⟨rfl, hb⟩
      have B6 := Lib.hid (B5.out.trans (hb.mono B5.out.size))
      have T6 := Lib.hid (T5.out.below hb)
      clear hb
      go_wp2_with fail
      (with_reducible refine Calls.mono (AW.out _ T6.out) ?_)
      rintro e w7 ⟨rfl, hb⟩
      have B7 := Lib.hid (B6.out.trans (hb.mono B6.out.size))
      have T7 := Lib.hid (T6.out.below hb)
      clear hb
      go_wp2
      go_ret
      exact ⟨rfl, B7.out⟩
    · rw [decide_eq_false h0] at eR
      have eR' : (SR.toList != [48]) = true := by unfold bne; rw [eR]; rfl
      rw [hsg h0] at SG1
      obtain ⟨sy, hsy⟩ : ∃ s, s = sg Y := ⟨_, rfl⟩
      rw [← hsy] at SG1 SG2
      have es : (sy != sy) = false := by simp
      clear h0 hsg hsy
      go_wp2_with fail
      (with_reducible refine Calls.mono (DM.out _ T2.out) ?_)
      rintro e w3 ⟨rfl, hb⟩
      have B3 := Lib.hid (B2.out.trans (hb.mono B2.out.size))
      have T3 := Lib.hid (T2.out.below hb)
      clear hb
      go_wp2_with fail
      (with_reducible refine Calls.mono (PR.out _ T3.out) ?_)
      rintro e w4 ⟨rfl, hb⟩
      have B4 := Lib.hid (B3.out.trans (hb.mono B3.out.size))
      have T4 := Lib.hid (T3.out.below hb)
      clear hb
      go_wp2_with fail
      (with_reducible refine Calls.mono (SU.out _ T4.out) ?_)
      rintro e w5 ⟨rfl, hb⟩
      have B5 := Lib.hid (B4.out.trans (hb.mono B4.out.size))
      have T5 := Lib.hid (T4.out.below hb)
      clear hb
      go_wp2_with fail
      (with_reducible refine Calls.mono (SG1.out _) ?_)
      rintro e w' ⟨rfl, rfl⟩
      go_wp2_with fail
      (with_reducible refine Calls.mono (SG2.out _) ?_)
      rintro e w' ⟨rfl, rfl⟩
      go_wp2_with fail
      (with_reducible refine Calls.mono (AB1.out _) ?_)
      rintro e w' ⟨rfl, rfl⟩
      go_wp2_with fail
      (with_reducible refine Calls.mono (AB2.out _) ?_)
      rintro e w' ⟨rfl, rfl⟩
      go_wp2_with fail
      (with_reducible refine Calls.mono (CM.out _) ?_)
      rintro e w6 ⟨rfl, hb⟩
      have B6 := Lib.hid (B5.out.trans (hb.mono B5.out.size))
      have T6 := Lib.hid (T5.out.below hb)
      clear hb
      go_wp2_with fail
      (with_reducible refine Calls.mono (AW.out _ T6.out) ?_)
      rintro e w7 ⟨rfl, hb⟩
      have B7 := Lib.hid (B6.out.trans (hb.mono B6.out.size))
      have T7 := Lib.hid (T6.out.below hb)
      clear hb
      go_wp2
      go_ret
      exact ⟨rfl, B7.out⟩
end Go.Proofs.YtgeokeffondmhaaGreatDoor
