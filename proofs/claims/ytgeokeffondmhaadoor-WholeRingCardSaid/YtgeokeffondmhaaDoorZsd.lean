/-
  Small facts for the laws' walks: digits of sums and products, signs, texts.
-/
import Derived.Test.YtgeokeffondmhaaDoorZr
import Derived.Test.YtgeokeffondmhaaDoorZs
namespace Go.Proofs.YtgeokeffondmhaaDoor
open Go.RowKit


theorem tx_is0 (z : Int) : ((tx z).toList == [48]) = decide (z = 0) := by
  have h0 : (tx 0).toList = [48] := by rw [Lib.toList_data, tx_list]; simp [Lib.itoa, Lib.decDigits]
  by_cases h : z = 0
  · rw [h, h0, decide_eq_true rfl]; rfl
  · rw [decide_eq_false h, beq_eq_false_iff_ne]
    intro e
    rw [← h0, Lib.toList_data, Lib.toList_data] at e
    exact h (tx_inj.1 (ba_ext e))
theorem dn_of_le {x : Int} {k : Nat} (hk : 1 ≤ k) (h : (x.natAbs : Int) < Ten.bp k) : dn x ≤ k := by
  rw [← dn_abs]
  exact dn_le (by omega) hk h
theorem abs_lt {x : Int} {k : Nat} (h : dn x ≤ k) : (x.natAbs : Int) < Ten.bp k := by
  have h1 := dn_lt (x := (x.natAbs : Int)) (by omega)
  rw [dn_abs] at h1
  exact Int.lt_of_lt_of_le h1 (Ten.bp_mono h)
theorem dn_plus {x y : Int} {k : Nat} (hx : dn x ≤ k) (hy : dn y ≤ k) : dn (x + y) ≤ k + 1 := by
  refine dn_of_le (by omega) ?_
  rw [Ten.bp_succ]
  have := abs_lt hx
  have := abs_lt hy
  omega
theorem dn_times {x y : Int} {j k : Nat} (hx : dn x ≤ j) (hy : dn y ≤ k) (hj : 1 ≤ j) : dn (x * y) ≤ j + k := by
  refine dn_of_le (by omega) ?_
  rw [Int.natAbs_mul, Int.natCast_mul]
  exact Ten.mul_lt_bp (by omega) (by omega) (abs_lt hx) (abs_lt hy)
/-- The floored remainder has the sign of the divisor. -/
theorem fmod_sg {x y : Int} (hy : y ≠ 0) (h : x.fmod y ≠ 0) : sg (x.fmod y) = sg y := by
  unfold sg
  rcases Int.lt_or_lt_of_ne hy with h1 | h1
  · have h2 := Int.fmod_nonneg_of_pos (-x) (show 0 < -y by omega)
    rw [Int.neg_fmod_neg] at h2
    rw [if_pos (by omega), if_pos h1]
  · have h2 := Int.fmod_nonneg_of_pos x h1
    rw [if_neg (by omega), if_neg h, if_neg (by omega), if_neg hy]


theorem sg_sub (x y : Int) : sg (x - y) = cmp3 x y := by
  unfold sg cmp3
  by_cases h1 : x < y
  · rw [if_pos h1, if_pos (by omega)]
  · by_cases h2 : y < x
    · rw [if_neg h1, if_pos h2, if_neg (by omega), if_neg (by omega)]
    · rw [if_neg h1, if_neg h2, if_neg (by omega), if_pos (by omega)]
theorem cmp3_sg (x y : Int) : cmp3 x y = sg (x - y) := (sg_sub x y).symm
theorem sg_mul (x y : Int) : sg (x * y) = sg x * sg y := by
  rcases Int.lt_trichotomy x 0 with h1 | h1 | h1
  · rcases Int.lt_trichotomy y 0 with h2 | h2 | h2
    · have := Int.mul_pos_of_neg_of_neg h1 h2
      unfold sg
      rw [if_neg (by omega), if_neg (by omega), if_pos h1, if_pos h2]
      rfl
    · subst h2
      rw [Int.mul_zero]
      unfold sg
      simp
    · have := Int.mul_neg_of_neg_of_pos h1 h2
      unfold sg
      rw [if_pos (by omega), if_pos h1, if_neg (by omega), if_neg (by omega)]
      rfl
  · subst h1
    rw [Int.zero_mul]
    unfold sg
    simp
  · rcases Int.lt_trichotomy y 0 with h2 | h2 | h2
    · have := Int.mul_neg_of_pos_of_neg h1 h2
      unfold sg
      rw [if_pos (by omega), if_neg (by omega), if_neg (by omega), if_pos h2]
      rfl
    · subst h2
      rw [Int.mul_zero]
      unfold sg
      simp
    · have := Int.mul_pos h1 h2
      unfold sg
      rw [if_neg (by omega), if_neg (by omega), if_neg (by omega), if_neg (by omega), if_neg (by omega), if_neg (by omega)]
      rfl
theorem sg_cases (x : Int) : (x < 0 ∧ sg x = -1) ∨ (x = 0 ∧ sg x = 0) ∨ (0 < x ∧ sg x = 1) := by
  unfold sg
  rcases Int.lt_trichotomy x 0 with h | h | h
  · exact Or.inl ⟨h, if_pos h⟩
  · exact Or.inr (Or.inl ⟨h, by rw [if_neg (by omega), if_pos h]⟩)
  · exact Or.inr (Or.inr ⟨h, by rw [if_neg (by omega), if_neg (by omega)]⟩)
theorem tx_eq (x y : Int) : ((tx x).toList == (tx y).toList) = decide (x = y) := by
  by_cases h : x = y
  · rw [h, decide_eq_true rfl]; simp
  · rw [decide_eq_false h, beq_eq_false_iff_ne, Lib.toList_data, Lib.toList_data]
    intro e
    exact h (tx_inj.1 (ba_ext e))
theorem Sub_ok (x y : Int) (w : World) (tb : Tb w) (hx : dn x ≤ 1000) (hy : dn y ≤ 1000) (hd : dn (x - y) ≤ 1000) :
    Calls Tryd.prog 8 #[.string (tx x), .string (tx y)] w (GivesE2 (tx (x - y)) 0 w) := (Sub_tx x y w tb hx hy).mono fun _ _ h => h.ok hd
theorem t0lit : tx 0 = ⟨#[48]⟩ := lit_tx (by simp [Lib.itoa, Lib.decDigits])
end Go.Proofs.YtgeokeffondmhaaDoor
