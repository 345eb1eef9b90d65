/-
  What the leaf functions of package modp and of its reference return, at every argument: the table test, the residue, the sums and products.
-/
import Derived.Test.YtdhcffboaiajeaaDoorProg
import Derived.Test.YtdhcffboaiajeaaDoorMath
import Derived.WalkKit
import Derived.WalkSpells
import Derived.Lib.Hide
namespace Go.Proofs.YtdhcffboaiajeaaDoor
open Go.RowKit M

theorem ret_int {k : IntKind} {a b : Int} (h : a = b) : Ending.returned (.int k a) = .returned (.int k b) := by rw [h]
theorem ret_bool {a b : Bool} (h : a = b) : Ending.returned (.bool a) = .returned (.bool b) := by rw [h]
theorem ret_two {k l : IntKind} {a b c d : Int} (h : a = b) (h' : c = d) : Ending.returned (.tuple #[.int k a, .int l c]) = .returned (.tuple #[.int k b, .int l d]) := by rw [h, h']

/-- The four words of the table, under a name. -/
def word (i : Nat) : Int := [2891462833508853932, 9223979663092122248, 9234666804958202376, 577166812715155618].getD i 0
/-- The world holds the table. -/
def Tab (w : World) : Prop := ∀ i : Nat, i < 4 → w.cell? ⟨0, i, none⟩ = some (.int .u64 (word i))
theorem word_bd : ∀ i : Nat, 0 ≤ word i ∧ word i ≤ 18446744073709551615 := by
  intro i
  match i with
  | 0 | 1 | 2 | 3 => exact ⟨by decide, by decide⟩
  | i + 4 => exact ⟨by simp [word], by simp [word]⟩

theorem word_chk : ((List.range 252).all fun n => decide (n < 2) || ((bits BinOp.and IntKind.u64 (word ((n : Int) / 64).toNat / 2 ^ ((n : Int) % 64).toNat) 1 == 1) == PL.contains n)) = true := by decide +kernel
theorem word_pr (p : Int) (h2 : 2 ≤ p) (h3 : p ≤ 251) : (bits BinOp.and IntKind.u64 (word (p / 64).toNat / 2 ^ (p % 64).toNat) 1 == 1) = pr p := by
  obtain ⟨n, rfl⟩ := Int.eq_ofNat_of_zero_le (show 0 ≤ p by omega)
  have e := List.all_eq_true.1 word_chk n (List.mem_range.2 (by omega))
  simp only [Bool.or_eq_true, decide_eq_true_eq, beq_iff_eq] at e
  rcases e with e | e
  · omega
  · rw [e]; unfold pr; simp

theorem prime_mid (p : Int) (w : World) (ht : Tab w) (h2 : 2 ≤ p) (h3 : p ≤ 251) :
    Calls Tryd.prog 53 #[.int .i64 p] w fun e w' => e = .returned (.bool (pr p)) ∧ w = w' := by
  have hc := ht (p / 64).toNat (by omega)
  obtain ⟨b1, b2⟩ := word_bd (p / 64).toNat
  have hx : ∃ x, x = word (p / 64).toNat := ⟨_, rfl⟩
  obtain ⟨x, hx⟩ := hx
  rw [← hx] at hc b1 b2
  have HX := Lib.hid hx
  clear hx ht
  go_enter Tryd.func53, Tryd.ntmps53
  go_wp2
  go_ret
  exact ⟨ret_bool (by rw [HX.out, word_pr p h2 h3]), rfl⟩
theorem prime_any (p : Int) (w : World) (ht : Tab w) :
    Calls Tryd.prog 53 #[.int .i64 p] w fun e w' => e = .returned (.bool (pr p)) ∧ w = w' := by
  by_cases h2 : 2 ≤ p
  · by_cases h3 : p ≤ 251
    · exact prime_mid p w ht h2 h3
    · rw [pr_high (by omega)]
      clear ht
      go_enter Tryd.func53, Tryd.ntmps53
      go_wp2
      go_ret
      exact ⟨rfl, rfl⟩
  · rw [pr_low (by omega)]
    clear ht
    go_enter Tryd.func53, Tryd.ntmps53
    go_wp2
    go_ret
    exact ⟨rfl, rfl⟩

/-! ### residue -/
theorem tmod_neg (m a : Int) (hm : 1 ≤ m) (ha : a < 0) : -m < a.tmod m ∧ a.tmod m ≤ 0 ∧ (a.tmod m < 0 → a.tmod m + m = md m a) ∧ (a.tmod m = 0 → 0 = md m a) := by
  have e := Int.mul_tdiv_add_tmod a m
  have h1 := Int.tmod_lt_of_pos a (show 0 < m by omega)
  have h2 : a.tmod m = -((-a).tmod m) := by rw [Int.neg_tmod]; omega
  have h3 := Int.tmod_nonneg m (show 0 ≤ -a by omega)
  have h4 := Int.tmod_lt_of_pos (-a) (show 0 < m by omega)
  refine ⟨by omega, by omega, fun h => ?_, fun h => ?_⟩
  · unfold md
    have h5 : a % m = (a.tmod m + m) % m := by
      have : a = (a.tmod m + m) + m * (a.tdiv m - 1) := by rw [Int.mul_sub]; omega
      rw [this, Int.add_mul_emod_self_left, ← this]
    rw [h5, Int.emod_eq_of_lt (by omega) (by omega)]
  · unfold md
    have h5 : a = m * a.tdiv m := by omega
    rw [h5]
    simp
theorem residue_any (m a : Int) (w : World) (h1 : 1 ≤ m) (h2 : m ≤ 251) :
    Calls Tryd.prog 87 #[.int .i64 m, .int .i64 a] w fun e w' => e = .returned (.int .i64 (md m a)) ∧ w = w' := by
  by_cases ha : 0 ≤ a
  · obtain ⟨b1, b2⟩ : 0 ≤ a % m ∧ a % m < m := ⟨Int.emod_nonneg _ (by omega), Int.emod_lt_of_pos _ (by omega)⟩
    go_enter Tryd.func87, Tryd.ntmps87
    go_wp2
    go_ret
    exact ⟨rfl, rfl⟩
  · obtain ⟨b1, b2, b3, b4⟩ := tmod_neg m a h1 (by omega)
    have B3 := Lib.hid b3
    have B4 := Lib.hid b4
    clear b3 b4
    by_cases hz : a.tmod m < 0
    · go_enter Tryd.func87, Tryd.ntmps87
      go_wp2
      go_ret
      exact ⟨ret_int (B3.out hz), rfl⟩
    · go_enter Tryd.func87, Tryd.ntmps87
      go_wp2
      go_ret
      have hz' : a.tmod m = 0 := by omega
      exact ⟨ret_int (hz'.trans (B4.out hz')), rfl⟩

/-! ### Mod, Add, Sub, Mul -/
theorem mod_no (p a : Int) (w : World) (ht : Tab w) (hp : pr p = false) :
    Calls Tryd.prog 77 #[.int .i64 p, .int .i64 a] w fun e w' => e = .returned (.int .i64 0) ∧ w = w' := by
  have HT := Lib.hid ht
  clear ht
  go_enter Tryd.func77, Tryd.ntmps77
  go_wp2_with (go_at_call 53; refine (prime_any p _ HT.out).mono ?_; rw [hp]; rintro e w' ⟨rfl, rfl⟩)
  go_ret
  exact ⟨rfl, rfl⟩
theorem mod_ok (p a : Int) (w : World) (ht : Tab w) (hp : pr p = true) :
    Calls Tryd.prog 77 #[.int .i64 p, .int .i64 a] w fun e w' => e = .returned (.int .i64 (md p a)) ∧ w = w' := by
  have HT := Lib.hid ht
  obtain ⟨q1, q2⟩ := pr_bd hp
  clear ht
  go_enter Tryd.func77, Tryd.ntmps77
  go_wp2_with (first | (go_at_call 53; refine (prime_any p _ HT.out).mono ?_; rw [hp]; rintro e w' ⟨rfl, rfl⟩) | (go_at_call 87; refine (residue_any _ _ _ (by omega) (by omega)).mono ?_; rintro e w' ⟨rfl, rfl⟩))
  go_ret
  exact ⟨rfl, rfl⟩

theorem mul_no (p a b : Int) (w : World) (ht : Tab w) (hp : pr p = false) :
    Calls Tryd.prog 89 #[.int .i64 p, .int .i64 a, .int .i64 b] w fun e w' => e = .returned (.tuple #[.int .i64 0, .int .i64 8]) ∧ w = w' := by
  have HT := Lib.hid ht
  clear ht
  go_enter Tryd.func89, Tryd.ntmps89
  go_wp2_with (go_at_call 53; refine (prime_any p _ HT.out).mono ?_; rw [hp]; rintro e w' ⟨rfl, rfl⟩)
  go_ret2
  exact ⟨rfl, rfl⟩
theorem mul_ok (p a b : Int) (w : World) (ht : Tab w) (hp : pr p = true) :
    Calls Tryd.prog 89 #[.int .i64 p, .int .i64 a, .int .i64 b] w fun e w' => e = .returned (.tuple #[.int .i64 (ml p a b), .int .i64 0]) ∧ w = w' := by
  have HT := Lib.hid ht
  obtain ⟨q1, q2⟩ := pr_bd hp
  obtain ⟨a1, a2⟩ := md_bd hp a
  obtain ⟨b1, b2⟩ := md_bd hp b
  obtain ⟨c1, c2⟩ := prod_bd a1 (by omega) b1 (by omega)
  clear ht
  go_enter Tryd.func89, Tryd.ntmps89
  go_wp2_with (first | (go_at_call 53; refine (prime_any p _ HT.out).mono ?_; rw [hp]; rintro e w' ⟨rfl, rfl⟩) | (go_at_call 87; refine (residue_any _ _ _ (by omega) (by omega)).mono ?_; rintro e w' ⟨rfl, rfl⟩))
  go_ret2
  exact ⟨ret_two (ml_md p a b) rfl, rfl⟩

theorem unit_no (p a : Int) (w : World) (ht : Tab w) (hp : pr p = false) :
    Calls Tryd.prog 90 #[.int .i64 p, .int .i64 a] w fun e w' => e = .returned (.tuple #[.int .i64 0, .int .i64 8]) ∧ w = w' := by
  have HT := Lib.hid ht
  clear ht
  go_enter Tryd.func90, Tryd.ntmps90
  go_wp2_with (go_at_call 53; refine (prime_any p _ HT.out).mono ?_; rw [hp]; rintro e w' ⟨rfl, rfl⟩)
  go_ret2
  exact ⟨rfl, rfl⟩
theorem unit_zero (p a : Int) (w : World) (ht : Tab w) (hp : pr p = true) (ha : md p a = 0) :
    Calls Tryd.prog 90 #[.int .i64 p, .int .i64 a] w fun e w' => e = .returned (.tuple #[.int .i64 0, .int .i64 9]) ∧ w = w' := by
  have HT := Lib.hid ht
  obtain ⟨q1, q2⟩ := pr_bd hp
  clear ht
  go_enter Tryd.func90, Tryd.ntmps90
  go_wp2_with (first | (go_at_call 53; refine (prime_any p _ HT.out).mono ?_; rw [hp]; rintro e w' ⟨rfl, rfl⟩) | (go_at_call 87; refine (residue_any _ _ _ (by omega) (by omega)).mono ?_; rw [ha]; rintro e w' ⟨rfl, rfl⟩))
  go_ret2
  exact ⟨rfl, rfl⟩
theorem unit_ok (p a : Int) (w : World) (ht : Tab w) (hp : pr p = true) (ha : md p a ≠ 0) :
    Calls Tryd.prog 90 #[.int .i64 p, .int .i64 a] w fun e w' => e = .returned (.tuple #[.int .i64 (md p a), .int .i64 0]) ∧ w = w' := by
  have HT := Lib.hid ht
  obtain ⟨q1, q2⟩ := pr_bd hp
  obtain ⟨a1, a2⟩ := md_bd hp a
  clear ht
  go_enter Tryd.func90, Tryd.ntmps90
  go_wp2_with (first | (go_at_call 53; refine (prime_any p _ HT.out).mono ?_; rw [hp]; rintro e w' ⟨rfl, rfl⟩) | (go_at_call 87; refine (residue_any _ _ _ (by omega) (by omega)).mono ?_; rintro e w' ⟨rfl, rfl⟩))
  go_ret2
  exact ⟨rfl, rfl⟩
end Go.Proofs.YtdhcffboaiajeaaDoor
