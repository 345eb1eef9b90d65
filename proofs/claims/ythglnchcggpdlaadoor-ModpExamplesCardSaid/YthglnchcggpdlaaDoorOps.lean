/-
  What modp.Inv, Div and Pow return, at every argument.
-/
import Derived.Test.YthglnchcggpdlaaDoorPower
namespace Go.Proofs.YthglnchcggpdlaaDoor
open Go.RowKit M

theorem inv_no (p a : Int) (w : World) (ht : Tab w) (hp : pr p = false) :
    Calls Tryd.prog 23 #[.int .i64 p, .int .i64 a] w fun e w' => e = .returned (.tuple #[.int .i64 (0), .int .i64 8]) ∧ w = w' := by
  have HT := Lib.hid ht
  clear ht
  go_enter Tryd.func23, Tryd.ntmps23
  go_wp2_with ((go_at_call 48; refine (unit_no p a _ HT.out hp).mono ?_; rintro e w' ⟨rfl, rfl⟩))
  go_ret2
  exact ⟨rfl, rfl⟩
theorem inv_zero (p a : Int) (w : World) (ht : Tab w) (hp : pr p = true) (ha : md p a = 0) :
    Calls Tryd.prog 23 #[.int .i64 p, .int .i64 a] w fun e w' => e = .returned (.tuple #[.int .i64 (0), .int .i64 9]) ∧ w = w' := by
  have HT := Lib.hid ht
  clear ht
  have HA := Lib.hid ha
  clear ha
  go_enter Tryd.func23, Tryd.ntmps23
  go_wp2_with ((go_at_call 48; refine (unit_zero p a _ HT.out hp HA.out).mono ?_; rintro e w' ⟨rfl, rfl⟩))
  go_ret2
  exact ⟨rfl, rfl⟩
theorem inv_ok (p a : Int) (w : World) (ht : Tab w) (hp : pr p = true) (ha : md p a ≠ 0) :
    Calls Tryd.prog 23 #[.int .i64 p, .int .i64 a] w fun e w' => e = .returned (.tuple #[.int .i64 (pw p a (p - 2).toNat), .int .i64 0]) ∧ w = w' := by
  have HT := Lib.hid ht
  clear ht
  obtain ⟨q1, q2⟩ := pr_bd hp
  obtain ⟨a1, a2⟩ := md_bd hp a
  go_enter Tryd.func23, Tryd.ntmps23
  go_wp2_with (first | (go_at_call 48; refine (unit_ok p a _ HT.out hp ha).mono ?_; rintro e w' ⟨rfl, rfl⟩) | (go_at_call 49; refine (power_any _ _ _ _ q1 q2 a1 a2 (by omega) (by omega)).mono ?_; rintro e w' ⟨rfl, rfl⟩))
  go_ret2
  exact ⟨ret_two (pw_md p a _) rfl, rfl⟩
theorem div_no (p a b : Int) (w : World) (ht : Tab w) (hp : pr p = false) :
    Calls Tryd.prog 21 #[.int .i64 p, .int .i64 a, .int .i64 b] w fun e w' => e = .returned (.tuple #[.int .i64 (0), .int .i64 8]) ∧ w = w' := by
  have HT := Lib.hid ht
  clear ht
  go_enter Tryd.func21, Tryd.ntmps21
  go_wp2_with ((go_at_call 23; refine (inv_no p b _ HT.out hp).mono ?_; rintro e w' ⟨rfl, rfl⟩))
  go_ret2
  exact ⟨rfl, rfl⟩
theorem div_zero (p a b : Int) (w : World) (ht : Tab w) (hp : pr p = true) (hb : md p b = 0) :
    Calls Tryd.prog 21 #[.int .i64 p, .int .i64 a, .int .i64 b] w fun e w' => e = .returned (.tuple #[.int .i64 (0), .int .i64 9]) ∧ w = w' := by
  have HT := Lib.hid ht
  clear ht
  have HB := Lib.hid hb
  clear hb
  go_enter Tryd.func21, Tryd.ntmps21
  go_wp2_with ((go_at_call 23; refine (inv_zero p b _ HT.out hp HB.out).mono ?_; rintro e w' ⟨rfl, rfl⟩))
  go_ret2
  exact ⟨rfl, rfl⟩
theorem div_ok (p a b : Int) (w : World) (ht : Tab w) (hp : pr p = true) (hb : md p b ≠ 0) :
    Calls Tryd.prog 21 #[.int .i64 p, .int .i64 a, .int .i64 b] w fun e w' => e = .returned (.tuple #[.int .i64 (ml p a (pw p b (p - 2).toNat)), .int .i64 0]) ∧ w = w' := by
  have HT := Lib.hid ht
  clear ht
  go_enter Tryd.func21, Tryd.ntmps21
  go_wp2_with (first | (go_at_call 23; refine (inv_ok p b _ HT.out hp hb).mono ?_; rintro e w' ⟨rfl, rfl⟩) | (go_at_call 19; refine (mul_ok p a _ _ HT.out hp).mono ?_; rintro e w' ⟨rfl, rfl⟩))
  go_ret2
  exact ⟨rfl, rfl⟩
theorem pow_no (p a n : Int) (w : World) (ht : Tab w) (hp : pr p = false) :
    Calls Tryd.prog 25 #[.int .i64 p, .int .i64 a, .int .i64 n] w fun e w' => e = .returned (.tuple #[.int .i64 (0), .int .i64 8]) ∧ w = w' := by
  have HT := Lib.hid ht
  clear ht
  go_enter Tryd.func25, Tryd.ntmps25
  go_wp2_with ((go_at_call 11; refine (prime_any p _ HT.out).mono ?_; rw [hp]; rintro e w' ⟨rfl, rfl⟩))
  go_ret2
  exact ⟨rfl, rfl⟩
theorem pow_ok (p a n : Int) (w : World) (ht : Tab w) (hp : pr p = true) (ha : md p a ≠ 0) :
    Calls Tryd.prog 25 #[.int .i64 p, .int .i64 a, .int .i64 n] w fun e w' => e = .returned (.tuple #[.int .i64 (pw p a (md (p - 1) n).toNat), .int .i64 0]) ∧ w = w' := by
  have HT := Lib.hid ht
  clear ht
  obtain ⟨q1, q2⟩ := pr_bd hp
  obtain ⟨a1, a2⟩ := md_bd hp a
  obtain ⟨n1, n2⟩ : 0 ≤ md (p - 1) n ∧ md (p - 1) n < p - 1 := ⟨Int.emod_nonneg _ (by omega), Int.emod_lt_of_pos _ (by omega)⟩
  go_enter Tryd.func25, Tryd.ntmps25
  go_wp2_with (first | (go_at_call 11; refine (prime_any p _ HT.out).mono ?_; rw [hp]; rintro e w' ⟨rfl, rfl⟩) | (go_at_call 47; refine (residue_any _ _ _ (by omega) (by omega)).mono ?_; rintro e w' ⟨rfl, rfl⟩) | (go_at_call 49; refine (power_any _ _ _ _ q1 q2 a1 a2 n1 (by omega)).mono ?_; rintro e w' ⟨rfl, rfl⟩))
  go_ret2
  exact ⟨ret_two (pw_md p a _) rfl, rfl⟩
theorem pow_neg (p a n : Int) (w : World) (ht : Tab w) (hp : pr p = true) (ha : md p a = 0) (hn : n < 0) :
    Calls Tryd.prog 25 #[.int .i64 p, .int .i64 a, .int .i64 n] w fun e w' => e = .returned (.tuple #[.int .i64 (0), .int .i64 9]) ∧ w = w' := by
  have HT := Lib.hid ht
  clear ht
  obtain ⟨q1, q2⟩ := pr_bd hp
  have HA := Lib.hid ha
  clear ha
  go_enter Tryd.func25, Tryd.ntmps25
  go_wp2_with (first | (go_at_call 11; refine (prime_any p _ HT.out).mono ?_; rw [hp]; rintro e w' ⟨rfl, rfl⟩) | (go_at_call 47; refine (residue_any _ _ _ (by omega) (by omega)).mono ?_; rw [HA.out]; rintro e w' ⟨rfl, rfl⟩))
  go_ret2
  exact ⟨rfl, rfl⟩
theorem pow_nn (p a n : Int) (w : World) (ht : Tab w) (hp : pr p = true) (ha : md p a = 0) (hn : 0 ≤ n) (hn' : n ≤ 9223372036854775807) :
    Calls Tryd.prog 25 #[.int .i64 p, .int .i64 a, .int .i64 n] w fun e w' => e = .returned (.tuple #[.int .i64 (pw p 0 n.toNat), .int .i64 0]) ∧ w = w' := by
  have HT := Lib.hid ht
  clear ht
  obtain ⟨q1, q2⟩ := pr_bd hp
  have HA := Lib.hid ha
  clear ha
  go_enter Tryd.func25, Tryd.ntmps25
  go_wp2_with (first | (go_at_call 11; refine (prime_any p _ HT.out).mono ?_; rw [hp]; rintro e w' ⟨rfl, rfl⟩) | (go_at_call 47; refine (residue_any _ _ _ (by omega) (by omega)).mono ?_; rw [HA.out]; rintro e w' ⟨rfl, rfl⟩) | (go_at_call 49; refine (power_any _ _ _ _ q1 q2 (by omega) (by omega) hn hn').mono ?_; rintro e w' ⟨rfl, rfl⟩))
  go_ret2
  exact ⟨rfl, rfl⟩
end Go.Proofs.YthglnchcggpdlaaDoor
