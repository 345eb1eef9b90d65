/-
  What modp.Inv, Div and Pow return, at every argument.
-/
import Derived.Test.YtdhcffboaiajeaaDoorPower
namespace Go.Proofs.YtdhcffboaiajeaaDoor
open Go.RowKit M

theorem inv_no (p a : Int) (w : World) (ht : Tab w) (hp : pr p = false) :
    Calls Tryd.prog 86 #[.int .i64 p, .int .i64 a] w fun e w' => e = .returned (.tuple #[.int .i64 (0), .int .i64 8]) ∧ w = w' := by
  have HT := Lib.hid ht
  clear ht
  go_enter Tryd.func86, Tryd.ntmps86
  go_wp2_with ((go_at_call 90; refine (unit_no p a _ HT.out hp).mono ?_; rintro e w' ⟨rfl, rfl⟩))
  go_ret2
  exact ⟨rfl, rfl⟩
theorem inv_zero (p a : Int) (w : World) (ht : Tab w) (hp : pr p = true) (ha : md p a = 0) :
    Calls Tryd.prog 86 #[.int .i64 p, .int .i64 a] w fun e w' => e = .returned (.tuple #[.int .i64 (0), .int .i64 9]) ∧ w = w' := by
  have HT := Lib.hid ht
  clear ht
  have HA := Lib.hid ha
  clear ha
  go_enter Tryd.func86, Tryd.ntmps86
  go_wp2_with ((go_at_call 90; refine (unit_zero p a _ HT.out hp HA.out).mono ?_; rintro e w' ⟨rfl, rfl⟩))
  go_ret2
  exact ⟨rfl, rfl⟩
theorem inv_ok (p a : Int) (w : World) (ht : Tab w) (hp : pr p = true) (ha : md p a ≠ 0) :
    Calls Tryd.prog 86 #[.int .i64 p, .int .i64 a] w fun e w' => e = .returned (.tuple #[.int .i64 (pw p a (p - 2).toNat), .int .i64 0]) ∧ w = w' := by
  have HT := Lib.hid ht
  clear ht
  obtain ⟨q1, q2⟩ := pr_bd hp
  obtain ⟨a1, a2⟩ := md_bd hp a
  go_enter Tryd.func86, Tryd.ntmps86
  go_wp2_with (first | (go_at_call 90; refine (unit_ok p a _ HT.out hp ha).mono ?_; rintro e w' ⟨rfl, rfl⟩) | (go_at_call 91; refine (power_any _ _ _ _ q1 q2 a1 a2 (by omega) (by omega)).mono ?_; rintro e w' ⟨rfl, rfl⟩))
  go_ret2
  exact ⟨ret_two (pw_md p a _) rfl, rfl⟩
theorem div_no (p a b : Int) (w : World) (ht : Tab w) (hp : pr p = false) :
    Calls Tryd.prog 82 #[.int .i64 p, .int .i64 a, .int .i64 b] w fun e w' => e = .returned (.tuple #[.int .i64 (0), .int .i64 8]) ∧ w = w' := by
  have HT := Lib.hid ht
  clear ht
  go_enter Tryd.func82, Tryd.ntmps82
  go_wp2_with ((go_at_call 86; refine (inv_no p b _ HT.out hp).mono ?_; rintro e w' ⟨rfl, rfl⟩))
  go_ret2
  exact ⟨rfl, rfl⟩
theorem div_zero (p a b : Int) (w : World) (ht : Tab w) (hp : pr p = true) (hb : md p b = 0) :
    Calls Tryd.prog 82 #[.int .i64 p, .int .i64 a, .int .i64 b] w fun e w' => e = .returned (.tuple #[.int .i64 (0), .int .i64 9]) ∧ w = w' := by
  have HT := Lib.hid ht
  clear ht
  have HB := Lib.hid hb
  clear hb
  go_enter Tryd.func82, Tryd.ntmps82
  go_wp2_with ((go_at_call 86; refine (inv_zero p b _ HT.out hp HB.out).mono ?_; rintro e w' ⟨rfl, rfl⟩))
  go_ret2
  exact ⟨rfl, rfl⟩
theorem div_ok (p a b : Int) (w : World) (ht : Tab w) (hp : pr p = true) (hb : md p b ≠ 0) :
    Calls Tryd.prog 82 #[.int .i64 p, .int .i64 a, .int .i64 b] w fun e w' => e = .returned (.tuple #[.int .i64 (ml p a (pw p b (p - 2).toNat)), .int .i64 0]) ∧ w = w' := by
  have HT := Lib.hid ht
  clear ht
  go_enter Tryd.func82, Tryd.ntmps82
  go_wp2_with (first | (go_at_call 86; refine (inv_ok p b _ HT.out hp hb).mono ?_; rintro e w' ⟨rfl, rfl⟩) | (go_at_call 89; refine (mul_ok p a _ _ HT.out hp).mono ?_; rintro e w' ⟨rfl, rfl⟩))
  go_ret2
  exact ⟨rfl, rfl⟩
end Go.Proofs.YtdhcffboaiajeaaDoor
