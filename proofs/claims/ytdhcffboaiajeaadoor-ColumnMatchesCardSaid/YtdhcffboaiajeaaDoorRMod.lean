/-
  What the reference's Mod returns.
-/
import Derived.Test.YtdhcffboaiajeaaDoorField
namespace Go.Proofs.YtdhcffboaiajeaaDoor
open Go.RowKit M

theorem rmod_no (p a : Int) (w : World) (hp : pr p = false) :
    Calls Tryd.prog 46 #[.int .i64 p, .int .i64 a] w (fun e w' => e = .returned (.int .i64 (0)) ∧ w = w') := by
  go_enter Tryd.func46, Tryd.ntmps46
  go_wp2_with ((go_at_call 54; refine (rprime_any p _).mono ?_; rw [hp]; rintro e w' ⟨rfl, rfl⟩))
  go_ret
  exact ⟨rfl, rfl⟩
theorem rmod_ok (p a : Int) (w : World) (hp : pr p = true) :
    Calls Tryd.prog 46 #[.int .i64 p, .int .i64 a] w (fun e w' => e = .returned (.int .i64 (md p a)) ∧ w = w') := by
  obtain ⟨q1, q2⟩ := pr_bd hp
  by_cases ha : 0 ≤ a
  · obtain ⟨b1, b2⟩ : 0 ≤ a % p ∧ a % p < p := ⟨Int.emod_nonneg _ (by omega), Int.emod_lt_of_pos _ (by omega)⟩
    go_enter Tryd.func46, Tryd.ntmps46
    go_wp2_with (go_at_call 54; refine (rprime_any p _).mono ?_; rw [hp]; rintro e w' ⟨rfl, rfl⟩)
    go_ret
    exact ⟨rfl, rfl⟩
  · obtain ⟨b1, b2, b3, b4⟩ := tmod_neg p a (by omega) (by omega)
    have B3 := Lib.hid b3
    have B4 := Lib.hid b4
    clear b3 b4
    by_cases hz : a.tmod p < 0
    · go_enter Tryd.func46, Tryd.ntmps46
      go_wp2_with (go_at_call 54; refine (rprime_any p _).mono ?_; rw [hp]; rintro e w' ⟨rfl, rfl⟩)
      go_ret
      exact ⟨ret_int (B3.out hz), rfl⟩
    · go_enter Tryd.func46, Tryd.ntmps46
      go_wp2_with (go_at_call 54; refine (rprime_any p _).mono ?_; rw [hp]; rintro e w' ⟨rfl, rfl⟩)
      go_ret
      have hz' : a.tmod p = 0 := by omega
      exact ⟨ret_int (hz'.trans (B4.out hz')), rfl⟩
end Go.Proofs.YtdhcffboaiajeaaDoor
