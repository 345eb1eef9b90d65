/-
  The statements' own helpers: is, plus, product, power and awake.
-/
import Derived.Test.YthglnchcggpdlaaDoorGen
import Derived.Test.YthglnchcggpdlaaDoorField
namespace Go.Proofs.YthglnchcggpdlaaDoor
open Go.RowKit M

theorem Tab.below {w w' : World} (h : Tab w) (h0 : 0 < w.heap.size) (hb : Below w.heap.size w w') : Tab w' := fun i hi => (hb.cell (p := ⟨0, i, none⟩) h0).trans (h i hi)
theorem Tab.pos {w : World} (h : Tab w) : 0 < w.heap.size := by
  have := h 0 (by decide)
  rcases Nat.eq_zero_or_pos w.heap.size with e | e
  · simp [World.cell?, e] at this
  · exact e

theorem is_yes (x : Int) (w : World) : Calls Tryd.prog 43 #[.int .i64 x, .int .i64 0, .int .i64 x] w fun e w' => e = .returned (.bool true) ∧ w = w' := by
  go_enter Tryd.func43, Tryd.ntmps43
  go_wp2
  go_ret
  exact ⟨rfl, rfl⟩
theorem plus_ok (p a b : Int) (w : World) (ht : Tab w) (hp : pr p = true) :
    Calls Tryd.prog 41 #[.int .i64 p, .int .i64 a, .int .i64 b] w fun e w' => e = .returned (.int .i64 (ad p a b)) ∧ w = w' := by
  have HT := Lib.hid ht
  clear ht
  go_enter Tryd.func41, Tryd.ntmps41
  go_wp2_with (go_at_call 15; refine (add_ok p a b _ HT.out hp).mono ?_; rintro e w' ⟨rfl, rfl⟩)
  go_ret
  exact ⟨rfl, rfl⟩
theorem product_ok (p a b : Int) (w : World) (ht : Tab w) (hp : pr p = true) :
    Calls Tryd.prog 42 #[.int .i64 p, .int .i64 a, .int .i64 b] w fun e w' => e = .returned (.int .i64 (ml p a b)) ∧ w = w' := by
  have HT := Lib.hid ht
  clear ht
  go_enter Tryd.func42, Tryd.ntmps42
  go_wp2_with (go_at_call 19; refine (mul_ok p a b _ HT.out hp).mono ?_; rintro e w' ⟨rfl, rfl⟩)
  go_ret
  exact ⟨rfl, rfl⟩
theorem powerL_ok (p a n : Int) (w : World) (ht : Tab w) (hp : pr p = true) (ha : md p a ≠ 0) :
    Calls Tryd.prog 44 #[.int .i64 p, .int .i64 a, .int .i64 n] w fun e w' => e = .returned (.int .i64 (pw p a (md (p - 1) n).toNat)) ∧ w = w' := by
  have HT := Lib.hid ht
  have HA := Lib.hid ha
  clear ht ha
  go_enter Tryd.func44, Tryd.ntmps44
  go_wp2_with (go_at_call 25; refine (pow_ok p a n _ HT.out hp HA.out).mono ?_; rintro e w' ⟨rfl, rfl⟩)
  go_ret
  exact ⟨rfl, rfl⟩

theorem pr251 : pr 251 = true := by decide +kernel
theorem pr253 : pr 253 = false := by decide +kernel
theorem pr7 : pr 7 = true := by decide +kernel
theorem md7 : md 7 (-1) = 6 := by decide +kernel
theorem ad7 : ad 7 3 5 = 1 := by decide +kernel
theorem md73 : md 7 3 ≠ 0 := by decide +kernel
theorem inv7 : pw 7 3 (7 - 2 : Int).toNat = 5 := by decide +kernel
theorem gen7 : (genN 7 : Int) = 3 := by decide +kernel
theorem root7 : rootV 7 3 = 0 := by decide +kernel
theorem rootE7 : rootE 7 3 = 4 := by decide +kernel

theorem awake_true (w : World) (ht : Tab w) : Calls Tryd.prog 35 #[] w fun e w' => e = .returned (.bool true) ∧ w = w' := by
  have HT := Lib.hid ht
  clear ht
  go_enter Tryd.func35, Tryd.ntmps35
  go_wp2_with fail
  refine (prime_any 251 _ HT.out).mono ?_
  rw [pr251]; rintro e w' ⟨rfl, rfl⟩
  go_wp2_with fail
  refine (prime_any 253 _ HT.out).mono ?_
  rw [pr253]; rintro e w' ⟨rfl, rfl⟩
  go_wp2_with fail
  refine (mod_ok 7 (-1) _ HT.out pr7).mono ?_
  rw [md7]; rintro e w' ⟨rfl, rfl⟩
  go_wp2_with fail
  refine (add_ok 7 3 5 _ HT.out pr7).mono ?_
  rw [ad7]; rintro e w' ⟨rfl, rfl⟩
  go_wp2_with fail
  refine (inv_ok 7 3 _ HT.out pr7 md73).mono ?_
  rw [inv7]; rintro e w' ⟨rfl, rfl⟩
  go_wp2_with fail
  refine (gen_ok 7 _ HT.out pr7).mono ?_
  rw [gen7]; rintro e w' ⟨rfl, rfl⟩
  go_wp2_with fail
  refine (root_ok 7 3 _ HT.out pr7).mono ?_
  rw [root7, rootE7]; rintro e w' ⟨rfl, rfl⟩
  go_wp2_with (go_at_call 43; refine (is_yes _ _).mono ?_; rintro e w' ⟨rfl, rfl⟩)
  go_ret
  exact ⟨rfl, rfl⟩
end Go.Proofs.YthglnchcggpdlaaDoor
