/-
  The walks of ModpField, ModpResidues and ModpSquares: each answers true at every argument.
-/
import Derived.Test.YthglnchcggpdlaaDoorAwake
namespace Go.Proofs.YthglnchcggpdlaaDoor
open Go.RowKit M

theorem inv_mul {p : Int} (hp : pr p = true) (b : Int) (hb : md p b ≠ 0) : ml p (pw p b (p - 2).toNat) b = 1 := by
  have q := pr_bd hp
  have f := fermat hp b hb
  have e : (p - 1).toNat = (p - 2).toNat + 1 := by omega
  rw [e, pw_succ] at f
  exact f
theorem mul_l (p x y : Int) : x % p * y % p = x * y % p := by rw [Int.mul_emod, Int.emod_emod_of_dvd _ (Int.dvd_refl p), ← Int.mul_emod]
theorem mul_r (p x y : Int) : x * (y % p) % p = x * y % p := by rw [Int.mul_comm, mul_l, Int.mul_comm]
theorem div_back {p : Int} (hp : pr p = true) (a b : Int) (hb : md p b ≠ 0) : ml p (ml p a b) (pw p b (p - 2).toNat) = md p a := by
  have f := inv_mul hp b hb
  unfold ml md at *
  rw [mul_l, Int.mul_assoc, Int.mul_comm b, ← mul_r, f, Int.mul_one]

set_option maxHeartbeats 1000000 in
set_option maxRecDepth 100000 in
theorem modpField_walk (which a b c : Int) (w : World) (ht : Tab w) :
    Calls Tryd.prog 5 #[.int .i64 which, .int .i64 a, .int .i64 b, .int .i64 c] w fun e w' => e = .returned (.bool true) ∧ Below w.heap.size w w' := by
  have hF := fun w => field_any which w
  have hp := fld_pr which
  generalize fld which = p at hF hp
  have HF := Lib.hid hF
  have HT := Lib.hid (fun w' hb => Tab.below (w' := w') ht ht.pos hb)
  have e1 : ad p b a = ad p a b := by unfold ad; rw [Int.add_comm]
  have e2 : ml p b a = ml p a b := by unfold ml; rw [Int.mul_comm]
  have e3 : ad p (ad p a b) c = ad p a (ad p b c) := by unfold ad; simp [Int.add_assoc]
  have e4 : ml p (ml p a b) c = ml p a (ml p b c) := by unfold ml; rw [mul_l, mul_r, Int.mul_assoc]
  have e5 : ml p a (ad p b c) = ad p (ml p a b) (ml p a c) := by unfold ml ad; rw [mul_r, Int.mul_add, Int.add_emod]
  have e6 : sb p (ad p a b) b = md p a := by unfold sb ad md; simp [Int.add_sub_cancel]
  have e7 : ad p a 0 = md p a := by unfold ad md; simp
  have e8 : ml p a 1 = md p a := by unfold ml md; simp
  clear hF ht
  by_cases hb : md p b = 0
  · have hb' : (md p b == 0) = true := by rw [hb]; rfl
    have HB := Lib.hid hb
    clear hb
    go_enter Tryd.func5, Tryd.ntmps5
    go_wp2_with fail
    refine (HF.out _).mono ?_
    rintro e w1 ⟨rfl, hb1⟩
    have T1 := Lib.hid (HT.out _ hb1)
    have B1 := Lib.hid hb1
    clear hb1
    go_wp2_with (first
      | (go_at_call 41; refine (plus_ok p _ _ _ T1.out hp).mono ?_; rintro e w' ⟨rfl, rfl⟩)
      | (go_at_call 42; refine (product_ok p _ _ _ T1.out hp).mono ?_; rintro e w' ⟨rfl, rfl⟩)
      | (go_at_call 17; refine (sub_ok p _ _ _ T1.out hp).mono ?_; rintro e w' ⟨rfl, rfl⟩)
      | (go_at_call 13; refine (mod_ok p _ _ T1.out hp).mono ?_; rintro e w' ⟨rfl, rfl⟩)
      | (go_at_call 21; refine (div_zero p _ b _ T1.out hp HB.out).mono ?_; rintro e w' ⟨rfl, rfl⟩)
      | (go_at_call 23; refine (inv_zero p b _ T1.out hp HB.out).mono ?_; rintro e w' ⟨rfl, rfl⟩)
      | (go_at_call 35; refine (awake_true _ T1.out).mono ?_; rintro e w' ⟨rfl, rfl⟩))
    go_ret
    exact ⟨rfl, B1.out⟩
  · have hb' : (md p b == 0) = false := by simp [hb]
    have e9 := div_back hp a b hb
    have e10 := inv_mul hp b hb
    have HB := Lib.hid hb
    clear hb
    go_enter Tryd.func5, Tryd.ntmps5
    go_wp2_with fail
    refine (HF.out _).mono ?_
    rintro e w1 ⟨rfl, hb1⟩
    have T1 := Lib.hid (HT.out _ hb1)
    have B1 := Lib.hid hb1
    clear hb1
    go_wp2_with (first
      | (go_at_call 41; refine (plus_ok p _ _ _ T1.out hp).mono ?_; rintro e w' ⟨rfl, rfl⟩)
      | (go_at_call 42; refine (product_ok p _ _ _ T1.out hp).mono ?_; rintro e w' ⟨rfl, rfl⟩)
      | (go_at_call 17; refine (sub_ok p _ _ _ T1.out hp).mono ?_; rintro e w' ⟨rfl, rfl⟩)
      | (go_at_call 13; refine (mod_ok p _ _ T1.out hp).mono ?_; rintro e w' ⟨rfl, rfl⟩)
      | (go_at_call 21; refine (div_ok p _ b _ T1.out hp HB.out).mono ?_; rintro e w' ⟨rfl, rfl⟩)
      | (go_at_call 23; refine (inv_ok p b _ T1.out hp HB.out).mono ?_; rintro e w' ⟨rfl, rfl⟩)
      | (go_at_call 35; refine (awake_true _ T1.out).mono ?_; rintro e w' ⟨rfl, rfl⟩))
    go_ret
    exact ⟨rfl, B1.out⟩
end Go.Proofs.YthglnchcggpdlaaDoor
