/-
  The walk of ModpPowers: it answers true at every argument.
-/
import Derived.Test.YthglnchcggpdlaaDoorAll
namespace Go.Proofs.YthglnchcggpdlaaDoor
open Go.RowKit M

theorem tmod_bd (m : Int) : -1000000 ≤ m.tmod 1000001 ∧ m.tmod 1000001 ≤ 1000000 := by
  have h1 := Int.tmod_lt_of_pos m (show (0 : Int) < 1000001 by omega)
  have h2 := Int.tmod_lt_of_pos (-m) (show (0 : Int) < 1000001 by omega)
  rw [Int.neg_tmod] at h2
  omega
theorem sq_bd {x : Int} (h1 : -1000000 ≤ x) (h2 : x ≤ 1000000) : 0 ≤ x * x ∧ x * x ≤ 1000000000000 := by
  constructor
  · rcases Int.le_total 0 x with h | h
    · exact Int.mul_nonneg h h
    · exact Int.mul_nonneg_of_nonpos_of_nonpos h h
  · rcases Int.le_total 0 x with h | h
    · exact Int.mul_le_mul h2 h2 h (by omega)
    · have : (-x) * (-x) ≤ 1000000 * 1000000 := Int.mul_le_mul (by omega) (by omega) (by omega) (by omega)
      rw [Int.neg_mul_neg] at this
      exact this
set_option maxHeartbeats 1000000 in
set_option maxRecDepth 100000 in
theorem powers_zero (which a m n p : Int) (w : World) (m1 : -2147483648 ≤ m) (m2 : m ≤ 2147483647) (n1 : -2147483648 ≤ n) (n2 : n ≤ 2147483647) (hp : pr p = true) (ha : md p a = 0) (HF : Hid (∀ w, Calls Tryd.prog 40 #[.int .i64 which] w fun e w' => e = .returned (.int .i64 p) ∧ Below w.heap.size w w'))
    (P0 : Hid (∀ w, Tab w → Calls Tryd.prog 25 #[.int .i64 p, .int .i64 a, .int .i64 0] w (Two 1 0 w))) (P1 : Hid (∀ w, Tab w → Calls Tryd.prog 25 #[.int .i64 p, .int .i64 a, .int .i64 (1 + m.tmod 1000001 * m.tmod 1000001)] w (Two 0 0 w))) (P2 : Hid (∀ w, Tab w → Calls Tryd.prog 25 #[.int .i64 p, .int .i64 a, .int .i64 (-1 - m.tmod 1000001 * m.tmod 1000001)] w (Two 0 9 w))) (ht : Tab w) :
    Calls Tryd.prog 6 #[.int .i64 which, .int .i64 a, .int .i32 m, .int .i32 n] w fun e w' => e = .returned (.bool true) ∧ Below w.heap.size w w' := by
  have HT := Lib.hid (fun w' hb => Tab.below (w' := w') ht ht.pos hb)
  have ha' : (md p a == 0) = true := by rw [ha]; rfl
  obtain ⟨x1, x2⟩ := tmod_bd m
  obtain ⟨y1, y2⟩ := sq_bd x1 x2
  clear ht ha
  go_enter Tryd.func6, Tryd.ntmps6
  go_wp2_with fail
  refine (HF.out _).mono ?_
  rintro e w1 ⟨rfl, hb1⟩
  have T1 := Lib.hid (HT.out _ hb1)
  have B1 := Lib.hid hb1
  clear hb1
  go_wp2_with (first
    | (go_at_call 13; refine (mod_ok p _ _ T1.out hp).mono ?_; rintro e w' ⟨rfl, rfl⟩)
    | (go_at_call 25; first | ((with_reducible refine (P0.out _ T1.out).mono ?_); rintro e w' ⟨rfl, rfl⟩) | ((with_reducible refine (P1.out _ T1.out).mono ?_); rintro e w' ⟨rfl, rfl⟩) | ((with_reducible refine (P2.out _ T1.out).mono ?_); rintro e w' ⟨rfl, rfl⟩))
    | (go_at_call 43; refine (is_yes _ _).mono ?_; rintro e w' ⟨rfl, rfl⟩)
    | (go_at_call 35; refine (awake_true _ T1.out).mono ?_; rintro e w' ⟨rfl, rfl⟩))
  go_ret
  exact ⟨rfl, B1.out⟩

set_option maxHeartbeats 1000000 in
set_option maxRecDepth 100000 in
theorem powers_rest (which a m n p : Int) (w : World) (m1 : -2147483648 ≤ m) (m2 : m ≤ 2147483647) (n1 : -2147483648 ≤ n) (n2 : n ≤ 2147483647) (hp : pr p = true) (ha : md p a ≠ 0) (HF : Hid (∀ w, Calls Tryd.prog 40 #[.int .i64 which] w fun e w' => e = .returned (.int .i64 p) ∧ Below w.heap.size w w')) (ht : Tab w) :
    Calls Tryd.prog 6 #[.int .i64 which, .int .i64 a, .int .i32 m, .int .i32 n] w fun e w' => e = .returned (.bool true) ∧ Below w.heap.size w w' := by
  have HT := Lib.hid (fun w' hb => Tab.below (w' := w') ht ht.pos hb)
  have ha' : (md p a == 0) = false := by simp [ha]
  obtain ⟨q1, q2⟩ := pr_bd hp
  obtain ⟨x1, x2⟩ := tmod_bd m
  obtain ⟨y1, y2⟩ := tmod_bd n
  have e1 := pw_sum hp a ha (m.tmod 1000001) (n.tmod 1000001)
  have e2 := pw_full hp a ha
  have e3 := pw_first hp a ha
  have e4 := md_md (p - 1) (m.tmod 1000001)
  have HA := Lib.hid ha
  clear ht ha
  go_enter Tryd.func6, Tryd.ntmps6
  go_wp2_with fail
  refine (HF.out _).mono ?_
  rintro e w1 ⟨rfl, hb1⟩
  have T1 := Lib.hid (HT.out _ hb1)
  have B1 := Lib.hid hb1
  clear hb1
  go_wp2_with (first
    | (go_at_call 13; refine (mod_ok p _ _ T1.out hp).mono ?_; rintro e w' ⟨rfl, rfl⟩)
    | (go_at_call 45; refine (bring_any _ _ _ (by omega) (by omega)).mono ?_; rintro e w' ⟨rfl, rfl⟩)
    | (go_at_call 44; refine (powerL_ok p a _ _ T1.out hp HA.out).mono ?_; rintro e w' ⟨rfl, rfl⟩)
    | (go_at_call 42; refine (product_ok p _ _ _ T1.out hp).mono ?_; rintro e w' ⟨rfl, rfl⟩)
    | (go_at_call 35; refine (awake_true _ T1.out).mono ?_; rintro e w' ⟨rfl, rfl⟩))
  go_ret
  exact ⟨rfl, B1.out⟩

theorem modpPowers_walk (which a m n : Int) (w : World) (m1 : -2147483648 ≤ m) (m2 : m ≤ 2147483647) (n1 : -2147483648 ≤ n) (n2 : n ≤ 2147483647) (ht : Tab w) :
    Calls Tryd.prog 6 #[.int .i64 which, .int .i64 a, .int .i32 m, .int .i32 n] w fun e w' => e = .returned (.bool true) ∧ Below w.heap.size w w' := by
  have hF := fun w => field_any which w
  have hp := fld_pr which
  generalize fld which = p at hF hp
  by_cases ha : md p a = 0
  · obtain ⟨x1, x2⟩ := tmod_bd m
    obtain ⟨y1, y2⟩ := sq_bd x1 x2
    refine powers_zero which a m n p w m1 m2 n1 n2 hp ha hF (fun w t => ?_) (fun w t => ?_) (fun w t => ?_) ht
    · have := pow_nn p a 0 w t hp ha (by omega) (by omega)
      rw [show (0 : Int).toNat = 0 from rfl, pw_zero hp] at this
      exact this
    · have := pow_nn p a (1 + m.tmod 1000001 * m.tmod 1000001) w t hp ha (by omega) (by omega)
      rw [pw0_zero p _ (by omega)] at this
      exact this
    · exact pow_neg p a _ w t hp ha (by omega)
  · exact powers_rest which a m n p w m1 m2 n1 n2 hp ha hF ht
end Go.Proofs.YthglnchcggpdlaaDoor
