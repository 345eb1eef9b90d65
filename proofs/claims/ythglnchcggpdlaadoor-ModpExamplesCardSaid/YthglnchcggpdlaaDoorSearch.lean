/-
  What modp.Order, Log and Root return, at every argument.
-/
import Derived.Test.YthglnchcggpdlaaDoorOps
namespace Go.Proofs.YthglnchcggpdlaaDoor
open Go.RowKit M

theorem order_no (p a : Int) (w : World) (ht : Tab w) (hp : pr p = false) :
    Calls Tryd.prog 27 #[.int .i64 p, .int .i64 a] w fun e w' => e = .returned (.tuple #[.int .i64 0, .int .i64 8]) ∧ w = w' := by
  have HT := Lib.hid ht
  clear ht
  go_enter Tryd.func27, Tryd.ntmps27
  go_wp2_with (go_at_call 48; refine (unit_no p a _ HT.out hp).mono ?_; rintro e w' ⟨rfl, rfl⟩)
  go_ret2
  exact ⟨rfl, rfl⟩
theorem order_zero (p a : Int) (w : World) (ht : Tab w) (hp : pr p = true) (ha : md p a = 0) :
    Calls Tryd.prog 27 #[.int .i64 p, .int .i64 a] w fun e w' => e = .returned (.tuple #[.int .i64 0, .int .i64 9]) ∧ w = w' := by
  have HT := Lib.hid ht
  have HA := Lib.hid ha
  clear ht ha
  go_enter Tryd.func27, Tryd.ntmps27
  go_wp2_with (go_at_call 48; refine (unit_zero p a _ HT.out hp HA.out).mono ?_; rintro e w' ⟨rfl, rfl⟩)
  go_ret2
  exact ⟨rfl, rfl⟩
theorem order_ok (p a : Int) (w : World) (ht : Tab w) (hp : pr p = true) (ha : md p a ≠ 0) :
    Calls Tryd.prog 27 #[.int .i64 p, .int .i64 a] w fun e w' => e = .returned (.tuple #[.int .i64 (ordN p a), .int .i64 0]) ∧ w = w' := by
  have HT := Lib.hid ht
  obtain ⟨q1, q2⟩ := pr_bd hp
  obtain ⟨a1, a2⟩ := md_bd hp a
  have HF := Lib.hid (fermat hp a ha)
  clear ht
  go_enter Tryd.func27, Tryd.ntmps27
  go_wp2_with (go_at_call 48; refine (unit_ok p a _ HT.out hp ha).mono ?_; rintro e w' ⟨rfl, rfl⟩)
  go_loop [8, 9] (fun n x => ∃ j : Nat, 1 ≤ j ∧ j ≤ (p - 1).toNat ∧ NoHit (fO p a) 1 j ∧ n = .int .i64 j ∧ x = .int .i64 (pw p a j)) (fun n _ => (p - 1).toNat - (intOf n).toNat)
  case atStart => exact ⟨1, Nat.le_refl _, by omega, NoHit.start _ _, rfl, by rw [pw_one]⟩
  case round =>
    obtain ⟨j, j1, j2, hN, rfl, rfl⟩ := hrel
    obtain ⟨x1, x2⟩ := pw_bd hp a j
    obtain ⟨m1, m2⟩ := prod_bd x1 (by omega) a1 (by omega)
    by_cases hx : pw p a j = 1
    · have HR := Lib.hid (hN.hit (n := (p - 1).toNat) (by unfold fO; rw [hx]; rfl) j1 (by omega))
      have hx' : (pw p a j != 1) = false := by simp [hx]
      clear hx hN
      go_wp2
      go_ret2
      exact ⟨ret_two (congrArg Nat.cast HR.out.symm) rfl, rfl⟩
    · have HR := Lib.hid (hN.snoc (by unfold fO; simp [hx]))
      have hq : j ≠ (p - 1).toNat := fun e => hx (e ▸ HF.out)
      have hj : j < (p - 1).toNat := by omega
      have hx' : (pw p a j != 1) = true := by simp [hx]
      clear hx hN hq
      go_wp2
      go_round
      case rel => exact ⟨j + 1, by omega, by omega, HR.out, by go_num, by rw [← pw_step]⟩
      case measure => simp [intOf]; omega

theorem log_no (p b a : Int) (w : World) (ht : Tab w) (hp : pr p = false) :
    Calls Tryd.prog 31 #[.int .i64 p, .int .i64 b, .int .i64 a] w fun e w' => e = .returned (.tuple #[.int .i64 0, .int .i64 8]) ∧ w = w' := by
  have HT := Lib.hid ht
  clear ht
  go_enter Tryd.func31, Tryd.ntmps31
  go_wp2_with (go_at_call 48; refine (unit_no p b _ HT.out hp).mono ?_; rintro e w' ⟨rfl, rfl⟩)
  go_ret2
  exact ⟨rfl, rfl⟩
theorem log_zero (p b a : Int) (w : World) (ht : Tab w) (hp : pr p = true) (hb : md p b = 0) :
    Calls Tryd.prog 31 #[.int .i64 p, .int .i64 b, .int .i64 a] w fun e w' => e = .returned (.tuple #[.int .i64 0, .int .i64 9]) ∧ w = w' := by
  have HT := Lib.hid ht
  have HB := Lib.hid hb
  clear ht hb
  go_enter Tryd.func31, Tryd.ntmps31
  go_wp2_with (go_at_call 48; refine (unit_zero p b _ HT.out hp HB.out).mono ?_; rintro e w' ⟨rfl, rfl⟩)
  go_ret2
  exact ⟨rfl, rfl⟩
theorem log_zero2 (p b a : Int) (w : World) (ht : Tab w) (hp : pr p = true) (hb : md p b ≠ 0) (ha : md p a = 0) :
    Calls Tryd.prog 31 #[.int .i64 p, .int .i64 b, .int .i64 a] w fun e w' => e = .returned (.tuple #[.int .i64 0, .int .i64 9]) ∧ w = w' := by
  have HT := Lib.hid ht
  have HB := Lib.hid hb
  have HA := Lib.hid ha
  clear ht hb ha
  go_enter Tryd.func31, Tryd.ntmps31
  go_wp2_with fail
  refine (unit_ok p b _ HT.out hp HB.out).mono ?_
  rintro e w' ⟨rfl, rfl⟩
  go_wp2_with fail
  refine (unit_zero p a _ HT.out hp HA.out).mono ?_
  rintro e w' ⟨rfl, rfl⟩
  go_wp2_with fail
  go_ret2
  exact ⟨rfl, rfl⟩
theorem log_ok (p b a : Int) (w : World) (ht : Tab w) (hp : pr p = true) (hb : md p b ≠ 0) (ha : md p a ≠ 0) :
    Calls Tryd.prog 31 #[.int .i64 p, .int .i64 b, .int .i64 a] w fun e w' => e = .returned (.tuple #[.int .i64 (logV p b a), .int .i64 (logE p b a)]) ∧ w = w' := by
  have HT := Lib.hid ht
  have HB := Lib.hid hb
  have HA := Lib.hid ha
  obtain ⟨q1, q2⟩ := pr_bd hp
  obtain ⟨a1, a2⟩ := md_bd hp a
  obtain ⟨b1, b2⟩ := md_bd hp b
  clear ht ha hb
  go_enter Tryd.func31, Tryd.ntmps31
  go_wp2_with fail
  refine (unit_ok p b _ HT.out hp HB.out).mono ?_
  rintro e w' ⟨rfl, rfl⟩
  go_wp2_with fail
  refine (unit_ok p a _ HT.out hp HA.out).mono ?_
  rintro e w' ⟨rfl, rfl⟩
  go_wp2_with fail
  go_loop [11, 33] (fun x n => ∃ j : Nat, j ≤ (p - 1).toNat ∧ NoHit (fL p b a) 0 j ∧ n = .int .i64 j ∧ x = .int .i64 (pw p b j)) (fun _ n => (p - 1).toNat - (intOf n).toNat)
  case atStart => exact ⟨0, by omega, NoHit.start _ _, rfl, by rw [pw_zero hp]⟩
  case round =>
    obtain ⟨j, j2, hN, rfl, rfl⟩ := hrel
    obtain ⟨x1, x2⟩ := pw_bd hp b j
    obtain ⟨m1, m2⟩ := prod_bd x1 (by omega) b1 (by omega)
    by_cases hj : j < (p - 1).toNat
    · by_cases hx : pw p b j = md p a
      · have HR := Lib.hid (hN.hit (n := (p - 1).toNat) (by unfold fL; rw [hx]; simp) (Nat.zero_le _) (by omega))
        have hx' : (pw p b j == md p a) = true := by simp [hx]
        clear hx hN
        go_wp2
        go_ret2
        have e1 : lgN p b a = j := HR.out
        exact ⟨ret_two (by unfold logV; rw [e1, if_pos hj]) (by unfold logE; rw [e1, if_pos hj]), rfl⟩
      · have HR := Lib.hid (hN.snoc (by unfold fL; simp [hx]))
        have hx' : (pw p b j == md p a) = false := by simp [hx]
        clear hx hN
        go_wp2
        go_round
        case rel => exact ⟨j + 1, by omega, HR.out, by go_num, by rw [← pw_step]⟩
        case measure => simp [intOf]; omega
    · have HR := Lib.hid (first_none (fL p b a) 0 (p - 1).toNat (fun i h1 h2 => hN i h1 (by omega)))
      clear hN
      go_wp2
      go_ret2
      have e1 : lgN p b a = 0 + (p - 1).toNat := HR.out
      exact ⟨ret_two (by unfold logV; rw [e1, if_neg (by omega)]) (by unfold logE; rw [e1, if_neg (by omega)]), rfl⟩

theorem root_no (p a : Int) (w : World) (ht : Tab w) (hp : pr p = false) :
    Calls Tryd.prog 33 #[.int .i64 p, .int .i64 a] w fun e w' => e = .returned (.tuple #[.int .i64 0, .int .i64 8]) ∧ w = w' := by
  have HT := Lib.hid ht
  clear ht
  go_enter Tryd.func33, Tryd.ntmps33
  go_wp2_with (go_at_call 11; refine (prime_any p _ HT.out).mono ?_; rw [hp]; rintro e w' ⟨rfl, rfl⟩)
  go_ret2
  exact ⟨rfl, rfl⟩
theorem root_ok (p a : Int) (w : World) (ht : Tab w) (hp : pr p = true) :
    Calls Tryd.prog 33 #[.int .i64 p, .int .i64 a] w fun e w' => e = .returned (.tuple #[.int .i64 (rootV p a), .int .i64 (rootE p a)]) ∧ w = w' := by
  have HT := Lib.hid ht
  obtain ⟨q1, q2⟩ := pr_bd hp
  obtain ⟨a1, a2⟩ := md_bd hp a
  clear ht
  go_enter Tryd.func33, Tryd.ntmps33
  go_wp2_with (first | (go_at_call 11; refine (prime_any p _ HT.out).mono ?_; rw [hp]; rintro e w' ⟨rfl, rfl⟩) | (go_at_call 47; refine (residue_any _ _ _ (by omega) (by omega)).mono ?_; rintro e w' ⟨rfl, rfl⟩))
  go_loop [15] (fun n => ∃ j : Nat, j ≤ p.toNat ∧ NoHit (fR p a) 0 j ∧ n = .int .i64 j) (fun n => p.toNat - (intOf n).toNat)
  case atStart => exact ⟨0, by omega, NoHit.start _ _, rfl⟩
  case round =>
    obtain ⟨j, j2, hN, rfl⟩ := hrel
    obtain ⟨m1, m2⟩ := prod_bd (show 0 ≤ (j : Int) by omega) (by omega) (show 0 ≤ (j : Int) by omega) (by omega)
    by_cases hj : j < p.toNat
    · by_cases hx : ((j : Int) * j) % p = md p a
      · have HR := Lib.hid (hN.hit (n := p.toNat) (by unfold fR; rw [hx]; simp) (Nat.zero_le _) (by omega))
        have hx' : (((j : Int) * j) % p == md p a) = true := by simp [hx]
        clear hx hN
        go_wp2
        go_ret2
        have e1 : rtN p a = j := HR.out
        exact ⟨ret_two (by unfold rootV; rw [e1, if_pos hj]) (by unfold rootE; rw [e1, if_pos hj]), rfl⟩
      · have HR := Lib.hid (hN.snoc (by unfold fR; simp [hx]))
        have hx' : (((j : Int) * j) % p == md p a) = false := by simp [hx]
        clear hx hN
        go_wp2
        go_round
        case rel => exact ⟨j + 1, by omega, HR.out, by go_num⟩
        case measure => simp [intOf]; omega
    · have HR := Lib.hid (first_none (fR p a) 0 p.toNat (fun i h1 h2 => hN i h1 (by omega)))
      clear hN
      go_wp2
      go_ret2
      have e1 : rtN p a = 0 + p.toNat := HR.out
      exact ⟨ret_two (by unfold rootV; rw [e1, if_neg (by omega)]) (by unfold rootE; rw [e1, if_neg (by omega)]), rfl⟩
end Go.Proofs.YthglnchcggpdlaaDoor
