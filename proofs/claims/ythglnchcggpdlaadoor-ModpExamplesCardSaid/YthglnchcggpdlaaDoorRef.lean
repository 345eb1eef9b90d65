/-
  What the functions of the reference (torusref01) return, at every argument: the same as those of package modp.
-/
import Derived.Test.YthglnchcggpdlaaDoorAll
namespace Go.Proofs.YthglnchcggpdlaaDoor
open Go.RowKit M

theorem rmod_no (p a : Int) (w : World) (hp : pr p = false) :
    Calls Tryd.prog 14 #[.int .i64 p, .int .i64 a] w (fun e w' => e = .returned (.int .i64 (0)) ∧ w = w') := by
  go_enter Tryd.func14, Tryd.ntmps14
  go_wp2_with ((go_at_call 12; refine (rprime_any p _).mono ?_; rw [hp]; rintro e w' ⟨rfl, rfl⟩))
  go_ret
  exact ⟨rfl, rfl⟩
theorem rmod_ok (p a : Int) (w : World) (hp : pr p = true) :
    Calls Tryd.prog 14 #[.int .i64 p, .int .i64 a] w (fun e w' => e = .returned (.int .i64 (md p a)) ∧ w = w') := by
  obtain ⟨q1, q2⟩ := pr_bd hp
  by_cases ha : 0 ≤ a
  · obtain ⟨b1, b2⟩ : 0 ≤ a % p ∧ a % p < p := ⟨Int.emod_nonneg _ (by omega), Int.emod_lt_of_pos _ (by omega)⟩
    go_enter Tryd.func14, Tryd.ntmps14
    go_wp2_with (go_at_call 12; refine (rprime_any p _).mono ?_; rw [hp]; rintro e w' ⟨rfl, rfl⟩)
    go_ret
    exact ⟨rfl, rfl⟩
  · obtain ⟨b1, b2, b3, b4⟩ := tmod_neg p a (by omega) (by omega)
    have B3 := Lib.hid b3
    have B4 := Lib.hid b4
    clear b3 b4
    by_cases hz : a.tmod p < 0
    · go_enter Tryd.func14, Tryd.ntmps14
      go_wp2_with (go_at_call 12; refine (rprime_any p _).mono ?_; rw [hp]; rintro e w' ⟨rfl, rfl⟩)
      go_ret
      exact ⟨ret_int (B3.out hz), rfl⟩
    · go_enter Tryd.func14, Tryd.ntmps14
      go_wp2_with (go_at_call 12; refine (rprime_any p _).mono ?_; rw [hp]; rintro e w' ⟨rfl, rfl⟩)
      go_ret
      have hz' : a.tmod p = 0 := by omega
      exact ⟨ret_int (hz'.trans (B4.out hz')), rfl⟩
theorem radd_no (p a b : Int) (w : World) (hp : pr p = false) :
    Calls Tryd.prog 16 #[.int .i64 p, .int .i64 a, .int .i64 b] w (Two 0 8 w) := by
  go_enter Tryd.func16, Tryd.ntmps16
  go_wp2_with ((go_at_call 12; refine (rprime_any p _).mono ?_; rw [hp]; rintro e w' ⟨rfl, rfl⟩))
  go_ret2
  exact ⟨rfl, rfl⟩
theorem radd_ok (p a b : Int) (w : World) (hp : pr p = true) :
    Calls Tryd.prog 16 #[.int .i64 p, .int .i64 a, .int .i64 b] w (Two (ad p a b) 0 w) := by
  obtain ⟨q1, q2⟩ := pr_bd hp
  obtain ⟨a1, a2⟩ := md_bd hp a
  obtain ⟨b1, b2⟩ := md_bd hp b
  obtain ⟨c1, c2⟩ := prod_bd a1 (by omega) b1 (by omega)
  go_enter Tryd.func16, Tryd.ntmps16
  go_wp2_with (first
    | (go_at_call 12; refine (rprime_any p _).mono ?_; rw [hp]; rintro e w' ⟨rfl, rfl⟩)
    | (go_at_call 14; refine (rmod_ok p _ _ hp).mono ?_; rintro e w' ⟨rfl, rfl⟩))
  go_ret2
  exact ⟨ret_two (ad_md p a b) rfl, rfl⟩
theorem rsub_no (p a b : Int) (w : World) (hp : pr p = false) :
    Calls Tryd.prog 18 #[.int .i64 p, .int .i64 a, .int .i64 b] w (Two 0 8 w) := by
  go_enter Tryd.func18, Tryd.ntmps18
  go_wp2_with ((go_at_call 12; refine (rprime_any p _).mono ?_; rw [hp]; rintro e w' ⟨rfl, rfl⟩))
  go_ret2
  exact ⟨rfl, rfl⟩
theorem rsub_ok (p a b : Int) (w : World) (hp : pr p = true) :
    Calls Tryd.prog 18 #[.int .i64 p, .int .i64 a, .int .i64 b] w (Two (sb p a b) 0 w) := by
  obtain ⟨q1, q2⟩ := pr_bd hp
  obtain ⟨a1, a2⟩ := md_bd hp a
  obtain ⟨b1, b2⟩ := md_bd hp b
  obtain ⟨c1, c2⟩ := prod_bd a1 (by omega) b1 (by omega)
  go_enter Tryd.func18, Tryd.ntmps18
  go_wp2_with (first
    | (go_at_call 12; refine (rprime_any p _).mono ?_; rw [hp]; rintro e w' ⟨rfl, rfl⟩)
    | (go_at_call 14; refine (rmod_ok p _ _ hp).mono ?_; rintro e w' ⟨rfl, rfl⟩))
  go_ret2
  exact ⟨ret_two (sb_md p a b) rfl, rfl⟩
theorem rmul_no (p a b : Int) (w : World) (hp : pr p = false) :
    Calls Tryd.prog 20 #[.int .i64 p, .int .i64 a, .int .i64 b] w (Two 0 8 w) := by
  go_enter Tryd.func20, Tryd.ntmps20
  go_wp2_with ((go_at_call 12; refine (rprime_any p _).mono ?_; rw [hp]; rintro e w' ⟨rfl, rfl⟩))
  go_ret2
  exact ⟨rfl, rfl⟩
theorem rmul_ok (p a b : Int) (w : World) (hp : pr p = true) :
    Calls Tryd.prog 20 #[.int .i64 p, .int .i64 a, .int .i64 b] w (Two (ml p a b) 0 w) := by
  obtain ⟨q1, q2⟩ := pr_bd hp
  obtain ⟨a1, a2⟩ := md_bd hp a
  obtain ⟨b1, b2⟩ := md_bd hp b
  obtain ⟨c1, c2⟩ := prod_bd a1 (by omega) b1 (by omega)
  go_enter Tryd.func20, Tryd.ntmps20
  go_wp2_with (first
    | (go_at_call 12; refine (rprime_any p _).mono ?_; rw [hp]; rintro e w' ⟨rfl, rfl⟩)
    | (go_at_call 14; refine (rmod_ok p _ _ hp).mono ?_; rintro e w' ⟨rfl, rfl⟩))
  go_ret2
  exact ⟨ret_two (ml_md p a b) rfl, rfl⟩
theorem rinv_no (p a : Int) (w : World) (hp : pr p = false) :
    Calls Tryd.prog 24 #[.int .i64 p, .int .i64 a] w (Two 0 8 w) := by
  go_enter Tryd.func24, Tryd.ntmps24
  go_wp2_with ((go_at_call 12; refine (rprime_any p _).mono ?_; rw [hp]; rintro e w' ⟨rfl, rfl⟩))
  go_ret2
  exact ⟨rfl, rfl⟩
def fI (p a : Int) (x : Nat) : Bool := ((x : Int) * md p a) % p == 1
theorem inv_left {p : Int} (hp : pr p = true) (a : Int) (ha : md p a ≠ 0) : (pw p a (p - 2).toNat * md p a) % p = 1 := by
  have q := pr_bd hp
  rw [pw_step, show (p - 2).toNat + 1 = (p - 1).toNat from by omega]
  exact fermat hp a ha
theorem inv_unique {p : Int} (hp : pr p = true) (a : Int) (ha : md p a ≠ 0) (x : Int) (h0 : 0 ≤ x) (h1 : x < p) (h : (x * md p a) % p = 1) : x = pw p a (p - 2).toNat := by
  have f := inv_left hp a ha
  have b := pw_bd hp a (p - 2).toNat
  generalize pw p a (p - 2).toNat = i at f b
  have e1 : (x * md p a % p * i) % p = i := by rw [h, Int.one_mul]; exact Int.emod_eq_of_lt b.1 b.2
  have e2 : (x * md p a % p * i) % p = x := by
    rw [Int.mul_emod, Int.emod_emod_of_dvd _ (Int.dvd_refl p), ← Int.mul_emod, Int.mul_assoc, Int.mul_comm (md p a), Int.mul_emod, f, Int.mul_one, Int.emod_emod_of_dvd _ (Int.dvd_refl p)]
    exact Int.emod_eq_of_lt h0 h1
  omega
theorem rinv_all (p a : Int) (w : World) (hp : pr p = true) :
    Calls Tryd.prog 24 #[.int .i64 p, .int .i64 a] w (Two (invV p a) (invE p a) w) := by
  obtain ⟨q1, q2⟩ := pr_bd hp
  obtain ⟨a1, a2⟩ := md_bd hp a
  go_enter Tryd.func24, Tryd.ntmps24
  go_wp2_with ((go_at_call 12; refine (rprime_any p _).mono ?_; rw [hp]; rintro e w' ⟨rfl, rfl⟩))
  go_loop [6] (fun n => ∃ j : Nat, 1 ≤ j ∧ j ≤ p.toNat ∧ NoHit (fI p a) 1 j ∧ n = .int .i64 j) (fun n => p.toNat - (intOf n).toNat)
  case atStart => exact ⟨1, by omega, by omega, NoHit.start _ _, rfl⟩
  case round =>
    obtain ⟨j, j1, j2, hN, rfl⟩ := hrel
    obtain ⟨m1, m2⟩ := prod_bd (show 0 ≤ (j : Int) by omega) (by omega) a1 (by omega)
    by_cases hj : j < p.toNat
    · by_cases hx : ((j : Int) * md p a) % p = 1
      · have hz : md p a ≠ 0 := fun e => by rw [e, Int.mul_zero] at hx; simp at hx
        have HV := Lib.hid (inv_unique hp a hz j (by omega) (by omega) hx)
        have HZ := Lib.hid hz
        have hx' : (((j : Int) * md p a) % p == 1) = true := by simp [hx]
        clear hx hN hz
        go_wp2_with ((go_at_call 14; refine (rmod_ok p _ _ hp).mono ?_; rintro e w' ⟨rfl, rfl⟩))
        go_ret2
        exact ⟨ret_two (by unfold invV; rw [if_neg HZ.out]; exact HV.out) (by unfold invE; rw [if_neg HZ.out]), rfl⟩
      · have HR := Lib.hid (hN.snoc (by unfold fI; simp [hx]))
        have hx' : (((j : Int) * md p a) % p == 1) = false := by simp [hx]
        clear hx hN
        go_wp2_with ((go_at_call 14; refine (rmod_ok p _ _ hp).mono ?_; rintro e w' ⟨rfl, rfl⟩))
        go_round
        case rel => exact ⟨j + 1, by omega, by omega, HR.out, by go_num⟩
        case measure => simp [intOf]; omega
    · have HZ : Hid (md p a = 0) := by
        show md p a = 0
        by_cases hz : md p a = 0
        · exact hz
        · exfalso
          have b := pw_bd hp a (p - 2).toNat
          have f := inv_left hp a hz
          have nz := pw_ne_zero hp a hz (p - 2).toNat
          have := hN (pw p a (p - 2).toNat).toNat (by omega) (by omega)
          unfold fI at this
          rw [Int.toNat_of_nonneg b.1, f] at this
          simp at this
      clear hN
      go_wp2_with ((go_at_call 14; refine (rmod_ok p _ _ hp).mono ?_; rintro e w' ⟨rfl, rfl⟩))
      go_ret2
      exact ⟨ret_two (by unfold invV; rw [if_pos HZ.out]) (by unfold invE; rw [if_pos HZ.out]), rfl⟩
theorem rdiv_no (p a b : Int) (w : World) (hp : pr p = false) :
    Calls Tryd.prog 22 #[.int .i64 p, .int .i64 a, .int .i64 b] w (Two 0 8 w) := by
  go_enter Tryd.func22, Tryd.ntmps22
  go_wp2_with ((go_at_call 24; refine (rinv_no p b _ hp).mono ?_; rintro e w' ⟨rfl, rfl⟩))
  go_ret2
  exact ⟨rfl, rfl⟩
theorem rdiv_all (p a b : Int) (w : World) (hp : pr p = true) :
    Calls Tryd.prog 22 #[.int .i64 p, .int .i64 a, .int .i64 b] w (Two (divV p a b) (invE p b) w) := by
  have hI := fun w => rinv_all p b w hp
  unfold divV
  unfold invV invE at hI
  unfold invE
  by_cases h : md p b = 0
  · rw [if_pos h, if_pos h] at hI
    rw [if_pos h, if_pos h]
    have HI := Lib.hid hI
    clear hI h
    go_enter Tryd.func22, Tryd.ntmps22
    go_wp2_with (go_at_call 24; refine (HI.out _).mono ?_; rintro e w' ⟨rfl, rfl⟩)
    go_ret2
    exact ⟨rfl, rfl⟩
  · rw [if_neg h, if_neg h] at hI
    rw [if_neg h, if_neg h]
    have HI := Lib.hid hI
    clear hI h
    go_enter Tryd.func22, Tryd.ntmps22
    go_wp2_with (first
      | (go_at_call 24; refine (HI.out _).mono ?_; rintro e w' ⟨rfl, rfl⟩)
      | (go_at_call 20; refine (rmul_ok p a _ _ hp).mono ?_; rintro e w' ⟨rfl, rfl⟩))
    go_ret2
    exact ⟨rfl, rfl⟩
theorem rpow_no (p a n : Int) (w : World) (hp : pr p = false) :
    Calls Tryd.prog 26 #[.int .i64 p, .int .i64 a, .int .i64 n] w (Two 0 8 w) := by
  go_enter Tryd.func26, Tryd.ntmps26
  go_wp2_with ((go_at_call 12; refine (rprime_any p _).mono ?_; rw [hp]; rintro e w' ⟨rfl, rfl⟩))
  go_ret2
  exact ⟨rfl, rfl⟩
theorem pow_steps (p a : Int) (n : Nat) : (pw p a n * md p a) % p = pw p a (n + 1) := pw_step p a n
theorem rpow_rest (p a n : Int) (w : World) (hp : pr p = true) (ha : md p a ≠ 0) :
    Calls Tryd.prog 26 #[.int .i64 p, .int .i64 a, .int .i64 n] w (Two (pw p a (md (p - 1) n).toNat) 0 w) := by
  obtain ⟨q1, q2⟩ := pr_bd hp
  obtain ⟨a1, a2⟩ := md_bd hp a
  obtain ⟨n1, n2⟩ := md1_bd hp n
  have ha' : (md p a == 0) = false := by simp [ha]
  have hp1 := fun (w : World) => rprime_any p w
  have main : ∀ (k : Int), k = md (p - 1) n → True := fun _ _ => trivial
  clear main hp1
  by_cases hn : 0 ≤ n
  · have hk : n % (p - 1) = md (p - 1) n := rfl
    have HK := Lib.hid hk
    obtain ⟨k1, k2⟩ : 0 ≤ n % (p - 1) ∧ n % (p - 1) < p - 1 := ⟨Int.emod_nonneg _ (by omega), Int.emod_lt_of_pos _ (by omega)⟩
    clear ha hk
    go_enter Tryd.func26, Tryd.ntmps26
    go_wp2_with (first
      | (go_at_call 12; refine (rprime_any p _).mono ?_; rw [hp]; rintro e w' ⟨rfl, rfl⟩)
      | (go_at_call 14; refine (rmod_ok p _ _ hp).mono ?_; rintro e w' ⟨rfl, rfl⟩))
    go_loop [10, 11] (fun x i => ∃ j : Nat, j ≤ (md (p - 1) n).toNat ∧ i = .int .i64 j ∧ x = .int .i64 (pw p a j)) (fun _ i => (md (p - 1) n).toNat - (intOf i).toNat)
    case atStart => exact ⟨0, by omega, rfl, by rw [pw_zero hp]⟩
    case round =>
      obtain ⟨j, j2, rfl, rfl⟩ := hrel
      obtain ⟨x1, x2⟩ := pw_bd hp a j
      obtain ⟨m1, m2⟩ := prod_bd x1 (by omega) a1 (by omega)
      by_cases hj : j < (md (p - 1) n).toNat
      · have hj' : (j : Int) < n % (p - 1) := by have := HK.out; omega
        go_wp2
        go_round
        case rel => exact ⟨j + 1, by omega, by go_num, by rw [← pw_step]⟩
        case measure => simp [intOf]; omega
      · have hj' : ¬ (j : Int) < n % (p - 1) := by have := HK.out; omega
        obtain rfl : j = (md (p - 1) n).toNat := by omega
        go_wp2
        go_ret2
        exact ⟨rfl, rfl⟩
  · obtain ⟨b1, b2, b3, b4⟩ := tmod_neg (p - 1) n (by omega) (by omega)
    have B3 := Lib.hid b3
    have B4 := Lib.hid b4
    clear b3 b4 ha
    by_cases hz : n.tmod (p - 1) < 0
    · have HK := Lib.hid (B3.out hz)
      clear B3 B4
      go_enter Tryd.func26, Tryd.ntmps26
      go_wp2_with (first
      | (go_at_call 12; refine (rprime_any p _).mono ?_; rw [hp]; rintro e w' ⟨rfl, rfl⟩)
      | (go_at_call 14; refine (rmod_ok p _ _ hp).mono ?_; rintro e w' ⟨rfl, rfl⟩))
      go_loop [10, 11] (fun x i => ∃ j : Nat, j ≤ (md (p - 1) n).toNat ∧ i = .int .i64 j ∧ x = .int .i64 (pw p a j)) (fun _ i => (md (p - 1) n).toNat - (intOf i).toNat)
      case atStart => exact ⟨0, by omega, rfl, by rw [pw_zero hp]⟩
      case round =>
        obtain ⟨j, j2, rfl, rfl⟩ := hrel
        obtain ⟨x1, x2⟩ := pw_bd hp a j
        obtain ⟨m1, m2⟩ := prod_bd x1 (by omega) a1 (by omega)
        by_cases hj : j < (md (p - 1) n).toNat
        · have hj' : (j : Int) < n.tmod (p - 1) + p - 1 := by have := HK.out; omega
          go_wp2
          go_round
          case rel => exact ⟨j + 1, by omega, by go_num, by rw [← pw_step]⟩
          case measure => simp [intOf]; omega
        · have hj' : ¬ (j : Int) < n.tmod (p - 1) + p - 1 := by have := HK.out; omega
          obtain rfl : j = (md (p - 1) n).toNat := by omega
          go_wp2
          go_ret2
          exact ⟨rfl, rfl⟩
    · have hz' : n.tmod (p - 1) = 0 := by omega
      have HK := Lib.hid (B4.out hz')
      have HP0 := Lib.hid (pw_zero hp a)
      clear B3 B4
      go_enter Tryd.func26, Tryd.ntmps26
      go_wp2_with (first
      | (go_at_call 12; refine (rprime_any p _).mono ?_; rw [hp]; rintro e w' ⟨rfl, rfl⟩)
      | (go_at_call 14; refine (rmod_ok p _ _ hp).mono ?_; rintro e w' ⟨rfl, rfl⟩))
      refine wp_loop_rounds 1 ?_
      rw [rounds_succ]
      go_wp2
      go_ret2
      exact ⟨ret_two (by rw [← HK.out]; exact HP0.out.symm) rfl, rfl⟩
theorem rpow_zero (p a n : Int) (w : World) (hp : pr p = true) (ha : md p a = 0) :
    Calls Tryd.prog 26 #[.int .i64 p, .int .i64 a, .int .i64 n] w (Two (if n < 0 then 0 else pw p 0 n.toNat) (if n < 0 then 9 else 0) w) := by
  have ha' : (md p a == 0) = true := by rw [ha]; rfl
  clear ha
  by_cases hn : n < 0
  · rw [if_pos hn, if_pos hn]
    go_enter Tryd.func26, Tryd.ntmps26
    go_wp2_with (first
      | (go_at_call 12; refine (rprime_any p _).mono ?_; rw [hp]; rintro e w' ⟨rfl, rfl⟩)
      | (go_at_call 14; refine (rmod_ok p _ _ hp).mono ?_; rintro e w' ⟨rfl, rfl⟩))
    go_ret2
    exact ⟨rfl, rfl⟩
  · rw [if_neg hn, if_neg hn]
    by_cases h0 : n = 0
    · subst h0
      have HP0 := Lib.hid (pw_zero hp 0)
      go_enter Tryd.func26, Tryd.ntmps26
      go_wp2_with (first
      | (go_at_call 12; refine (rprime_any p _).mono ?_; rw [hp]; rintro e w' ⟨rfl, rfl⟩)
      | (go_at_call 14; refine (rmod_ok p _ _ hp).mono ?_; rintro e w' ⟨rfl, rfl⟩))
      go_ret2
      exact ⟨ret_two HP0.out.symm rfl, rfl⟩
    · have HP0 := Lib.hid (pw0_zero p n.toNat (by omega))
      have h0' : (n == 0) = false := by simp [h0]
      clear h0
      go_enter Tryd.func26, Tryd.ntmps26
      go_wp2_with (first
      | (go_at_call 12; refine (rprime_any p _).mono ?_; rw [hp]; rintro e w' ⟨rfl, rfl⟩)
      | (go_at_call 14; refine (rmod_ok p _ _ hp).mono ?_; rintro e w' ⟨rfl, rfl⟩))
      go_ret2
      exact ⟨ret_two HP0.out.symm rfl, rfl⟩
theorem rpow_all (p a n : Int) (w : World) (hp : pr p = true) : Calls Tryd.prog 26 #[.int .i64 p, .int .i64 a, .int .i64 n] w (Two (powV p a n) (powE p a n) w) := by
  unfold powV powE
  by_cases h : md p a = 0
  · have := rpow_zero p a n w hp h
    rw [if_pos h]
    by_cases h2 : n < 0
    · rw [if_pos h2] at this ⊢; rw [if_pos h2] at this; rw [if_pos ⟨h, h2⟩]; exact this
    · rw [if_neg h2] at this ⊢; rw [if_neg h2] at this; rw [if_neg (fun t => h2 t.2)]; exact this
  · rw [if_neg h, if_neg (fun t => h t.1)]; exact rpow_rest p a n w hp h
end Go.Proofs.YthglnchcggpdlaaDoor
