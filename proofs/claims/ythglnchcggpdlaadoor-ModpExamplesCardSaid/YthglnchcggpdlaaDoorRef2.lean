/-
  What the reference's Order, Generator, Log and Root return, at every argument: the same as those of package modp.
-/
import Derived.Test.YthglnchcggpdlaaDoorRef
namespace Go.Proofs.YthglnchcggpdlaaDoor
open Go.RowKit M

theorem rorder_no (p a : Int) (w : World) (hp : pr p = false) :
    Calls Tryd.prog 28 #[.int .i64 p, .int .i64 a] w (Two 0 8 w) := by
  go_enter Tryd.func28, Tryd.ntmps28
  go_wp2_with ((go_at_call 12; refine (rprime_any p _).mono ?_; rw [hp]; rintro e w' ⟨rfl, rfl⟩))
  go_ret2
  exact ⟨rfl, rfl⟩
theorem rorder_zero (p a : Int) (w : World) (hp : pr p = true) (ha : md p a = 0) :
    Calls Tryd.prog 28 #[.int .i64 p, .int .i64 a] w (Two 0 9 w) := by
  have ha' : (md p a == 0) = true := by rw [ha]; rfl
  clear ha
  go_enter Tryd.func28, Tryd.ntmps28
  go_wp2_with (first
    | (go_at_call 12; refine (rprime_any p _).mono ?_; rw [hp]; rintro e w' ⟨rfl, rfl⟩)
    | (go_at_call 14; refine (rmod_ok p _ _ hp).mono ?_; rintro e w' ⟨rfl, rfl⟩))
  go_ret2
  exact ⟨rfl, rfl⟩
theorem rorder_ok (p a : Int) (w : World) (hp : pr p = true) (ha : md p a ≠ 0) :
    Calls Tryd.prog 28 #[.int .i64 p, .int .i64 a] w (Two (ordN p a) 0 w) := by
  obtain ⟨q1, q2⟩ := pr_bd hp
  obtain ⟨a1, a2⟩ := md_bd hp a
  have HF := Lib.hid (fermat hp a ha)
  have ha' : (md p a == 0) = false := by simp [ha]
  clear ha
  go_enter Tryd.func28, Tryd.ntmps28
  go_wp2_with (first
    | (go_at_call 12; refine (rprime_any p _).mono ?_; rw [hp]; rintro e w' ⟨rfl, rfl⟩)
    | (go_at_call 14; refine (rmod_ok p _ _ hp).mono ?_; rintro e w' ⟨rfl, rfl⟩))
  go_loop [7, 8] (fun x n => ∃ j : Nat, 1 ≤ j ∧ j ≤ (p - 1).toNat ∧ NoHit (fO p a) 1 j ∧ n = .int .i64 j ∧ x = .int .i64 (pw p a j)) (fun _ n => (p - 1).toNat - (intOf n).toNat)
  case atStart => exact ⟨1, Nat.le_refl _, by omega, NoHit.start _ _, rfl, by rw [pw_one]⟩
  case round =>
    obtain ⟨j, j1, j2, hN, rfl, rfl⟩ := hrel
    obtain ⟨x1, x2⟩ := pw_bd hp a j
    obtain ⟨m1, m2⟩ := prod_bd x1 (by omega) a1 (by omega)
    by_cases hx : pw p a j = 1
    · have HR := Lib.hid (hN.hit (n := (p - 1).toNat) (by unfold fO; rw [hx]; rfl) j1 (by omega))
      have hx' : (pw p a j != 1) = false := by simp [hx]
      clear hx hN
      go_wp2
      go_ret2
      exact ⟨ret_two (congrArg Nat.cast HR.out.symm) rfl, rfl⟩
    · have HR := Lib.hid (hN.snoc (by unfold fO; simp [hx]))
      have hq : j ≠ (p - 1).toNat := fun e => hx (e ▸ HF.out)
      have hj : j < (p - 1).toNat := by omega
      have hx' : (pw p a j != 1) = true := by simp [hx]
      clear hx hN hq
      go_wp2
      go_round
      case rel => exact ⟨j + 1, by omega, by omega, HR.out, by go_num, by rw [← pw_step]⟩
      case measure => simp [intOf]; omega
theorem rorder_all (p a : Int) (w : World) (hp : pr p = true) : Calls Tryd.prog 28 #[.int .i64 p, .int .i64 a] w (Two (ordV p a) (invE p a) w) := by
  unfold ordV invE
  by_cases h : md p a = 0
  · rw [if_pos h, if_pos h]; exact rorder_zero p a w hp h
  · rw [if_neg h, if_neg h]; exact rorder_ok p a w hp h

theorem rgen_no (p : Int) (w : World) (hp : pr p = false) : Calls Tryd.prog 30 #[.int .i64 p] w (Two 0 8 w) := by
  by_cases h2 : 1 < p
  · go_enter Tryd.func30, Tryd.ntmps30
    go_wp2_with fail
    refine wp_loop_rounds 1 ?_
    rw [rounds_succ]
    go_wp2_with ((go_at_call 12; refine (rprime_any p _).mono ?_; rw [hp]; rintro e w' ⟨rfl, rfl⟩))
    go_ret2
    exact ⟨rfl, rfl⟩
  · go_enter Tryd.func30, Tryd.ntmps30
    go_wp2_with fail
    refine wp_loop_rounds 1 ?_
    rw [rounds_succ]
    go_wp2_with ((go_at_call 12; refine (rprime_any p _).mono ?_; rw [hp]; rintro e w' ⟨rfl, rfl⟩))
    go_ret2
    exact ⟨rfl, rfl⟩
theorem rgen_ok (p : Int) (w : World) (hp : pr p = true) : Calls Tryd.prog 30 #[.int .i64 p] w (Two (genN p) 0 w) := by
  obtain ⟨q1, q2⟩ := pr_bd hp
  obtain ⟨g1, g2, -⟩ := gen_spec hp
  go_enter Tryd.func30, Tryd.ntmps30
  go_wp2_with fail
  go_loop [4] (fun g => ∃ j : Nat, 1 ≤ j ∧ j ≤ genN p ∧ g = .int .i64 j) (fun g => genN p - (intOf g).toNat)
  case atStart => exact ⟨1, by omega, g1, rfl⟩
  case round =>
    obtain ⟨j, j1, j2, rfl⟩ := hrel
    have jp : (j : Int) < p := by omega
    have hj := md_nat j1 jp
    have ob := ord_spec hp (j : Int) hj
    obtain ⟨o1, o2, -, -⟩ := ob
    have HJ := Lib.hid hj
    clear hj
    by_cases hx : ordN p j = (p - 1).toNat
    · have HR := Lib.hid (gen_hit hx j1 j2)
      have hx' : ((ordN p j : Int) == p - 1) = true := by simp; omega
      clear hx
      go_wp2_with (first
        | (go_at_call 12; refine (rprime_any p _).mono ?_; rw [hp]; rintro e w' ⟨rfl, rfl⟩)
        | (go_at_call 28; refine (rorder_ok p _ _ hp HJ.out).mono ?_; rintro e w' ⟨rfl, rfl⟩))
      go_ret2
      exact ⟨ret_two (congrArg Nat.cast HR.out) rfl, rfl⟩
    · have hl := gen_miss hp hx j2
      have hx' : ((ordN p j : Int) == p - 1) = false := by simp; omega
      clear hx
      go_wp2_with (first
        | (go_at_call 12; refine (rprime_any p _).mono ?_; rw [hp]; rintro e w' ⟨rfl, rfl⟩)
        | (go_at_call 28; refine (rorder_ok p _ _ hp HJ.out).mono ?_; rintro e w' ⟨rfl, rfl⟩))
      go_round
      case rel => exact ⟨j + 1, by omega, by omega, by go_num⟩
      case measure => simp [intOf]; omega

theorem rlog_no (p b a : Int) (w : World) (hp : pr p = false) :
    Calls Tryd.prog 32 #[.int .i64 p, .int .i64 b, .int .i64 a] w (Two 0 8 w) := by
  go_enter Tryd.func32, Tryd.ntmps32
  go_wp2_with ((go_at_call 12; refine (rprime_any p _).mono ?_; rw [hp]; rintro e w' ⟨rfl, rfl⟩))
  go_ret2
  exact ⟨rfl, rfl⟩
theorem rlog_zero (p b a : Int) (w : World) (hp : pr p = true) (hb : md p b = 0 ∨ md p a = 0) : Calls Tryd.prog 32 #[.int .i64 p, .int .i64 b, .int .i64 a] w (Two 0 9 w) := by
  by_cases h : md p b = 0
  · have h' : (md p b == 0) = true := by rw [h]; rfl
    clear h hb
    go_enter Tryd.func32, Tryd.ntmps32
    go_wp2_with (first
      | (go_at_call 12; refine (rprime_any p _).mono ?_; rw [hp]; rintro e w' ⟨rfl, rfl⟩)
      | (go_at_call 14; refine (rmod_ok p _ _ hp).mono ?_; rintro e w' ⟨rfl, rfl⟩))
    go_ret2
    exact ⟨rfl, rfl⟩
  · have h2 : md p a = 0 := hb.resolve_left h
    have h' : (md p b == 0) = false := by simp [h]
    have h2' : (md p a == 0) = true := by rw [h2]; rfl
    clear h hb h2
    go_enter Tryd.func32, Tryd.ntmps32
    go_wp2_with (first
      | (go_at_call 12; refine (rprime_any p _).mono ?_; rw [hp]; rintro e w' ⟨rfl, rfl⟩)
      | (go_at_call 14; refine (rmod_ok p _ _ hp).mono ?_; rintro e w' ⟨rfl, rfl⟩))
    go_ret2
    exact ⟨rfl, rfl⟩
theorem lg_in {p : Int} (hp : pr p = true) (b a : Int) (hb : md p b ≠ 0) {j : Nat} (hj : j ≤ ordN p b) (h : NoHit (fL p b a) 0 j) (he : pw p b j = md p a) (hlt : j < ordN p b) : lgN p b a = j := by
  obtain ⟨s1, s2, s3, s4⟩ := ord_spec hp b hb
  have _ := hj
  exact h.hit (n := (p - 1).toNat) (by unfold fL; rw [he]; simp) (Nat.zero_le _) (by omega)
theorem lg_out {p : Int} (hp : pr p = true) (b a : Int) (hb : md p b ≠ 0) (h : NoHit (fL p b a) 0 (ordN p b)) : ¬ lgN p b a < (p - 1).toNat := by
  obtain ⟨s1, s2, s3, s4⟩ := ord_spec hp b hb
  have q := pr_bd hp
  intro hl
  have hh : fL p b a (lgN p b a) = true := first_hit (fL p b a) 0 (p - 1).toNat (by unfold lgN at hl; omega)
  have e : pw p b (lgN p b a) = pw p b (lgN p b a % ordN p b) := pw_mod p b _ _ s3 q.1
  have := h (lgN p b a % ordN p b) (Nat.zero_le _) (Nat.mod_lt _ (by omega))
  unfold fL at this hh
  rw [← e, hh] at this
  cases this
theorem pow_small {p : Int} (hp : pr p = true) (b : Int) (hb : md p b ≠ 0) (j : Nat) (w : World) : Calls Tryd.prog 26 #[.int .i64 p, .int .i64 b, .int .i64 j] w (Two (pw p b j) 0 w) := by
  have := rpow_rest p b j w hp hb
  rw [pw_md1 hp b hb] at this
  exact this
theorem rlog_ok (p b a : Int) (w : World) (hp : pr p = true) (hb : md p b ≠ 0) (ha : md p a ≠ 0) : Calls Tryd.prog 32 #[.int .i64 p, .int .i64 b, .int .i64 a] w (Two (logV p b a) (logE p b a) w) := by
  obtain ⟨q1, q2⟩ := pr_bd hp
  obtain ⟨s1, s2, -, -⟩ := ord_spec hp b hb
  have HB := Lib.hid hb
  have hb' : (md p b == 0) = false := by simp [hb]
  have ha' : (md p a == 0) = false := by simp [ha]
  clear hb ha
  go_enter Tryd.func32, Tryd.ntmps32
  go_wp2_with (first
    | (go_at_call 12; refine (rprime_any p _).mono ?_; rw [hp]; rintro e w' ⟨rfl, rfl⟩)
    | (go_at_call 14; refine (rmod_ok p _ _ hp).mono ?_; rintro e w' ⟨rfl, rfl⟩)
    | (go_at_call 28; refine (rorder_ok p b _ hp HB.out).mono ?_; rintro e w' ⟨rfl, rfl⟩))
  go_loop [10] (fun n => ∃ j : Nat, j ≤ ordN p b ∧ NoHit (fL p b a) 0 j ∧ n = .int .i64 j) (fun n => ordN p b - (intOf n).toNat)
  case atStart => exact ⟨0, by omega, NoHit.start _ _, rfl⟩
  case round =>
    obtain ⟨j, j2, hN, rfl⟩ := hrel
    by_cases hj : j < ordN p b
    · by_cases hx : pw p b j = md p a
      · have HR := Lib.hid (lg_in hp b a HB.out j2 hN hx hj)
        have hx' : (pw p b j == md p a) = true := by simp [hx]
        clear hx hN
        go_wp2_with (first
          | (go_at_call 26; refine (pow_small hp b HB.out j _).mono ?_; rintro e w' ⟨rfl, rfl⟩)
          | (go_at_call 14; refine (rmod_ok p _ _ hp).mono ?_; rintro e w' ⟨rfl, rfl⟩))
        go_ret2
        have e1 : lgN p b a = j := HR.out
        exact ⟨ret_two (by unfold logV; rw [e1, if_pos (by omega)]) (by unfold logE; rw [e1, if_pos (by omega)]), rfl⟩
      · have HR := Lib.hid (hN.snoc (by unfold fL; simp [hx]))
        have hx' : (pw p b j == md p a) = false := by simp [hx]
        clear hx hN
        go_wp2_with (first
          | (go_at_call 26; refine (pow_small hp b HB.out j _).mono ?_; rintro e w' ⟨rfl, rfl⟩)
          | (go_at_call 14; refine (rmod_ok p _ _ hp).mono ?_; rintro e w' ⟨rfl, rfl⟩))
        go_round
        case rel => exact ⟨j + 1, by omega, HR.out, by go_num⟩
        case measure => simp [intOf]; omega
    · have HR := Lib.hid (lg_out hp b a HB.out (fun i h1 h2 => hN i h1 (by omega)))
      clear hN
      go_wp2
      go_ret2
      exact ⟨ret_two (by unfold logV; rw [if_neg HR.out]) (by unfold logE; rw [if_neg HR.out]), rfl⟩
theorem rlog_all (p b a : Int) (w : World) (hp : pr p = true) : Calls Tryd.prog 32 #[.int .i64 p, .int .i64 b, .int .i64 a] w (Two (lgV p b a) (lgE p b a) w) := by
  unfold lgV lgE
  by_cases h : md p b = 0 ∨ md p a = 0
  · rw [if_pos h, if_pos h]; exact rlog_zero p b a w hp h
  · rw [if_neg h, if_neg h]; exact rlog_ok p b a w hp (fun t => h (.inl t)) (fun t => h (.inr t))

theorem rroot_no (p a : Int) (w : World) (hp : pr p = false) :
    Calls Tryd.prog 34 #[.int .i64 p, .int .i64 a] w (Two 0 8 w) := by
  go_enter Tryd.func34, Tryd.ntmps34
  go_wp2_with ((go_at_call 12; refine (rprime_any p _).mono ?_; rw [hp]; rintro e w' ⟨rfl, rfl⟩))
  go_ret2
  exact ⟨rfl, rfl⟩
/-- Two numbers are returned; the world is as it was but for the count of draws. -/
def TwoD (x y : Int) (w : World) (e : Ending) (w' : World) : Prop := e = .returned (.tuple #[.int .i64 x, .int .i64 y]) ∧ ∃ n, w' = w.drewN n
theorem rroot_ok (p a : Int) (w : World) (hp : pr p = true) : Calls Tryd.prog 34 #[.int .i64 p, .int .i64 a] w (TwoD (rootV p a) (rootE p a) w) := by
  obtain ⟨q1, q2⟩ := pr_bd hp
  go_enter Tryd.func34, Tryd.ntmps34
  go_wp2_with ((go_at_call 12; refine (rprime_any p _).mono ?_; rw [hp]; rintro e w' ⟨rfl, rfl⟩))
  go_loopw [6] (fun n wr => ∃ j d : Nat, j ≤ p.toNat ∧ NoHit (fR p a) 0 j ∧ n = .int .i64 j ∧ wr = w.drewN d) (fun n _ => p.toNat - (intOf n).toNat)
  case atStart => exact ⟨0, 0, by omega, NoHit.start _ _, rfl, rfl⟩
  case round =>
    obtain ⟨j, d, j2, hN, rfl, rfl⟩ := hrel
    obtain ⟨m1, m2⟩ := prod_bd (show 0 ≤ (j : Int) by omega) (by omega) (show 0 ≤ (j : Int) by omega) (by omega)
    obtain ⟨wd, hwd⟩ : ∃ wd, wd = w.drewN d := ⟨_, rfl⟩
    rw [← hwd]
    have HD := Lib.hid hwd
    clear hwd
    by_cases hj : j < p.toNat
    · have t1 : IntKind.i64.wrap ((j : Int) * j) = (j : Int) * j := IntWalk.i64_in _ (by omega)
      have t2 : ((j : Int) * j).tmod p = ((j : Int) * j) % p := Int.tmod_eq_emod_of_nonneg m1
      by_cases hx : ((j : Int) * j) % p = md p a
      · have HR := Lib.hid (hN.hit (n := p.toNat) (by unfold fR; rw [hx]; simp) (Nat.zero_le _) (by omega))
        have hx' : (((j : Int) * j) % p == md p a) = true := by simp [hx]
        clear hx hN
        go_wp2_with fail
        go_quiet ((go_at_call 14; exact quietly (rmod_ok p a _ hp)))
        clear t1 t2
        go_wp2
        go_ret2
        have e1 : rtN p a = j := HR.out
        exact ⟨ret_two (by unfold rootV; rw [e1, if_pos hj]) (by unfold rootE; rw [e1, if_pos hj]), _, by rw [HD.out, World.drewN_drewN]⟩
      · have HR := Lib.hid (hN.snoc (by unfold fR; simp [hx]))
        have hx' : (((j : Int) * j) % p == md p a) = false := by simp [hx]
        clear hx hN
        go_wp2_with fail
        go_quiet ((go_at_call 14; exact quietly (rmod_ok p a _ hp)))
        clear t1 t2
        go_wp2
        go_roundw
        case rel => exact ⟨j + 1, _, by omega, HR.out, by go_num, by rw [HD.out, World.drewN_drewN]⟩
        case measure => simp [intOf]; omega
    · have HR := Lib.hid (first_none (fR p a) 0 p.toNat (fun i h1 h2 => hN i h1 (by omega)))
      clear hN
      go_wp2
      go_ret2
      have e1 : rtN p a = 0 + p.toNat := HR.out
      exact ⟨ret_two (by unfold rootV; rw [e1, if_neg (by omega)]) (by unfold rootE; rw [e1, if_neg (by omega)]), _, HD.out⟩
end Go.Proofs.YthglnchcggpdlaaDoor
