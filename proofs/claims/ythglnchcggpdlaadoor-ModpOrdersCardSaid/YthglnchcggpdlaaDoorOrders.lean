/-
  The walk of ModpOrders: it answers true at every argument.
-/
import Derived.Test.YthglnchcggpdlaaDoorAll
namespace Go.Proofs.YthglnchcggpdlaaDoor
open Go.RowKit M

set_option maxHeartbeats 1000000 in
set_option maxRecDepth 100000 in
theorem orders_zero (which a n p : Int) (w : World) (hp : pr p = true) (ha : md p a = 0) (HF : Hid (∀ w, Calls Tryd.prog 40 #[.int .i64 which] w fun e w' => e = .returned (.int .i64 p) ∧ Below w.heap.size w w')) (ht : Tab w) :
    Calls Tryd.prog 7 #[.int .i64 which, .int .i64 a, .int .i64 n] w fun e w' => e = .returned (.bool true) ∧ Below w.heap.size w w' := by
  have HT := Lib.hid (fun w' hb => Tab.below (w' := w') ht ht.pos hb)
  have HA := Lib.hid ha
  have ha' : (md p a == 0) = true := by rw [ha]; rfl
  have hg : md p (genN p) ≠ 0 := md_nat (gen_spec hp).1 (gen_spec hp).2.1
  have HG := Lib.hid hg
  clear ht ha hg
  go_enter Tryd.func7, Tryd.ntmps7
  go_wp2_with fail
  refine (HF.out _).mono ?_
  rintro e w1 ⟨rfl, hb1⟩
  have T1 := Lib.hid (HT.out _ hb1)
  have B1 := Lib.hid hb1
  clear hb1
  go_wp2_with (first
    | (go_at_call 29; refine (gen_ok p _ T1.out hp).mono ?_; rintro e w' ⟨rfl, rfl⟩)
    | (go_at_call 13; refine (mod_ok p _ _ T1.out hp).mono ?_; rintro e w' ⟨rfl, rfl⟩)
    | (go_at_call 27; refine (order_zero p a _ T1.out hp HA.out).mono ?_; rintro e w' ⟨rfl, rfl⟩)
    | (go_at_call 31; refine (log_zero2 p _ a _ T1.out hp HG.out HA.out).mono ?_; rintro e w' ⟨rfl, rfl⟩)
    | (go_at_call 35; refine (awake_true _ T1.out).mono ?_; rintro e w' ⟨rfl, rfl⟩))
  go_ret
  exact ⟨rfl, B1.out⟩

/-- What the two tests at the end compare. -/
def SameTest (x n k : Int) (b : Bool) : Prop := (x == 1) = b ∧ (n.tmod k == 0) = b
theorem same_test {p : Int} (h : pr p = true) (a : Int) (ha : md p a ≠ 0) (n : Int) : ∃ b, SameTest (pw p a (md (p - 1) n).toNat) n (ordN p a) b := by
  have d := ord_div_int h a ha n
  by_cases e : (ordN p a : Int) ∣ n
  · exact ⟨true, by simp [d.2 e], by simp [Int.tmod_eq_zero_of_dvd e]⟩
  · refine ⟨false, ?_, ?_⟩
    · have : pw p a (md (p - 1) n).toNat ≠ 1 := fun t => e (d.1 t)
      simp [this]
    · have : n.tmod (ordN p a : Int) ≠ 0 := fun t => e (Int.dvd_of_tmod_eq_zero t)
      simp [this]

set_option maxHeartbeats 1000000 in
set_option maxRecDepth 100000 in
theorem orders_rest (which a n p x : Int) (g k l : Nat) (w : World) (b : Bool) (hp : pr p = true) (ha : md p a ≠ 0) (HF : Hid (∀ w, Calls Tryd.prog 40 #[.int .i64 which] w fun e w' => e = .returned (.int .i64 p) ∧ Below w.heap.size w w'))
    (HG : Hid (∀ w, Tab w → Calls Tryd.prog 29 #[.int .i64 p] w (Two g 0 w))) (HO : Hid (∀ w, Tab w → Calls Tryd.prog 27 #[.int .i64 p, .int .i64 a] w (Two k 0 w)))
    (HO2 : Hid (∀ w, Tab w → Calls Tryd.prog 27 #[.int .i64 p, .int .i64 g] w (Two (p - 1) 0 w))) (HL : Hid (∀ w, Tab w → Calls Tryd.prog 31 #[.int .i64 p, .int .i64 g, .int .i64 a] w (Two l 0 w)))
    (HP : Hid (∀ w, Tab w → Calls Tryd.prog 44 #[.int .i64 p, .int .i64 a, .int .i64 n] w fun e w' => e = .returned (.int .i64 x) ∧ w = w'))
    (HP2 : Hid (∀ w, Tab w → Calls Tryd.prog 44 #[.int .i64 p, .int .i64 g, .int .i64 l] w fun e w' => e = .returned (.int .i64 (md p a)) ∧ w = w'))
    (hs : SameTest x n k b) (k1 : 1 ≤ k) (kd : (p - 1) % (k : Int) = 0) (l1 : (l : Int) < p - 1) (ht : Tab w) :
    Calls Tryd.prog 7 #[.int .i64 which, .int .i64 a, .int .i64 n] w fun e w' => e = .returned (.bool true) ∧ Below w.heap.size w w' := by
  have HT := Lib.hid (fun w' hb => Tab.below (w' := w') ht ht.pos hb)
  obtain ⟨q1, q2⟩ := pr_bd hp
  have ha' : (md p a == 0) = false := by simp [ha]
  obtain ⟨s1, s2⟩ := hs
  clear ht ha
  go_enter Tryd.func7, Tryd.ntmps7
  go_wp2_with fail
  refine (HF.out _).mono ?_
  rintro e w1 ⟨rfl, hb1⟩
  have T1 := Lib.hid (HT.out _ hb1)
  have B1 := Lib.hid hb1
  clear hb1
  go_wp2_with (first
    | (go_at_call 29; refine (HG.out _ T1.out).mono ?_; rintro e w' ⟨rfl, rfl⟩)
    | (go_at_call 13; refine (mod_ok p _ _ T1.out hp).mono ?_; rintro e w' ⟨rfl, rfl⟩)
    | (go_at_call 27; first | ((with_reducible refine (HO.out _ T1.out).mono ?_); rintro e w' ⟨rfl, rfl⟩) | ((with_reducible refine (HO2.out _ T1.out).mono ?_); rintro e w' ⟨rfl, rfl⟩))
    | (go_at_call 31; refine (HL.out _ T1.out).mono ?_; rintro e w' ⟨rfl, rfl⟩))
  go_quiet ((first
    | (go_at_call 44; first | (with_reducible exact quietly (HP.out _ (T1.out.drewN _))) | (with_reducible exact quietly (HP2.out _ (T1.out.drewN _))))
    | (go_at_call 13; exact quietly (mod_ok p _ _ (T1.out.drewN _) hp))
    | (go_at_call 35; exact quietly (awake_true _ (T1.out.drewN _)))))
  go_wp2
  go_ret
  exact ⟨rfl, below_drewN' B1.out _⟩

theorem modpOrders_walk (which a n : Int) (w : World) (ht : Tab w) :
    Calls Tryd.prog 7 #[.int .i64 which, .int .i64 a, .int .i64 n] w fun e w' => e = .returned (.bool true) ∧ Below w.heap.size w w' := by
  have hF := fun w => field_any which w
  have hp := fld_pr which
  generalize fld which = p at hF hp
  have q := pr_bd hp
  by_cases ha : md p a = 0
  · exact orders_zero which a n p w hp ha hF ht
  · obtain ⟨g1, g2, g3⟩ := gen_spec hp
    have hg : md p (genN p) ≠ 0 := md_nat g1 g2
    obtain ⟨s1, s2, s3, s4⟩ := ord_spec hp a ha
    obtain ⟨l1, l2⟩ := log_ex hp a ha
    obtain ⟨b, hs⟩ := same_test hp a ha n
    refine orders_rest which a n p _ (genN p) (ordN p a) (lgN p (genN p) a) w b hp ha hF (fun w t => gen_ok p w t hp) (fun w t => order_ok p a w t hp ha) (fun w t => ?_) (fun w t => ?_) (fun w t => powerL_ok p a n w t hp ha) (fun w t => ?_) hs s1 (ord_div_full hp a ha) (by omega) ht
    · have := order_ok p (genN p) w t hp hg
      rw [g3, Int.toNat_of_nonneg (by omega)] at this
      exact this
    · have := log_ok p (genN p) a w t hp hg ha
      unfold logV logE at this
      rw [if_pos l1, if_pos l1] at this
      exact this
    · have := powerL_ok p (genN p) (lgN p (genN p) a) w t hp hg
      rw [pw_md1 hp _ hg, l2] at this
      exact this
end Go.Proofs.YthglnchcggpdlaaDoor
