/-
  The walk of ModpSquares: it answers true at every argument.
-/
import Derived.Test.YthglnchcggpdlaaDoorAll
namespace Go.Proofs.YthglnchcggpdlaaDoor
open Go.RowKit M

set_option maxHeartbeats 1000000 in
set_option maxRecDepth 100000 in
theorem modpSquares_walk (which a : Int) (w : World) (ht : Tab w) :
    Calls Tryd.prog 8 #[.int .i64 which, .int .i64 a] w fun e w' => e = .returned (.bool true) ∧ Below w.heap.size w w' := by
  have hF := fun w => field_any which w
  have hp := fld_pr which
  generalize fld which = p at hF hp
  have HF := Lib.hid hF
  have HT := Lib.hid (fun w' hb => Tab.below (w' := w') ht ht.pos hb)
  obtain ⟨q1, q2⟩ := pr_bd hp
  obtain ⟨a1, a2⟩ := md_bd hp a
  have hR := fun w => root_ok p a w
  clear hF ht
  by_cases hr : rtN p a < p.toNat
  · obtain ⟨s1, s2⟩ := root_hit hp a hr
    unfold rootV rootE at hR
    rw [if_pos hr, if_pos hr] at hR
    generalize rtN p a = r at hR s1 s2 hr
    have HR := Lib.hid hR
    clear hR
    go_enter Tryd.func8, Tryd.ntmps8
    go_wp2_with fail
    refine (HF.out _).mono ?_
    rintro e w1 ⟨rfl, hb1⟩
    have T1 := Lib.hid (HT.out _ hb1)
    have B1 := Lib.hid hb1
    clear hb1
    go_wp2_with (first
      | (go_at_call 33; refine (HR.out _ T1.out hp).mono ?_; rintro e w' ⟨rfl, rfl⟩)
      | (go_at_call 42; refine (product_ok p _ _ _ T1.out hp).mono ?_; rintro e w' ⟨rfl, rfl⟩)
      | (go_at_call 13; refine (mod_ok p _ _ T1.out hp).mono ?_; rintro e w' ⟨rfl, rfl⟩)
      | (go_at_call 35; refine (awake_true _ T1.out).mono ?_; rintro e w' ⟨rfl, rfl⟩))
    go_ret
    exact ⟨rfl, B1.out⟩
  · obtain ⟨s1, s2, s3⟩ := root_miss hp a hr
    unfold rootV rootE at hR
    rw [if_neg hr, if_neg hr] at hR
    have HR := Lib.hid hR
    have HA := Lib.hid s2
    have s2' : (md p a != 0) = true := by simp [s2]
    have s4 : (p - 1 == p - 1) = true := by simp
    clear hR hr s2
    go_enter Tryd.func8, Tryd.ntmps8
    go_wp2_with fail
    refine (HF.out _).mono ?_
    rintro e w1 ⟨rfl, hb1⟩
    have T1 := Lib.hid (HT.out _ hb1)
    have B1 := Lib.hid hb1
    clear hb1
    go_wp2_with (first
      | (go_at_call 33; refine (HR.out _ T1.out hp).mono ?_; rintro e w' ⟨rfl, rfl⟩)
      | (go_at_call 44; refine (powerL_ok p _ _ _ T1.out hp HA.out).mono ?_; rintro e w' ⟨rfl, rfl⟩)
      | (go_at_call 13; refine (mod_ok p _ _ T1.out hp).mono ?_; rintro e w' ⟨rfl, rfl⟩)
      | (go_at_call 35; refine (awake_true _ T1.out).mono ?_; rintro e w' ⟨rfl, rfl⟩))
    go_ret
    exact ⟨rfl, B1.out⟩
end Go.Proofs.YthglnchcggpdlaaDoor
