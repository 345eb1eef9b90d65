/-
  The walk of ModpMatches: it answers true at every argument.
-/
import Derived.Test.YthglnchcggpdlaaDoorRef2
namespace Go.Proofs.YthglnchcggpdlaaDoor
open Go.RowKit M

set_option maxHeartbeats 2000000 in
set_option maxRecDepth 100000 in
theorem matches_no (p a b n : Int) (w : World) (ht : Tab w) (hp : pr p = false) :
    Calls Tryd.prog 3 #[.int .i64 p, .int .i64 a, .int .i64 b, .int .i64 n] w fun e w' => e = .returned (.bool true) ∧ Below w.heap.size w w' := by
  have HT := Lib.hid ht
  clear ht
  go_enter Tryd.func3, Tryd.ntmps3
  go_wp2_with (first
    | (go_at_call 11; refine (prime_any p _ HT.out).mono ?_; rw [hp]; rintro e w' ⟨rfl, rfl⟩)
    | (go_at_call 12; refine (rprime_any p _).mono ?_; rw [hp]; rintro e w' ⟨rfl, rfl⟩)
    | (go_at_call 13; refine (mod_no p a _ HT.out hp).mono ?_; rintro e w' ⟨rfl, rfl⟩)
    | (go_at_call 14; refine (rmod_no p a _ hp).mono ?_; rintro e w' ⟨rfl, rfl⟩)
    | (go_at_call 15; refine (add_no p a b _ HT.out hp).mono ?_; rintro e w' ⟨rfl, rfl⟩)
    | (go_at_call 16; refine (radd_no p a b _ hp).mono ?_; rintro e w' ⟨rfl, rfl⟩)
    | (go_at_call 17; refine (sub_no p a b _ HT.out hp).mono ?_; rintro e w' ⟨rfl, rfl⟩)
    | (go_at_call 18; refine (rsub_no p a b _ hp).mono ?_; rintro e w' ⟨rfl, rfl⟩)
    | (go_at_call 19; refine (mul_no p a b _ HT.out hp).mono ?_; rintro e w' ⟨rfl, rfl⟩)
    | (go_at_call 20; refine (rmul_no p a b _ hp).mono ?_; rintro e w' ⟨rfl, rfl⟩)
    | (go_at_call 21; refine (div_no p a b _ HT.out hp).mono ?_; rintro e w' ⟨rfl, rfl⟩)
    | (go_at_call 22; refine (rdiv_no p a b _ hp).mono ?_; rintro e w' ⟨rfl, rfl⟩)
    | (go_at_call 23; refine (inv_no p a _ HT.out hp).mono ?_; rintro e w' ⟨rfl, rfl⟩)
    | (go_at_call 24; refine (rinv_no p a _ hp).mono ?_; rintro e w' ⟨rfl, rfl⟩)
    | (go_at_call 25; refine (pow_no p a n _ HT.out hp).mono ?_; rintro e w' ⟨rfl, rfl⟩)
    | (go_at_call 26; refine (rpow_no p a n _ hp).mono ?_; rintro e w' ⟨rfl, rfl⟩)
    | (go_at_call 27; refine (order_no p a _ HT.out hp).mono ?_; rintro e w' ⟨rfl, rfl⟩)
    | (go_at_call 28; refine (rorder_no p a _ hp).mono ?_; rintro e w' ⟨rfl, rfl⟩)
    | (go_at_call 29; refine (gen_no p _ HT.out hp).mono ?_; rintro e w' ⟨rfl, rfl⟩)
    | (go_at_call 30; refine (rgen_no p _ hp).mono ?_; rintro e w' ⟨rfl, rfl⟩)
    | (go_at_call 31; refine (log_no p a b _ HT.out hp).mono ?_; rintro e w' ⟨rfl, rfl⟩)
    | (go_at_call 32; refine (rlog_no p a b _ hp).mono ?_; rintro e w' ⟨rfl, rfl⟩)
    | (go_at_call 33; refine (root_no p a _ HT.out hp).mono ?_; rintro e w' ⟨rfl, rfl⟩)
    | (go_at_call 34; refine (rroot_no p a _ hp).mono ?_; rintro e w' ⟨rfl, rfl⟩)
    | (go_at_call 35; refine (awake_true _ HT.out).mono ?_; rintro e w' ⟨rfl, rfl⟩))
  go_ret
  exact ⟨rfl, Below.refl _ _⟩
set_option maxHeartbeats 2000000 in
set_option maxRecDepth 100000 in
theorem matches_ok (p a b n : Int) (w : World) (ht : Tab w) (hn : n ≤ 9223372036854775807) (hp : pr p = true) :
    Calls Tryd.prog 3 #[.int .i64 p, .int .i64 a, .int .i64 b, .int .i64 n] w fun e w' => e = .returned (.bool true) ∧ Below w.heap.size w w' := by
  have HT := Lib.hid ht
  clear ht
  have HN := Lib.hid hn
  clear hn
  go_enter Tryd.func3, Tryd.ntmps3
  go_wp2_with (first
    | (go_at_call 11; refine (prime_any p _ HT.out).mono ?_; rw [hp]; rintro e w' ⟨rfl, rfl⟩)
    | (go_at_call 12; refine (rprime_any p _).mono ?_; rw [hp]; rintro e w' ⟨rfl, rfl⟩)
    | (go_at_call 13; refine (mod_ok p a _ HT.out hp).mono ?_; rintro e w' ⟨rfl, rfl⟩)
    | (go_at_call 14; refine (rmod_ok p a _ hp).mono ?_; rintro e w' ⟨rfl, rfl⟩)
    | (go_at_call 15; refine (add_ok p a b _ HT.out hp).mono ?_; rintro e w' ⟨rfl, rfl⟩)
    | (go_at_call 16; refine (radd_ok p a b _ hp).mono ?_; rintro e w' ⟨rfl, rfl⟩)
    | (go_at_call 17; refine (sub_ok p a b _ HT.out hp).mono ?_; rintro e w' ⟨rfl, rfl⟩)
    | (go_at_call 18; refine (rsub_ok p a b _ hp).mono ?_; rintro e w' ⟨rfl, rfl⟩)
    | (go_at_call 19; refine (mul_ok p a b _ HT.out hp).mono ?_; rintro e w' ⟨rfl, rfl⟩)
    | (go_at_call 20; refine (rmul_ok p a b _ hp).mono ?_; rintro e w' ⟨rfl, rfl⟩)
    | (go_at_call 21; refine (div_all p a b _ HT.out hp).mono ?_; rintro e w' ⟨rfl, rfl⟩)
    | (go_at_call 22; refine (rdiv_all p a b _ hp).mono ?_; rintro e w' ⟨rfl, rfl⟩)
    | (go_at_call 23; refine (inv_all p a _ HT.out hp).mono ?_; rintro e w' ⟨rfl, rfl⟩)
    | (go_at_call 24; refine (rinv_all p a _ hp).mono ?_; rintro e w' ⟨rfl, rfl⟩)
    | (go_at_call 25; refine (pow_all p a n _ HT.out hp HN.out).mono ?_; rintro e w' ⟨rfl, rfl⟩)
    | (go_at_call 26; refine (rpow_all p a n _ hp).mono ?_; rintro e w' ⟨rfl, rfl⟩)
    | (go_at_call 27; refine (order_all p a _ HT.out hp).mono ?_; rintro e w' ⟨rfl, rfl⟩)
    | (go_at_call 28; refine (rorder_all p a _ hp).mono ?_; rintro e w' ⟨rfl, rfl⟩)
    | (go_at_call 29; refine (gen_ok p _ HT.out hp).mono ?_; rintro e w' ⟨rfl, rfl⟩)
    | (go_at_call 30; refine (rgen_ok p _ hp).mono ?_; rintro e w' ⟨rfl, rfl⟩)
    | (go_at_call 31; refine (log_all p a b _ HT.out hp).mono ?_; rintro e w' ⟨rfl, rfl⟩)
    | (go_at_call 32; refine (rlog_all p a b _ hp).mono ?_; rintro e w' ⟨rfl, rfl⟩)
    | (go_at_call 33; refine (root_ok p a _ HT.out hp).mono ?_; rintro e w' ⟨rfl, rfl⟩)
    | (go_at_call 34; refine (rroot_ok p a _ hp).mono ?_; rintro e w' ⟨rfl, d, rfl⟩)
    | (go_at_call 35; refine (awake_true _ (HT.out.drewN _)).mono ?_; rintro e w' ⟨rfl, rfl⟩))
  go_ret
  exact ⟨rfl, below_drewN' (Below.refl _ _) _⟩
theorem modpMatches_walk (p a b n : Int) (w : World) (hn : n ≤ 9223372036854775807) (ht : Tab w) :
    Calls Tryd.prog 3 #[.int .i64 p, .int .i64 a, .int .i64 b, .int .i64 n] w fun e w' => e = .returned (.bool true) ∧ Below w.heap.size w w' := by
  cases hp : pr p
  · exact matches_no p a b n w ht hp
  · exact matches_ok p a b n w ht hn hp
end Go.Proofs.YthglnchcggpdlaaDoor
