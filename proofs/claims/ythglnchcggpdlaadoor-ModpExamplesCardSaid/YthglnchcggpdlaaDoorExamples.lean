/-
  The walk of ModpExamples: it answers true.
-/
import Derived.Test.YthglnchcggpdlaaDoorSum
import Derived.Deep.LoopGhost
namespace Go.Proofs.YthglnchcggpdlaaDoor
open Go.RowKit M

def badL : List Int := [-9223372036854775808, -7, -1, 0, 1, 4, 15, 253, 257, 9223372036854775807]
def endL : List Int := [9223372036854775807, 9223372036854775807, -9223372036854775808, -9223372036854775808, 2]
theorem bad_no : ∀ j : Nat, j < 10 → pr (badL.getD j 0) = false := by
  intro j hj
  match j, hj with
  | 0, _ | 1, _ | 2, _ | 3, _ | 4, _ | 5, _ | 6, _ | 7, _ | 8, _ | 9, _ => decide +kernel
theorem end_sum : sumL 251 endL 5 = 0 := by decide +kernel
theorem primes_len (w : World) :
    Calls Tryd.prog 46 #[] w fun e w' => ∃ g cap, e = .returned (.slice (some ⟨g, 0, none⟩) 54 cap) ∧ Below w.heap.size w w' :=
  (primes_fld 0 w).mono fun _ _ ⟨g, cap, e, _, hb⟩ => ⟨g, cap, e, hb⟩

/-- The world holds the list of the numbers that are no primes. -/
def Bads (w : World) (g : Nat) : Prop := ∀ j : Nat, j < 10 → w.cell? ⟨g, j, none⟩ = some (.int .i64 (badL.getD j 0))
theorem bads_new (w : World) : Bads (w.alloc (.cells #[.int .i64 (-9223372036854775808), .int .i64 (-7), .int .i64 (-1), .int .i64 0, .int .i64 1, .int .i64 4, .int .i64 15, .int .i64 253, .int .i64 257, .int .i64 9223372036854775807] 3)) w.heap.size := by
  intro j hj
  rw [World.cell?_alloc_at _ _ _ _ rfl]
  match j, hj with
  | 0, _ | 1, _ | 2, _ | 3, _ | 4, _ | 5, _ | 6, _ | 7, _ | 8, _ | 9, _ => rfl

theorem lit_mul (w : World) (ht : Tab w) : Calls Tryd.prog 19 #[.int .i64 7, .int .i64 3, .int .i64 5] w (Two 1 0 w) := by
  have h := mul_ok 7 3 5 w ht pr7
  rw [(show ml 7 3 5 = 1 by decide +kernel)] at h
  exact h
theorem lit_div (w : World) (ht : Tab w) : Calls Tryd.prog 21 #[.int .i64 7, .int .i64 2, .int .i64 3] w (Two 3 0 w) := by
  have h := div_ok 7 2 3 w ht pr7 md73
  rw [(show ml 7 2 (pw 7 3 (7 - 2 : Int).toNat) = 3 by decide +kernel)] at h
  exact h
theorem lit_pow1 (w : World) (ht : Tab w) : Calls Tryd.prog 25 #[.int .i64 7, .int .i64 3, .int .i64 (-1)] w (Two 5 0 w) := by
  have h := pow_ok 7 3 (-1) w ht pr7 md73
  rw [(show pw 7 3 (md (7 - 1) (-1)).toNat = 5 by decide +kernel)] at h
  exact h
theorem lit_pow2 (w : World) (ht : Tab w) : Calls Tryd.prog 25 #[.int .i64 7, .int .i64 0, .int .i64 0] w (Two 1 0 w) := by
  have h := pow_nn 7 0 0 w ht pr7 (by decide +kernel) (by decide) (by decide)
  rw [(show pw 7 0 (0 : Int).toNat = 1 by decide +kernel)] at h
  exact h
theorem lit_pow3 (w : World) (ht : Tab w) : Calls Tryd.prog 25 #[.int .i64 7, .int .i64 3, .int .i64 (-9223372036854775808)] w (Two 4 0 w) := by
  have h := pow_ok 7 3 (-9223372036854775808) w ht pr7 md73
  rw [(show pw 7 3 (md (7 - 1) (-9223372036854775808)).toNat = 4 by decide +kernel)] at h
  exact h
theorem lit_order (w : World) (ht : Tab w) : Calls Tryd.prog 27 #[.int .i64 7, .int .i64 2] w (Two 3 0 w) := by
  have h := order_ok 7 2 w ht pr7 (by decide +kernel)
  rw [(show (ordN 7 2 : Int) = 3 by decide +kernel)] at h
  exact h
theorem lit_log1 (w : World) (ht : Tab w) : Calls Tryd.prog 31 #[.int .i64 7, .int .i64 3, .int .i64 6] w (Two 3 0 w) := by
  have h := log_ok 7 3 6 w ht pr7 (by decide +kernel) (by decide +kernel)
  rw [(show logV 7 3 6 = 3 by decide +kernel), (show logE 7 3 6 = 0 by decide +kernel)] at h
  exact h
theorem lit_log2 (w : World) (ht : Tab w) : Calls Tryd.prog 31 #[.int .i64 7, .int .i64 2, .int .i64 3] w (Two 0 4 w) := by
  have h := log_ok 7 2 3 w ht pr7 (by decide +kernel) (by decide +kernel)
  rw [(show logV 7 2 3 = 0 by decide +kernel), (show logE 7 2 3 = 4 by decide +kernel)] at h
  exact h
theorem lit_root (w : World) (ht : Tab w) : Calls Tryd.prog 33 #[.int .i64 7, .int .i64 4] w (Two 2 0 w) := by
  have h := root_ok 7 4 w ht pr7
  rw [(show rootV 7 4 = 2 by decide +kernel), (show rootE 7 4 = 0 by decide +kernel)] at h
  exact h
theorem lit_gen (w : World) (ht : Tab w) : Calls Tryd.prog 29 #[.int .i64 2] w (Two 1 0 w) := by
  have h := gen_ok 2 w ht (by decide +kernel)
  rw [(show (genN 2 : Int) = 1 by decide +kernel)] at h
  exact h
theorem ends_new (w : World) : ∀ j : Nat, j < 5 → (w.alloc (.cells #[.int .i64 9223372036854775807, .int .i64 9223372036854775807, .int .i64 (-9223372036854775808), .int .i64 (-9223372036854775808), .int .i64 2] 3)).cell? ⟨w.heap.size, 0 + j, none⟩ = some (.int .i64 (endL.getD j 0)) := by
  intro j hj
  rw [Nat.zero_add, World.cell?_alloc_at _ _ _ _ rfl]
  match j, hj with
  | 0, _ | 1, _ | 2, _ | 3, _ | 4, _ => rfl
theorem lit_sum (w : World) (ht : Tab w) : Calls Tryd.prog 37 #[.int .i64 251, .slice (some ⟨w.heap.size, 0, none⟩) 5 5] (w.alloc (.cells #[.int .i64 9223372036854775807, .int .i64 9223372036854775807, .int .i64 (-9223372036854775808), .int .i64 (-9223372036854775808), .int .i64 2] 3))
    (Two 0 0 (w.alloc (.cells #[.int .i64 9223372036854775807, .int .i64 9223372036854775807, .int .i64 (-9223372036854775808), .int .i64 (-9223372036854775808), .int .i64 2] 3))) := by
  have h := sum_some 251 w.heap.size 0 5 5 endL _ (ht.below ht.pos ((Below.refl _ w).alloc (Nat.le_refl _) _)) pr251 (by decide) (by decide) (ends_new w)
  rw [end_sum] at h
  exact h

set_option maxHeartbeats 2000000 in
set_option maxRecDepth 100000 in
theorem examples_walk (w : World) (ht : Tab w) :
    Calls Tryd.prog 10 #[] w fun e w' => e = .returned (.bool true) ∧ Below w.heap.size w w' := by
  have HT := Lib.hid (fun w' hb => Tab.below (w' := w') ht ht.pos hb)
  have T0 := Lib.hid ht
  clear ht
  go_enter Tryd.func10, Tryd.ntmps10
  go_wp2_with fail
  refine (awake_true _ T0.out).mono ?_
  rintro e w' ⟨rfl, rfl⟩
  go_wp2_with fail
  refine (primes_len _).mono ?_
  rintro e w1 ⟨g, cap, rfl, hb1⟩
  have T1 := Lib.hid (HT.out _ hb1)
  have B1 := Lib.hid hb1
  clear hb1
  go_wp2_with fail
  go_loop [1] (fun i => ∃ j : Int, -3 ≤ j ∧ j ≤ 300 ∧ i = .int .i64 j) (fun i => (300 - intOf i).toNat)
  case atStart => exact ⟨-3, by omega, by omega, rfl⟩
  case round =>
    obtain ⟨j, j1, j2, rfl⟩ := hrel
    by_cases hj : j < 300
    · go_wp2_with (first
        | (go_at_call 11; refine (prime_any _ _ T1.out).mono ?_; rintro e w' ⟨rfl, rfl⟩)
        | (go_at_call 12; refine (rprime_any _ _).mono ?_; rintro e w' ⟨rfl, rfl⟩))
      go_round
      case rel => exact ⟨j + 1, by omega, by omega, rfl⟩
      case measure => simp [intOf]; omega
    · obtain rfl : j = 300 := by omega
      go_wp2_with fail
      have hB := bads_new w1
      have hb2 : Below w.heap.size w (w1.alloc (.cells #[.int .i64 (-9223372036854775808), .int .i64 (-7), .int .i64 (-1), .int .i64 0, .int .i64 1, .int .i64 4, .int .i64 15, .int .i64 253, .int .i64 257, .int .i64 9223372036854775807] 3)) := B1.out.alloc B1.out.size _
      generalize w1.alloc (.cells #[.int .i64 (-9223372036854775808), .int .i64 (-7), .int .i64 (-1), .int .i64 0, .int .i64 1, .int .i64 4, .int .i64 15, .int .i64 253, .int .i64 257, .int .i64 9223372036854775807] 3) = w2 at hB hb2 ⊢
      have T2 := Lib.hid (HT.out _ hb2)
      have B2 := Lib.hid hb2
      have HB := Lib.hid hB
      clear hb2 hB T1 B1
      go_loop [58] (fun i => ∃ k : Nat, k ≤ 10 ∧ i = .int .i64 k) (fun i => 10 - (intOf i).toNat)
      case atStart => exact ⟨0, by omega, rfl⟩
      case round =>
        obtain ⟨k, k2, rfl⟩ := hrel
        by_cases hk : k < 10
        · have hcell := HB.out k hk
          have hp := bad_no k hk
          generalize badL.getD k 0 = p at hcell hp
          clear HB
          go_wp2_with (first
            | (go_at_call 11; refine (prime_any p _ T2.out).mono ?_; rw [hp]; rintro e w' ⟨rfl, rfl⟩)
            | (go_at_call 13; refine (mod_no p _ _ T2.out hp).mono ?_; rintro e w' ⟨rfl, rfl⟩)
            | (go_at_call 15; refine (add_no p _ _ _ T2.out hp).mono ?_; rintro e w' ⟨rfl, rfl⟩)
            | (go_at_call 23; refine (inv_no p _ _ T2.out hp).mono ?_; rintro e w' ⟨rfl, rfl⟩)
            | (go_at_call 25; refine (pow_no p _ _ _ T2.out hp).mono ?_; rintro e w' ⟨rfl, rfl⟩)
            | (go_at_call 31; refine (log_no p _ _ _ T2.out hp).mono ?_; rintro e w' ⟨rfl, rfl⟩)
            | (go_at_call 37; refine (sum_no p _ _ _ _ T2.out hp).mono ?_; rintro e w' ⟨rfl, rfl⟩)
            | (go_at_call 29; refine (gen_no p _ T2.out hp).mono ?_; rintro e w' ⟨rfl, rfl⟩))
          go_round
          case rel => exact ⟨k + 1, by omega, by go_num⟩
          case measure => simp [intOf]; omega
        · obtain rfl : k = 10 := by omega
          clear HB
          go_wp2_with fail
          refine (lit_mul _ T2.out).mono ?_
          rintro e w' ⟨rfl, rfl⟩
          go_wp2_with fail
          refine (lit_div _ T2.out).mono ?_
          rintro e w' ⟨rfl, rfl⟩
          go_wp2_with fail
          refine (lit_pow1 _ T2.out).mono ?_
          rintro e w' ⟨rfl, rfl⟩
          go_wp2_with fail
          refine (lit_pow2 _ T2.out).mono ?_
          rintro e w' ⟨rfl, rfl⟩
          go_wp2_with fail
          refine (lit_order _ T2.out).mono ?_
          rintro e w' ⟨rfl, rfl⟩
          go_wp2_with fail
          refine (lit_log1 _ T2.out).mono ?_
          rintro e w' ⟨rfl, rfl⟩
          go_wp2_with fail
          refine (lit_log2 _ T2.out).mono ?_
          rintro e w' ⟨rfl, rfl⟩
          go_wp2_with fail
          refine (lit_root _ T2.out).mono ?_
          rintro e w' ⟨rfl, rfl⟩
          go_wp2_with fail
          refine (lit_gen _ T2.out).mono ?_
          rintro e w' ⟨rfl, rfl⟩
          go_wp2_with fail
          refine (lit_pow3 _ T2.out).mono ?_
          rintro e w' ⟨rfl, rfl⟩
          go_wp2_with fail
          refine (lit_sum _ T2.out).mono ?_
          rintro e w' ⟨rfl, rfl⟩
          go_wp2_with fail
          go_wp2_with (go_at_call 43; refine (is_yes _ _).mono ?_; rintro e w' ⟨rfl, rfl⟩)
          go_ret
          exact ⟨rfl, B2.out.alloc B2.out.size _⟩
end Go.Proofs.YthglnchcggpdlaaDoor
