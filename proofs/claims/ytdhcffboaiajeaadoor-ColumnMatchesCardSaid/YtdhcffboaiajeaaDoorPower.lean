/-
  What modp.power returns: the residue of a to the power of n, for every n that is not negative.
-/
import Derived.Test.YtdhcffboaiajeaaDoorBase
import Derived.Test.YtdhcffboaiajeaaDoorBits
import Derived.LoopTactic
import Derived.Outline
namespace Go.Proofs.YtdhcffboaiajeaaDoor
open Go.RowKit M


def PInv (p a : Int) (n j : Nat) (A X : Int) : Prop := (X * A ^ (n / 2 ^ j)) % p = pw p a n
theorem half (n j : Nat) : n / 2 ^ (j + 1) = n / 2 ^ j / 2 := by rw [Nat.pow_succ, Nat.div_div_eq_div_mul]
theorem sq_pow (A : Int) (m : Nat) : (A * A) ^ m = A ^ (2 * m) := by
  rw [Int.pow_mul, show (A : Int) ^ 2 = A * A from by rw [Int.pow_succ, Int.pow_succ, Int.pow_zero, Int.one_mul]]
theorem emod_pow (p A : Int) (m : Nat) : (A % p) ^ m % p = A ^ m % p := pw_md p A m
theorem PInv.odd {p a : Int} {n j : Nat} {A X : Int} (h : PInv p a n j A X) (hb : n / 2 ^ j % 2 = 1) : PInv p a n (j + 1) (A * A % p) (X * A % p) := by
  unfold PInv at h ⊢
  rw [← h, half, Int.mul_emod, emod_pow, Int.emod_emod_of_dvd _ (Int.dvd_refl p), ← Int.mul_emod, sq_pow]
  have e : n / 2 ^ j = 2 * (n / 2 ^ j / 2) + 1 := by omega
  rw [show X * A ^ (n / 2 ^ j) = X * A ^ (2 * (n / 2 ^ j / 2) + 1) from by rw [← e], Int.pow_succ, Int.mul_assoc, Int.mul_comm A]
theorem PInv.even {p a : Int} {n j : Nat} {A X : Int} (h : PInv p a n j A X) (hb : n / 2 ^ j % 2 = 0) : PInv p a n (j + 1) (A * A % p) X := by
  unfold PInv at h ⊢
  rw [← h, half, Int.mul_emod, emod_pow, ← Int.mul_emod, sq_pow]
  have e : n / 2 ^ j = 2 * (n / 2 ^ j / 2) := by omega
  rw [← e]
theorem PInv.done {p a : Int} {n j : Nat} {A X : Int} (h : PInv p a n j A X) (hz : n < 2 ^ j) (x0 : 0 ≤ X) (x1 : X < p) : X = pw p a n := by
  unfold PInv at h
  rw [Nat.div_eq_of_lt hz, Int.pow_zero, Int.mul_one, Int.emod_eq_of_lt x0 x1] at h
  exact h
theorem and_one_i64 (i : Nat) (_hi : i < 9223372036854775808) : bits BinOp.and IntKind.i64 (i : Int) 1 = ((i % 2 : Nat) : Int) := by
  show IntKind.i64.wrap ((BitVec.ofInt 64 (i : Int) &&& BitVec.ofInt 64 1).toNat : Nat) = _
  have key : (BitVec.ofInt 64 (i : Int) &&& BitVec.ofInt 64 1).toNat = i % 2 := by
    rw [BitVec.toNat_and, BitVec.toNat_ofInt, show (BitVec.ofInt 64 1).toNat = 2 ^ 1 - 1 from by decide, Nat.and_two_pow_sub_one_eq_mod]
    omega
  rw [key, IntKind.wrap_i64]
  omega
theorem bit_of (n j : Nat) (hn : n ≤ 9223372036854775807) : (bits BinOp.and IntKind.i64 ((n : Int) / 2 ^ j) 1 == 1) = decide (n / 2 ^ j % 2 = 1) := by
  have e : ((n : Int) / 2 ^ j) = ((n / 2 ^ j : Nat) : Int) := by simp
  have hle := Nat.div_le_self n (2 ^ j)
  rw [e, and_one_i64 _ (by omega)]
  by_cases h : n / 2 ^ j % 2 = 1
  · rw [h]; decide
  · have : n / 2 ^ j % 2 = 0 := by omega
    rw [this]; decide

theorem power_any (p a n : Int) (w : World) (h2 : 2 ≤ p) (h3 : p ≤ 251) (a0 : 0 ≤ a) (a1 : a < p) (n0 : 0 ≤ n) (n1 : n ≤ 9223372036854775807) :
    Calls Tryd.prog 91 #[.int .i64 p, .int .i64 a, .int .i64 n] w fun e w' => e = .returned (.int .i64 (pw p a n.toNat)) ∧ w = w' := by
  obtain ⟨n, rfl⟩ := Int.eq_ofNat_of_zero_le n0
  have l1 := bitLen_le n
  have l2 := bitLen_lt n (by omega)
  have hl : ∃ L : Nat, (Lib.bitLen n) = L := ⟨_, rfl⟩
  obtain ⟨L, hl⟩ := hl
  rw [hl] at l1 l2
  have HL2 := Lib.hid l2
  clear l2
  have lc : ∀ w : World, Calls Tryd.prog 92 #[.int .u64 (n : Int)] w fun e w' => e = .returned (.int .i64 (L : Int)) ∧ w = w' := by
    intro w
    have := len_any (n : Int) w (by omega) (by omega)
    rw [Int.toNat_natCast, hl] at this
    exact this
  have LC := Lib.hid lc
  clear lc hl
  go_enter Tryd.func91, Tryd.ntmps91
  go_wp2_with (go_at_call 92; refine (LC.out _).mono ?_; rintro e w' ⟨rfl, rfl⟩)
  go_loop [1, 7, 12] (fun u v k => ∃ (j : Nat) (A X : Int), j ≤ L ∧ 0 ≤ A ∧ A < p ∧ 0 ≤ X ∧ X < p ∧ PInv p a n j A X ∧ k = .int .i64 j ∧ u = .int .i64 A ∧ v = .int .i64 X) (fun _ _ k => L - (intOf k).toNat)
  case atStart => exact ⟨0, a, 1, Nat.zero_le _, a0, a1, by omega, by omega, by unfold PInv pw; simp, rfl, rfl, rfl⟩
  case round =>
    obtain ⟨j, A, X, hj, hA0, hA1, hX0, hX1, hI, rfl, rfl, rfl⟩ := hrel
    have HI := Lib.hid hI
    clear hI LC
    by_cases hlt : j < L
    · have hb := bit_of n j (by omega)
      obtain ⟨m0, m1⟩ := prod_bd hA0 (by omega) hA0 (by omega)
      obtain ⟨m2, m3⟩ := prod_bd hX0 (by omega) hA0 (by omega)
      obtain ⟨r0, r1⟩ : 0 ≤ A * A % p ∧ A * A % p < p := ⟨Int.emod_nonneg _ (by omega), Int.emod_lt_of_pos _ (by omega)⟩
      obtain ⟨r2, r3⟩ : 0 ≤ X * A % p ∧ X * A % p < p := ⟨Int.emod_nonneg _ (by omega), Int.emod_lt_of_pos _ (by omega)⟩
      by_cases hc : n / 2 ^ j % 2 = 1
      · rw [decide_eq_true hc] at hb
        have HC := Lib.hid hc
        clear hc
        go_wp2
        go_round
        case rel => exact ⟨j + 1, A * A % p, X * A % p, by omega, r0, r1, r2, r3, HI.out.odd HC.out, by go_num, rfl, rfl⟩
        case measure => simp [intOf]; omega
      · rw [decide_eq_false hc] at hb
        have HC := Lib.hid hc
        clear hc
        go_wp2
        go_round
        case rel => exact ⟨j + 1, A * A % p, X, by omega, r0, r1, hX0, hX1, HI.out.even (by have := HC.out; omega), by go_num, rfl, rfl⟩
        case measure => simp [intOf]; omega
    · obtain rfl : j = L := by omega
      go_wp2
      go_ret
      exact ⟨ret_int (HI.out.done HL2.out hX0 hX1), rfl⟩
end Go.Proofs.YtdhcffboaiajeaaDoor
