/-
  What math/bits.Div64 returns for a divisor below 2 to the power of 63.
  The guess of a limb of a quotient, and the step of a division that it serves.
  A step of the written division, and its arithmetic.
  What natural.divide returns.
-/
import Derived.Test.YtphbfjcaehiboaaGreatDoorZb
import Derived.Test.YtphbfjcaehiboaaGreatDoorShelf
import Derived.Test.YtphbfjcaehiboaaGreatDoorZa
import Derived.Laws.Bits64b
import Derived.Lib.ItoaNum
import Derived.Test.YtphbfjcaehiboaaGreatDoorZc
import Derived.Laws.Externs
namespace Go.Proofs.YtphbfjcaehiboaaGreatDoor
open Go.RowKit

def GivesQ (q r : Int) (w : World) (e : Ending) (w' : World) : Prop := ∃ q' r', e = .returned (.tuple #[.int .u64 q', .int .u64 r']) ∧ q' = q ∧ r' = r ∧ w = w'
theorem sub_one_le {q : Int} (h : q ≤ 4294967297) : q - 1 ≤ 4294967296 := by omega
theorem wrap_bd (z : Int) : 0 ≤ IntKind.u64.wrap z ∧ IntKind.u64.wrap z ≤ 18446744073709551615 := by rw [IntKind.wrap_u64]; omega
theorem half_mul {a b : Int} (a0 : 0 ≤ a) (a1 : a ≤ 4294967296) (b0 : 0 ≤ b) (b1 : b < 4294967296) : 0 ≤ a * b ∧ a * b ≤ 18446744073709551615 := by
  refine ⟨Int.mul_nonneg a0 b0, ?_⟩
  have h1 := Int.mul_le_mul_of_nonneg_right a1 b0
  omega
set_option maxHeartbeats 4000000 in
set_option maxRecDepth 100000 in
theorem div64_core (hi lo y Y L A C u v1 v0 t1 t0 : Int) (k : Nat) (hk : (Lib.bitLen y.toNat) + k = 64) (hk1 : 1 ≤ k) (hk2 : k ≤ 63) (h0 : 0 < hi) (h1 : hi < y) (hy : y ≤ 18446744073709551615)
    (hE1 : y * 2 ^ k = Y) (hE2 : IntKind.u64.wrap (lo * 2 ^ k) = L) (hE3 : hi * 2 ^ k = A) (hE4 : lo / 2 ^ (64 - k) = C) (hE5 : bits .or .u64 A C = u)
    (hE6 : bits .and .u64 Y 4294967295 = v0) (hE7 : Y / 4294967296 = v1) (hE8 : L / 4294967296 = t1) (hE9 : bits .and .u64 L 4294967295 = t0)
    (hY0 : 0 ≤ Y) (hY1 : Y ≤ 18446744073709551615) (hA0 : 0 ≤ A) (hA1 : A ≤ 18446744073709551615) (hYv : Y = v1 * 4294967296 + v0) (hH : HalfIn u t1 v1 v0) (ht0 : 0 ≤ t0) (ht1 : t0 < 4294967296) :
    ∃ r, ∀ w, Calls Tryz.prog 147 #[.int .u64 hi, .int .u64 lo, .int .u64 y] w (GivesQ ((u * 18446744073709551616 + (t1 * 4294967296 + t0)) / (v1 * 4294967296 + v0)) r w) := by
  have hz := fun w => Tryz.bits_LeadingZeros64 y w (by omega) hy
  rw [show (64 : Int) - (Lib.bitLen y.toNat : Int) = (k : Int) by omega] at hz
  have HZ := Lib.hid hz
  have HH := Lib.hid hH
  have hH' := hH
  obtain ⟨H1, H2, H3, H4, H5, H6, H7, H8⟩ := hH
  have hs0 := half_start hH'
  obtain ⟨hs1, hs2, hs3, hs4⟩ : u / v1 ≤ 4294967297 ∧ 0 ≤ u / v1 ∧ 0 ≤ u - u / v1 * v1 ∧ u - u / v1 * v1 < 4294967296 := ⟨hs0.hi, hs0.q0, hs0.r0, half_rest_lt (by omega) (by omega)⟩
  obtain ⟨hs5, hs6⟩ : 0 ≤ u / v1 * v1 ∧ u / v1 * v1 ≤ 18446744073709551615 := ⟨Int.mul_nonneg hs2 (by omega), by omega⟩
  obtain ⟨Q1, hQ1⟩ : ∃ Q1, (u * 4294967296 + t1) / (v1 * 4294967296 + v0) = Q1 := ⟨_, rfl⟩
  obtain ⟨n1, n2, n3, n4⟩ := half_next hH' hQ1.symm
  obtain ⟨u2, hu2⟩ : ∃ u2, u * 4294967296 + t1 - Q1 * (v1 * 4294967296 + v0) = u2 := ⟨_, rfl⟩
  rw [hu2] at n1 n2
  have hH2 : HalfIn u2 t0 v1 v0 := ⟨n1, n2, ht0, ht1, H5, H6, H7, H8⟩
  obtain ⟨Q2, hQ2⟩ : ∃ Q2, (u2 * 4294967296 + t0) / (v1 * 4294967296 + v0) = Q2 := ⟨_, rfl⟩
  obtain ⟨_, _, n5, n6⟩ := half_next hH2 hQ2.symm
  have hQ := half_both (q1 := Q1) (q0 := Q2) (t0 := t0) hH' (by rw [hu2, hQ2])
  have hE7 : IntKind.u64.wrap (IntKind.u64.wrap (IntKind.u64.wrap (u * 4294967296) + t1) - IntKind.u64.wrap (Q1 * Y)) = u2 := by
    rw [hYv]
    simp only [IntKind.wrap_u64]
    generalize Q1 * (v1 * 4294967296 + v0) = m at hu2
    omega
  have HQ := Lib.hid hQ
  have HQ1 := Lib.hid hQ1
  have HQ2 := Lib.hid hQ2
  have HH2 := Lib.hid hH2
  have HE7 := Lib.hid hE7
  have hs0b := half_start hH2
  obtain ⟨hs1b, hs2b, hs3b, hs4b⟩ : u2 / v1 ≤ 4294967297 ∧ 0 ≤ u2 / v1 ∧ 0 ≤ u2 - u2 / v1 * v1 ∧ u2 - u2 / v1 * v1 < 4294967296 := ⟨hs0b.hi, hs0b.q0, hs0b.r0, half_rest_lt (by omega) (by omega)⟩
  obtain ⟨hs5b, hs6b⟩ : 0 ≤ u2 / v1 * v1 ∧ u2 / v1 * v1 ≤ 18446744073709551615 := ⟨Int.mul_nonneg hs2b (by omega), by omega⟩
  clear hz hk hs0 hs0b hH' hH2 hQ hQ1 hQ2 hu2 hE7 hYv
  refine ⟨IntKind.u64.wrap (IntKind.u64.wrap (IntKind.u64.wrap (u2 * 4294967296) + t0) - IntKind.u64.wrap (Q2 * Y)) / 2 ^ k, fun w => ?_⟩
  go_enter Tryz.func147, Tryz.ntmps147
  go_upto_region 17 with (go_at_call 155; refine (HZ.out _).mono ?_; rintro e w' ⟨rfl, rfl⟩)
  go_loop [15, 16] (fun a b => ∃ q r : Int, Hid (Half u t1 v1 v0 q r) ∧ q ≤ 4294967297 ∧ 0 ≤ q ∧ 0 ≤ r ∧ r < 4294967296 ∧ a = .int .u64 q ∧ b = .int .u64 r) (fun a _ => (intOf a).toNat)
  case atStart => exact ⟨_, _, half_start HH.out, hs1, hs2, hs3, hs4, rfl, rfl⟩
  case round =>
    obtain ⟨q, r, HG, hq1, hq2, hr1, hr2, rfl, rfl⟩ := hrel
    by_cases hB : 4294967296 ≤ q
    · have HN := Lib.hid (half_less HH.out HG.out (.inl hB))
      have hqp := HN.out.q0
      by_cases hb : 4294967296 ≤ r + v1
      · have hq := half_over HH.out HN.out (sub_one_le hq1) hb
        rw [HQ1.out] at hq
        have hE7 := HE7.out
        clear HG HN
        go_wp2
        go_loop [18, 16] (fun a b => ∃ q r : Int, Hid (Half u2 t0 v1 v0 q r) ∧ q ≤ 4294967297 ∧ 0 ≤ q ∧ 0 ≤ r ∧ r < 4294967296 ∧ a = .int .u64 q ∧ b = .int .u64 r) (fun a _ => (intOf a).toNat)
        case atStart => exact ⟨_, _, half_start HH2.out, hs1b, hs2b, hs3b, hs4b, rfl, rfl⟩
        case round =>
          obtain ⟨q, r, HG, hq1, hq2, hr1, hr2, rfl, rfl⟩ := hrel
          by_cases hB : 4294967296 ≤ q
          · have HN := Lib.hid (half_less HH2.out HG.out (.inl hB))
            have hqp := HN.out.q0
            by_cases hb : 4294967296 ≤ r + v1
            · have hq := half_over HH2.out HN.out (sub_one_le hq1) hb
              rw [HQ2.out] at hq
              clear HH HH2 HZ HE7 HN HG hs1 hs2 hs3 hs4 hs5 hs6 hs1b hs2b hs3b hs4b hs5b hs6b
              go_wp2
              go_ret2
              exact ⟨_, _, rfl, HQ.out, rfl, rfl⟩
            · go_wp2
              go_round
              case rel => exact ⟨_, _, HN.out, HN.out.hi, HN.out.q0, HN.out.r0, by omega, rfl, rfl⟩
              case measure => simp [intOf]; omega
          · obtain ⟨m0, m1⟩ : 0 ≤ q * v0 ∧ q * v0 ≤ 18446744073709551615 := half_mul hq2 (by omega) H7 H8
            by_cases hc : r * 4294967296 + t0 < q * v0
            · have HN := Lib.hid (half_less HH2.out HG.out (.inr hc))
              have hqp := HN.out.q0
              by_cases hb : 4294967296 ≤ r + v1
              · have hq := half_over HH2.out HN.out (sub_one_le hq1) hb
                rw [HQ2.out] at hq
                clear HH HH2 HZ HE7 HN HG hs1 hs2 hs3 hs4 hs5 hs6 hs1b hs2b hs3b hs4b hs5b hs6b
                go_wp2
                go_ret2
                exact ⟨_, _, rfl, HQ.out, rfl, rfl⟩
              · go_wp2
                go_round
                case rel => exact ⟨_, _, HN.out, HN.out.hi, HN.out.q0, HN.out.r0, by omega, rfl, rfl⟩
                case measure => simp [intOf]; omega
            · have hq := half_right HH2.out HG.out (Int.not_lt.1 hc)
              rw [HQ2.out] at hq
              subst hq
              clear HH HH2 HZ HE7 HG hs1 hs2 hs3 hs4 hs5 hs6 hs1b hs2b hs3b hs4b hs5b hs6b
              go_wp2
              go_ret2
              exact ⟨_, _, rfl, HQ.out, rfl, rfl⟩
      · go_wp2
        go_round
        case rel => exact ⟨_, _, HN.out, HN.out.hi, HN.out.q0, HN.out.r0, by omega, rfl, rfl⟩
        case measure => simp [intOf]; omega
    · obtain ⟨m0, m1⟩ : 0 ≤ q * v0 ∧ q * v0 ≤ 18446744073709551615 := half_mul hq2 (by omega) H7 H8
      by_cases hc : r * 4294967296 + t1 < q * v0
      · have HN := Lib.hid (half_less HH.out HG.out (.inr hc))
        have hqp := HN.out.q0
        by_cases hb : 4294967296 ≤ r + v1
        · have hq := half_over HH.out HN.out (sub_one_le hq1) hb
          rw [HQ1.out] at hq
          have hE7 := HE7.out
          clear HG HN
          go_wp2
          go_loop [18, 16] (fun a b => ∃ q r : Int, Hid (Half u2 t0 v1 v0 q r) ∧ q ≤ 4294967297 ∧ 0 ≤ q ∧ 0 ≤ r ∧ r < 4294967296 ∧ a = .int .u64 q ∧ b = .int .u64 r) (fun a _ => (intOf a).toNat)
          case atStart => exact ⟨_, _, half_start HH2.out, hs1b, hs2b, hs3b, hs4b, rfl, rfl⟩
          case round =>
            obtain ⟨q, r, HG, hq1, hq2, hr1, hr2, rfl, rfl⟩ := hrel
            by_cases hB : 4294967296 ≤ q
            · have HN := Lib.hid (half_less HH2.out HG.out (.inl hB))
              have hqp := HN.out.q0
              by_cases hb : 4294967296 ≤ r + v1
              · have hq := half_over HH2.out HN.out (sub_one_le hq1) hb
                rw [HQ2.out] at hq
                clear HH HH2 HZ HE7 HN HG hs1 hs2 hs3 hs4 hs5 hs6 hs1b hs2b hs3b hs4b hs5b hs6b
                go_wp2
                go_ret2
                exact ⟨_, _, rfl, HQ.out, rfl, rfl⟩
              · go_wp2
                go_round
                case rel => exact ⟨_, _, HN.out, HN.out.hi, HN.out.q0, HN.out.r0, by omega, rfl, rfl⟩
                case measure => simp [intOf]; omega
            · obtain ⟨m0, m1⟩ : 0 ≤ q * v0 ∧ q * v0 ≤ 18446744073709551615 := half_mul hq2 (by omega) H7 H8
              by_cases hc : r * 4294967296 + t0 < q * v0
              · have HN := Lib.hid (half_less HH2.out HG.out (.inr hc))
                have hqp := HN.out.q0
                by_cases hb : 4294967296 ≤ r + v1
                · have hq := half_over HH2.out HN.out (sub_one_le hq1) hb
                  rw [HQ2.out] at hq
                  clear HH HH2 HZ HE7 HN HG hs1 hs2 hs3 hs4 hs5 hs6 hs1b hs2b hs3b hs4b hs5b hs6b
                  go_wp2
                  go_ret2
                  exact ⟨_, _, rfl, HQ.out, rfl, rfl⟩
                · go_wp2
                  go_round
                  case rel => exact ⟨_, _, HN.out, HN.out.hi, HN.out.q0, HN.out.r0, by omega, rfl, rfl⟩
                  case measure => simp [intOf]; omega
              · have hq := half_right HH2.out HG.out (Int.not_lt.1 hc)
                rw [HQ2.out] at hq
                subst hq
                clear HH HH2 HZ HE7 HG hs1 hs2 hs3 hs4 hs5 hs6 hs1b hs2b hs3b hs4b hs5b hs6b
                go_wp2
                go_ret2
                exact ⟨_, _, rfl, HQ.out, rfl, rfl⟩
        · go_wp2
          go_round
          case rel => exact ⟨_, _, HN.out, HN.out.hi, HN.out.q0, HN.out.r0, by omega, rfl, rfl⟩
          case measure => simp [intOf]; omega
      · have hq := half_right HH.out HG.out (Int.not_lt.1 hc)
        rw [HQ1.out] at hq
        subst hq
        have hE7 := HE7.out
        clear HG
        go_wp2
        go_loop [18, 16] (fun a b => ∃ q r : Int, Hid (Half u2 t0 v1 v0 q r) ∧ q ≤ 4294967297 ∧ 0 ≤ q ∧ 0 ≤ r ∧ r < 4294967296 ∧ a = .int .u64 q ∧ b = .int .u64 r) (fun a _ => (intOf a).toNat)
        case atStart => exact ⟨_, _, half_start HH2.out, hs1b, hs2b, hs3b, hs4b, rfl, rfl⟩
        case round =>
          obtain ⟨q, r, HG, hq1, hq2, hr1, hr2, rfl, rfl⟩ := hrel
          by_cases hB : 4294967296 ≤ q
          · have HN := Lib.hid (half_less HH2.out HG.out (.inl hB))
            have hqp := HN.out.q0
            by_cases hb : 4294967296 ≤ r + v1
            · have hq := half_over HH2.out HN.out (sub_one_le hq1) hb
              rw [HQ2.out] at hq
              clear HH HH2 HZ HE7 HN HG hs1 hs2 hs3 hs4 hs5 hs6 hs1b hs2b hs3b hs4b hs5b hs6b
              go_wp2
              go_ret2
              exact ⟨_, _, rfl, HQ.out, rfl, rfl⟩
            · go_wp2
              go_round
              case rel => exact ⟨_, _, HN.out, HN.out.hi, HN.out.q0, HN.out.r0, by omega, rfl, rfl⟩
              case measure => simp [intOf]; omega
          · obtain ⟨m0, m1⟩ : 0 ≤ q * v0 ∧ q * v0 ≤ 18446744073709551615 := half_mul hq2 (by omega) H7 H8
            by_cases hc : r * 4294967296 + t0 < q * v0
            · have HN := Lib.hid (half_less HH2.out HG.out (.inr hc))
              have hqp := HN.out.q0
              by_cases hb : 4294967296 ≤ r + v1
              · have hq := half_over HH2.out HN.out (sub_one_le hq1) hb
                rw [HQ2.out] at hq
                clear HH HH2 HZ HE7 HN HG hs1 hs2 hs3 hs4 hs5 hs6 hs1b hs2b hs3b hs4b hs5b hs6b
                go_wp2
                go_ret2
                exact ⟨_, _, rfl, HQ.out, rfl, rfl⟩
              · go_wp2
                go_round
                case rel => exact ⟨_, _, HN.out, HN.out.hi, HN.out.q0, HN.out.r0, by omega, rfl, rfl⟩
                case measure => simp [intOf]; omega
            · have hq := half_right HH2.out HG.out (Int.not_lt.1 hc)
              rw [HQ2.out] at hq
              subst hq
              clear HH HH2 HZ HE7 HG hs1 hs2 hs3 hs4 hs5 hs6 hs1b hs2b hs3b hs4b hs5b hs6b
              go_wp2
              go_ret2
              exact ⟨_, _, rfl, HQ.out, rfl, rfl⟩

theorem bitLen_63 {y : Int} (h0 : 0 < y) (h1 : y ≤ 9223372036854775807) : 1 ≤ Lib.bitLen y.toNat ∧ Lib.bitLen y.toNat ≤ 63 ∧ (2 : Int) ^ (Lib.bitLen y.toNat - 1) ≤ y ∧ y < 2 ^ Lib.bitLen y.toNat := by
  obtain ⟨n, rfl⟩ := Int.eq_ofNat_of_zero_le (Int.le_of_lt h0)
  rw [Int.toNat_natCast]
  obtain ⟨a, b, c⟩ := Lib.bitLenAux_bounds 64 n (by omega) (by omega)
  change 1 ≤ Lib.bitLen n at a
  change 2 ^ (Lib.bitLen n - 1) ≤ n at b
  change n < 2 ^ Lib.bitLen n at c
  have e : ∀ k : Nat, ((2 ^ k : Nat) : Int) = (2 : Int) ^ k := fun k => by simp
  refine ⟨a, ?_, by rw [← e]; omega, by rw [← e]; omega⟩
  rcases Nat.lt_or_ge 63 (Lib.bitLen n) with h | h
  · have := Nat.pow_le_pow_right (show 0 < 2 by omega) (show 63 ≤ Lib.bitLen n - 1 by omega)
    have e63 : (2 : Nat) ^ 63 = 9223372036854775808 := by decide
    omega
  · exact h
theorem or_add {A C : Nat} (k : Nat) (hC : C < 2 ^ k) (hA : A * 2 ^ k + C < 18446744073709551616) : bits .or .u64 ((A * 2 ^ k : Nat) : Int) (C : Int) = ((A * 2 ^ k + C : Nat) : Int) := by
  rw [bits_or_u64_nat _ _ (by omega) (by omega), Nat.mul_comm, ← Nat.two_pow_add_eq_or_of_lt hC]
theorem and_mask {a : Int} (h0 : 0 ≤ a) (h1 : a ≤ 18446744073709551615) : bits .and .u64 a 4294967295 = a % 4294967296 := by
  obtain ⟨n, rfl⟩ := Int.eq_ofNat_of_zero_le h0
  have h := bits_and_u64_nat n 4294967295 (by omega) (by omega)
  have e : n &&& 4294967295 = n % 4294967296 := Nat.and_two_pow_sub_one_eq_mod n 32
  rw [e] at h
  rw [show ((n : Int) % 4294967296) = ((n % 4294967296 : Nat) : Int) by omega, ← h]
  rfl

theorem div64_pos (hi lo y : Int) (h0 : 0 < hi) (h1 : hi < y) (h2 : 0 ≤ lo) (h3 : lo ≤ 18446744073709551615) (h4 : y ≤ 9223372036854775807) :
    ∃ r, ∀ w, Calls Tryz.prog 147 #[.int .u64 hi, .int .u64 lo, .int .u64 y] w (GivesQ ((hi * 18446744073709551616 + lo) / y) r w) := by
  obtain ⟨b1, b2, b3, b4⟩ := bitLen_63 (show 0 < y by omega) h4
  obtain ⟨k, hk⟩ : ∃ k, Lib.bitLen y.toNat + k = 64 := ⟨64 - Lib.bitLen y.toNat, by omega⟩
  generalize hL : Lib.bitLen y.toNat = L at *
  have hp : ∀ j : Nat, 0 < (2 : Int) ^ j := fun j => Int.pow_pos (by omega)
  have e63 : (2 : Int) ^ (L - 1) * 2 ^ k = 9223372036854775808 := by rw [← Int.pow_add, show L - 1 + k = 63 by omega]; decide
  have e64 : (2 : Int) ^ L * 2 ^ k = 18446744073709551616 := by rw [← Int.pow_add, hk]; decide
  have e64' : (2 : Int) ^ (64 - k) * 2 ^ k = 18446744073709551616 := by rw [show 64 - k = L by omega]; exact e64
  have y1 := Int.mul_le_mul_of_nonneg_right b3 (Int.le_of_lt (hp k))
  have y2 := Int.mul_lt_mul_of_pos_right b4 (hp k)
  have a1 := Int.mul_lt_mul_of_pos_right h1 (hp k)
  have a0 := Int.mul_pos h0 (hp k)
  rw [e63] at y1
  rw [e64] at y2
  have c0 := Int.ediv_nonneg h2 (Int.le_of_lt (hp (64 - k)))
  have c1 : lo / 2 ^ (64 - k) < 2 ^ k := by
    apply Int.ediv_lt_of_lt_mul (hp _)
    rw [Int.mul_comm, e64']; omega
  have hor : bits .or .u64 (hi * 2 ^ k) (lo / 2 ^ (64 - k)) = hi * 2 ^ k + lo / 2 ^ (64 - k) := by
    obtain ⟨H, rfl⟩ := Int.eq_ofNat_of_zero_le (Int.le_of_lt h0)
    obtain ⟨C, hC⟩ := Int.eq_ofNat_of_zero_le c0
    rw [hC] at c1 ⊢
    have g1 : ((H : Int) * 2 ^ k) = ((H * 2 ^ k : Nat) : Int) := by simp
    have g2 : C < 2 ^ k := by
      have : ((2 ^ k : Nat) : Int) = (2 : Int) ^ k := by simp
      omega
    have g3 : (H : Int) + 1 ≤ y := by omega
    have g4 := Int.mul_le_mul_of_nonneg_right g3 (Int.le_of_lt (hp k))
    rw [Int.add_mul, Int.one_mul] at g4
    rw [g1] at g4 ⊢
    rw [or_add k g2 (by omega)]
    omega
  have u1 : hi * 2 ^ k + lo / 2 ^ (64 - k) < y * 2 ^ k := by
    have g3 : hi + 1 ≤ y := by omega
    have g4 := Int.mul_le_mul_of_nonneg_right g3 (Int.le_of_lt (hp k))
    rw [Int.add_mul, Int.one_mul] at g4
    omega
  have hU : (hi * 2 ^ k + lo / 2 ^ (64 - k)) * 18446744073709551616 + IntKind.u64.wrap (lo * 2 ^ k) = (hi * 18446744073709551616 + lo) * 2 ^ k := by
    have e := Int.emod_add_mul_ediv lo (2 ^ (64 - k))
    have f1 := Int.emod_nonneg lo (show (2 : Int) ^ (64 - k) ≠ 0 by have := hp (64 - k); omega)
    have f2 := Int.emod_lt_of_pos lo (hp (64 - k))
    generalize lo % 2 ^ (64 - k) = r at e f1 f2
    generalize lo / 2 ^ (64 - k) = c at e c0 c1
    have g1 := Int.mul_nonneg f1 (Int.le_of_lt (hp k))
    have g2 := Int.mul_lt_mul_of_pos_right f2 (hp k)
    rw [e64'] at g2
    have g3 : lo * 2 ^ k = r * 2 ^ k + 18446744073709551616 * c := by
      rw [← e, Int.add_mul, Int.mul_right_comm, e64']
    have g4 : (hi * 18446744073709551616 + lo) * 2 ^ k = hi * 2 ^ k * 18446744073709551616 + lo * 2 ^ k := by rw [Int.add_mul, Int.mul_right_comm]
    rw [IntKind.wrap_u64, g4, g3]
    omega
  have hw := wrap_bd (lo * 2 ^ k)
  have key := div64_core hi lo y (y * 2 ^ k) (IntKind.u64.wrap (lo * 2 ^ k)) (hi * 2 ^ k) (lo / 2 ^ (64 - k)) (hi * 2 ^ k + lo / 2 ^ (64 - k)) (y * 2 ^ k / 4294967296) (y * 2 ^ k % 4294967296) (IntKind.u64.wrap (lo * 2 ^ k) / 4294967296) (IntKind.u64.wrap (lo * 2 ^ k) % 4294967296) k (by rw [hL]; exact hk) (by omega) (by omega) h0 h1 (by omega)
    rfl rfl rfl rfl hor (and_mask (by omega) (by omega)) rfl rfl (and_mask hw.1 hw.2) (by omega) (by omega) (by omega) (by omega) (by omega) ⟨by omega, by omega, by omega, by omega, by omega, by omega, by omega, by omega⟩ (by omega) (by omega)
  have e1 : (hi * 2 ^ k + lo / 2 ^ (64 - k)) * 18446744073709551616 + (IntKind.u64.wrap (lo * 2 ^ k) / 4294967296 * 4294967296 + IntKind.u64.wrap (lo * 2 ^ k) % 4294967296) = (hi * 18446744073709551616 + lo) * 2 ^ k := by rw [← hU]; omega
  have e2 : y * 2 ^ k / 4294967296 * 4294967296 + y * 2 ^ k % 4294967296 = y * 2 ^ k := by omega
  rw [e1, e2, Int.mul_ediv_mul_of_pos_left _ _ (hp k)] at key
  exact key

def GivesD (q r : Int) (w : World) (e : Ending) (w' : World) : Prop := ∃ d, e = .returned (.tuple #[.int .u64 q, .int .u64 r]) ∧ w' = w.drewN d
theorem div64_zero (lo y : Int) (w : World) (h1 : 0 < y) (h2 : 0 ≤ lo) (h3 : lo ≤ 18446744073709551615) (h4 : y ≤ 9223372036854775807) :
    Calls Tryz.prog 147 #[.int .u64 0, .int .u64 lo, .int .u64 y] w (GivesD (lo / y) (lo % y) w) := by
  have hz : (y == 0) = false := by simp; omega
  obtain ⟨g1, g2⟩ : 0 ≤ lo / y ∧ lo / y ≤ lo := ⟨Int.ediv_nonneg h2 (by omega), Int.ediv_le_self _ h2⟩
  have g3 : lo.tmod y = lo % y := by rw [Int.tmod_eq_emod_of_nonneg h2]
  have g4 : lo.tdiv y = lo / y := by rw [Int.tdiv_eq_ediv_of_nonneg h2]
  have g5 : IntKind.u64.wrap (lo / y) = lo / y := by rw [IntKind.wrap_u64]; omega
  go_enter Tryz.func147, Tryz.ntmps147
  go_wp2_with fail
  go_quiet (fail)
  go_wp2
  go_ret2
  exact ⟨_, rfl, rfl⟩
theorem div64_any (hi lo y : Int) (h0 : 0 ≤ hi) (h1 : hi < y) (h2 : 0 ≤ lo) (h3 : lo ≤ 18446744073709551615) (h4 : y ≤ 9223372036854775807) :
    ∃ r, ∀ w, Calls Tryz.prog 147 #[.int .u64 hi, .int .u64 lo, .int .u64 y] w (GivesD ((hi * 18446744073709551616 + lo) / y) r w) := by
  by_cases h : hi = 0
  · subst h
    exact ⟨lo % y, fun w => by have := div64_zero lo y w h1 h2 h3 h4; rwa [Int.zero_mul, Int.zero_add]⟩
  · obtain ⟨r, hr⟩ := div64_pos hi lo y (by omega) h1 h2 h3 h4
    exact ⟨r, fun w => (hr w).mono fun e w' ⟨q', r', he, hq, hr, hw⟩ => ⟨0, by rw [he, hq, hr], by rw [← hw]; rfl⟩⟩
end Go.Proofs.YtphbfjcaehiboaaGreatDoor
namespace Go.Proofs.YtphbfjcaehiboaaGreatDoor
open Go.RowKit

/-- The guess. -/
def est (U V : Int) (n : Nat) : Int := (U / bp (n - 2)) / (V / bp (n - 2))
theorem est_one (U V : Int) : est U V 1 = U / V := by unfold est; rw [show 1 - 2 = 0 from rfl, div_bp_zero, div_bp_zero]
theorem est_bd {U V : Int} {n : Nat} (hU : 0 ≤ U) (hV : bp (n - 1) ≤ V) (hn : 1 ≤ n) (h : U < V * 1000000000) : U / V ≤ est U V n ∧ est U V n ≤ U / V + 1 ∧ est U V n ≤ 1000000000 := by
  have hp1 := bp_pos (n - 1)
  have hV0 : 0 < V := by omega
  have hq : U / V < 1000000000 := Int.ediv_lt_of_lt_mul hV0 (by rw [Int.mul_comm]; exact h)
  rcases Nat.lt_or_ge 1 n with h2 | h2
  · have hp := bp_pos (n - 2)
    unfold est
    obtain ⟨P, hP⟩ : ∃ P, bp (n - 2) = P := ⟨_, rfl⟩
    have hV1 : 1000000000 ≤ V / P := by
      apply Int.le_ediv_of_mul_le (by omega)
      rw [show n - 1 = (n - 2) + 1 by omega, bp_succ, hP] at hV
      exact hV
    rw [hP] at hp ⊢
    have eU := Int.emod_add_mul_ediv U P
    have eV := Int.emod_add_mul_ediv V P
    have u1 := Int.emod_nonneg U (show P ≠ 0 by omega)
    have u2 := Int.emod_lt_of_pos U hp
    have v1 := Int.emod_nonneg V (show P ≠ 0 by omega)
    have v2 := Int.emod_lt_of_pos V hp
    generalize U / P = u at *
    generalize V / P = v at *
    have hu0 : 0 ≤ u := by
      rcases Int.lt_or_le u 0 with h3 | h3
      · have := Int.mul_le_mul_of_nonneg_left (show u ≤ -1 by omega) (Int.le_of_lt hp); omega
      · exact h3
    have e := Int.emod_add_mul_ediv u v
    have w1 := Int.emod_nonneg u (show v ≠ 0 by omega)
    have w2 := Int.emod_lt_of_pos u (show 0 < v by omega)
    have w0 := Int.ediv_nonneg hu0 (show 0 ≤ v by omega)
    obtain ⟨E, hE⟩ : ∃ E, u / v = E := ⟨_, rfl⟩
    rw [hE] at e w0 ⊢
    have hEb : E ≤ 1000000000 := by
      have : u < (v + 1) * 1000000000 := by
        have g1 := Int.mul_le_mul_of_nonneg_left (show v + 1 ≤ v + 1 by omega) (Int.le_of_lt hp)
        rcases Int.lt_or_le u ((v + 1) * 1000000000) with g | g
        · exact g
        · have g2 := Int.mul_le_mul_of_nonneg_left g (Int.le_of_lt hp)
          rw [← Int.mul_assoc, Int.mul_add, Int.mul_one] at g2
          generalize P * v = pv at *
          omega
      have : E < 1000000001 := by
        rw [← hE]
        apply Int.ediv_lt_of_lt_mul (by omega)
        omega
      omega
    refine ⟨?_, ?_, hEb⟩
    · have e3 := Int.emod_add_mul_ediv U V
      have w3 := Int.emod_nonneg U (show V ≠ 0 by omega)
      have q0 := Int.ediv_nonneg hU (Int.le_of_lt hV0)
      generalize U / V = q at *
      have : q ≤ u / v := by
        apply Int.le_ediv_of_mul_le (by omega)
        rcases Int.lt_or_le u (q * v) with g | g
        · have g2 := Int.mul_le_mul_of_nonneg_left (show u + 1 ≤ q * v by omega) (Int.le_of_lt hp)
          have g3 := Int.mul_le_mul_of_nonneg_left (show P * v ≤ V by omega) q0
          rw [Int.mul_add, Int.mul_one, Int.mul_left_comm] at g2
          rw [Int.mul_comm V q] at e3
          omega
        · exact g
      rw [hE] at this; exact this
    · have : E - 1 ≤ U / V := by
        apply Int.le_ediv_of_mul_le hV0
        rcases Int.lt_or_le 0 E with g | g
        · have g1 := Int.mul_le_mul_of_nonneg_left (show V ≤ P * (v + 1) by rw [Int.mul_add, Int.mul_one]; omega) (show 0 ≤ E - 1 by omega)
          have g2 : (E - 1) * (v + 1) ≤ u := by
            rw [Int.sub_mul, Int.mul_add, Int.mul_one, Int.one_mul, Int.mul_comm E v]
            omega
          have g3 := Int.mul_le_mul_of_nonneg_left g2 (Int.le_of_lt hp)
          rw [Int.mul_left_comm] at g1
          omega
        · obtain rfl : E = 0 := by omega
          have := Int.neg_mul 1 V
          omega
      omega
  · obtain rfl : n = 1 := by omega
    rw [est_one]
    omega

theorem mul64_int (x y : Int) (w : World) (x0 : 0 ≤ x) (x1 : x ≤ 18446744073709551615) (y0 : 0 ≤ y) (y1 : y ≤ 18446744073709551615) :
    Calls Tryz.prog 145 #[.int .u64 x, .int .u64 y] w fun e w' => e = .returned (.tuple #[.int .u64 (x * y / 18446744073709551616), .int .u64 (x * y % 18446744073709551616)]) ∧ w = w' := by
  obtain ⟨a, rfl⟩ := Int.eq_ofNat_of_zero_le x0
  obtain ⟨b, rfl⟩ := Int.eq_ofNat_of_zero_le y0
  refine (Tryz.bits_Mul64 a b (by omega) (by omega) w).mono ?_
  rintro e w' ⟨rfl, rfl⟩
  refine ⟨?_, rfl⟩
  have e1 : (a : Int) * (b : Int) = ((a * b : Nat) : Int) := (Int.natCast_mul a b).symm
  rw [e1]
  congr 1

theorem add64_run (x y : Int) (w : World) (x0 : 0 ≤ x) (y0 : 0 ≤ y) : (callFunc 146 #[.int .u64 x, .int .u64 y, .int .u64 0]).run Tryz.prog w = .ok (.value (.tuple #[.int .u64 ((x + y) % 18446744073709551616), .int .u64 ((x + y) / 18446744073709551616)])) w := by
  rw [run_callFunc_extern Tryz.func146 (by kernel_rfl) (by kernel_rfl) (by kernel_rfl) (e := add64Entry) (by kernel_rfl), run_add64 x y 0 x0 y0 (by omega) (by omega)]
  simp only [Result.andThen, Int.add_zero]

def GivesW (t : Int) (w : World) (e : Ending) (w' : World) : Prop := ∃ d, e = .returned (.int .u64 t) ∧ w' = w.drewN d

theorem div_quiet {args : Array Value} {q r : Int} {w : World} {n : Nat} (h : Calls Tryz.prog 147 args (w.drewN n) (GivesD q r (w.drewN n))) : Calls Tryz.prog 147 args (w.drewN n) fun e w'' => e = .returned (.tuple #[.int .u64 q, .int .u64 r]) ∧ ∃ m, w'' = w.drewN m :=
  h.mono fun _ _ ⟨d, he, hw⟩ => ⟨he, n + d, by rw [hw, World.drewN_drewN]⟩
set_option maxRecDepth 100000 in
theorem estimate_many (g o c : Nat) (a : Option Addr) (n d : Nat) (U V : Int) (w : World) (hn : n ≤ 100000) (hn2 : 2 ≤ n) (hU : 0 ≤ U) (hU' : U < bp (n + 1)) (hV' : V < bp n) (hV1 : bp (n - 1) ≤ V) (B : Nat)
    (hu : ∀ j, j < n + 1 → w.cell? ⟨g, o + j, none⟩ = some (.int .u64 (lz U j))) (hv : Row w B a n V) :
    Calls Tryz.prog 133 #[.slice (some ⟨g, o, none⟩) (n + 1) c, .slice a n d] w (GivesW (est U V n) w) := by
  obtain ⟨g', o', rfl, hg', hcv⟩ := hv (by omega)
  have u1 := hu n (by omega)
  have u2 := hu (n - 1) (by omega)
  have u3 := hu (n - 2) (by omega)
  have v1 := hcv (n - 1) (by omega)
  have v2 := hcv (n - 2) (by omega)
  have bu1 := lz_bd U n
  have bu2 := lz_bd U (n - 1)
  have bu3 := lz_bd U (n - 2)
  have bv1 := lz_bd V (n - 1)
  have bv2 := lz_bd V (n - 2)
  have eu1 := div_split U n
  have eu2 := div_split U (n - 1)
  have eu3 := div_split U (n - 2)
  have ev1 := div_split V (n - 1)
  have ev2 := div_split V (n - 2)
  rw [div_zero hU hU'] at eu1
  rw [show n - 1 + 1 = n by omega] at eu2 ev1
  rw [show n - 2 + 1 = n - 1 by omega] at eu3 ev2
  rw [div_zero (by have := bp_pos (n - 1); omega) hV'] at ev1
  have hy1 := Int.ediv_le_ediv (bp_pos (n - 1)) hV1
  rw [Int.ediv_self (by have := bp_pos (n - 1); omega)] at hy1
  unfold est
  clear hu hcv hv hU' hV' hV1
  generalize lz U n = a1 at *
  generalize lz U (n - 1) = a2 at *
  generalize lz U (n - 2) = a3 at *
  generalize lz V (n - 1) = b1 at *
  generalize lz V (n - 2) = b2 at *
  have hT : U / bp (n - 2) = (a1 * 1000000000 + a2) * 1000000000 + a3 := by omega
  have hD : V / bp (n - 2) = b1 * 1000000000 + b2 := by omega
  rw [hT, hD]
  obtain ⟨T, hT2⟩ : ∃ T, a1 * 1000000000 + a2 = T := ⟨_, rfl⟩
  obtain ⟨D, hD2⟩ : ∃ D, b1 * 1000000000 + b2 = D := ⟨_, rfl⟩
  rw [hT2, hD2]
  have hb1 : 1 ≤ b1 := by omega
  have t0 : 0 ≤ T := by omega
  have t1 : T ≤ 999999999999999999 := by omega
  have d0 : 1000000000 ≤ D := by omega
  have d1 : D ≤ 999999999999999999 := by omega
  obtain ⟨H, hH⟩ : ∃ H, T * 1000000000 / 18446744073709551616 = H := ⟨_, rfl⟩
  obtain ⟨L, hL⟩ : ∃ L, T * 1000000000 % 18446744073709551616 = L := ⟨_, rfl⟩
  have h0 : 0 ≤ H := by omega
  have h1 : H ≤ 54210109 := by omega
  have l0 : 0 ≤ L := by omega
  have l1 : L ≤ 18446744073709551615 := by omega
  have hm := fun w => mul64_int T 1000000000 w t0 (by omega) (by omega) (by omega)
  rw [hH, hL] at hm
  have hm' := Lib.hid hm
  obtain ⟨S, hS⟩ : ∃ S, (L + a3) % 18446744073709551616 = S := ⟨_, rfl⟩
  obtain ⟨C, hC⟩ : ∃ C, (L + a3) / 18446744073709551616 = C := ⟨_, rfl⟩
  have s0 : 0 ≤ S := by omega
  have s1 : S ≤ 18446744073709551615 := by omega
  have c0 : 0 ≤ C := by omega
  have c1 : C ≤ 1 := by omega
  obtain ⟨r, hr⟩ := div64_any (H + C) S D (by omega) (by omega) s0 s1 (by omega)
  have hfin : (H + C) * 18446744073709551616 + S = T * 1000000000 + a3 := by omega
  rw [hfin] at hr
  have hrq := fun (w : World) (n : Nat) => div_quiet (hr (w.drewN n))
  have HR := Lib.hid hrq
  have HT := Lib.hid hT2
  have HD := Lib.hid hD2
  have i1 : (0 : Int) ≤ (n : Int) - 1 := by omega
  have i2 : (n : Int) - 1 < (n : Int) + 1 := by omega
  have i3 : (0 : Int) ≤ (n : Int) - 2 := by omega
  have x1 : IntKind.u64.wrap (a1 * 1000000000) = a1 * 1000000000 := by rw [IntKind.wrap_u64]; omega
  have x2 : IntKind.u64.wrap (a1 * 1000000000 + a2) = T := by rw [IntKind.wrap_u64]; omega
  have x3 : IntKind.u64.wrap (b1 * 1000000000) = b1 * 1000000000 := by rw [IntKind.wrap_u64]; omega
  have x4 : IntKind.u64.wrap (b1 * 1000000000 + b2) = D := by rw [IntKind.wrap_u64]; omega
  have x5 : IntKind.u64.wrap (H + C) = H + C := by rw [IntKind.wrap_u64]; omega
  clear hm hr hrq hfin hT hD eu1 eu2 eu3 ev1 ev2 hy1 hH hL hT2 hD2
  have HS := Lib.hid hS
  have HC := Lib.hid hC
  have X3 := Lib.hid x3
  have X4 := Lib.hid x4
  have X5 := Lib.hid x5
  have b1' : bu1.1 = bu1.1 := rfl
  clear hS hC x3 x4 x5 b1'
  go_enter Tryz.func133, Tryz.ntmps133
  go_wp2_with fail
  go_quiet (fail)
  clear x1 x2
  go_wp2_with fail
  refine (hm'.out _).mono ?_
  rintro e w' ⟨rfl, rfl⟩
  have ha := fun w => add64_run L a3 w l0 bu3.1
  rw [HS.out, HC.out] at ha
  go_wp2_with fail
  clear ha
  obtain ⟨wd, hwd⟩ : ∃ wd, wd = w.drewN nq := ⟨_, rfl⟩
  have v1' : wd.cell? ⟨g', o' + (n - 1), none⟩ = some (.int .u64 b1) := by rw [hwd]; exact v1
  have v2' : wd.cell? ⟨g', o' + (n - 2), none⟩ = some (.int .u64 b2) := by rw [hwd]; exact v2
  rw [← hwd]
  have HW := Lib.hid hwd
  clear hwd v1 v2 u1 u2 u3
  have x3 := X3.out
  have x4 := X4.out
  have x5 := X5.out
  have i4 : (1 : Int) ≤ (n : Int) := by omega
  have i5 : (2 : Int) ≤ (n : Int) := by omega
  have i6 : (n : Int) - 1 < (n : Int) := by omega
  have i7 : (n : Int) - 2 < (n : Int) := by omega
  have k1 : ((n : Int) - 1).toNat = n - 1 := by omega
  have k2 : ((n : Int) - 2).toNat = n - 2 := by omega
  have j1 : IntKind.i64.wrap ((n : Int) - 1) = (n : Int) - 1 := by rw [IntKind.wrap_i64]; omega
  have j2 : IntKind.i64.wrap ((n : Int) - 2) = (n : Int) - 2 := by rw [IntKind.wrap_i64]; omega
  go_quiet ((go_at_call 147; exact HR.out _ _))
  clear x3 x4 x5 j1 j2 k1 k2
  go_wp2
  go_ret
  exact ⟨_, rfl, by rw [HW.out, World.drewN_drewN]⟩

theorem estimate_one (g o c : Nat) (a : Option Addr) (n d : Nat) (U V : Int) (w : World) (hn : n = 1) (hU : 0 ≤ U) (hU' : U < bp 2) (hV' : V < bp 1) (hV1 : 1 ≤ V) (B : Nat)
    (hu : ∀ j, j < 2 → w.cell? ⟨g, o + j, none⟩ = some (.int .u64 (lz U j))) (hv : Row w B a 1 V) :
    Calls Tryz.prog 133 #[.slice (some ⟨g, o, none⟩) (n + 1) c, .slice a n d] w (GivesW (U / V) w) := by
  obtain ⟨g', o', rfl, hg', hcv⟩ := hv (by omega)
  have u1 := hu n (by omega)
  have u2 := hu (n - 1) (by omega)
  have v1 := hcv 0 (by omega)
  have bu1 := lz_bd U 1
  have bu2 := lz_bd U 0
  have eu1 := div_split U 1
  have eu2 := div_split U 0
  rw [div_zero hU hU'] at eu1
  rw [div_bp_zero, show 0 + 1 = 1 from rfl] at eu2
  have hV : lz V 0 = V := by unfold lz; rw [div_bp_zero]; rw [bp_one] at hV'; omega
  rw [hV, Nat.add_zero] at v1
  rw [bp_one] at hV'
  have e1 : lz U n = lz U 1 := by rw [hn]
  have e2 : lz U (n - 1) = lz U 0 := by rw [hn]
  rw [e1] at u1
  rw [e2] at u2
  clear hu hcv hv hU' hV e1 e2
  generalize lz U 1 = a1 at *
  generalize lz U 0 = a2 at *
  have hT : a1 * 1000000000 + a2 = U := by omega
  have x1 : IntKind.u64.wrap (a1 * 1000000000) = a1 * 1000000000 := by rw [IntKind.wrap_u64]; omega
  have x2 : IntKind.u64.wrap (a1 * 1000000000 + a2) = U := by rw [IntKind.wrap_u64]; omega
  have hU2 : U ≤ 999999999999999999 := by omega
  obtain ⟨g1, g2⟩ : 0 ≤ U / V ∧ U / V ≤ U := ⟨Int.ediv_nonneg hU (by omega), Int.ediv_le_self _ hU⟩
  have hz : (V == 0) = false := by simp; omega
  have hn1 : n ≤ 100000 := by omega
  have i1 : (0 : Int) ≤ (n : Int) - 1 := by omega
  have i2 : (n : Int) - 1 < (n : Int) + 1 := by omega
  have i4 : (1 : Int) ≤ (n : Int) := by omega
  have ht : ((n : Int) == 1) = true := by simp; omega
  clear eu1 eu2 hT hn
  go_enter Tryz.func133, Tryz.ntmps133
  go_wp2_with fail
  go_quiet (fail)
  clear x1 x2
  go_wp2
  go_ret
  exact ⟨_, rfl, rfl⟩
theorem estimate_any (g o c : Nat) (a : Option Addr) (n d : Nat) (U V : Int) (w : World) (hn : n ≤ 100000) (hn1 : 1 ≤ n) (hU : 0 ≤ U) (hU' : U < bp (n + 1)) (hV' : V < bp n) (hV1 : bp (n - 1) ≤ V) (B : Nat)
    (hu : ∀ j, j < n + 1 → w.cell? ⟨g, o + j, none⟩ = some (.int .u64 (lz U j))) (hv : Row w B a n V) :
    Calls Tryz.prog 133 #[.slice (some ⟨g, o, none⟩) (n + 1) c, .slice a n d] w (GivesW (est U V n) w) := by
  rcases Nat.lt_or_ge 1 n with h | h
  · exact estimate_many g o c a n d U V w hn h hU hU' hV' hV1 B hu hv
  · obtain rfl : n = 1 := by omega
    rw [est_one]
    exact estimate_one g o c a 1 d U V w rfl hU hU' hV' (by rw [show 1 - 1 = 0 from rfl, bp_zero] at hV1; exact hV1) B hu hv
end Go.Proofs.YtphbfjcaehiboaaGreatDoor
namespace Go.Proofs.YtphbfjcaehiboaaGreatDoor
open Go.RowKit

theorem Cells.undrew {w w' : World} {d g o n : Nat} {f : Nat → Int} (h : Cells (w.drewN d) w' g o n f) : Cells w w' g o n f := ⟨h.os, h.tape, h.output, h.size, h.block, h.cells, h.rest, h.frozen⟩
theorem Cells.andThen {w w1 w2 : World} {g o n : Nat} {f f' : Nat → Int} (h : Cells w w1 g o n f) (k : Cells w1 w2 g o n f') : Cells w w2 g o n f' :=
  ⟨k.os.trans h.os, k.tape.trans h.tape, k.output.trans h.output, k.size.trans h.size, fun b hb => (k.block b hb).trans (h.block b hb), k.cells, fun i hi => (k.rest i hi).trans (h.rest i hi), fun i => (k.frozen i).trans (h.frozen i)⟩

theorem reduce_any (g o c : Nat) (a : Option Addr) (n d : Nat) (U V : Int) (w : World) (hn : n ≤ 99999) (hn1 : 1 ≤ n) (hU : 0 ≤ U) (hUV : U < V * 1000000000) (hV' : V < bp n) (hV1 : bp (n - 1) ≤ V)
    (hu : ∀ j, j < n + 1 → w.cell? ⟨g, o + j, none⟩ = some (.int .u64 (lz U j))) (hf : ∀ j, j < n + 1 → w.frozen? ⟨g, o + j, none⟩ = false) (hv : Row w g a n V) :
    Calls Tryz.prog 117 #[.slice (some ⟨g, o, none⟩) (n + 1) c, .slice a n d] w (GivesC (U / V) w g o (n + 1) (U % V)) := by
  have hV0 : 0 < V := by have := bp_pos (n - 1); omega
  have hU' : U < bp (n + 1) := by rw [bp_succ]; omega
  obtain ⟨e1, e2, e3⟩ := est_bd hU hV1 hn1 hUV
  have hdm := Int.emod_add_mul_ediv U V
  have hm0 := Int.emod_nonneg U (show V ≠ 0 by omega)
  have hm1 := Int.emod_lt_of_pos U hV0
  have hq0 := Int.ediv_nonneg hU (Int.le_of_lt hV0)
  rw [Int.mul_comm V] at hdm
  have hes := estimate_any g o c a n d U V w (by omega) hn1 hU hU' hV' hV1 g hu hv
  have HES := Lib.hid hes
  have HU := Lib.hid hu
  have HF := Lib.hid hf
  have HV := Lib.hid hv
  obtain ⟨E, hE⟩ : ∃ E, est U V n = E := ⟨_, rfl⟩
  rw [hE] at HES e1 e2 e3
  have HB := Lib.hid hU'
  have HB2 := Lib.hid hV'
  have HD := Lib.hid hdm
  clear hes hu hf hv hE hU' hV' hdm
  rcases Int.lt_or_le (U / V) E with h | h
  · obtain rfl : E = U / V + 1 := by omega
    have hx : U - (U / V + 1) * V = U % V - V := by have := HD.out; rw [Int.add_mul, Int.one_mul]; omega
    have hneg : -((U - (U / V + 1) * V) / bp (n + 1)) = 1 := by
      rw [hx]
      have : (U % V - V) / bp (n + 1) = -1 := by
        have e : U % V - V = (U % V - V + bp (n + 1)) + bp (n + 1) * (-1) := by omega
        rw [e, add_mul_div, div_zero (by have := bp_succ n; have := HB2.out; have := bp_pos n; omega) (by omega)]
        omega
      omega
    have HN := Lib.hid hneg
    have HX := Lib.hid hx
    obtain ⟨q, hq⟩ : ∃ q, U / V = q := ⟨_, rfl⟩
    rw [hq] at HES HN HX hq0 e3 ⊢
    have HQ := Lib.hid hq
    clear hneg hx hq e1 e2 h
    go_enter Tryz.func117, Tryz.ntmps117
    go_wp2_with fail
    refine HES.out.mono ?_
    rintro e w1 ⟨d1, rfl, rfl⟩
    go_wp2_with fail
    refine (takeFrom_any g o (n + 1) c a n d U V (q + 1) (w.drewN d1) (by omega) (by omega) hU HB.out (by omega) HB2.out (by omega) e3 HU.out HF.out HV.out).mono ?_
    rintro e w2 ⟨rfl, hC⟩
    rw [HN.out]
    have hC1 := hC.undrew.cong (f' := lz (U % V - V + bp (n + 1))) (fun j hj => by rw [HX.out, show U % V - V + bp (n + 1) = (U % V - V) + bp (n + 1) * 1 by omega, lz_low _ _ hj])
    have HC := Lib.hid hC1
    clear hC hC1
    go_wp2_with fail
    refine (addTo_any g o (n + 1) c a n d (U % V - V + bp (n + 1)) V w2 (by omega) (by omega) (by have := bp_succ n; have := HB2.out; have := bp_pos n; omega) (by omega) (by omega) HB2.out HC.out.cells (fun j hj => (HC.out.frozen (o + j)).trans (HF.out j hj)) (HV.out.below (HC.out.below (Nat.le_refl _)))).mono ?_
    rintro e w3 ⟨rfl, hC3⟩
    have hC4 := (HC.out.andThen hC3).cong (f' := lz (U % V)) (fun j hj => by rw [show U % V - V + bp (n + 1) + V = U % V + bp (n + 1) * 1 by omega, lz_low _ _ hj])
    have HC4 := Lib.hid hC4
    clear hC3 hC4
    go_wp2
    go_ret
    exact ⟨ret_int (by have := HQ.out; omega), HC4.out⟩
  · obtain rfl : E = U / V := by omega
    have hx : U - (U / V) * V = U % V := by have := HD.out; omega
    have hneg : -((U - (U / V) * V) / bp (n + 1)) = 0 := by
      rw [hx, div_zero hm0 (by have := HB2.out; have := bp_mono (show n ≤ n + 1 by omega); omega)]; omega
    have HN := Lib.hid hneg
    have HX := Lib.hid hx
    obtain ⟨q, hq⟩ : ∃ q, U / V = q := ⟨_, rfl⟩
    rw [hq] at HES HN HX hq0 e3 ⊢
    clear hneg hx hq e1 e2 h
    go_enter Tryz.func117, Tryz.ntmps117
    go_wp2_with fail
    refine HES.out.mono ?_
    rintro e w1 ⟨d1, rfl, rfl⟩
    go_wp2_with fail
    refine (takeFrom_any g o (n + 1) c a n d U V q (w.drewN d1) (by omega) (by omega) hU HB.out (by omega) HB2.out (by omega) e3 HU.out HF.out HV.out).mono ?_
    rintro e w2 ⟨rfl, hC⟩
    rw [HN.out]
    have hC1 := hC.undrew.cong (f' := lz (U % V)) (fun j hj => by rw [HX.out])
    have HC := Lib.hid hC1
    clear hC hC1
    go_wp2
    go_ret
    exact ⟨rfl, HC.out⟩

/-! ### The places of a division -/
/-- The quotient of x and V from place k on. -/
def dq (x V : Int) (k : Nat) : Int := bp k * (x / bp k / V)
/-- The rest of the division from place k on. -/
def dr (x V : Int) (k : Nat) : Int := x % bp k + bp k * (x / bp k % V)
theorem dq_zero (x V : Int) : dq x V 0 = x / V := by unfold dq; rw [div_bp_zero, bp_zero, Int.one_mul]
theorem dr_zero (x V : Int) : dr x V 0 = x % V := by unfold dr; rw [div_bp_zero, bp_zero, Int.one_mul]; omega
theorem d_start {x V : Int} {n m : Nat} (h0 : 0 ≤ x) (hx : x < bp (n + m)) (hV : bp n ≤ V) : dq x V m = 0 ∧ dr x V m = x := by
  have h1 : 0 ≤ x / bp m := Int.ediv_nonneg h0 (Int.le_of_lt (bp_pos m))
  have h2 : x / bp m < bp n := Int.ediv_lt_of_lt_mul (bp_pos m) (by rw [bp_add, Int.mul_comm] at hx; rw [Int.mul_comm]; exact hx)
  unfold dq dr
  rw [Int.ediv_eq_zero_of_lt h1 (by omega), Int.emod_eq_of_lt h1 (by omega), Int.mul_zero, Int.emod_add_mul_ediv]
  exact ⟨rfl, rfl⟩
/-- The window at place i. -/
def dw (x V : Int) (i : Nat) : Int := dr x V (i + 1) / bp i
theorem dw_eq (x V : Int) (i : Nat) : dw x V i = 1000000000 * (x / bp (i + 1) % V) + lz x i := by
  unfold dw dr
  rw [mod_succ, bp_succ, Int.mul_comm 1000000000, Int.mul_assoc, Int.add_assoc, ← Int.mul_add, add_mul_div]
  have := mod_bd x i
  rw [Int.ediv_eq_zero_of_lt this.1 this.2]
  omega
theorem dw_bd {x V : Int} (i : Nat) (hV : 0 < V) : 0 ≤ dw x V i ∧ dw x V i < V * 1000000000 := by
  rw [dw_eq]
  have h1 := Int.emod_nonneg (x / bp (i + 1)) (show V ≠ 0 by omega)
  have h2 := Int.emod_lt_of_pos (x / bp (i + 1)) hV
  have h3 := lz_bd x i
  omega
theorem dw_div {x V : Int} (i : Nat) (hV : 0 < V) : x / bp i / V = 1000000000 * (x / bp (i + 1) / V) + dw x V i / V ∧ x / bp i % V = dw x V i % V := by
  have e : x / bp i = dw x V i + V * (1000000000 * (x / bp (i + 1) / V)) := by
    rw [dw_eq, div_split x i]
    have := Int.emod_add_mul_ediv (x / bp (i + 1)) V
    rw [Int.mul_left_comm]
    omega
  rw [e, Int.add_mul_ediv_left _ _ (by omega), Int.add_mul_emod_self_left]
  exact ⟨by omega, rfl⟩
theorem dr_div (x V : Int) (i : Nat) : dr x V i / bp i = x / bp i % V := by
  unfold dr
  have := mod_bd x i
  rw [add_mul_div, Int.ediv_eq_zero_of_lt this.1 this.2]
  omega
theorem dr_low (x V : Int) {i j : Nat} (h : j < i) : lz (dr x V i) j = lz x j := by
  unfold dr
  rw [lz_low _ _ h]
  have e := Int.emod_add_mul_ediv x (bp i)
  rw [← e, lz_low _ _ h, e]
theorem dr_win {x V : Int} (i j : Nat) (hV : 0 < V) : lz (dr x V i) (i + j) = lz (dw x V i % V) j := by
  rw [← lz_shift, dr_div, (dw_div i hV).2]
theorem dr_win' (x V : Int) (i j : Nat) : lz (dr x V (i + 1)) (i + j) = lz (dw x V i) j := by
  rw [← lz_shift]; rfl
theorem dr_bd {x V : Int} {n : Nat} (i : Nat) (hV : 0 < V) (hV' : V < bp n) : 0 ≤ dr x V i ∧ dr x V i < bp (i + n) := by
  unfold dr
  have h1 := Int.emod_nonneg (x / bp i) (show V ≠ 0 by omega)
  have h2 := Int.emod_lt_of_pos (x / bp i) hV
  have h3 := mod_bd x i
  have h4 := bp_pos i
  have h5 := Int.mul_le_mul_of_nonneg_left (show x / bp i % V + 1 ≤ bp n by omega) (Int.le_of_lt h4)
  have h6 := Int.mul_nonneg (Int.le_of_lt h4) h1
  rw [Int.mul_add, Int.mul_one] at h5
  rw [bp_add]
  omega
theorem dq_at {x V : Int} (i : Nat) (hV : 0 < V) : lz (dq x V i) i = dw x V i / V := by
  have hb := dw_bd (x := x) i hV
  have q0 := Int.ediv_nonneg hb.1 (Int.le_of_lt hV)
  have q1 : dw x V i / V < 1000000000 := Int.ediv_lt_of_lt_mul hV (by rw [Int.mul_comm]; exact hb.2)
  unfold lz dq
  rw [Int.mul_ediv_cancel_left _ (by have := bp_pos i; omega), (dw_div i hV).1]
  omega
theorem dq_low (x V : Int) {i j : Nat} (h : j < i) : lz (dq x V i) j = 0 := by
  have e : dq x V i = 0 + bp i * (x / bp i / V) := by unfold dq; omega
  rw [e, lz_low _ _ h, lz_zero]
theorem dq_high {x V : Int} {i j : Nat} (hV : 0 < V) (h : i < j) : lz (dq x V i) j = lz (dq x V (i + 1)) j := by
  have hb := dw_bd (x := x) i hV
  have q0 := Int.ediv_nonneg hb.1 (Int.le_of_lt hV)
  have q1 : dw x V i / V < 1000000000 := Int.ediv_lt_of_lt_mul hV (by rw [Int.mul_comm]; exact hb.2)
  obtain ⟨k, rfl⟩ : ∃ k, j = (i + 1) + k := ⟨j - (i + 1), by omega⟩
  have e1 : dq x V (i + 1) / bp (i + 1) = x / bp (i + 1) / V := by unfold dq; rw [Int.mul_ediv_cancel_left _ (by have := bp_pos (i + 1); omega)]
  have e2 : dq x V i / bp (i + 1) = x / bp (i + 1) / V := by
    rw [div_succ]
    unfold dq
    rw [Int.mul_ediv_cancel_left _ (by have := bp_pos i; omega), (dw_div i hV).1]
    omega
  rw [← lz_shift, ← lz_shift, e1, e2]
end Go.Proofs.YtphbfjcaehiboaaGreatDoor
namespace Go.Proofs.YtphbfjcaehiboaaGreatDoor
open Go.RowKit

theorem elem71 : Tryz.prog.elem 62 = 101 := by kernel_rfl
theorem und71 : Tryz.prog.underlying 62 = some (.slice (Tryz.prog.elem 62)) := by kernel_rfl
theorem size108 (w : World) : (Go.sizeOf 101).run Tryz.prog w = .ok 1 w := Tryz.sizeOf101 w
/-- A window of m + 1 limbs. -/
theorem slice_win (g i m n cap : Nat) (h : i + m + 1 ≤ cap) (w : World) : (Instr.slice 62 (.slice (some ⟨g, 0, none⟩) n cap) (some (.int .i64 (i : Int))) (some (.int .i64 ((i : Int) + (m : Int) + 1))) (some (.int .i64 ((i : Int) + (m : Int) + 1)))).run Tryz.prog w = .ok (.slice (some ⟨g, i, none⟩) (m + 1) (m + 1)) w := by
  rw [run_slice_lhm (ht := und71) (h0 := by omega) (h1 := by omega) (h2 := by omega) (h3 := by omega), elem71, size108]
  simp only [Result.andThen, sliced]
  have e1 : ((i : Int) + (m : Int) + 1).toNat = i + m + 1 := by omega
  rw [e1, Int.toNat_natCast, if_neg (by omega), show i + m + 1 - i = m + 1 by omega]
  simp [Addr.add]
  omega

/-- The call hands back two natural numbers. -/
def GivesNN (x y : Int) (w : World) (e : Ending) (w' : World) : Prop := ∃ v u, e = .returned (.tuple #[.agg #[v], .agg #[u]]) ∧ NatV w' v x ∧ NatV w' u y ∧ Below w.heap.size w w'

theorem Cells.undrew1 {w w' : World} {g o n : Nat} {f : Nat → Int} (h : Cells w.drew w' g o n f) : Cells w w' g o n f := ⟨h.os, h.tape, h.output, h.size, h.block, h.cells, h.rest, h.frozen⟩
/-- Two stores over nil slices leave the numbers as they are. -/
theorem store2 {w : World} {v : Value} {x : Int} (h : NatV w v x) {r : Nat} (h1 : w.cell? ⟨r, 0, none⟩ = some (.slice none 0 0)) (h2 : w.cell? ⟨r + 1, 0, none⟩ = some (.slice none 0 0)) (a b : Value) : NatV ((w.setCell ⟨r, 0, none⟩ a).setCell ⟨r + 1, 0, none⟩ b) v x :=
  (h.store h1 (fun _ e => by cases e) a).store (u0 := .slice none 0 0) (by rw [World.cell?_setCell_other w _ _ _ (by intro e; injection e; omega)]; exact h2) (fun _ e => by cases e) b
theorem dq_bd0 {x V : Int} {n : Nat} (h0 : 0 ≤ x) (hV : 0 < V) (h : dq x V n = 0) : 0 ≤ dq x V 0 ∧ dq x V 0 < bp n := by
  rw [dq_zero]
  refine ⟨Int.ediv_nonneg h0 (Int.le_of_lt hV), ?_⟩
  have hp := bp_pos n
  have e : x / bp n / V = 0 := by
    unfold dq at h
    rcases Int.mul_eq_zero.1 h with h | h
    · omega
    · exact h
  rw [Int.ediv_ediv_of_nonneg (Int.le_of_lt hp), Int.mul_comm, ← Int.ediv_ediv_of_nonneg (Int.le_of_lt hV)] at e
  have h1 := Int.ediv_nonneg h0 (Int.le_of_lt hV)
  have h2 := Int.emod_add_mul_ediv (x / V) (bp n)
  have h3 := Int.emod_lt_of_pos (x / V) hp
  rw [e, Int.mul_zero] at h2
  omega
theorem div_round {w1 wr w5 : World} {g3 gq N M i m : Nat} {x V : Int} (hR : Fresh w1 wr g3 N (dr x V (i + 1))) (hQ : Fresh w1 wr gq M (dq x V (i + 1))) (hC : Cells wr w5 g3 i (m + 1) (lz (dw x V i % V))) (hne : g3 ≠ gq) (hV : 0 < V) (hV' : V < bp m) (hi : i < M) (hN : i + m + 1 ≤ N) :
    Fresh w1 (w5.setCell ⟨gq, i, none⟩ (.int .u64 (dw x V i / V))) g3 N (dr x V i) ∧ Fresh w1 (w5.setCell ⟨gq, i, none⟩ (.int .u64 (dw x V i / V))) gq M (dq x V i) := by
  have hb : Below w1.heap.size w1 (w5.setCell ⟨gq, i, none⟩ (.int .u64 (dw x V i / V))) := below_set (hR.below.trans (hC.below hR.ge)) i hQ.ge _
  refine ⟨⟨hb, hR.ge, by rw [World.size_setCell, hC.size]; exact hR.lt, fun j hj => ?_, fun j hj => ?_⟩, ⟨hb, hQ.ge, by rw [World.size_setCell, hC.size]; exact hQ.lt, fun j hj => ?_, fun j hj => ?_⟩⟩
  · rw [Nat.zero_add, World.cell?_setCell_other w5 _ _ _ (by intro e; injection e; omega)]
    by_cases h1 : j < i
    · rw [hC.rest j (.inl h1), hR.cell' j hj, dr_low x V (by omega), dr_low x V h1]
    · by_cases h2 : j < i + (m + 1)
      · obtain ⟨t, rfl⟩ : ∃ t, j = i + t := ⟨j - i, by omega⟩
        rw [hC.cells t (by omega), dr_win i t hV]
      · obtain ⟨b1, b2⟩ := dr_bd (x := x) (n := m) i hV hV'
        obtain ⟨b3, b4⟩ := dr_bd (x := x) (n := m) (i + 1) hV hV'
        rw [hC.rest j (.inr (by omega)), hR.cell' j hj, lz_high b1 b2 (by omega), lz_high b3 b4 (by omega)]
  · rw [Nat.zero_add, World.frozen?_setCell, hC.frozen]; exact hR.free' j hj
  · rw [Nat.zero_add]
    have hc := (hC.other (i := j) hne.symm).trans (hQ.cell' j hj)
    by_cases h1 : j = i
    · subst h1; rw [World.cell?_setCell_same w5 _ _ hc, dq_at j hV]
    · rw [World.cell?_setCell_other w5 _ _ _ (by intro e; injection e; omega), hc]
      rcases Nat.lt_or_ge j i with h2 | h2
      · rw [dq_low x V h2, dq_low x V (show j < i + 1 by omega)]
      · rw [dq_high hV (show i < j by omega)]
  · rw [Nat.zero_add, World.frozen?_setCell, hC.otherF hne.symm]; exact hQ.free' j hj

theorem divide_less (u v : Value) (x y : Int) (w : World) (hu : NatV w u x) (hv : NatV w v y) (hxy : x < y) :
    Calls Tryz.prog 91 #[.agg #[u], .agg #[v]] w (GivesNN 0 x w) := by
  have HU := Lib.hid hu
  have HV := Lib.hid hv
  obtain ⟨a, n, rfl, hn, hn1, hx0, hx1, hrx⟩ := hu.form
  obtain ⟨b, m, rfl, hm, hm1, hy0, hy1, hry⟩ := hv.form
  have HN := Lib.hid hn
  obtain ⟨W0, hW0⟩ : ∃ W0, W0 = ((((w.alloc (.cells #[.slice a n n] 64)).alloc (.cells #[.slice b m m] 64)).alloc (.cells #[.slice none 0 0] 64)).alloc (.cells #[.slice none 0 0] 64)) := ⟨_, rfl⟩
  have hb0 : Below w.heap.size w W0 := by rw [hW0]; exact (((((Below.refl w.heap.size w).alloc (Nat.le_refl _) _).alloc (by simp) _).alloc (by simp <;> omega) _).alloc (by simp <;> omega) _)
  have z0 : W0.heap.size = w.heap.size + 1 + 1 + 1 + 1 := by rw [hW0]; simp
  have s0 : Slot W0 w.heap.size 0 (.slice a n n) := by rw [hW0]; exact (slot_new _ _ _ _ rfl).below ((((Below.refl _ _).alloc (Nat.le_refl _) _).alloc (by simp) _).alloc (by simp <;> omega) _) (by simp)
  have s2 : Slot W0 (w.heap.size + 1 + 1) 0 (.slice none 0 0) := by rw [hW0]; exact (slot_new _ _ _ _ (by simp)).below ((Below.refl _ _).alloc (Nat.le_refl _) _) (by simp)
  have s3 : Slot W0 (w.heap.size + 1 + 1 + 1) 0 (.slice none 0 0) := by rw [hW0]; exact slot_new _ _ _ _ (by simp)
  have B0 := Lib.hid hb0
  have hcmp := compare_any (.slice a n n) (.slice b m m) x y W0 (hu.below hb0) (hv.below hb0)
  rw [cmp3_lt hxy] at hcmp
  have HC := Lib.hid hcmp
  clear hn hm hrx hry hu hv hx1 hy1 hcmp hb0
  go_enter Tryz.func91, Tryz.ntmps91
  go_wp2_with fail
  rw [← hW0]
  clear hW0
  refine HC.out.mono ?_
  rintro e w1 ⟨rfl, hb1⟩
  obtain ⟨p0, p0'⟩ := s0.below hb1 (by omega)
  obtain ⟨p2, p2'⟩ := s2.below hb1 (by omega)
  obtain ⟨p3, p3'⟩ := s3.below hb1 (by omega)
  have B1 := Lib.hid (B0.out.trans (hb1.mono (by omega)))
  clear s0 s2 s3 hb1 z0
  go_wp2
  go_region
  all_goals
    go_wp2
    exact bodyPost_ret (v := .tuple #[.agg #[.slice none 0 0], .agg #[.slice a n n]]) (by simp [results, Tryz.results91, go_sem, p2, p3]) rfl ⟨_, _, rfl, NatV.zero _, HU.out.below (below_set (below_set B1.out (b := w.heap.size + 1 + 1) 0 (by omega) _) (b := w.heap.size + 1 + 1 + 1) 0 (by omega) _).drew, (below_set (below_set B1.out (b := w.heap.size + 1 + 1) 0 (by omega) _) (b := w.heap.size + 1 + 1 + 1) 0 (by omega) _).drew⟩

set_option maxHeartbeats 1000000 in
set_option maxRecDepth 100000 in
theorem divide_more (u v : Value) (x y : Int) (w : World) (hu : NatV w u x) (hv : NatV w v y) (hxy : y ≤ x) (hy : 0 < y) (hx9 : nl x ≤ 90000) :
    Calls Tryz.prog 91 #[.agg #[u], .agg #[v]] w (GivesNN (x / y) (x % y) w) := by
  have hnl := nl_mono (by omega) hxy
  have hml := nl_pos hy
  have hVl : bp (nl y - 1) ≤ y := nl_ge (by omega)
  obtain ⟨i0, hi, hz0, hz1, hz2⟩ := info_parts infoU64
  obtain ⟨a, n, rfl, hn, hn1, hx0, hx1, hrx⟩ := hu.form
  obtain ⟨b, m, rfl, hm, hm1, hy0, hy1, hry⟩ := hv.form
  rw [← hn] at hnl hx9
  rw [← hm] at hnl hml hVl
  obtain ⟨g, o, rfl, hg, hcx⟩ := hrx (by omega)
  obtain ⟨W0, hW0⟩ : ∃ W0, W0 = ((((w.alloc (.cells #[.slice (some ⟨g, o, none⟩) n n] 64)).alloc (.cells #[.slice b m m] 64)).alloc (.cells #[.slice none 0 0] 64)).alloc (.cells #[.slice none 0 0] 64)) := ⟨_, rfl⟩
  have hb0 : Below w.heap.size w W0 := by rw [hW0]; exact (((((Below.refl w.heap.size w).alloc (Nat.le_refl _) _).alloc (by simp) _).alloc (by simp <;> omega) _).alloc (by simp <;> omega) _)
  have z0 : W0.heap.size = w.heap.size + 1 + 1 + 1 + 1 := by rw [hW0]; simp
  have s0 : Slot W0 w.heap.size 0 (.slice (some ⟨g, o, none⟩) n n) := by rw [hW0]; exact (slot_new _ _ _ _ rfl).below ((((Below.refl _ _).alloc (Nat.le_refl _) _).alloc (by simp) _).alloc (by simp <;> omega) _) (by simp)
  have s1 : Slot W0 (w.heap.size + 1) 0 (.slice b m m) := by rw [hW0]; exact (slot_new _ _ _ _ (by simp)).below (((Below.refl _ _).alloc (Nat.le_refl _) _).alloc (by simp) _) (by simp)
  have s2 : Slot W0 (w.heap.size + 1 + 1) 0 (.slice none 0 0) := by rw [hW0]; exact (slot_new _ _ _ _ (by simp)).below ((Below.refl _ _).alloc (Nat.le_refl _) _) (by simp)
  have s3 : Slot W0 (w.heap.size + 1 + 1 + 1) 0 (.slice none 0 0) := by rw [hW0]; exact slot_new _ _ _ _ (by simp)
  have B0 := Lib.hid hb0
  have hcmp : ∃ t, 0 ≤ t ∧ Calls Tryz.prog 83 #[.agg #[.slice (some ⟨g, o, none⟩) n n], .agg #[.slice b m m]] W0 (GivesI t W0) := ⟨cmp3 x y, by unfold cmp3; rw [if_neg (by omega)]; split <;> omega, compare_any _ _ x y W0 (hu.below hb0) (hv.below hb0)⟩
  obtain ⟨t, ht, hcmp⟩ := hcmp
  have HC := Lib.hid hcmp
  have HX := Lib.hid hx1
  have HY := Lib.hid hy1
  have HVL := Lib.hid hVl
  have HRY := Lib.hid hry
  have HCX := Lib.hid hcx
  have S1 := Lib.hid s1
  have S2 := Lib.hid s2
  have S3 := Lib.hid s3
  have Z0 := Lib.hid z0
  have hmk := mk_u64 (n + 1 - m) (by omega)
  rw [show ((n + 1 - m : Nat) : Int) = (n : Int) + 1 - (m : Int) by omega] at hmk
  clear hn hm hrx hry hu hv hx1 hy1 hcmp hb0 hVl hcx
  go_enter Tryz.func91, Tryz.ntmps91
  go_wp2_with fail
  rw [← hW0]
  clear hW0
  refine HC.out.mono ?_
  rintro e w1 ⟨rfl, hb1⟩
  obtain ⟨p0, _⟩ := s0.below hb1 (by omega)
  obtain ⟨p1, _⟩ := s1.below hb1 (by omega)
  have hs1 := hb1.size
  rw [z0] at hs1
  have B1 := Lib.hid (B0.out.trans (hb1.mono (by omega)))
  have B01 := Lib.hid hb1
  clear s0 s1 s2 s3 hb1 z0
  go_wp2_with fail
  refine (clone_some g o n n x w1 (by omega) (by omega) (fun j hj => (below_at B1.out _ hg).trans (HCX.out j hj))).mono ?_
  rintro e w2 ⟨v2, rfl, hown, hb2⟩
  have hs2 := hb2.size
  go_wp2_with (at_builtin; refine wpList_append_own _ rfl _ _ 62 rfl w1.heap.size 101 i0 (.int .u64 0) 1 8 undU64s hi hz0 hz1 hz2 rfl (by decide) _ _ _ rfl (hown.alloc _) ⟨w2.heap.size, 0, none⟩ 1 1 [.int .u64 0] rfl rfl ?c1 ?c2 ?c3 ?c4 ?c5 ?_)
  case c1 =>
    intro j u hj
    match j, hj with
    | 0, hj => simp at hj; subst hj; simp [Addr.add]
  case c2 => intro u hu; simp at hu; subst hu; rfl
  case c3 => unfold maxLen; omega
  case c4 => omega
  case c5 => simp; omega
  · intro v3 w3 hown3 hgrow _
    rw [ul_snoc hx0 HX.out] at hown3
    have hb3 : Below w1.heap.size w1 w3 := (hb2.alloc hs2 _).grown hgrow (by simp; omega) (fun k hk => (hown.lt k hk).1)
    obtain ⟨g3, cap, hv3, hcap, hF⟩ := fresh_own hown3 hb3 (by omega)
    have hs3 := hb3.size
    have HF := Lib.hid hF
    clear hown hown3 hgrow hb2 hF
    subst hv3
    obtain ⟨p1', _⟩ := S1.out.below (B01.out.trans (hb3.mono (by have := Z0.out; omega))) (by have := Z0.out; omega)
    clear p0 p1 hb3
    have hs4 := HF.out.lt
    have hF2 : Fresh w1 (w3.alloc (.cells (madeCells #[.int .u64 0] (n + 1 - m)) 101)) w3.heap.size (n + 1 - m) 0 :=
      ⟨HF.out.below.trans ((Below.refl _ _).alloc hs3 _), hs3, by simp, (Fresh.made w3 _).cells, (Fresh.made w3 _).free⟩
    have hF3 : Fresh w1 (w3.alloc (.cells (madeCells #[.int .u64 0] (n + 1 - m)) 101)) g3 (n + 1) x :=
      ⟨hF2.below, HF.out.ge, by simp; omega, fun j hj => (World.cell?_alloc_past _ _ _ hs4).trans (HF.out.cells j hj), fun j hj => (World.frozen?_alloc_past _ _ _ hs4).trans (HF.out.free j hj)⟩
    have F2 := Lib.hid hF2
    have F3 := Lib.hid hF3
    have hst := d_start (V := y) (n := m - 1) (m := n + 1 - m) hx0 (by rw [show m - 1 + (n + 1 - m) = n by omega]; exact HX.out) HVL.out
    have ST := Lib.hid hst
    clear hF2 hF3 hst
    go_wp2
    go_loopw [9] (fun i wr => ∃ k : Nat, k ≤ n + 1 - m ∧ i = .int .i64 ((k : Int) - 1) ∧ Fresh w1 wr g3 (n + 1) (dr x y k) ∧ Fresh w1 wr w3.heap.size (n + 1 - m) (dq x y k)) (fun i _ => (intOf i + 1).toNat)
    case atStart => exact ⟨n + 1 - m, by omega, by go_num, by rw [ST.out.2]; exact F3.out, by rw [ST.out.1]; exact F2.out⟩
    case round =>
      obtain ⟨k, hk, rfl, hR, hQ⟩ := hrel
      have R := Lib.hid hR
      have Q := Lib.hid hQ
      have hw1 := hR.below
      clear hR hQ
      obtain ⟨p1', _⟩ := S1.out.below (B01.out.trans (hw1.mono (by have := Z0.out; omega))) (by have := Z0.out; omega)
      clear hw1
      rcases Nat.eq_zero_or_pos k with hk0 | hk0
      · subst hk0
        clear p1'
        have hwb := R.out.below
        have B3 := Lib.hid (B1.out.trans (hwb.mono (by omega)))
        have s2 := S2.out.below (B01.out.trans (hwb.mono (by have := Z0.out; omega))) (by have := Z0.out; omega)
        have s3 := S3.out.below (B01.out.trans (hwb.mono (by have := Z0.out; omega))) (by have := Z0.out; omega)
        have hws := hwb.size
        have dqb := dq_bd0 (x := x) (V := y) (n := n + 1 - m) hx0 hy (by have := d_start (V := y) (n := m - 1) (m := n + 1 - m) hx0 (by rw [show m - 1 + (n + 1 - m) = n by omega]; exact HX.out) HVL.out; exact this.1)
        have drb := dr_bd (x := x) (n := m) 0 hy HY.out
        have hnm := bp_mono (show 0 + m ≤ n + 1 by omega)
        clear hwb
        go_wp2_with fail
        refine (trim_any _ (n + 1 - m) (n + 1 - m) (dq x y 0) wr dqb.1 dqb.2 (by omega) (by omega) Q.out.row).mono ?_
        rintro e w5 ⟨vq, rfl, hvq, hb5⟩
        have hs5 := hb5.size
        go_wp2_with fail
        refine (trim_any _ (n + 1) cap (dr x y 0) w5 drb.1 (by omega) hcap (by omega) ((R.out.row.below hb5).mono hs5)).mono ?_
        rintro e w6 ⟨vr, rfl, hvr, hb6⟩
        have hs6 := hb6.size
        rw [dq_zero] at hvq
        rw [dr_zero] at hvr
        have hv5 := hvq.below hb6
        obtain ⟨q1, q2⟩ := (s2.below hb5 (by omega)).below hb6 (by omega)
        obtain ⟨r1, r2⟩ := (s3.below hb5 (by omega)).below hb6 (by omega)
        have HB6 := Lib.hid (B3.out.trans ((hb5.mono (by omega)).trans (hb6.mono (by omega))))
        have VQ := Lib.hid hv5
        have VR := Lib.hid hvr
        obtain ⟨a5, n5, rfl, hn5, _, _, _, _⟩ := hv5.form
        obtain ⟨a6, n6, rfl, hn6, _, _, _, _⟩ := hvr.form
        have HN5 := Lib.hid hn5
        have HN6 := Lib.hid hn6
        clear hvq hvr hv5 hb5 hb6 hn5 hn6 s2 s3 dqb drb
        go_wp2
        exact bodyPost_ret (v := .tuple #[.agg #[.slice a5 n5 n5], .agg #[.slice a6 n6 n6]]) (by simp [results, Tryz.results91, go_sem, q1, r1]) rfl ⟨_, _, rfl, store2 VQ.out q1 r1 _ _, store2 VR.out q1 r1 _ _, below_set (below_set HB6.out (b := w.heap.size + 1 + 1) 0 (by omega) _) (b := w.heap.size + 1 + 1 + 1) 0 (by omega) _⟩
      · obtain ⟨i, rfl⟩ : ∃ i, k = i + 1 := ⟨k - 1, by omega⟩
        rw [show (((i + 1 : Nat) : Int) - 1) = (i : Int) by omega]
        have hsl := slice_win g3 i m (n + 1) cap (by omega)
        have hF1 := R.out.free
        have hC1 : ∀ j, j < m + 1 → wr.cell? ⟨g3, i + j, none⟩ = some (.int .u64 (lz (dw x y i) j)) := fun j hj => by rw [R.out.cell' (i + j) (by omega), dr_win']
        have hC2 : ∀ j, j < m + 1 → wr.frozen? ⟨g3, i + j, none⟩ = false := fun j hj => R.out.free' (i + j) (by omega)
        have HC1 := Lib.hid hC1
        have HC2 := Lib.hid hC2
        have hQ1 := Q.out.cell' i (by omega)
        have hQ2 := Q.out.free' i (by omega)
        have HQ1 := Lib.hid hQ1
        have HQ2 := Lib.hid hQ2
        have hw1 := R.out.below
        have hg3 := R.out.ge
        have hgq : g3 ≠ w3.heap.size := by omega
        have HR9 := Lib.hid (HRY.out.below ((B1.out).trans (hw1.mono (by omega))))
        obtain ⟨hd0, hd1⟩ := dw_bd (x := x) i hy
        have i1 : (0 : Int) ≤ (i : Int) := by omega
        have i2 : (i : Int) < ((n + 1 - m : Nat) : Int) := by omega
        have j1 : IntKind.i64.wrap ((i : Int) + (m : Int)) = (i : Int) + (m : Int) := by rw [IntKind.wrap_i64]; omega
        have j2 : IntKind.i64.wrap ((i : Int) + (m : Int) + 1) = (i : Int) + (m : Int) + 1 := by rw [IntKind.wrap_i64]; omega
        clear hF1 hC1 hC2 hQ1 hQ2 hw1
        go_wp2_with fail
        go_region_with (go_at_call 117; refine (reduce_any g3 i (m + 1) b m m (dw x y i) y _ (by omega) (by omega) hd0 hd1 HY.out HVL.out (by exact HC1.out) (by exact HC2.out) (by exact HR9.out.mono (by omega))).mono ?_; rintro e w5 ⟨rfl, hC⟩; have C5 := Lib.hid (Cells.undrew1 hC); have q1 := (hC.other (i := i) hgq.symm).trans HQ1.out; have q2 := (hC.otherF (i := i) hgq.symm).trans HQ2.out; clear hC)
        all_goals
          go_wp2
          go_roundw
          case rel =>
            have hh := div_round R.out Q.out C5.out hgq hy HY.out (by omega) (by omega)
            exact ⟨i, by omega, rfl, hh.1, hh.2⟩
          case measure => simp [intOf]
theorem divide_any (u v : Value) (x y : Int) (w : World) (hu : NatV w u x) (hv : NatV w v y) (hy : 0 < y) (hx9 : nl x ≤ 90000) :
    Calls Tryz.prog 91 #[.agg #[u], .agg #[v]] w (GivesNN (x / y) (x % y) w) := by
  rcases Int.lt_or_le x y with h | h
  · rw [Int.ediv_eq_zero_of_lt hu.1 h, Int.emod_eq_of_lt hu.1 h]
    exact divide_less u v x y w hu hv h
  · exact divide_more u v x y w hu hv h hy hx9
end Go.Proofs.YtphbfjcaehiboaaGreatDoor
