/-
  Plain arithmetic behind package whole: limbs to the base 1000000000, their number, and the carries of sums, differences and products.
  Plain arithmetic behind the reference of package whole: decimal digits, their number, and the carries of sums, differences and products.
  The arithmetic of a division of two words by one, half a word at a time.
  The written multiplication, limb by limb.
  Decimal texts of integers: which texts are integers, and the text of each integer is one.
  Limbs and decimal digits: nine digits are a limb.
-/
import Derived.Lib.ItoaNum
namespace Go.Proofs.YtphbfjcaehiboaaGreatDoor

/-- The base to the power of j. -/
def bp (j : Nat) : Int := 1000000000 ^ j
theorem bp_zero : bp 0 = 1 := rfl
theorem bp_one : bp 1 = 1000000000 := by unfold bp; decide
theorem bp_succ (j : Nat) : bp (j + 1) = 1000000000 * bp j := by unfold bp; rw [Int.pow_succ, Int.mul_comm]
theorem bp_pos (j : Nat) : 0 < bp j := by
  induction j with
  | zero => rw [bp_zero]; omega
  | succ j ih => rw [bp_succ]; omega
theorem bp_add (i j : Nat) : bp (i + j) = bp i * bp j := by unfold bp; rw [Int.pow_add]
theorem bp_mono {i j : Nat} (h : i ≤ j) : bp i ≤ bp j := by
  obtain ⟨k, rfl⟩ := Nat.exists_eq_add_of_le h
  rw [bp_add]
  have h1 := bp_pos i
  have h2 := bp_pos k
  have := Int.mul_le_mul_of_nonneg_left (show 1 ≤ bp k by omega) (Int.le_of_lt h1)
  omega
theorem bp_ge (j : Nat) : 1 ≤ bp j := bp_pos j

/-- Limb j of z. -/
def lz (z : Int) (j : Nat) : Int := z / bp j % 1000000000
theorem lz_bd (z : Int) (j : Nat) : 0 ≤ lz z j ∧ lz z j < 1000000000 := ⟨Int.emod_nonneg _ (by omega), Int.emod_lt_of_pos _ (by omega)⟩
theorem div_succ (z : Int) (i : Nat) : z / bp (i + 1) = z / bp i / 1000000000 := by
  rw [bp_succ, Int.mul_comm, Int.ediv_ediv_of_nonneg (Int.le_of_lt (bp_pos i))]
theorem div_add (z : Int) (i j : Nat) : z / bp (i + j) = z / bp i / bp j := by
  rw [bp_add, Int.ediv_ediv_of_nonneg (Int.le_of_lt (bp_pos i))]
theorem lz_shift (z : Int) (i j : Nat) : lz (z / bp i) j = lz z (i + j) := by unfold lz; rw [div_add]
theorem div_split (z : Int) (i : Nat) : z / bp i = 1000000000 * (z / bp (i + 1)) + lz z i := by
  rw [div_succ]; unfold lz; omega
theorem mod_succ (z : Int) (i : Nat) : z % bp (i + 1) = z % bp i + bp i * lz z i := by
  have h1 := Int.emod_add_mul_ediv z (bp i)
  have h2 := Int.emod_add_mul_ediv z (bp (i + 1))
  have h3 := div_split z i
  have h4 : bp i * (z / bp i) = bp (i + 1) * (z / bp (i + 1)) + bp i * lz z i := by
    rw [h3, Int.mul_add, bp_succ, ← Int.mul_assoc, Int.mul_comm (bp i) 1000000000]
  omega
theorem add_mul_div (z t : Int) (i : Nat) : (z + bp i * t) / bp i = z / bp i + t := Int.add_mul_ediv_left _ _ (by have := bp_pos i; omega)
theorem lz_low (z t : Int) {i j : Nat} (h : j < i) : lz (z + bp i * t) j = lz z j := by
  unfold lz
  obtain ⟨k, rfl⟩ : ∃ k, i = j + (k + 1) := ⟨i - j - 1, by omega⟩
  rw [bp_add, bp_succ, Int.mul_assoc, Int.mul_assoc, add_mul_div]
  omega
theorem div_zero {z : Int} {n : Nat} (h0 : 0 ≤ z) (h : z < bp n) : z / bp n = 0 := Int.ediv_eq_zero_of_lt h0 h
theorem mod_self {z : Int} {n : Nat} (h0 : 0 ≤ z) (h : z < bp n) : z % bp n = z := Int.emod_eq_of_lt h0 h
theorem lz_high {z : Int} {n j : Nat} (h0 : 0 ≤ z) (h : z < bp n) (hj : n ≤ j) : lz z j = 0 := by
  unfold lz
  rw [div_zero h0 (Int.lt_of_lt_of_le h (bp_mono hj))]
  rfl
theorem lz_zero (j : Nat) : lz 0 j = 0 := by unfold lz; simp
theorem mod_zero (z : Int) : z % bp 0 = 0 := by rw [bp_zero]; omega
theorem div_bp_zero (z : Int) : z / bp 0 = z := by rw [bp_zero]; omega
theorem mod_bd (z : Int) (i : Nat) : 0 ≤ z % bp i ∧ z % bp i < bp i := ⟨Int.emod_nonneg _ (by have := bp_pos i; omega), Int.emod_lt_of_pos _ (bp_pos i)⟩
/-- Two numbers with the same limbs are equal. -/
theorem lz_ext {x y : Int} : ∀ {n : Nat}, 0 ≤ x → x < bp n → 0 ≤ y → y < bp n → (∀ j, j < n → lz x j = lz y j) → x = y := by
  intro n hx hx' hy hy' h
  have key : ∀ k, k ≤ n → x / bp (n - k) = y / bp (n - k) := by
    intro k
    induction k with
    | zero => intro _; rw [Nat.sub_zero, div_zero hx hx', div_zero hy hy']
    | succ k ih =>
      intro hk
      have := ih (by omega)
      rw [div_split x, div_split y, show n - (k + 1) + 1 = n - k by omega, this, h _ (by omega)]
  have := key n (Nat.le_refl _)
  rwa [Nat.sub_self, div_bp_zero, div_bp_zero] at this

/-! ### The number of limbs -/
def nlN (x : Nat) : Nat := if h : x = 0 then 0 else nlN (x / 1000000000) + 1
termination_by x
decreasing_by omega
/-- How many limbs x has. -/
def nl (x : Int) : Nat := nlN x.toNat
theorem nl_zero : nl 0 = 0 := by unfold nl; rw [nlN]; simp
theorem nlN_lt (x : Nat) : (x : Int) < bp (nlN x) := by
  induction x using Nat.strongRecOn with
  | _ x ih =>
    by_cases h : x = 0
    · subst h; rw [nlN]; simp [bp_zero]
    · rw [nlN, dif_neg h, bp_succ]
      have := ih (x / 1000000000) (by omega)
      omega
theorem nlN_ge (x : Nat) (k : Nat) (h : nlN x = k + 1) : bp k ≤ (x : Int) := by
  induction k generalizing x with
  | zero =>
    rw [bp_zero]
    by_cases h0 : x = 0
    · subst h0; rw [nlN] at h; simp at h
    · omega
  | succ k ih =>
    by_cases h0 : x = 0
    · subst h0; rw [nlN] at h; simp at h
    · rw [nlN, dif_neg h0] at h
      have := ih (x / 1000000000) (by omega)
      rw [bp_succ]
      omega
theorem nl_lt {x : Int} (h : 0 ≤ x) : x < bp (nl x) := by
  have := nlN_lt x.toNat
  unfold nl
  omega
theorem nl_ge {x : Int} {k : Nat} (h : nl x = k + 1) : bp k ≤ x := by
  have := nlN_ge x.toNat k h
  have h2 := bp_pos k
  omega
theorem nl_le {x : Int} {k : Nat} (h : x < bp k) : nl x ≤ k := by
  rcases Nat.lt_or_ge k (nl x) with h1 | h1
  · obtain ⟨m, hm⟩ : ∃ m, nl x = m + 1 := ⟨nl x - 1, by omega⟩
    have h2 := nl_ge hm
    have h3 := bp_mono (show k ≤ m by omega)
    omega
  · exact h1
theorem nl_eq {x : Int} {k : Nat} (h1 : bp k ≤ x) (h2 : x < bp (k + 1)) : nl x = k + 1 := by
  have h3 := nl_le h2
  have h4 : k < nl x := by
    rcases Nat.lt_or_ge k (nl x) with h | h
    · exact h
    · have h5 := nl_lt (x := x) (by have := bp_pos k; omega)
      have h6 := bp_mono h
      omega
  omega
theorem nl_pos {x : Int} (h : 0 < x) : 0 < nl x := by
  rcases Nat.eq_zero_or_pos (nl x) with e | e
  · have := nl_lt (x := x) (by omega)
    rw [e, bp_zero] at this
    omega
  · exact e
theorem nl_eq_zero {x : Int} (h : 0 ≤ x) : nl x = 0 ↔ x = 0 := by
  constructor
  · intro e
    rcases Int.lt_or_le 0 x with h1 | h1
    · have := nl_pos h1; omega
    · omega
  · rintro rfl; exact nl_zero
theorem nl_mono {x y : Int} (hy : 0 ≤ y) (h : x ≤ y) : nl x ≤ nl y := nl_le (by have := nl_lt hy; omega)
theorem nl_one {x : Int} (h0 : 0 < x) (h1 : x < 1000000000) : nl x = 1 := nl_eq (by rw [bp_zero]; omega) (by rw [bp_one]; omega)
theorem nl_small {x : Int} (h1 : x < 1000000000) : nl x ≤ 1 := nl_le (by rw [bp_one]; omega)
theorem nl_add {x y : Int} (hx : 0 ≤ x) (hy : 0 ≤ y) : nl (x + y) ≤ max (nl x) (nl y) + 1 := by
  apply nl_le
  rw [bp_succ]
  have h1 := nl_lt hx
  have h2 := nl_lt hy
  have h3 := bp_mono (Nat.le_max_left (nl x) (nl y))
  have h4 := bp_mono (Nat.le_max_right (nl x) (nl y))
  omega
theorem mul_lt_bp {x y : Int} {i j : Nat} (_hx : 0 ≤ x) (hy : 0 ≤ y) (h1 : x < bp i) (h2 : y < bp j) : x * y < bp (i + j) := by
  rw [bp_add]
  have h3 := Int.mul_le_mul_of_nonneg_right (Int.le_of_lt h1) hy
  have h4 := Int.mul_lt_mul_of_pos_left h2 (bp_pos i)
  omega
theorem nl_mul {x y : Int} (hx : 0 ≤ x) (hy : 0 ≤ y) : nl (x * y) ≤ nl x + nl y := nl_le (mul_lt_bp hx hy (nl_lt hx) (nl_lt hy))
/-- The highest limb is not 0. -/
theorem lz_top {x : Int} {k : Nat} (h0 : 0 ≤ x) (h : nl x = k + 1) : lz x k = x / bp k ∧ 1 ≤ lz x k := by
  have h1 := nl_lt h0
  have h2 := nl_ge h
  rw [h] at h1
  have h3 := div_split x k
  rw [div_zero h0 h1] at h3
  have h4 := Int.ediv_le_ediv (bp_pos k) h2
  rw [Int.ediv_self (by have := bp_pos k; omega)] at h4
  omega
/-- Where the highest limb is not 0. -/
theorem nl_of_top {x : Int} {k : Nat} (h0 : 0 ≤ x) (h1 : x < bp (k + 1)) (h2 : lz x k ≠ 0) : nl x = k + 1 := by
  apply nl_eq _ h1
  rcases Int.lt_or_le x (bp k) with h | h
  · exact absurd (lz_high h0 h (Nat.le_refl k)) h2
  · exact h
theorem lt_of_top {x : Int} {k : Nat} (h0 : 0 ≤ x) (h1 : x < bp (k + 1)) (h2 : lz x k = 0) : x < bp k := by
  have h3 := div_split x k
  rw [div_zero h0 h1, h2] at h3
  have h4 := Int.emod_add_mul_ediv x (bp k)
  have h5 := (mod_bd x k).2
  rw [h3] at h4
  omega

/-! ### The carry of A x + C y -/
def mx (A C x y : Int) (i : Nat) : Int := (A * (x % bp i) + C * (y % bp i)) / bp i
theorem mx_zero (A C x y : Int) : mx A C x y 0 = 0 := by unfold mx; rw [mod_zero, mod_zero]; simp [bp_zero]
theorem mx_all (A C x y : Int) (i : Nat) : A * x + C * y = (A * (x % bp i) + C * (y % bp i)) + bp i * (A * (x / bp i) + C * (y / bp i)) := by
  have h1 := Int.emod_add_mul_ediv x (bp i)
  have h2 := Int.emod_add_mul_ediv y (bp i)
  have h3 : A * x = A * (x % bp i) + bp i * (A * (x / bp i)) := by
    rw [Int.mul_left_comm (bp i), ← Int.mul_add, h1]
  have h4 : C * y = C * (y % bp i) + bp i * (C * (y / bp i)) := by
    rw [Int.mul_left_comm (bp i), ← Int.mul_add, h2]
  rw [h3, h4, Int.mul_add]
  generalize A * (x % bp i) = a at *
  generalize C * (y % bp i) = c at *
  omega
theorem mx_sum (A C x y : Int) (i : Nat) : (A * (x % bp (i + 1)) + C * (y % bp (i + 1))) = (A * (x % bp i) + C * (y % bp i)) + bp i * (A * lz x i + C * lz y i) := by
  rw [mod_succ x, mod_succ y, Int.mul_add A, Int.mul_add C, Int.mul_add (bp i), Int.mul_left_comm A, Int.mul_left_comm C]
  omega
theorem mx_step (A C x y : Int) (i : Nat) : (mx A C x y i + (A * lz x i + C * lz y i)) % 1000000000 = lz (A * x + C * y) i ∧ (mx A C x y i + (A * lz x i + C * lz y i)) / 1000000000 = mx A C x y (i + 1) := by
  have e : mx A C x y i + (A * lz x i + C * lz y i) = (A * (x % bp (i + 1)) + C * (y % bp (i + 1))) / bp i := by
    rw [mx_sum, add_mul_div]; rfl
  refine ⟨?_, ?_⟩
  · rw [e]
    show lz (A * (x % bp (i + 1)) + C * (y % bp (i + 1))) i = _
    rw [mx_all A C x y (i + 1), lz_low _ _ (Nat.lt_succ_self i)]
  · rw [e, ← div_succ]; rfl
theorem mx_end {A C x y : Int} {n : Nat} (hx : 0 ≤ x) (hx' : x < bp n) (hy : 0 ≤ y) (hy' : y < bp n) : mx A C x y n = (A * x + C * y) / bp n := by
  unfold mx; rw [mod_self hx hx', mod_self hy hy']
/-- The carry is small. -/
theorem mx_le {A C : Int} (x y : Int) (i : Nat) (hA : 0 ≤ A) (hC : 0 ≤ C) : 0 ≤ mx A C x y i ∧ mx A C x y i ≤ A + C := by
  obtain ⟨x0, x1⟩ := mod_bd x i
  obtain ⟨y0, y1⟩ := mod_bd y i
  have hp := bp_pos i
  have a0 := Int.mul_nonneg hA x0
  have c0 := Int.mul_nonneg hC y0
  have a1 := Int.mul_le_mul_of_nonneg_left (Int.le_of_lt x1) hA
  have c1 := Int.mul_le_mul_of_nonneg_left (Int.le_of_lt y1) hC
  refine ⟨Int.ediv_nonneg (by omega) (by omega), ?_⟩
  apply Int.ediv_le_of_le_mul hp
  rw [Int.add_mul]
  omega
theorem mx_bd {A C M : Int} (x y : Int) (i : Nat) (hA : -M ≤ A ∧ A ≤ M) (hC : -M ≤ C ∧ C ≤ M) : -(2 * M) ≤ mx A C x y i ∧ mx A C x y i ≤ 2 * M := by
  obtain ⟨x0, x1⟩ := mod_bd x i
  obtain ⟨y0, y1⟩ := mod_bd y i
  have hp := bp_pos i
  have hM : 0 ≤ M := by omega
  have key : ∀ {D u : Int}, -M ≤ D → D ≤ M → 0 ≤ u → u < bp i → -(M * bp i) ≤ D * u ∧ D * u ≤ M * bp i := by
    intro D u h1 h2 h3 h4
    have k1 := Int.mul_le_mul_of_nonneg_right h1 h3
    have k2 := Int.mul_le_mul_of_nonneg_right h2 h3
    have k3 := Int.mul_le_mul_of_nonneg_left (Int.le_of_lt h4) hM
    rw [Int.neg_mul] at k1
    omega
  obtain ⟨a1, a2⟩ := key hA.1 hA.2 x0 x1
  obtain ⟨c1, c2⟩ := key hC.1 hC.2 y0 y1
  have e : 2 * M * bp i = M * bp i + M * bp i := by rw [Int.mul_assoc]; omega
  refine ⟨?_, ?_⟩
  · apply Int.le_ediv_of_mul_le hp
    rw [Int.neg_mul, e]; omega
  · apply Int.ediv_le_of_le_mul hp
    rw [e]; omega
end Go.Proofs.YtphbfjcaehiboaaGreatDoor
namespace Go.Proofs.YtphbfjcaehiboaaGreatDoor.Ten

/-- The base to the power of j. -/
def bp (j : Nat) : Int := 10 ^ j
theorem bp_zero : bp 0 = 1 := rfl
theorem bp_one : bp 1 = 10 := by unfold bp; decide
theorem bp_succ (j : Nat) : bp (j + 1) = 10 * bp j := by unfold bp; rw [Int.pow_succ, Int.mul_comm]
theorem bp_pos (j : Nat) : 0 < bp j := by
  induction j with
  | zero => rw [bp_zero]; omega
  | succ j ih => rw [bp_succ]; omega
theorem bp_add (i j : Nat) : bp (i + j) = bp i * bp j := by unfold bp; rw [Int.pow_add]
theorem bp_mono {i j : Nat} (h : i ≤ j) : bp i ≤ bp j := by
  obtain ⟨k, rfl⟩ := Nat.exists_eq_add_of_le h
  rw [bp_add]
  have h1 := bp_pos i
  have h2 := bp_pos k
  have := Int.mul_le_mul_of_nonneg_left (show 1 ≤ bp k by omega) (Int.le_of_lt h1)
  omega
theorem bp_ge (j : Nat) : 1 ≤ bp j := bp_pos j

/-- Limb j of z. -/
def lz (z : Int) (j : Nat) : Int := z / bp j % 10
theorem lz_bd (z : Int) (j : Nat) : 0 ≤ lz z j ∧ lz z j < 10 := ⟨Int.emod_nonneg _ (by omega), Int.emod_lt_of_pos _ (by omega)⟩
theorem div_succ (z : Int) (i : Nat) : z / bp (i + 1) = z / bp i / 10 := by
  rw [bp_succ, Int.mul_comm, Int.ediv_ediv_of_nonneg (Int.le_of_lt (bp_pos i))]
theorem div_add (z : Int) (i j : Nat) : z / bp (i + j) = z / bp i / bp j := by
  rw [bp_add, Int.ediv_ediv_of_nonneg (Int.le_of_lt (bp_pos i))]
theorem lz_shift (z : Int) (i j : Nat) : lz (z / bp i) j = lz z (i + j) := by unfold lz; rw [div_add]
theorem div_split (z : Int) (i : Nat) : z / bp i = 10 * (z / bp (i + 1)) + lz z i := by
  rw [div_succ]; unfold lz; omega
theorem mod_succ (z : Int) (i : Nat) : z % bp (i + 1) = z % bp i + bp i * lz z i := by
  have h1 := Int.emod_add_mul_ediv z (bp i)
  have h2 := Int.emod_add_mul_ediv z (bp (i + 1))
  have h3 := div_split z i
  have h4 : bp i * (z / bp i) = bp (i + 1) * (z / bp (i + 1)) + bp i * lz z i := by
    rw [h3, Int.mul_add, bp_succ, ← Int.mul_assoc, Int.mul_comm (bp i) 10]
  omega
theorem add_mul_div (z t : Int) (i : Nat) : (z + bp i * t) / bp i = z / bp i + t := Int.add_mul_ediv_left _ _ (by have := bp_pos i; omega)
theorem lz_low (z t : Int) {i j : Nat} (h : j < i) : lz (z + bp i * t) j = lz z j := by
  unfold lz
  obtain ⟨k, rfl⟩ : ∃ k, i = j + (k + 1) := ⟨i - j - 1, by omega⟩
  rw [bp_add, bp_succ, Int.mul_assoc, Int.mul_assoc, add_mul_div]
  omega
theorem div_zero {z : Int} {n : Nat} (h0 : 0 ≤ z) (h : z < bp n) : z / bp n = 0 := Int.ediv_eq_zero_of_lt h0 h
theorem mod_self {z : Int} {n : Nat} (h0 : 0 ≤ z) (h : z < bp n) : z % bp n = z := Int.emod_eq_of_lt h0 h
theorem lz_high {z : Int} {n j : Nat} (h0 : 0 ≤ z) (h : z < bp n) (hj : n ≤ j) : lz z j = 0 := by
  unfold lz
  rw [div_zero h0 (Int.lt_of_lt_of_le h (bp_mono hj))]
  rfl
theorem lz_zero (j : Nat) : lz 0 j = 0 := by unfold lz; simp
theorem mod_zero (z : Int) : z % bp 0 = 0 := by rw [bp_zero]; omega
theorem div_bp_zero (z : Int) : z / bp 0 = z := by rw [bp_zero]; omega
theorem mod_bd (z : Int) (i : Nat) : 0 ≤ z % bp i ∧ z % bp i < bp i := ⟨Int.emod_nonneg _ (by have := bp_pos i; omega), Int.emod_lt_of_pos _ (bp_pos i)⟩
/-- Two numbers with the same limbs are equal. -/
theorem lz_ext {x y : Int} : ∀ {n : Nat}, 0 ≤ x → x < bp n → 0 ≤ y → y < bp n → (∀ j, j < n → lz x j = lz y j) → x = y := by
  intro n hx hx' hy hy' h
  have key : ∀ k, k ≤ n → x / bp (n - k) = y / bp (n - k) := by
    intro k
    induction k with
    | zero => intro _; rw [Nat.sub_zero, div_zero hx hx', div_zero hy hy']
    | succ k ih =>
      intro hk
      have := ih (by omega)
      rw [div_split x, div_split y, show n - (k + 1) + 1 = n - k by omega, this, h _ (by omega)]
  have := key n (Nat.le_refl _)
  rwa [Nat.sub_self, div_bp_zero, div_bp_zero] at this

/-! ### The number of limbs -/
def nlN (x : Nat) : Nat := if h : x = 0 then 0 else nlN (x / 10) + 1
termination_by x
decreasing_by omega
/-- How many limbs x has. -/
def nl (x : Int) : Nat := nlN x.toNat
theorem nl_zero : nl 0 = 0 := by unfold nl; rw [nlN]; simp
theorem nlN_lt (x : Nat) : (x : Int) < bp (nlN x) := by
  induction x using Nat.strongRecOn with
  | _ x ih =>
    by_cases h : x = 0
    · subst h; rw [nlN]; simp [bp_zero]
    · rw [nlN, dif_neg h, bp_succ]
      have := ih (x / 10) (by omega)
      omega
theorem nlN_ge (x : Nat) (k : Nat) (h : nlN x = k + 1) : bp k ≤ (x : Int) := by
  induction k generalizing x with
  | zero =>
    rw [bp_zero]
    by_cases h0 : x = 0
    · subst h0; rw [nlN] at h; simp at h
    · omega
  | succ k ih =>
    by_cases h0 : x = 0
    · subst h0; rw [nlN] at h; simp at h
    · rw [nlN, dif_neg h0] at h
      have := ih (x / 10) (by omega)
      rw [bp_succ]
      omega
theorem nl_lt {x : Int} (h : 0 ≤ x) : x < bp (nl x) := by
  have := nlN_lt x.toNat
  unfold nl
  omega
theorem nl_ge {x : Int} {k : Nat} (h : nl x = k + 1) : bp k ≤ x := by
  have := nlN_ge x.toNat k h
  have h2 := bp_pos k
  omega
theorem nl_le {x : Int} {k : Nat} (h : x < bp k) : nl x ≤ k := by
  rcases Nat.lt_or_ge k (nl x) with h1 | h1
  · obtain ⟨m, hm⟩ : ∃ m, nl x = m + 1 := ⟨nl x - 1, by omega⟩
    have h2 := nl_ge hm
    have h3 := bp_mono (show k ≤ m by omega)
    omega
  · exact h1
theorem nl_eq {x : Int} {k : Nat} (h1 : bp k ≤ x) (h2 : x < bp (k + 1)) : nl x = k + 1 := by
  have h3 := nl_le h2
  have h4 : k < nl x := by
    rcases Nat.lt_or_ge k (nl x) with h | h
    · exact h
    · have h5 := nl_lt (x := x) (by have := bp_pos k; omega)
      have h6 := bp_mono h
      omega
  omega
theorem nl_pos {x : Int} (h : 0 < x) : 0 < nl x := by
  rcases Nat.eq_zero_or_pos (nl x) with e | e
  · have := nl_lt (x := x) (by omega)
    rw [e, bp_zero] at this
    omega
  · exact e
theorem nl_eq_zero {x : Int} (h : 0 ≤ x) : nl x = 0 ↔ x = 0 := by
  constructor
  · intro e
    rcases Int.lt_or_le 0 x with h1 | h1
    · have := nl_pos h1; omega
    · omega
  · rintro rfl; exact nl_zero
theorem nl_mono {x y : Int} (hy : 0 ≤ y) (h : x ≤ y) : nl x ≤ nl y := nl_le (by have := nl_lt hy; omega)
theorem nl_one {x : Int} (h0 : 0 < x) (h1 : x < 10) : nl x = 1 := nl_eq (by rw [bp_zero]; omega) (by rw [bp_one]; omega)
theorem nl_small {x : Int} (h1 : x < 10) : nl x ≤ 1 := nl_le (by rw [bp_one]; omega)
theorem nl_add {x y : Int} (hx : 0 ≤ x) (hy : 0 ≤ y) : nl (x + y) ≤ max (nl x) (nl y) + 1 := by
  apply nl_le
  rw [bp_succ]
  have h1 := nl_lt hx
  have h2 := nl_lt hy
  have h3 := bp_mono (Nat.le_max_left (nl x) (nl y))
  have h4 := bp_mono (Nat.le_max_right (nl x) (nl y))
  omega
theorem mul_lt_bp {x y : Int} {i j : Nat} (_hx : 0 ≤ x) (hy : 0 ≤ y) (h1 : x < bp i) (h2 : y < bp j) : x * y < bp (i + j) := by
  rw [bp_add]
  have h3 := Int.mul_le_mul_of_nonneg_right (Int.le_of_lt h1) hy
  have h4 := Int.mul_lt_mul_of_pos_left h2 (bp_pos i)
  omega
theorem nl_mul {x y : Int} (hx : 0 ≤ x) (hy : 0 ≤ y) : nl (x * y) ≤ nl x + nl y := nl_le (mul_lt_bp hx hy (nl_lt hx) (nl_lt hy))
/-- The highest limb is not 0. -/
theorem lz_top {x : Int} {k : Nat} (h0 : 0 ≤ x) (h : nl x = k + 1) : lz x k = x / bp k ∧ 1 ≤ lz x k := by
  have h1 := nl_lt h0
  have h2 := nl_ge h
  rw [h] at h1
  have h3 := div_split x k
  rw [div_zero h0 h1] at h3
  have h4 := Int.ediv_le_ediv (bp_pos k) h2
  rw [Int.ediv_self (by have := bp_pos k; omega)] at h4
  omega
/-- Where the highest limb is not 0. -/
theorem nl_of_top {x : Int} {k : Nat} (h0 : 0 ≤ x) (h1 : x < bp (k + 1)) (h2 : lz x k ≠ 0) : nl x = k + 1 := by
  apply nl_eq _ h1
  rcases Int.lt_or_le x (bp k) with h | h
  · exact absurd (lz_high h0 h (Nat.le_refl k)) h2
  · exact h
theorem lt_of_top {x : Int} {k : Nat} (h0 : 0 ≤ x) (h1 : x < bp (k + 1)) (h2 : lz x k = 0) : x < bp k := by
  have h3 := div_split x k
  rw [div_zero h0 h1, h2] at h3
  have h4 := Int.emod_add_mul_ediv x (bp k)
  have h5 := (mod_bd x k).2
  rw [h3] at h4
  omega

/-! ### The carry of A x + C y -/
def mx (A C x y : Int) (i : Nat) : Int := (A * (x % bp i) + C * (y % bp i)) / bp i
theorem mx_zero (A C x y : Int) : mx A C x y 0 = 0 := by unfold mx; rw [mod_zero, mod_zero]; simp [bp_zero]
theorem mx_all (A C x y : Int) (i : Nat) : A * x + C * y = (A * (x % bp i) + C * (y % bp i)) + bp i * (A * (x / bp i) + C * (y / bp i)) := by
  have h1 := Int.emod_add_mul_ediv x (bp i)
  have h2 := Int.emod_add_mul_ediv y (bp i)
  have h3 : A * x = A * (x % bp i) + bp i * (A * (x / bp i)) := by
    rw [Int.mul_left_comm (bp i), ← Int.mul_add, h1]
  have h4 : C * y = C * (y % bp i) + bp i * (C * (y / bp i)) := by
    rw [Int.mul_left_comm (bp i), ← Int.mul_add, h2]
  rw [h3, h4, Int.mul_add]
  generalize A * (x % bp i) = a at *
  generalize C * (y % bp i) = c at *
  omega
theorem mx_sum (A C x y : Int) (i : Nat) : (A * (x % bp (i + 1)) + C * (y % bp (i + 1))) = (A * (x % bp i) + C * (y % bp i)) + bp i * (A * lz x i + C * lz y i) := by
  rw [mod_succ x, mod_succ y, Int.mul_add A, Int.mul_add C, Int.mul_add (bp i), Int.mul_left_comm A, Int.mul_left_comm C]
  omega
theorem mx_step (A C x y : Int) (i : Nat) : (mx A C x y i + (A * lz x i + C * lz y i)) % 10 = lz (A * x + C * y) i ∧ (mx A C x y i + (A * lz x i + C * lz y i)) / 10 = mx A C x y (i + 1) := by
  have e : mx A C x y i + (A * lz x i + C * lz y i) = (A * (x % bp (i + 1)) + C * (y % bp (i + 1))) / bp i := by
    rw [mx_sum, add_mul_div]; rfl
  refine ⟨?_, ?_⟩
  · rw [e]
    show lz (A * (x % bp (i + 1)) + C * (y % bp (i + 1))) i = _
    rw [mx_all A C x y (i + 1), lz_low _ _ (Nat.lt_succ_self i)]
  · rw [e, ← div_succ]; rfl
theorem mx_end {A C x y : Int} {n : Nat} (hx : 0 ≤ x) (hx' : x < bp n) (hy : 0 ≤ y) (hy' : y < bp n) : mx A C x y n = (A * x + C * y) / bp n := by
  unfold mx; rw [mod_self hx hx', mod_self hy hy']
/-- The carry is small. -/
theorem mx_le {A C : Int} (x y : Int) (i : Nat) (hA : 0 ≤ A) (hC : 0 ≤ C) : 0 ≤ mx A C x y i ∧ mx A C x y i ≤ A + C := by
  obtain ⟨x0, x1⟩ := mod_bd x i
  obtain ⟨y0, y1⟩ := mod_bd y i
  have hp := bp_pos i
  have a0 := Int.mul_nonneg hA x0
  have c0 := Int.mul_nonneg hC y0
  have a1 := Int.mul_le_mul_of_nonneg_left (Int.le_of_lt x1) hA
  have c1 := Int.mul_le_mul_of_nonneg_left (Int.le_of_lt y1) hC
  refine ⟨Int.ediv_nonneg (by omega) (by omega), ?_⟩
  apply Int.ediv_le_of_le_mul hp
  rw [Int.add_mul]
  omega
theorem mx_bd {A C M : Int} (x y : Int) (i : Nat) (hA : -M ≤ A ∧ A ≤ M) (hC : -M ≤ C ∧ C ≤ M) : -(2 * M) ≤ mx A C x y i ∧ mx A C x y i ≤ 2 * M := by
  obtain ⟨x0, x1⟩ := mod_bd x i
  obtain ⟨y0, y1⟩ := mod_bd y i
  have hp := bp_pos i
  have hM : 0 ≤ M := by omega
  have key : ∀ {D u : Int}, -M ≤ D → D ≤ M → 0 ≤ u → u < bp i → -(M * bp i) ≤ D * u ∧ D * u ≤ M * bp i := by
    intro D u h1 h2 h3 h4
    have k1 := Int.mul_le_mul_of_nonneg_right h1 h3
    have k2 := Int.mul_le_mul_of_nonneg_right h2 h3
    have k3 := Int.mul_le_mul_of_nonneg_left (Int.le_of_lt h4) hM
    rw [Int.neg_mul] at k1
    omega
  obtain ⟨a1, a2⟩ := key hA.1 hA.2 x0 x1
  obtain ⟨c1, c2⟩ := key hC.1 hC.2 y0 y1
  have e : 2 * M * bp i = M * bp i + M * bp i := by rw [Int.mul_assoc]; omega
  refine ⟨?_, ?_⟩
  · apply Int.le_ediv_of_mul_le hp
    rw [Int.neg_mul, e]; omega
  · apply Int.ediv_le_of_le_mul hp
    rw [e]; omega
end Go.Proofs.YtphbfjcaehiboaaGreatDoor.Ten
namespace Go.Proofs.YtphbfjcaehiboaaGreatDoor

/-- What is known of a guessed half quotient q with the rest r: N = u B + t, Y = v1 B + v0, B two to the power of 32. -/
structure Half (u t v1 v0 q r : Int) : Prop where
  rest : q * v1 + r = u
  r0 : 0 ≤ r
  q0 : 0 ≤ q
  hi : q ≤ 4294967297
  ge : (u * 4294967296 + t) / (v1 * 4294967296 + v0) ≤ q

structure HalfIn (u t v1 v0 : Int) : Prop where
  u0 : 0 ≤ u
  uY : u < v1 * 4294967296 + v0
  t0 : 0 ≤ t
  t1 : t < 4294967296
  v1l : 2147483648 ≤ v1
  v1h : v1 < 4294967296
  v0l : 0 ≤ v0
  v0h : v0 < 4294967296

theorem half_pos {u t v1 v0 : Int} (h : HalfIn u t v1 v0) : 0 < v1 * 4294967296 + v0 := by have := h.v1l; have := h.v0l; omega
theorem half_start {u t v1 v0 : Int} (h : HalfIn u t v1 v0) : Half u t v1 v0 (u / v1) (u - u / v1 * v1) := by
  have hp := half_pos h
  have e := Int.emod_add_mul_ediv u v1
  have h1 := h.v1l
  have h2 := Int.emod_nonneg u (show v1 ≠ 0 by omega)
  have q0 := Int.ediv_nonneg h.u0 (show 0 ≤ v1 by omega)
  rw [Int.mul_comm v1] at e
  refine ⟨by omega, by omega, q0, ?_, ?_⟩
  · have h3 := h.uY
    have h4 := h.v0h
    have : u / v1 < 4294967298 := by
      apply Int.ediv_lt_of_lt_mul (by omega)
      omega
    omega
  · have h5 := Int.emod_lt_of_pos u (show 0 < v1 by omega)
    have : (u * 4294967296 + t) / (v1 * 4294967296 + v0) < u / v1 + 1 := by
      apply Int.ediv_lt_of_lt_mul hp
      have g1 : (u / v1 + 1) * (v1 * 4294967296 + v0) = (u / v1 * v1 + v1) * 4294967296 + (u / v1 + 1) * v0 := by
        rw [Int.mul_add, ← Int.mul_assoc, Int.add_mul (u / v1) 1 v1, Int.one_mul]
      have g2 := Int.mul_nonneg (show 0 ≤ u / v1 + 1 by omega) h.v0l
      have := h.t1
      omega
    omega
theorem half_rest_lt {u v1 : Int} (h1 : 0 < v1) (h2 : v1 < 4294967296) : u - u / v1 * v1 < 4294967296 := by
  have e := Int.emod_add_mul_ediv u v1
  have := Int.emod_lt_of_pos u h1
  rw [Int.mul_comm v1] at e
  omega
/-- The guess is too great. -/
theorem half_less {u t v1 v0 q r : Int} (h : HalfIn u t v1 v0) (g : Half u t v1 v0 q r) (hq : 4294967296 ≤ q ∨ r * 4294967296 + t < q * v0) : Half u t v1 v0 (q - 1) (r + v1) := by
  have hp := half_pos h
  have e1 := g.rest
  have key : (u * 4294967296 + t) / (v1 * 4294967296 + v0) < q := by
    apply Int.ediv_lt_of_lt_mul hp
    rcases hq with hq | hq
    · have h1 := Int.mul_le_mul_of_nonneg_right hq (Int.le_of_lt hp)
      have := h.uY; have := h.t1
      omega
    · have g1 : q * (v1 * 4294967296 + v0) = (q * v1) * 4294967296 + q * v0 := by rw [Int.mul_add, ← Int.mul_assoc]
      omega
  have hn := Int.ediv_nonneg (show 0 ≤ u * 4294967296 + t by have := h.u0; have := h.t0; omega) (Int.le_of_lt hp)
  refine ⟨?_, by have := g.r0; have := h.v1l; omega, by omega, by have := g.hi; omega, by omega⟩
  rw [Int.sub_mul, Int.one_mul]; omega
/-- The guess is right. -/
theorem half_right {u t v1 v0 q r : Int} (h : HalfIn u t v1 v0) (g : Half u t v1 v0 q r) (hq : q * v0 ≤ r * 4294967296 + t) : q = (u * 4294967296 + t) / (v1 * 4294967296 + v0) := by
  have hp := half_pos h
  have e1 := g.rest
  have : q ≤ (u * 4294967296 + t) / (v1 * 4294967296 + v0) := by
    apply Int.le_ediv_of_mul_le hp
    have g1 : q * (v1 * 4294967296 + v0) = (q * v1) * 4294967296 + q * v0 := by rw [Int.mul_add, ← Int.mul_assoc]
    omega
  have := g.ge
  omega
/-- Behind a step with a rest of more than half a word the guess is right. -/
theorem half_over {u t v1 v0 q r : Int} (h : HalfIn u t v1 v0) (g : Half u t v1 v0 q r) (hq : q ≤ 4294967296) (hr : 4294967296 ≤ r) : q = (u * 4294967296 + t) / (v1 * 4294967296 + v0) := by
  apply half_right h g
  have h1 := Int.mul_le_mul_of_nonneg_right hq h.v0l
  have := h.v0h; have := h.t0
  omega
/-- The rest behind the first half. -/
theorem half_next {u t v1 v0 q : Int} (h : HalfIn u t v1 v0) (hq : q = (u * 4294967296 + t) / (v1 * 4294967296 + v0)) : 0 ≤ u * 4294967296 + t - q * (v1 * 4294967296 + v0) ∧ u * 4294967296 + t - q * (v1 * 4294967296 + v0) < v1 * 4294967296 + v0 ∧ 0 ≤ q ∧ q < 4294967296 := by
  have hp := half_pos h
  have e := Int.emod_add_mul_ediv (u * 4294967296 + t) (v1 * 4294967296 + v0)
  have h1 := Int.emod_nonneg (u * 4294967296 + t) (show v1 * 4294967296 + v0 ≠ 0 by omega)
  have h2 := Int.emod_lt_of_pos (u * 4294967296 + t) hp
  rw [← hq, Int.mul_comm (v1 * 4294967296 + v0) q] at e
  refine ⟨by omega, by omega, ?_, ?_⟩
  · rw [hq]; exact Int.ediv_nonneg (by have := h.u0; have := h.t0; omega) (Int.le_of_lt hp)
  · rw [hq]
    apply Int.ediv_lt_of_lt_mul hp
    have := h.uY; have := h.t1
    omega
/-- Both halves make the quotient. -/
theorem half_both {u t1 t0 v1 v0 q1 q0 : Int} (h : HalfIn u t1 v1 v0)
    (hq0 : q0 = ((u * 4294967296 + t1 - q1 * (v1 * 4294967296 + v0)) * 4294967296 + t0) / (v1 * 4294967296 + v0)) : q1 * 4294967296 + q0 = (u * 18446744073709551616 + (t1 * 4294967296 + t0)) / (v1 * 4294967296 + v0) := by
  have hp := half_pos h
  have e : u * 18446744073709551616 + (t1 * 4294967296 + t0) = ((u * 4294967296 + t1 - q1 * (v1 * 4294967296 + v0)) * 4294967296 + t0) + (v1 * 4294967296 + v0) * (q1 * 4294967296) := by
    rw [← Int.mul_assoc, Int.mul_comm (v1 * 4294967296 + v0) q1]
    generalize q1 * (v1 * 4294967296 + v0) = m
    omega
  rw [e, Int.add_mul_ediv_left _ _ (by omega), ← hq0]
  omega
end Go.Proofs.YtphbfjcaehiboaaGreatDoor
namespace Go.Proofs.YtphbfjcaehiboaaGreatDoor

/-- The product of the lowest i limbs of x with y. -/
def pz (x y : Int) (i : Nat) : Int := (x % bp i) * y
theorem pz_zero (x y : Int) : pz x y 0 = 0 := by unfold pz; rw [mod_zero, Int.zero_mul]
theorem pz_bd (x : Int) {y : Int} {m : Nat} (i : Nat) (h0 : 0 ≤ y) (h1 : y < bp m) : 0 ≤ pz x y i ∧ pz x y i < bp (i + m) :=
  ⟨Int.mul_nonneg (mod_bd x i).1 h0, mul_lt_bp (mod_bd x i).1 h0 (mod_bd x i).2 h1⟩
theorem pz_succ (x y : Int) (i : Nat) : pz x y (i + 1) = pz x y i + bp i * (lz x i * y) := by
  unfold pz; rw [mod_succ, Int.add_mul, Int.mul_assoc]
theorem pz_end {x : Int} (y : Int) {n : Nat} (h0 : 0 ≤ x) (h1 : x < bp n) : pz x y n = x * y := by unfold pz; rw [mod_self h0 h1]
theorem pz_div (x y : Int) (i : Nat) : pz x y (i + 1) / bp i = 1 * (pz x y i / bp i) + lz x i * y := by rw [pz_succ, add_mul_div]; omega
/-- The carry at place i + j. -/
def pc (x y : Int) (i j : Nat) : Int := mx 1 (lz x i) (pz x y i / bp i) y j
theorem pc_zero (x y : Int) (i : Nat) : pc x y i 0 = 0 := mx_zero _ _ _ _
theorem pc_bd (x y : Int) (i j : Nat) : 0 ≤ pc x y i j ∧ pc x y i j ≤ 1000000000 := by
  have h := lz_bd x i
  have := mx_le (A := 1) (C := lz x i) (pz x y i / bp i) y j (by omega) h.1
  unfold pc
  omega
theorem pc_step (x y : Int) (i j : Nat) : (pc x y i j + (lz (pz x y i) (i + j) + lz x i * lz y j)) % 1000000000 = lz (pz x y (i + 1)) (i + j) ∧ (pc x y i j + (lz (pz x y i) (i + j) + lz x i * lz y j)) / 1000000000 = pc x y i (j + 1) := by
  have h := mx_step 1 (lz x i) (pz x y i / bp i) y j
  rw [lz_shift, ← pz_div, lz_shift, Int.one_mul] at h
  exact h
theorem pc_last (x : Int) {y : Int} {m : Nat} (i : Nat) (h0 : 0 ≤ y) (h1 : y < bp m) : pc x y i m = lz (pz x y (i + 1)) (i + m) := by
  obtain ⟨b0, b1⟩ := pz_bd x i h0 h1
  obtain ⟨d0, d1⟩ := pz_bd x (i + 1) h0 h1
  have e1 : 0 ≤ pz x y i / bp i := Int.ediv_nonneg b0 (Int.le_of_lt (bp_pos i))
  have e2 : pz x y i / bp i < bp m := by
    apply Int.ediv_lt_of_lt_mul (bp_pos i)
    rw [bp_add, Int.mul_comm] at b1
    exact b1
  unfold pc
  rw [mx_end e1 e2 h0 h1, ← pz_div, ← div_add]
  have e3 : 0 ≤ pz x y (i + 1) / bp (i + m) := Int.ediv_nonneg d0 (Int.le_of_lt (bp_pos _))
  have e4 : pz x y (i + 1) / bp (i + m) < 1000000000 := by
    apply Int.ediv_lt_of_lt_mul (bp_pos _)
    rw [show i + 1 + m = (i + m) + 1 by omega, bp_succ] at d1
    exact d1
  unfold lz
  rw [Int.emod_eq_of_lt e3 e4]
theorem pz_high (x : Int) {y : Int} {m : Nat} (i p : Nat) (h0 : 0 ≤ y) (h1 : y < bp m) (hp : i + m < p) : lz (pz x y i) p = lz (pz x y (i + 1)) p := by
  obtain ⟨b0, b1⟩ := pz_bd x i h0 h1
  obtain ⟨d0, d1⟩ := pz_bd x (i + 1) h0 h1
  rw [lz_high b0 b1 (by omega), lz_high d0 d1 (by omega)]
theorem pz_low (x y : Int) {i p : Nat} (hp : p < i) : lz (pz x y (i + 1)) p = lz (pz x y i) p := by rw [pz_succ, lz_low _ _ hp]
theorem limb_mul {a b : Int} (ha : 0 ≤ a ∧ a < 1000000000) (hb : 0 ≤ b ∧ b < 1000000000) : 0 ≤ a * b ∧ a * b ≤ 999999998000000001 := by
  refine ⟨Int.mul_nonneg ha.1 hb.1, ?_⟩
  have h1 := Int.mul_le_mul_of_nonneg_right (show a ≤ 999999999 by omega) hb.1
  omega
end Go.Proofs.YtphbfjcaehiboaaGreatDoor
namespace Go.Proofs.YtphbfjcaehiboaaGreatDoor
open Go.Lib

/-- The number of decimal digits of z (one for 0). -/
def dn (z : Int) : Nat := nDigits z.natAbs
/-- The text of z. -/
def tx (z : Int) : ByteArray := ⟨(itoa z).toArray⟩
/-- The digits of a natural number. -/
def td (n : Nat) : ByteArray := ⟨(decDigits n).toArray⟩

def isDig (c : UInt8) : Bool := decide (48 ≤ c.toNat) && decide (c.toNat ≤ 57)
def vald (d : List UInt8) : Nat := d.foldl (fun a c => 10 * a + (c.toNat - 48)) 0
theorem vald_snoc (d : List UInt8) (c : UInt8) : vald (d ++ [c]) = 10 * vald d + (c.toNat - 48) := by unfold vald; rw [List.foldl_append]; rfl
theorem vald_pos : ∀ (n : Nat) (d : List UInt8), d.length = n → d ≠ [] → (∀ c ∈ d, isDig c = true) → d.head? ≠ some 48 → 0 < vald d := by
  intro n
  induction n with
  | zero => intro d hl hne; exact absurd (List.length_eq_zero_iff.1 hl) hne
  | succ n ih =>
    intro d hl hne hall hh
    rcases List.eq_nil_or_concat d with rfl | ⟨l, c, hd⟩
    · exact absurd rfl hne
    · rw [List.concat_eq_append] at hd
      subst hd
      rw [vald_snoc]
      by_cases hl' : l = []
      · subst hl'
        have := hall c (by simp)
        simp [isDig] at this hh
        have hc : c.toNat ≠ 48 := fun e => hh (by rw [← UInt8.toNat_inj]; exact e)
        omega
      · have h1 := ih l (by simp at hl; omega) hl' (fun c hc => hall c (by simp [hc])) (by
          rw [List.head?_append] at hh
          intro e; rw [e] at hh; simp at hh)
        omega
theorem dec_vald : ∀ (n : Nat) (d : List UInt8), d.length = n → d ≠ [] → (∀ c ∈ d, isDig c = true) → (d.head? = some 48 → d.length = 1) → decDigits (vald d) = d := by
  intro n
  induction n with
  | zero => intro d hl hne; exact absurd (List.length_eq_zero_iff.1 hl) hne
  | succ n ih =>
    intro d hl hne hall hh
    rcases List.eq_nil_or_concat d with rfl | ⟨l, c, hd⟩
    · exact absurd rfl hne
    · rw [List.concat_eq_append] at hd
      subst hd
      rw [vald_snoc]
      have hc := hall c (by simp)
      simp [isDig] at hc
      by_cases hl' : l = []
      · subst hl'
        have e : 10 * vald [] + (c.toNat - 48) = c.toNat - 48 := by simp [vald]
        rw [e, decDigits_one (by omega), show 48 + (c.toNat - 48) = c.toNat by omega]
        simp
      · have hh' : l.head? ≠ some 48 := by
          intro e
          have := hh (by rw [List.head?_append, e]; rfl)
          simp at this
          exact hl' this
        have hp := vald_pos l.length l rfl hl' (fun c hc => hall c (by simp [hc])) hh'
        rw [decDigits, dif_neg (by omega), show (10 * vald l + (c.toNat - 48)) / 10 = vald l by omega, show (10 * vald l + (c.toNat - 48)) % 10 = c.toNat - 48 by omega,
          ih l (by simp at hl; omega) hl' (fun c hc => hall c (by simp [hc])) (fun e => absurd e hh'), show 48 + (c.toNat - 48) = c.toNat by omega]
        simp

/-- The digits of a text. -/
def digs (l : List UInt8) : List UInt8 := if l.head? = some 45 then l.tail else l
/-- Is the text an integer of at most 1000 digits? -/
def isT (l : List UInt8) : Bool := !(digs l).isEmpty && decide ((digs l).length ≤ 1000) && !((digs l).head? == some 48 && decide (1 < l.length)) && (digs l).all isDig

theorem dig_of {u j : Nat} : isDig (dg u j) = true ∧ (dg u j).toNat = 48 + u / 10 ^ j % 10 := by
  unfold dg isDig
  have : (UInt8.ofNat (48 + u / 10 ^ j % 10)).toNat = 48 + u / 10 ^ j % 10 := by rw [UInt8.toNat_ofNat']; omega
  rw [this]
  refine ⟨?_, rfl⟩
  simp; omega
theorem dec_all (u : Nat) : ∀ c ∈ decDigits u, isDig c = true := by
  intro c hc
  rw [decDigits_eq] at hc
  obtain ⟨t, _, rfl⟩ := List.mem_map.1 hc
  exact dig_of.1
theorem dec_ne (u : Nat) : decDigits u ≠ [] := by
  intro e
  have := decDigits_length u
  have h := nDigits_pos u
  rw [e] at this
  simp at this
  omega
theorem pow_nDigits_le (u : Nat) (h : 10 ≤ u) : 10 ^ (nDigits u - 1) ≤ u := by
  induction u using Nat.strongRecOn with
  | _ u ih =>
    rw [nDigits_big (by omega)]
    have hp := nDigits_pos (u / 10)
    rw [Nat.add_sub_cancel]
    by_cases h2 : u / 10 < 10
    · rw [nDigits_small h2]; omega
    · have := ih (u / 10) (by omega) (by omega)
      rw [show nDigits (u / 10) = (nDigits (u / 10) - 1) + 1 by omega, Nat.pow_succ]
      omega
theorem dec_head (u : Nat) : (decDigits u).head? = some (dg u (nDigits u - 1)) := by
  rw [decDigits_eq, List.head?_map, List.head?_range, if_neg (by have := nDigits_pos u; omega)]
  simp
theorem dec_head_48 (u : Nat) : (decDigits u).head? = some 48 ↔ u = 0 := by
  rw [dec_head]
  constructor
  · intro e
    by_cases h : u < 10
    · rw [nDigits_small h] at e
      have e2 := congrArg UInt8.toNat (Option.some.inj e)
      rw [dig_of.2] at e2
      simp at e2
      omega
    · have h1 := pow_nDigits_le u (by omega)
      have h2 := lt_pow_nDigits u
      have hp := nDigits_pos u
      have e2 := congrArg UInt8.toNat (Option.some.inj e)
      rw [dig_of.2] at e2
      have h3 : u / 10 ^ (nDigits u - 1) < 10 := by
        rw [Nat.div_lt_iff_lt_mul (Nat.pow_pos (by omega))]
        rw [show nDigits u = (nDigits u - 1) + 1 by omega, Nat.pow_succ] at h2
        rw [Nat.mul_comm]; exact h2
      have h4 : 1 ≤ u / 10 ^ (nDigits u - 1) := by
        rw [Nat.le_div_iff_mul_le (Nat.pow_pos (by omega))]; omega
      rw [Nat.mod_eq_of_lt h3] at e2
      simp at e2
      omega
  · rintro rfl; simp [nDigits_small, dg]
theorem dec_head_45 (u : Nat) : (decDigits u).head? ≠ some 45 := by
  rw [dec_head]
  intro e
  have e2 := congrArg UInt8.toNat (Option.some.inj e)
  rw [dig_of.2] at e2
  simp at e2
  omega
theorem digs_itoa (z : Int) : digs (itoa z) = decDigits z.natAbs := by
  unfold digs itoa
  by_cases h : z < 0
  · rw [if_pos h]; simp
  · rw [if_neg h, if_neg (dec_head_45 _), show z.toNat = z.natAbs by omega]
theorem itoa_length (z : Int) : (itoa z).length = dn z + if z < 0 then 1 else 0 := by
  unfold itoa dn
  by_cases h : z < 0
  · rw [if_pos h, if_pos h]; simp [decDigits_length]
  · rw [if_neg h, if_neg h, decDigits_length, show z.toNat = z.natAbs by omega]; rfl
theorem isT_itoa (z : Int) : isT (itoa z) = decide (dn z ≤ 1000) := by
  unfold isT
  rw [digs_itoa]
  have h1 : (decDigits z.natAbs).isEmpty = false := by
    have := dec_ne z.natAbs
    cases h : decDigits z.natAbs with
    | nil => exact absurd h this
    | cons => rfl
  have h2 : (decDigits z.natAbs).all isDig = true := List.all_eq_true.2 (dec_all _)
  have h3 : ((decDigits z.natAbs).head? == some 48 && decide (1 < (itoa z).length)) = false := by
    by_cases h : z = 0
    · subst h
      rw [show (itoa 0).length = 1 from by rw [itoa_length]; simp [dn, nDigits_small]]
      simp
    · have : (decDigits z.natAbs).head? ≠ some 48 := by rw [Ne, dec_head_48]; omega
      simp [this]
  rw [h1, h2, h3, decDigits_length]
  unfold dn
  simp only [Bool.not_false, Bool.true_and, Bool.and_true]
theorem isT_ex (l : List UInt8) (h : isT l = true) : ∃ z, l = itoa z ∧ dn z ≤ 1000 := by
  have key : ∃ z, l = itoa z := by
    unfold isT at h
    simp only [Bool.and_eq_true, Bool.not_eq_true', decide_eq_true_eq, List.all_eq_true] at h
    obtain ⟨⟨⟨h1, h2⟩, h3⟩, h4⟩ := h
    have hne : digs l ≠ [] := by intro e; rw [e] at h1; simp at h1
    by_cases hm : l.head? = some 45
    · have ed : digs l = l.tail := by unfold digs; rw [if_pos hm]
      rw [ed] at h1 h2 h3 h4 hne
      obtain ⟨c, r, rfl⟩ : ∃ c r, l = c :: r := by
        cases l with
        | nil => cases hm
        | cons c r => exact ⟨c, r, rfl⟩
      simp only [List.head?_cons, Option.some.injEq] at hm
      subst hm
      simp only [List.tail_cons] at h1 h2 h3 h4 hne
      have hl : 1 < (45 :: r).length := by
        cases r with
        | nil => exact absurd rfl hne
        | cons => simp
      rw [decide_eq_true hl, Bool.and_true, beq_eq_false_iff_ne] at h3
      have hv := dec_vald r.length r rfl hne h4 (fun e => absurd e h3)
      have hp := vald_pos r.length r rfl hne h4 h3
      refine ⟨-(vald r : Int), ?_⟩
      unfold itoa
      rw [if_pos (by omega), show (-(vald r : Int)).natAbs = vald r by omega, hv]
    · have ed : digs l = l := by unfold digs; rw [if_neg hm]
      rw [ed] at h1 h2 h3 h4 hne
      have hv := dec_vald l.length l rfl hne h4 (fun e => by
        rw [e] at h3
        have : 0 < l.length := List.length_pos_iff.2 hne
        simp at h3
        omega)
      refine ⟨(vald l : Int), ?_⟩
      unfold itoa
      rw [if_neg (by omega), show ((vald l : Int)).toNat = vald l by omega, hv]
  obtain ⟨z, rfl⟩ := key
  rw [isT_itoa] at h
  exact ⟨z, rfl, of_decide_eq_true h⟩

theorem decDigits_inj {u v : Nat} (h : decDigits u = decDigits v) : u = v := by
  have key : ∀ n, vald (decDigits n) = n := by
    intro n
    induction n using Nat.strongRecOn with
    | _ n ih =>
      by_cases hn : n < 10
      · rw [decDigits_one hn]
        simp [vald]
        omega
      · rw [decDigits, dif_neg hn, vald_snoc, ih _ (by omega), UInt8.toNat_ofNat']
        omega
  rw [← key u, ← key v, h]
theorem itoa_inj {a b : Int} (h : itoa a = itoa b) : a = b := by
  have h1 : a.natAbs = b.natAbs := decDigits_inj (by rw [← digs_itoa, ← digs_itoa, h])
  have h2 : a < 0 ↔ b < 0 := by
    have key : ∀ z : Int, (itoa z).head? = some 45 ↔ z < 0 := by
      intro z
      unfold itoa
      by_cases hz : z < 0
      · simp [hz]
      · rw [if_neg hz]; simp [hz, dec_head_45]
    rw [← key, ← key, h]
  omega
theorem tx_inj {a b : Int} : tx a = tx b ↔ a = b := by
  constructor
  · intro h
    have := congrArg (fun s : ByteArray => s.data.toList) h
    exact itoa_inj (by simpa [tx] using this)
  · rintro rfl; rfl
theorem tx_list (z : Int) : (tx z).data.toList = itoa z := by simp [tx]
theorem tx_size (z : Int) : (tx z).size = dn z + if z < 0 then 1 else 0 := by rw [← itoa_length]; simp [tx, ByteArray.size]
theorem td_list (n : Nat) : (td n).data.toList = decDigits n := by simp [td]
theorem td_size (n : Nat) : (td n).size = nDigits n := by rw [← decDigits_length]; simp [td, ByteArray.size]
theorem ba_ext {s t : ByteArray} (h : s.data.toList = t.data.toList) : s = t := by
  cases s; cases t; simp at h; rw [h]
theorem tx_pos {z : Int} (h : 0 ≤ z) : tx z = td z.natAbs := by
  apply ba_ext; rw [tx_list, td_list]; unfold itoa; rw [if_neg (by omega), show z.toNat = z.natAbs by omega]
/-- Each text is that of an integer, or is none. -/
theorem tx_or (s : ByteArray) : (∃ z, s = tx z ∧ dn z ≤ 1000) ∨ isT s.data.toList = false := by
  cases h : isT s.data.toList with
  | false => exact .inr rfl
  | true =>
    obtain ⟨z, e, hz⟩ := isT_ex _ h
    exact .inl ⟨z, ba_ext (by rw [e, tx_list]), hz⟩
theorem isT_tx {z : Int} (h : dn z ≤ 1000) : isT (tx z).data.toList = true := by rw [tx_list, isT_itoa]; simpa using h
theorem isT_tx_no {z : Int} (h : 1000 < dn z) : isT (tx z).data.toList = false := by rw [tx_list, isT_itoa]; simp; omega
theorem dn_pos (z : Int) : 1 ≤ dn z := nDigits_pos _
theorem dn_zero : dn 0 = 1 := by simp [dn, nDigits_small]
theorem dn_neg (z : Int) : dn (-z) = dn z := by unfold dn; rw [Int.natAbs_neg]
theorem td_get (n t : Nat) (h : t < (td n).size) : ((td n)[t]'h).toNat = 48 + n / 10 ^ (nDigits n - 1 - t) % 10 := by
  have h' : t < nDigits n := by rw [td_size] at h; exact h
  have e : (td n)[t]'h = dg n (nDigits n - 1 - t) := by
    show (decDigits n).toArray[t]'_ = _
    simp [decDigits_eq]
  rw [e, dig_of.2]
end Go.Proofs.YtphbfjcaehiboaaGreatDoor
namespace Go.Proofs.YtphbfjcaehiboaaGreatDoor
open Go.Lib

theorem ten_nine : Ten.bp 9 = 1000000000 := by unfold Ten.bp; decide
theorem bp_ten (k : Nat) : bp k = Ten.bp (9 * k) := by
  induction k with
  | zero => rfl
  | succ k ih => rw [bp_succ, show 9 * (k + 1) = 9 * k + 9 by omega, Ten.bp_add, ten_nine, ih, Int.mul_comm]
theorem ten_bp_cast (k : Nat) : Ten.bp k = ((10 ^ k : Nat) : Int) := by unfold Ten.bp; simp
theorem ten_nl_step {t : Int} (h : 0 < t) : Ten.nl t = Ten.nl (t / 10) + 1 := by
  unfold Ten.nl
  rw [Ten.nlN, dif_neg (by omega), show (t / 10).toNat = t.toNat / 10 by omega]
theorem nDig_ten (u : Nat) (h : 0 < u) : nDigits u = Ten.nlN u := by
  induction u using Nat.strongRecOn with
  | _ u ih =>
    rw [Ten.nlN, dif_neg (by omega)]
    by_cases h2 : u < 10
    · rw [nDigits_small h2, show u / 10 = 0 by omega, Ten.nlN]; simp
    · rw [nDigits_big h2, ih (u / 10) (by omega) (by omega)]
theorem dn_ten {x : Int} (h : 0 < x) : dn x = Ten.nl x := by
  unfold dn Ten.nl
  rw [nDig_ten _ (by omega), show x.natAbs = x.toNat by omega]
theorem ten_nl_split {x : Int} {k : Nat} (h0 : 0 ≤ x) (h : nl x = k + 1) : Ten.nl x = 9 * k + Ten.nl (lz x k) := by
  obtain ⟨h1, h2⟩ := lz_top h0 h
  obtain ⟨m, hm⟩ : ∃ m, Ten.nl (lz x k) = m + 1 := ⟨Ten.nl (lz x k) - 1, by have := Ten.nl_pos (show 0 < lz x k by omega); omega⟩
  have h3 := Ten.nl_ge hm
  have h4 := Ten.nl_lt (x := lz x k) (by omega)
  rw [hm] at h4
  rw [h1] at h3 h4
  have hp := bp_pos k
  have e1 := Int.mul_ediv_add_emod x (bp k)
  obtain ⟨e2, e3⟩ := mod_bd x k
  have g1 := Int.mul_le_mul_of_nonneg_left h3 (Int.le_of_lt hp)
  have g2 := Int.mul_le_mul_of_nonneg_left (show x / bp k + 1 ≤ Ten.bp (m + 1) by omega) (Int.le_of_lt hp)
  rw [Int.mul_add, Int.mul_one] at g2
  rw [hm, show 9 * k + (m + 1) = (9 * k + m) + 1 by omega]
  apply Ten.nl_eq
  · rw [Ten.bp_add, ← bp_ten]; omega
  · rw [show 9 * k + m + 1 = 9 * k + (m + 1) by omega, Ten.bp_add, ← bp_ten]; omega
/-- The digits of a number by its limbs. -/
theorem dn_split {x : Int} {k : Nat} (h0 : 0 ≤ x) (h : nl x = k + 1) : dn x = 9 * k + Ten.nl (lz x k) := by
  have : 0 < x := by have := nl_ge h; have := bp_pos k; omega
  rw [dn_ten this, ten_nl_split h0 h]
theorem ten_nl_limb (x : Int) (k : Nat) : Ten.nl (lz x k) ≤ 9 := Ten.nl_le (by rw [ten_nine]; exact (lz_bd x k).2)
theorem dn_nl {x : Int} (h : 0 ≤ x) : dn x ≤ 9 * nl x + 1 := by
  cases hk : nl x with
  | zero => rw [(nl_eq_zero h).1 hk, dn_zero]; omega
  | succ k => rw [dn_split h hk]; have := ten_nl_limb x k; omega
theorem nl_dn {x : Int} (h : 0 ≤ x) : 9 * nl x ≤ dn x + 8 := by
  cases hk : nl x with
  | zero => omega
  | succ k =>
    rw [dn_split h hk]
    have h1 := (lz_top h hk).2
    have := Ten.nl_pos (show 0 < lz x k by omega)
    omega
theorem nl_112 {x : Int} (h : 0 ≤ x) (hd : dn x ≤ 1000) : nl x ≤ 112 := by have := nl_dn h; omega
theorem dn_mono {x y : Int} (h0 : 0 ≤ x) (h : x ≤ y) : dn x ≤ dn y := by
  by_cases hx : x = 0
  · rw [hx, dn_zero]; exact dn_pos y
  · rw [dn_ten (by omega), dn_ten (by omega)]; exact Ten.nl_mono (by omega) h
theorem dn_abs (z : Int) : dn (z.natAbs : Int) = dn z := by unfold dn; rw [Int.natAbs_natCast]
theorem dn_lt {x : Int} (h : 0 ≤ x) : x < Ten.bp (dn x) := by
  by_cases hx : x = 0
  · rw [hx]; exact Ten.bp_pos _
  · rw [dn_ten (by omega)]; exact Ten.nl_lt h
theorem dn_le {x : Int} {k : Nat} (h : 0 ≤ x) (hk : 1 ≤ k) (hx : x < Ten.bp k) : dn x ≤ k := by
  by_cases h0 : x = 0
  · rw [h0, dn_zero]; exact hk
  · rw [dn_ten (by omega)]; exact Ten.nl_le hx
/-- Digit s of limb k. -/
theorem lz_digit (x : Int) (k s : Nat) (hs : s < 9) : lz x k / Ten.bp s % 10 = Ten.lz x (9 * k + s) := by
  show _ = x / Ten.bp (9 * k + s) % 10
  rw [Ten.div_add, ← bp_ten]
  unfold lz
  generalize x / bp k = y
  have e : (1000000000 : Int) = Ten.bp s * Ten.bp (8 - s + 1) := by rw [← Ten.bp_add, ← ten_nine]; congr 1; omega
  have h1 := Int.emod_add_mul_ediv y 1000000000
  generalize y / 1000000000 = q at h1
  generalize y % 1000000000 = r at h1
  rw [← h1, e, Int.mul_assoc, Ten.add_mul_div, Ten.bp_succ, Int.mul_assoc]
  omega
end Go.Proofs.YtphbfjcaehiboaaGreatDoor
