/-
  Plain arithmetic behind the reference of package whole: decimal digits, their number, and the carries of sums, differences and products.
  Decimal texts of integers: which texts are integers, and the text of each integer is one.
  Limbs and decimal digits: nine digits are a limb.
  What whole.split returns: the sign and the digits of a text, or that it is no integer.
  What whole.Of returns: the text of a number of one word.
  What the cards of this stage share: the listed tables, as their initialisers lay them.
-/
import Derived.Lib.ItoaNum
import Derived.Test.YtkhebidmfjbhaaaGreatDoorZ01
import Derived.Test.YtkhebidmfjbhaaaGreatDoorShelf
import Derived.Lib.AppendIntMem
import Derived.Test.YtkhebidmfjbhaaaGreatDoorCards
import Derived.Test.YtkhebidmfjbhaaaGreatDoorTie
import Derived.ProofKit
import Derived.OpenShut
import Derived.Deep.DeepHandedRow
import Derived.Lib.LaidTab
namespace Go.Proofs.YtkhebidmfjbhaaaGreatDoor.Ten

/-- The base to the power of j. -/
def bp (j : Nat) : Int := 10 ^ j
theorem bp_zero : bp 0 = 1 := rfl
theorem bp_one : bp 1 = 10 := by unfold bp; decide
theorem bp_succ (j : Nat) : bp (j + 1) = 10 * bp j := by unfold bp; rw [Int.pow_succ, Int.mul_comm]
theorem bp_pos (j : Nat) : 0 < bp j := by
  induction j with
  | zero => rw [bp_zero]; omega
  | succ j ih => rw [bp_succ]; omega
theorem bp_add (i j : Nat) : bp (i + j) = bp i * bp j := by unfold bp; rw [Int.pow_add]
theorem bp_mono {i j : Nat} (h : i ≤ j) : bp i ≤ bp j := by
  obtain ⟨k, rfl⟩ := Nat.exists_eq_add_of_le h
  rw [bp_add]
  have h1 := bp_pos i
  have h2 := bp_pos k
  have := Int.mul_le_mul_of_nonneg_left (show 1 ≤ bp k by omega) (Int.le_of_lt h1)
  omega
/-- Limb j of z. -/
def lz (z : Int) (j : Nat) : Int := z / bp j % 10
theorem lz_bd (z : Int) (j : Nat) : 0 ≤ lz z j ∧ lz z j < 10 := ⟨Int.emod_nonneg _ (by omega), Int.emod_lt_of_pos _ (by omega)⟩
theorem div_succ (z : Int) (i : Nat) : z / bp (i + 1) = z / bp i / 10 := by
  rw [bp_succ, Int.mul_comm, Int.ediv_ediv_of_nonneg (Int.le_of_lt (bp_pos i))]
theorem div_add (z : Int) (i j : Nat) : z / bp (i + j) = z / bp i / bp j := by
  rw [bp_add, Int.ediv_ediv_of_nonneg (Int.le_of_lt (bp_pos i))]
theorem lz_shift (z : Int) (i j : Nat) : lz (z / bp i) j = lz z (i + j) := by unfold lz; rw [div_add]
theorem div_split (z : Int) (i : Nat) : z / bp i = 10 * (z / bp (i + 1)) + lz z i := by
  rw [div_succ]; unfold lz; omega
theorem mod_succ (z : Int) (i : Nat) : z % bp (i + 1) = z % bp i + bp i * lz z i := by
  have h1 := Int.emod_add_mul_ediv z (bp i)
  have h2 := Int.emod_add_mul_ediv z (bp (i + 1))
  have h3 := div_split z i
  have h4 : bp i * (z / bp i) = bp (i + 1) * (z / bp (i + 1)) + bp i * lz z i := by
    rw [h3, Int.mul_add, bp_succ, ← Int.mul_assoc, Int.mul_comm (bp i) 10]
  omega
theorem add_mul_div (z t : Int) (i : Nat) : (z + bp i * t) / bp i = z / bp i + t := Int.add_mul_ediv_left _ _ (by have := bp_pos i; omega)
theorem lz_low (z t : Int) {i j : Nat} (h : j < i) : lz (z + bp i * t) j = lz z j := by
  unfold lz
  obtain ⟨k, rfl⟩ : ∃ k, i = j + (k + 1) := ⟨i - j - 1, by omega⟩
  rw [bp_add, bp_succ, Int.mul_assoc, Int.mul_assoc, add_mul_div]
  omega
theorem div_zero {z : Int} {n : Nat} (h0 : 0 ≤ z) (h : z < bp n) : z / bp n = 0 := Int.ediv_eq_zero_of_lt h0 h
theorem mod_self {z : Int} {n : Nat} (h0 : 0 ≤ z) (h : z < bp n) : z % bp n = z := Int.emod_eq_of_lt h0 h
theorem lz_high {z : Int} {n j : Nat} (h0 : 0 ≤ z) (h : z < bp n) (hj : n ≤ j) : lz z j = 0 := by
  unfold lz
  rw [div_zero h0 (Int.lt_of_lt_of_le h (bp_mono hj))]
  rfl
theorem mod_zero (z : Int) : z % bp 0 = 0 := by rw [bp_zero]; omega
theorem div_bp_zero (z : Int) : z / bp 0 = z := by rw [bp_zero]; omega
theorem mod_bd (z : Int) (i : Nat) : 0 ≤ z % bp i ∧ z % bp i < bp i := ⟨Int.emod_nonneg _ (by have := bp_pos i; omega), Int.emod_lt_of_pos _ (bp_pos i)⟩
/-- Two numbers with the same limbs are equal. -/
theorem lz_ext {x y : Int} : ∀ {n : Nat}, 0 ≤ x → x < bp n → 0 ≤ y → y < bp n → (∀ j, j < n → lz x j = lz y j) → x = y := by
  intro n hx hx' hy hy' h
  have key : ∀ k, k ≤ n → x / bp (n - k) = y / bp (n - k) := by
    intro k
    induction k with
    | zero => intro _; rw [Nat.sub_zero, div_zero hx hx', div_zero hy hy']
    | succ k ih =>
      intro hk
      have := ih (by omega)
      rw [div_split x, div_split y, show n - (k + 1) + 1 = n - k by omega, this, h _ (by omega)]
  have := key n (Nat.le_refl _)
  rwa [Nat.sub_self, div_bp_zero, div_bp_zero] at this

/-! ### The number of limbs -/
def nlN (x : Nat) : Nat := if h : x = 0 then 0 else nlN (x / 10) + 1
termination_by x
decreasing_by omega
/-- How many limbs x has. -/
def nl (x : Int) : Nat := nlN x.toNat
theorem nl_zero : nl 0 = 0 := by unfold nl; rw [nlN]; simp
theorem nlN_lt (x : Nat) : (x : Int) < bp (nlN x) := by
  induction x using Nat.strongRecOn with
  | _ x ih =>
    by_cases h : x = 0
    · subst h; rw [nlN]; simp [bp_zero]
    · rw [nlN, dif_neg h, bp_succ]
      have := ih (x / 10) (by omega)
      omega
theorem nlN_ge (x : Nat) (k : Nat) (h : nlN x = k + 1) : bp k ≤ (x : Int) := by
  induction k generalizing x with
  | zero =>
    rw [bp_zero]
    by_cases h0 : x = 0
    · subst h0; rw [nlN] at h; simp at h
    · omega
  | succ k ih =>
    by_cases h0 : x = 0
    · subst h0; rw [nlN] at h; simp at h
    · rw [nlN, dif_neg h0] at h
      have := ih (x / 10) (by omega)
      rw [bp_succ]
      omega
theorem nl_lt {x : Int} (h : 0 ≤ x) : x < bp (nl x) := by
  have := nlN_lt x.toNat
  unfold nl
  omega
theorem nl_ge {x : Int} {k : Nat} (h : nl x = k + 1) : bp k ≤ x := by
  have := nlN_ge x.toNat k h
  have h2 := bp_pos k
  omega
theorem nl_le {x : Int} {k : Nat} (h : x < bp k) : nl x ≤ k := by
  rcases Nat.lt_or_ge k (nl x) with h1 | h1
  · obtain ⟨m, hm⟩ : ∃ m, nl x = m + 1 := ⟨nl x - 1, by omega⟩
    have h2 := nl_ge hm
    have h3 := bp_mono (show k ≤ m by omega)
    omega
  · exact h1
theorem nl_eq {x : Int} {k : Nat} (h1 : bp k ≤ x) (h2 : x < bp (k + 1)) : nl x = k + 1 := by
  have h3 := nl_le h2
  have h4 : k < nl x := by
    rcases Nat.lt_or_ge k (nl x) with h | h
    · exact h
    · have h5 := nl_lt (x := x) (by have := bp_pos k; omega)
      have h6 := bp_mono h
      omega
  omega
theorem nl_pos {x : Int} (h : 0 < x) : 0 < nl x := by
  rcases Nat.eq_zero_or_pos (nl x) with e | e
  · have := nl_lt (x := x) (by omega)
    rw [e, bp_zero] at this
    omega
  · exact e
theorem nl_mono {x y : Int} (hy : 0 ≤ y) (h : x ≤ y) : nl x ≤ nl y := nl_le (by have := nl_lt hy; omega)
theorem mul_lt_bp {x y : Int} {i j : Nat} (_hx : 0 ≤ x) (hy : 0 ≤ y) (h1 : x < bp i) (h2 : y < bp j) : x * y < bp (i + j) := by
  rw [bp_add]
  have h3 := Int.mul_le_mul_of_nonneg_right (Int.le_of_lt h1) hy
  have h4 := Int.mul_lt_mul_of_pos_left h2 (bp_pos i)
  omega
/-- Where the highest limb is not 0. -/
theorem nl_of_top {x : Int} {k : Nat} (h0 : 0 ≤ x) (h1 : x < bp (k + 1)) (h2 : lz x k ≠ 0) : nl x = k + 1 := by
  apply nl_eq _ h1
  rcases Int.lt_or_le x (bp k) with h | h
  · exact absurd (lz_high h0 h (Nat.le_refl k)) h2
  · exact h
theorem lt_of_top {x : Int} {k : Nat} (h0 : 0 ≤ x) (h1 : x < bp (k + 1)) (h2 : lz x k = 0) : x < bp k := by
  have h3 := div_split x k
  rw [div_zero h0 h1, h2] at h3
  have h4 := Int.emod_add_mul_ediv x (bp k)
  have h5 := (mod_bd x k).2
  rw [h3] at h4
  omega

/-! ### The carry of A x + C y -/
def mx (A C x y : Int) (i : Nat) : Int := (A * (x % bp i) + C * (y % bp i)) / bp i
theorem mx_zero (A C x y : Int) : mx A C x y 0 = 0 := by unfold mx; rw [mod_zero, mod_zero]; simp [bp_zero]
theorem mx_all (A C x y : Int) (i : Nat) : A * x + C * y = (A * (x % bp i) + C * (y % bp i)) + bp i * (A * (x / bp i) + C * (y / bp i)) := by
  have h1 := Int.emod_add_mul_ediv x (bp i)
  have h2 := Int.emod_add_mul_ediv y (bp i)
  have h3 : A * x = A * (x % bp i) + bp i * (A * (x / bp i)) := by
    rw [Int.mul_left_comm (bp i), ← Int.mul_add, h1]
  have h4 : C * y = C * (y % bp i) + bp i * (C * (y / bp i)) := by
    rw [Int.mul_left_comm (bp i), ← Int.mul_add, h2]
  rw [h3, h4, Int.mul_add]
  generalize A * (x % bp i) = a at *
  generalize C * (y % bp i) = c at *
  omega
theorem mx_sum (A C x y : Int) (i : Nat) : (A * (x % bp (i + 1)) + C * (y % bp (i + 1))) = (A * (x % bp i) + C * (y % bp i)) + bp i * (A * lz x i + C * lz y i) := by
  rw [mod_succ x, mod_succ y, Int.mul_add A, Int.mul_add C, Int.mul_add (bp i), Int.mul_left_comm A, Int.mul_left_comm C]
  omega
theorem mx_step (A C x y : Int) (i : Nat) : (mx A C x y i + (A * lz x i + C * lz y i)) % 10 = lz (A * x + C * y) i ∧ (mx A C x y i + (A * lz x i + C * lz y i)) / 10 = mx A C x y (i + 1) := by
  have e : mx A C x y i + (A * lz x i + C * lz y i) = (A * (x % bp (i + 1)) + C * (y % bp (i + 1))) / bp i := by
    rw [mx_sum, add_mul_div]; rfl
  refine ⟨?_, ?_⟩
  · rw [e]
    show lz (A * (x % bp (i + 1)) + C * (y % bp (i + 1))) i = _
    rw [mx_all A C x y (i + 1), lz_low _ _ (Nat.lt_succ_self i)]
  · rw [e, ← div_succ]; rfl
theorem mx_end {A C x y : Int} {n : Nat} (hx : 0 ≤ x) (hx' : x < bp n) (hy : 0 ≤ y) (hy' : y < bp n) : mx A C x y n = (A * x + C * y) / bp n := by
  unfold mx; rw [mod_self hx hx', mod_self hy hy']
/-- The carry is small. -/
theorem mx_le {A C : Int} (x y : Int) (i : Nat) (hA : 0 ≤ A) (hC : 0 ≤ C) : 0 ≤ mx A C x y i ∧ mx A C x y i ≤ A + C := by
  obtain ⟨x0, x1⟩ := mod_bd x i
  obtain ⟨y0, y1⟩ := mod_bd y i
  have hp := bp_pos i
  have a0 := Int.mul_nonneg hA x0
  have c0 := Int.mul_nonneg hC y0
  have a1 := Int.mul_le_mul_of_nonneg_left (Int.le_of_lt x1) hA
  have c1 := Int.mul_le_mul_of_nonneg_left (Int.le_of_lt y1) hC
  refine ⟨Int.ediv_nonneg (by omega) (by omega), ?_⟩
  apply Int.ediv_le_of_le_mul hp
  rw [Int.add_mul]
  omega
end Go.Proofs.YtkhebidmfjbhaaaGreatDoor.Ten
namespace Go.Proofs.YtkhebidmfjbhaaaGreatDoor
open Go.Lib

/-- The number of decimal digits of z (one for 0). -/
def dn (z : Int) : Nat := nDigits z.natAbs
/-- The text of z. -/
def tx (z : Int) : ByteArray := ⟨(itoa z).toArray⟩
/-- The digits of a natural number. -/
def td (n : Nat) : ByteArray := ⟨(decDigits n).toArray⟩

def isDig (c : UInt8) : Bool := decide (48 ≤ c.toNat) && decide (c.toNat ≤ 57)
def vald (d : List UInt8) : Nat := d.foldl (fun a c => 10 * a + (c.toNat - 48)) 0
theorem vald_snoc (d : List UInt8) (c : UInt8) : vald (d ++ [c]) = 10 * vald d + (c.toNat - 48) := by unfold vald; rw [List.foldl_append]; rfl
theorem vald_pos : ∀ (n : Nat) (d : List UInt8), d.length = n → d ≠ [] → (∀ c ∈ d, isDig c = true) → d.head? ≠ some 48 → 0 < vald d := by
  intro n
  induction n with
  | zero => intro d hl hne; exact absurd (List.length_eq_zero_iff.1 hl) hne
  | succ n ih =>
    intro d hl hne hall hh
    rcases List.eq_nil_or_concat d with rfl | ⟨l, c, hd⟩
    · exact absurd rfl hne
    · rw [List.concat_eq_append] at hd
      subst hd
      rw [vald_snoc]
      by_cases hl' : l = []
      · subst hl'
        have := hall c (by simp)
        simp [isDig] at this hh
        have hc : c.toNat ≠ 48 := fun e => hh (by rw [← UInt8.toNat_inj]; exact e)
        omega
      · have h1 := ih l (by simp at hl; omega) hl' (fun c hc => hall c (by simp [hc])) (by
          rw [List.head?_append] at hh
          intro e; rw [e] at hh; simp at hh)
        omega
theorem dec_vald : ∀ (n : Nat) (d : List UInt8), d.length = n → d ≠ [] → (∀ c ∈ d, isDig c = true) → (d.head? = some 48 → d.length = 1) → decDigits (vald d) = d := by
  intro n
  induction n with
  | zero => intro d hl hne; exact absurd (List.length_eq_zero_iff.1 hl) hne
  | succ n ih =>
    intro d hl hne hall hh
    rcases List.eq_nil_or_concat d with rfl | ⟨l, c, hd⟩
    · exact absurd rfl hne
    · rw [List.concat_eq_append] at hd
      subst hd
      rw [vald_snoc]
      have hc := hall c (by simp)
      simp [isDig] at hc
      by_cases hl' : l = []
      · subst hl'
        have e : 10 * vald [] + (c.toNat - 48) = c.toNat - 48 := by simp [vald]
        rw [e, decDigits_one (by omega), show 48 + (c.toNat - 48) = c.toNat by omega]
        simp
      · have hh' : l.head? ≠ some 48 := by
          intro e
          have := hh (by rw [List.head?_append, e]; rfl)
          simp at this
          exact hl' this
        have hp := vald_pos l.length l rfl hl' (fun c hc => hall c (by simp [hc])) hh'
        rw [decDigits, dif_neg (by omega), show (10 * vald l + (c.toNat - 48)) / 10 = vald l by omega, show (10 * vald l + (c.toNat - 48)) % 10 = c.toNat - 48 by omega,
          ih l (by simp at hl; omega) hl' (fun c hc => hall c (by simp [hc])) (fun e => absurd e hh'), show 48 + (c.toNat - 48) = c.toNat by omega]
        simp

/-- The digits of a text. -/
def digs (l : List UInt8) : List UInt8 := if l.head? = some 45 then l.tail else l
/-- Is the text an integer of at most 1000 digits? -/
def isT (l : List UInt8) : Bool := !(digs l).isEmpty && decide ((digs l).length ≤ 1000) && !((digs l).head? == some 48 && decide (1 < l.length)) && (digs l).all isDig

theorem dig_of {u j : Nat} : isDig (dg u j) = true ∧ (dg u j).toNat = 48 + u / 10 ^ j % 10 := by
  unfold dg isDig
  have : (UInt8.ofNat (48 + u / 10 ^ j % 10)).toNat = 48 + u / 10 ^ j % 10 := by rw [UInt8.toNat_ofNat']; omega
  rw [this]
  refine ⟨?_, rfl⟩
  simp; omega
theorem dec_all (u : Nat) : ∀ c ∈ decDigits u, isDig c = true := by
  intro c hc
  rw [decDigits_eq] at hc
  obtain ⟨t, _, rfl⟩ := List.mem_map.1 hc
  exact dig_of.1
theorem dec_ne (u : Nat) : decDigits u ≠ [] := by
  intro e
  have := decDigits_length u
  have h := nDigits_pos u
  rw [e] at this
  simp at this
  omega
theorem pow_nDigits_le (u : Nat) (h : 10 ≤ u) : 10 ^ (nDigits u - 1) ≤ u := by
  induction u using Nat.strongRecOn with
  | _ u ih =>
    rw [nDigits_big (by omega)]
    have hp := nDigits_pos (u / 10)
    rw [Nat.add_sub_cancel]
    by_cases h2 : u / 10 < 10
    · rw [nDigits_small h2]; omega
    · have := ih (u / 10) (by omega) (by omega)
      rw [show nDigits (u / 10) = (nDigits (u / 10) - 1) + 1 by omega, Nat.pow_succ]
      omega
theorem dec_head (u : Nat) : (decDigits u).head? = some (dg u (nDigits u - 1)) := by
  rw [decDigits_eq, List.head?_map, List.head?_range, if_neg (by have := nDigits_pos u; omega)]
  simp
theorem dec_head_48 (u : Nat) : (decDigits u).head? = some 48 ↔ u = 0 := by
  rw [dec_head]
  constructor
  · intro e
    by_cases h : u < 10
    · rw [nDigits_small h] at e
      have e2 := congrArg UInt8.toNat (Option.some.inj e)
      rw [dig_of.2] at e2
      simp at e2
      omega
    · have h1 := pow_nDigits_le u (by omega)
      have h2 := lt_pow_nDigits u
      have hp := nDigits_pos u
      have e2 := congrArg UInt8.toNat (Option.some.inj e)
      rw [dig_of.2] at e2
      have h3 : u / 10 ^ (nDigits u - 1) < 10 := by
        rw [Nat.div_lt_iff_lt_mul (Nat.pow_pos (by omega))]
        rw [show nDigits u = (nDigits u - 1) + 1 by omega, Nat.pow_succ] at h2
        rw [Nat.mul_comm]; exact h2
      have h4 : 1 ≤ u / 10 ^ (nDigits u - 1) := by
        rw [Nat.le_div_iff_mul_le (Nat.pow_pos (by omega))]; omega
      rw [Nat.mod_eq_of_lt h3] at e2
      simp at e2
      omega
  · rintro rfl; simp [nDigits_small, dg]
theorem dec_head_45 (u : Nat) : (decDigits u).head? ≠ some 45 := by
  rw [dec_head]
  intro e
  have e2 := congrArg UInt8.toNat (Option.some.inj e)
  rw [dig_of.2] at e2
  simp at e2
  omega
theorem digs_itoa (z : Int) : digs (itoa z) = decDigits z.natAbs := by
  unfold digs itoa
  by_cases h : z < 0
  · rw [if_pos h]; simp
  · rw [if_neg h, if_neg (dec_head_45 _), show z.toNat = z.natAbs by omega]
theorem itoa_length (z : Int) : (itoa z).length = dn z + if z < 0 then 1 else 0 := by
  unfold itoa dn
  by_cases h : z < 0
  · rw [if_pos h, if_pos h]; simp [decDigits_length]
  · rw [if_neg h, if_neg h, decDigits_length, show z.toNat = z.natAbs by omega]; rfl
theorem isT_itoa (z : Int) : isT (itoa z) = decide (dn z ≤ 1000) := by
  unfold isT
  rw [digs_itoa]
  have h1 : (decDigits z.natAbs).isEmpty = false := by
    have := dec_ne z.natAbs
    cases h : decDigits z.natAbs with
    | nil => exact absurd h this
    | cons => rfl
  have h2 : (decDigits z.natAbs).all isDig = true := List.all_eq_true.2 (dec_all _)
  have h3 : ((decDigits z.natAbs).head? == some 48 && decide (1 < (itoa z).length)) = false := by
    by_cases h : z = 0
    · subst h
      rw [show (itoa 0).length = 1 from by rw [itoa_length]; simp [dn, nDigits_small]]
      simp
    · have : (decDigits z.natAbs).head? ≠ some 48 := by rw [Ne, dec_head_48]; omega
      simp [this]
  rw [h1, h2, h3, decDigits_length]
  unfold dn
  simp only [Bool.not_false, Bool.true_and, Bool.and_true]
theorem isT_ex (l : List UInt8) (h : isT l = true) : ∃ z, l = itoa z ∧ dn z ≤ 1000 := by
  have key : ∃ z, l = itoa z := by
    unfold isT at h
    simp only [Bool.and_eq_true, Bool.not_eq_true', decide_eq_true_eq, List.all_eq_true] at h
    obtain ⟨⟨⟨h1, h2⟩, h3⟩, h4⟩ := h
    have hne : digs l ≠ [] := by intro e; rw [e] at h1; simp at h1
    by_cases hm : l.head? = some 45
    · have ed : digs l = l.tail := by unfold digs; rw [if_pos hm]
      rw [ed] at h1 h2 h3 h4 hne
      obtain ⟨c, r, rfl⟩ : ∃ c r, l = c :: r := by
        cases l with
        | nil => cases hm
        | cons c r => exact ⟨c, r, rfl⟩
      simp only [List.head?_cons, Option.some.injEq] at hm
      subst hm
      simp only [List.tail_cons] at h1 h2 h3 h4 hne
      have hl : 1 < (45 :: r).length := by
        cases r with
        | nil => exact absurd rfl hne
        | cons => simp
      rw [decide_eq_true hl, Bool.and_true, beq_eq_false_iff_ne] at h3
      have hv := dec_vald r.length r rfl hne h4 (fun e => absurd e h3)
      have hp := vald_pos r.length r rfl hne h4 h3
      refine ⟨-(vald r : Int), ?_⟩
      unfold itoa
      rw [if_pos (by omega), show (-(vald r : Int)).natAbs = vald r by omega, hv]
    · have ed : digs l = l := by unfold digs; rw [if_neg hm]
      rw [ed] at h1 h2 h3 h4 hne
      have hv := dec_vald l.length l rfl hne h4 (fun e => by
        rw [e] at h3
        have : 0 < l.length := List.length_pos_iff.2 hne
        simp at h3
        omega)
      refine ⟨(vald l : Int), ?_⟩
      unfold itoa
      rw [if_neg (by omega), show ((vald l : Int)).toNat = vald l by omega, hv]
  obtain ⟨z, rfl⟩ := key
  rw [isT_itoa] at h
  exact ⟨z, rfl, of_decide_eq_true h⟩

theorem decDigits_inj {u v : Nat} (h : decDigits u = decDigits v) : u = v := by
  have key : ∀ n, vald (decDigits n) = n := by
    intro n
    induction n using Nat.strongRecOn with
    | _ n ih =>
      by_cases hn : n < 10
      · rw [decDigits_one hn]
        simp [vald]
        omega
      · rw [decDigits, dif_neg hn, vald_snoc, ih _ (by omega), UInt8.toNat_ofNat']
        omega
  rw [← key u, ← key v, h]
theorem itoa_inj {a b : Int} (h : itoa a = itoa b) : a = b := by
  have h1 : a.natAbs = b.natAbs := decDigits_inj (by rw [← digs_itoa, ← digs_itoa, h])
  have h2 : a < 0 ↔ b < 0 := by
    have key : ∀ z : Int, (itoa z).head? = some 45 ↔ z < 0 := by
      intro z
      unfold itoa
      by_cases hz : z < 0
      · simp [hz]
      · rw [if_neg hz]; simp [hz, dec_head_45]
    rw [← key, ← key, h]
  omega
theorem tx_inj {a b : Int} : tx a = tx b ↔ a = b := by
  constructor
  · intro h
    have := congrArg (fun s : ByteArray => s.data.toList) h
    exact itoa_inj (by simpa [tx] using this)
  · rintro rfl; rfl
theorem tx_list (z : Int) : (tx z).data.toList = itoa z := by simp [tx]
theorem tx_size (z : Int) : (tx z).size = dn z + if z < 0 then 1 else 0 := by rw [← itoa_length]; simp [tx, ByteArray.size]
theorem td_list (n : Nat) : (td n).data.toList = decDigits n := by simp [td]
theorem td_size (n : Nat) : (td n).size = nDigits n := by rw [← decDigits_length]; simp [td, ByteArray.size]
theorem ba_ext {s t : ByteArray} (h : s.data.toList = t.data.toList) : s = t := by
  cases s; cases t; simp at h; rw [h]
theorem tx_pos {z : Int} (h : 0 ≤ z) : tx z = td z.natAbs := by
  apply ba_ext; rw [tx_list, td_list]; unfold itoa; rw [if_neg (by omega), show z.toNat = z.natAbs by omega]
/-- Each text is that of an integer, or is none. -/
theorem tx_or (s : ByteArray) : (∃ z, s = tx z ∧ dn z ≤ 1000) ∨ isT s.data.toList = false := by
  cases h : isT s.data.toList with
  | false => exact .inr rfl
  | true =>
    obtain ⟨z, e, hz⟩ := isT_ex _ h
    exact .inl ⟨z, ba_ext (by rw [e, tx_list]), hz⟩
theorem isT_tx {z : Int} (h : dn z ≤ 1000) : isT (tx z).data.toList = true := by rw [tx_list, isT_itoa]; simpa using h
theorem dn_pos (z : Int) : 1 ≤ dn z := nDigits_pos _
theorem dn_zero : dn 0 = 1 := by simp [dn, nDigits_small]
theorem dn_neg (z : Int) : dn (-z) = dn z := by unfold dn; rw [Int.natAbs_neg]
theorem td_get (n t : Nat) (h : t < (td n).size) : ((td n)[t]'h).toNat = 48 + n / 10 ^ (nDigits n - 1 - t) % 10 := by
  have h' : t < nDigits n := by rw [td_size] at h; exact h
  have e : (td n)[t]'h = dg n (nDigits n - 1 - t) := by
    show (decDigits n).toArray[t]'_ = _
    simp [decDigits_eq]
  rw [e, dig_of.2]
end Go.Proofs.YtkhebidmfjbhaaaGreatDoor
namespace Go.Proofs.YtkhebidmfjbhaaaGreatDoor
open Go.Lib

theorem ten_nine : Ten.bp 9 = 1000000000 := by unfold Ten.bp; decide
theorem bp_ten (k : Nat) : bp k = Ten.bp (9 * k) := by
  induction k with
  | zero => rfl
  | succ k ih => rw [bp_succ, show 9 * (k + 1) = 9 * k + 9 by omega, Ten.bp_add, ten_nine, ih, Int.mul_comm]
theorem ten_nl_step {t : Int} (h : 0 < t) : Ten.nl t = Ten.nl (t / 10) + 1 := by
  unfold Ten.nl
  rw [Ten.nlN, dif_neg (by omega), show (t / 10).toNat = t.toNat / 10 by omega]
theorem nDig_ten (u : Nat) (h : 0 < u) : nDigits u = Ten.nlN u := by
  induction u using Nat.strongRecOn with
  | _ u ih =>
    rw [Ten.nlN, dif_neg (by omega)]
    by_cases h2 : u < 10
    · rw [nDigits_small h2, show u / 10 = 0 by omega, Ten.nlN]; simp
    · rw [nDigits_big h2, ih (u / 10) (by omega) (by omega)]
theorem dn_ten {x : Int} (h : 0 < x) : dn x = Ten.nl x := by
  unfold dn Ten.nl
  rw [nDig_ten _ (by omega), show x.natAbs = x.toNat by omega]
theorem ten_nl_split {x : Int} {k : Nat} (h0 : 0 ≤ x) (h : nl x = k + 1) : Ten.nl x = 9 * k + Ten.nl (lz x k) := by
  obtain ⟨h1, h2⟩ := lz_top h0 h
  obtain ⟨m, hm⟩ : ∃ m, Ten.nl (lz x k) = m + 1 := ⟨Ten.nl (lz x k) - 1, by have := Ten.nl_pos (show 0 < lz x k by omega); omega⟩
  have h3 := Ten.nl_ge hm
  have h4 := Ten.nl_lt (x := lz x k) (by omega)
  rw [hm] at h4
  rw [h1] at h3 h4
  have hp := bp_pos k
  have e1 := Int.mul_ediv_add_emod x (bp k)
  obtain ⟨e2, e3⟩ := mod_bd x k
  have g1 := Int.mul_le_mul_of_nonneg_left h3 (Int.le_of_lt hp)
  have g2 := Int.mul_le_mul_of_nonneg_left (show x / bp k + 1 ≤ Ten.bp (m + 1) by omega) (Int.le_of_lt hp)
  rw [Int.mul_add, Int.mul_one] at g2
  rw [hm, show 9 * k + (m + 1) = (9 * k + m) + 1 by omega]
  apply Ten.nl_eq
  · rw [Ten.bp_add, ← bp_ten]; omega
  · rw [show 9 * k + m + 1 = 9 * k + (m + 1) by omega, Ten.bp_add, ← bp_ten]; omega
/-- The digits of a number by its limbs. -/
theorem dn_split {x : Int} {k : Nat} (h0 : 0 ≤ x) (h : nl x = k + 1) : dn x = 9 * k + Ten.nl (lz x k) := by
  have : 0 < x := by have := nl_ge h; have := bp_pos k; omega
  rw [dn_ten this, ten_nl_split h0 h]
theorem ten_nl_limb (x : Int) (k : Nat) : Ten.nl (lz x k) ≤ 9 := Ten.nl_le (by rw [ten_nine]; exact (lz_bd x k).2)
theorem dn_nl {x : Int} (h : 0 ≤ x) : dn x ≤ 9 * nl x + 1 := by
  cases hk : nl x with
  | zero => rw [(nl_eq_zero h).1 hk, dn_zero]; omega
  | succ k => rw [dn_split h hk]; have := ten_nl_limb x k; omega
theorem nl_dn {x : Int} (h : 0 ≤ x) : 9 * nl x ≤ dn x + 8 := by
  cases hk : nl x with
  | zero => omega
  | succ k =>
    rw [dn_split h hk]
    have h1 := (lz_top h hk).2
    have := Ten.nl_pos (show 0 < lz x k by omega)
    omega
theorem nl_112 {x : Int} (h : 0 ≤ x) (hd : dn x ≤ 1000) : nl x ≤ 112 := by have := nl_dn h; omega
theorem dn_mono {x y : Int} (h0 : 0 ≤ x) (h : x ≤ y) : dn x ≤ dn y := by
  by_cases hx : x = 0
  · rw [hx, dn_zero]; exact dn_pos y
  · rw [dn_ten (by omega), dn_ten (by omega)]; exact Ten.nl_mono (by omega) h
theorem dn_abs (z : Int) : dn (z.natAbs : Int) = dn z := by unfold dn; rw [Int.natAbs_natCast]
theorem dn_lt {x : Int} (h : 0 ≤ x) : x < Ten.bp (dn x) := by
  by_cases hx : x = 0
  · rw [hx]; exact Ten.bp_pos _
  · rw [dn_ten (by omega)]; exact Ten.nl_lt h
theorem dn_le {x : Int} {k : Nat} (h : 0 ≤ x) (hk : 1 ≤ k) (hx : x < Ten.bp k) : dn x ≤ k := by
  by_cases h0 : x = 0
  · rw [h0, dn_zero]; exact hk
  · rw [dn_ten (by omega)]; exact Ten.nl_le hx
/-- Digit s of limb k. -/
theorem lz_digit (x : Int) (k s : Nat) (hs : s < 9) : lz x k / Ten.bp s % 10 = Ten.lz x (9 * k + s) := by
  show _ = x / Ten.bp (9 * k + s) % 10
  rw [Ten.div_add, ← bp_ten]
  unfold lz
  generalize x / bp k = y
  have e : (1000000000 : Int) = Ten.bp s * Ten.bp (8 - s + 1) := by rw [← Ten.bp_add, ← ten_nine]; congr 1; omega
  have h1 := Int.emod_add_mul_ediv y 1000000000
  generalize y / 1000000000 = q at h1
  generalize y % 1000000000 = r at h1
  rw [← h1, e, Int.mul_assoc, Ten.add_mul_div, Ten.bp_succ, Int.mul_assoc]
  omega
end Go.Proofs.YtkhebidmfjbhaaaGreatDoor
namespace Go.Proofs.YtkhebidmfjbhaaaGreatDoor
open Go.RowKit

/-- The digits of a text as a text. -/
def dg (s : ByteArray) : ByteArray := ⟨(digs s.data.toList).toArray⟩
/-- Does it begin with a minus sign? -/
def neg (s : ByteArray) : Bool := decide (s.data.toList.head? = some 45)
theorem cut_any (s : ByteArray) (w : World) : Calls Tryz.prog 158 #[.string s, .string ⟨#[45]⟩] w fun e w' => e = .returned (.tuple #[.string (dg s), .bool (neg s)]) ∧ w = w' := by
  refine (Tryz.strings_CutPrefix s ⟨#[45]⟩ w).mono ?_
  rintro e w' ⟨rfl, rfl⟩
  refine ⟨?_, rfl⟩
  have h1 : Lib.hasPrefix s.data.toList (⟨#[45]⟩ : ByteArray).data.toList = neg s := by
    unfold Lib.hasPrefix neg
    cases s.data.toList with
    | nil => rfl
    | cons c r =>
      simp [List.isPrefixOf]
      by_cases h : c = 45
      · simp [h]
      · have h' : ¬ (45 : UInt8) = c := fun e => h e.symm
        simp [h, h']
  have h2 : Lib.trimPrefix s.data.toList (⟨#[45]⟩ : ByteArray).data.toList = digs s.data.toList := by
    unfold Lib.trimPrefix digs
    rw [h1]
    unfold neg
    by_cases h : s.data.toList.head? = some 45
    · simp [h]
    · simp [h]
  rw [h1, h2]
  rfl

def GivesS (b : Bool) (d : ByteArray) (ok : Bool) (w : World) (e : Ending) (w' : World) : Prop := e = .returned (.tuple #[.bool b, .string d, .bool ok]) ∧ w = w'

theorem split_yes (s D : ByteArray) (b : Bool) (w : World) (hc : Calls Tryz.prog 158 #[.string s, .string ⟨#[45]⟩] w fun e w' => e = .returned (.tuple #[.string D, .bool b]) ∧ w = w')
    (h1 : 0 < D.size) (h2 : D.size ≤ 1000) (hs : s.size ≤ 1001) (h3 : ((D[0]'h1).toNat : Int) = 48 → s.size ≤ 1) (h4 : ∀ k (hk : k < D.size), 48 ≤ ((D[k]'hk).toNat : Int) ∧ ((D[k]'hk).toNat : Int) ≤ 57) :
    Calls Tryz.prog 131 #[.string s] w (GivesS b D true w) := by
  have HC := Lib.hid hc
  have H4 := Lib.hid h4
  have hz : (((D.size : Nat) : Int) == 0) = false := beq_eq_false_iff_ne.2 (by omega)
  have hd := h4 0 h1
  clear hc h4
  by_cases hq : ((D[0]'h1).toNat : Int) = 48
  · have hq1 : (((D[0]'h1).toNat : Int) == 48) = true := beq_iff_eq.2 hq
    have hs1 := h3 hq
    clear h3 hq
    go_enter Tryz.func131, Tryz.ntmps131
    go_wp2_with (go_at_call 158; refine HC.out.mono ?_; rintro e w' ⟨rfl, rfl⟩)
    go_loop [2, 3, 5, 29] (fun m d _ i => ∃ k : Nat, k ≤ D.size ∧ i = .int .i64 k ∧ m = .bool b ∧ d = .string D) (fun _ _ _ i => D.size - (intOf i).toNat)
    case atStart => exact ⟨0, by omega, rfl, rfl, rfl⟩
    case round =>
      obtain ⟨k, hk, rfl, rfl, rfl⟩ := hrel
      by_cases hlt : k < D.size
      · obtain ⟨b1, b2⟩ := H4.out k hlt
        go_wp2
        go_round
        case rel => exact ⟨k + 1, by omega, by go_num, rfl, rfl⟩
        case measure => simp [intOf]; omega
      · go_wp2
        go_ret3
        exact ⟨rfl, rfl⟩
  · have hq1 : (((D[0]'h1).toNat : Int) == 48) = false := beq_eq_false_iff_ne.2 hq
    clear h3 hq
    go_enter Tryz.func131, Tryz.ntmps131
    go_wp2_with (go_at_call 158; refine HC.out.mono ?_; rintro e w' ⟨rfl, rfl⟩)
    go_loop [2, 3, 5, 29] (fun m d _ i => ∃ k : Nat, k ≤ D.size ∧ i = .int .i64 k ∧ m = .bool b ∧ d = .string D) (fun _ _ _ i => D.size - (intOf i).toNat)
    case atStart => exact ⟨0, by omega, rfl, rfl, rfl⟩
    case round =>
      obtain ⟨k, hk, rfl, rfl, rfl⟩ := hrel
      by_cases hlt : k < D.size
      · obtain ⟨b1, b2⟩ := H4.out k hlt
        go_wp2
        go_round
        case rel => exact ⟨k + 1, by omega, by go_num, rfl, rfl⟩
        case measure => simp [intOf]; omega
      · go_wp2
        go_ret3
        exact ⟨rfl, rfl⟩

theorem split_empty (s D : ByteArray) (b : Bool) (w : World) (hc : Calls Tryz.prog 158 #[.string s, .string ⟨#[45]⟩] w fun e w' => e = .returned (.tuple #[.string D, .bool b]) ∧ w = w') (h1 : D.size = 0) :
    Calls Tryz.prog 131 #[.string s] w (GivesS false ⟨#[]⟩ false w) := by
  have HC := Lib.hid hc
  have hz : (((D.size : Nat) : Int) == 0) = true := beq_iff_eq.2 (by omega)
  have H1 := Lib.hid h1
  clear hc h1
  go_enter Tryz.func131, Tryz.ntmps131
  go_wp2_with (go_at_call 158; refine HC.out.mono ?_; rintro e w' ⟨rfl, rfl⟩)
  go_ret3
  exact ⟨rfl, rfl⟩
theorem split_long (s D : ByteArray) (b : Bool) (w : World) (hc : Calls Tryz.prog 158 #[.string s, .string ⟨#[45]⟩] w fun e w' => e = .returned (.tuple #[.string D, .bool b]) ∧ w = w') (h1 : 1000 < D.size) (hm : D.size ≤ 9223372036854775807) :
    Calls Tryz.prog 131 #[.string s] w (GivesS false ⟨#[]⟩ false w) := by
  have HC := Lib.hid hc
  have hz : (((D.size : Nat) : Int) == 0) = false := beq_eq_false_iff_ne.2 (by omega)
  clear hc
  go_enter Tryz.func131, Tryz.ntmps131
  go_wp2_with (go_at_call 158; refine HC.out.mono ?_; rintro e w' ⟨rfl, rfl⟩)
  go_ret3
  exact ⟨rfl, rfl⟩
theorem split_zeros (s D : ByteArray) (b : Bool) (w : World) (hc : Calls Tryz.prog 158 #[.string s, .string ⟨#[45]⟩] w fun e w' => e = .returned (.tuple #[.string D, .bool b]) ∧ w = w') (h1 : 0 < D.size) (h2 : D.size ≤ 1000) (h3 : ((D[0]'h1).toNat : Int) = 48) (hs : 1 < s.size) (hs2 : s.size ≤ 1001) :
    Calls Tryz.prog 131 #[.string s] w (GivesS false ⟨#[]⟩ false w) := by
  have HC := Lib.hid hc
  have hz : (((D.size : Nat) : Int) == 0) = false := beq_eq_false_iff_ne.2 (by omega)
  have hq1 : (((D[0]'h1).toNat : Int) == 48) = true := beq_iff_eq.2 h3
  clear hc h3
  go_enter Tryz.func131, Tryz.ntmps131
  go_wp2_with (go_at_call 158; refine HC.out.mono ?_; rintro e w' ⟨rfl, rfl⟩)
  go_ret3
  exact ⟨rfl, rfl⟩
theorem split_bad (s D : ByteArray) (b : Bool) (w : World) (n : Nat) (hc : Calls Tryz.prog 158 #[.string s, .string ⟨#[45]⟩] w fun e w' => e = .returned (.tuple #[.string D, .bool b]) ∧ w = w')
    (h1 : 0 < D.size) (h2 : D.size ≤ 1000) (hs : s.size ≤ 1001) (h3 : ((D[0]'h1).toNat : Int) = 48 → s.size ≤ 1) (hn : n < D.size) (h4 : ∀ k (hk : k < D.size), k < n → 48 ≤ ((D[k]'hk).toNat : Int) ∧ ((D[k]'hk).toNat : Int) ≤ 57) (hbad : ((D[n]'hn).toNat : Int) < 48 ∨ 57 < ((D[n]'hn).toNat : Int)) :
    Calls Tryz.prog 131 #[.string s] w (GivesS false ⟨#[]⟩ false w) := by
  have HC := Lib.hid hc
  have H4 := Lib.hid h4
  have hz : (((D.size : Nat) : Int) == 0) = false := beq_eq_false_iff_ne.2 (by omega)
  clear hc h4
  by_cases hq : ((D[0]'h1).toNat : Int) = 48
  · have hq1 : (((D[0]'h1).toNat : Int) == 48) = true := beq_iff_eq.2 hq
    have hs1 := h3 hq
    clear h3 hq
    go_enter Tryz.func131, Tryz.ntmps131
    go_wp2_with (go_at_call 158; refine HC.out.mono ?_; rintro e w' ⟨rfl, rfl⟩)
    go_loop [2, 3, 5, 29] (fun m d _ i => ∃ k : Nat, k ≤ n ∧ i = .int .i64 k ∧ m = .bool b ∧ d = .string D) (fun _ _ _ i => D.size - (intOf i).toNat)
    case atStart => exact ⟨0, by omega, rfl, rfl, rfl⟩
    case round =>
      obtain ⟨k, hk, rfl, rfl, rfl⟩ := hrel
      by_cases hlt : k < n
      · obtain ⟨b1, b2⟩ := H4.out k (by omega) hlt
        go_wp2
        go_round
        case rel => exact ⟨k + 1, by omega, by go_num, rfl, rfl⟩
        case measure => simp [intOf]; omega
      · obtain rfl : k = n := by omega
        rcases hbad with hbad | hbad
        · go_wp2
          go_ret3
          exact ⟨rfl, rfl⟩
        · by_cases hlo : ((D[k]'hn).toNat : Int) < 48
          · go_wp2
            go_ret3
            exact ⟨rfl, rfl⟩
          · go_wp2
            go_ret3
            exact ⟨rfl, rfl⟩
  · have hq1 : (((D[0]'h1).toNat : Int) == 48) = false := beq_eq_false_iff_ne.2 hq
    clear h3 hq
    go_enter Tryz.func131, Tryz.ntmps131
    go_wp2_with (go_at_call 158; refine HC.out.mono ?_; rintro e w' ⟨rfl, rfl⟩)
    go_loop [2, 3, 5, 29] (fun m d _ i => ∃ k : Nat, k ≤ n ∧ i = .int .i64 k ∧ m = .bool b ∧ d = .string D) (fun _ _ _ i => D.size - (intOf i).toNat)
    case atStart => exact ⟨0, by omega, rfl, rfl, rfl⟩
    case round =>
      obtain ⟨k, hk, rfl, rfl, rfl⟩ := hrel
      by_cases hlt : k < n
      · obtain ⟨b1, b2⟩ := H4.out k (by omega) hlt
        go_wp2
        go_round
        case rel => exact ⟨k + 1, by omega, by go_num, rfl, rfl⟩
        case measure => simp [intOf]; omega
      · obtain rfl : k = n := by omega
        rcases hbad with hbad | hbad
        · go_wp2
          go_ret3
          exact ⟨rfl, rfl⟩
        · by_cases hlo : ((D[k]'hn).toNat : Int) < 48
          · go_wp2
            go_ret3
            exact ⟨rfl, rfl⟩
          · go_wp2
            go_ret3
            exact ⟨rfl, rfl⟩

theorem dg_size_le (s : ByteArray) : (dg s).size ≤ s.size ∧ s.size ≤ (dg s).size + 1 := by
  have e1 : (dg s).size = (digs s.data.toList).length := by show (digs s.data.toList).toArray.size = _; rw [List.size_toArray]
  have e2 : s.size = s.data.toList.length := by show s.data.size = _; rw [Array.length_toList]
  rw [e1, e2]
  unfold digs
  split
  · cases s.data.toList <;> simp
  · omega
theorem dg_get (s : ByteArray) (k : Nat) (hk : k < (dg s).size) : (digs s.data.toList)[k]? = some ((dg s)[k]'hk) := by
  have e1 : (dg s).size = (digs s.data.toList).length := by show (digs s.data.toList).toArray.size = _; rw [List.size_toArray]
  rw [List.getElem?_eq_getElem (by omega)]
  rfl
theorem isDig_iff (c : UInt8) : isDig c = true ↔ 48 ≤ (c.toNat : Int) ∧ (c.toNat : Int) ≤ 57 := by unfold isDig; simp; omega
theorem split_no (s : ByteArray) (w : World) (hm : s.size ≤ 9223372036854775807) (h : isT s.data.toList = false) :
    Calls Tryz.prog 131 #[.string s] w (GivesS false ⟨#[]⟩ false w) := by
  have hc := cut_any s w
  have hl := dg_size_le s
  have e1 : (dg s).size = (digs s.data.toList).length := by show (digs s.data.toList).toArray.size = _; rw [List.size_toArray]
  have e2 : s.size = s.data.toList.length := by show s.data.size = _; rw [Array.length_toList]
  by_cases h1 : (dg s).size = 0
  · exact split_empty s _ _ w hc h1
  by_cases h2 : 1000 < (dg s).size
  · exact split_long s _ _ w hc h2 (by omega)
  have h1' : 0 < (dg s).size := by omega
  have g0 := dg_get s 0 h1'
  by_cases h3 : (((dg s)[0]'h1').toNat : Int) = 48 ∧ 1 < s.size
  · exact split_zeros s _ _ w hc h1' (by omega) h3.1 h3.2 (by omega)
  have hex : ∃ n, ∃ hn : n < (dg s).size, isDig ((dg s)[n]'hn) = false := by
    unfold isT at h
    have a1 : (digs s.data.toList).isEmpty = false := by
      cases hd : digs s.data.toList with
      | nil => rw [hd] at e1; exact absurd e1 h1
      | cons => rfl
    have a3 : ((digs s.data.toList).head? == some 48 && decide (1 < s.data.toList.length)) = false := by
      rw [List.head?_eq_getElem?, g0, ← e2]
      cases hh : (some ((dg s)[0]'h1') == some (48 : UInt8)) with
      | false => rfl
      | true =>
        have : (dg s)[0]'h1' = 48 := Option.some.inj (beq_iff_eq.1 hh)
        have h48 : (((dg s)[0]'h1').toNat : Int) = 48 := by rw [this]; rfl
        rw [Bool.true_and]; exact decide_eq_false (fun hs => absurd ⟨h48, hs⟩ h3)
    have a2 : decide ((digs s.data.toList).length ≤ 1000) = true := decide_eq_true (by omega)
    rw [a1, a2, a3] at h
    simp only [Bool.not_false, Bool.and_self, Bool.true_and] at h
    rw [List.all_eq_false] at h
    obtain ⟨c, hc1, hc2⟩ := h
    obtain ⟨n, hn, rfl⟩ := List.getElem_of_mem hc1
    refine ⟨n, by omega, ?_⟩
    have := dg_get s n (by omega)
    rw [List.getElem?_eq_getElem hn] at this
    rw [← Option.some.inj this]
    exact Bool.eq_false_iff.2 hc2
  have hmin : ∃ n, ∃ hn : n < (dg s).size, isDig ((dg s)[n]'hn) = false ∧ ∀ k (hk : k < (dg s).size), k < n → isDig ((dg s)[k]'hk) = true := by
    obtain ⟨n, hn, hb⟩ := hex
    induction n using Nat.strongRecOn with
    | _ n ih =>
      by_cases hall : ∀ k (hk : k < (dg s).size), k < n → isDig ((dg s)[k]'hk) = true
      · exact ⟨n, hn, hb, hall⟩
      · have : ∃ k, ∃ hk : k < (dg s).size, k < n ∧ isDig ((dg s)[k]'hk) = false := by
          apply Classical.byContradiction
          intro hne
          apply hall
          intro k hk hkn
          cases hd : isDig ((dg s)[k]'hk) with
          | true => rfl
          | false => exact absurd ⟨k, hk, hkn, hd⟩ hne
        obtain ⟨k, hk, hkn, hd⟩ := this
        exact ih k hkn hk hd
  obtain ⟨n, hn, hb, hall⟩ := hmin
  refine split_bad s _ _ w n hc h1' (by omega) (by omega) (fun e => by
    rcases Nat.lt_or_ge 1 s.size with hs | hs
    · exact absurd ⟨e, hs⟩ h3
    · exact hs) hn (fun k hk hkn => (isDig_iff _).1 (hall k hk hkn)) ?_
  have : ¬ (48 ≤ (((dg s)[n]'hn).toNat : Int) ∧ (((dg s)[n]'hn).toNat : Int) ≤ 57) := fun e => by rw [(isDig_iff _).2 e] at hb; cases hb
  omega

theorem dg_tx (z : Int) : dg (tx z) = td z.natAbs := by unfold dg td; rw [tx_list, digs_itoa]
theorem neg_tx (z : Int) : neg (tx z) = decide (z < 0) := by
  unfold neg
  rw [tx_list]
  unfold Lib.itoa
  by_cases h : z < 0
  · rw [if_pos h]; simp [h]
  · rw [if_neg h]; simp [h, dec_head_45]
theorem td_dig (n k : Nat) (hk : k < (td n).size) : 48 ≤ (((td n)[k]'hk).toNat : Int) ∧ (((td n)[k]'hk).toNat : Int) ≤ 57 := by
  rw [td_get]; omega
theorem split_tx (z : Int) (w : World) (hz : dn z ≤ 1000) :
    Calls Tryz.prog 131 #[.string (tx z)] w (GivesS (decide (z < 0)) (td z.natAbs) true w) := by
  have hc := cut_any (tx z) w
  rw [dg_tx, neg_tx] at hc
  have h1 := td_size z.natAbs
  have h2 := tx_size z
  have h3 := dn_pos z
  unfold dn at hz h2 h3
  refine split_yes (tx z) _ _ w hc (by omega) (by omega) (by split at h2 <;> omega) (fun e => ?_) (fun k hk => td_dig _ k hk)
  have h0 : z.natAbs = 0 := by
    rw [← dec_head_48, ← td_list, List.head?_eq_getElem?]
    have hlt : 0 < (td z.natAbs).data.toList.length := by rw [td_list, Lib.decDigits_length]; omega
    rw [List.getElem?_eq_getElem hlt]
    congr 1
    apply UInt8.toNat_inj.1
    have : ((td z.natAbs)[0]'(by omega)).toNat = 48 := by omega
    exact this
  have : z = 0 := by omega
  subst this
  rw [h2]
  simp [Lib.nDigits_small]
end Go.Proofs.YtkhebidmfjbhaaaGreatDoor
namespace Go.Proofs.YtkhebidmfjbhaaaGreatDoor
open Go.RowKit

/-- The table of powers of ten is what its initialiser lays, here and after any call. -/
def Tb (w : World) : Prop := Lib.TabBelow Tryz.prog w.heap.size w "internal/strconv.uint64pow10" .u64 Lib.pow10Tab
theorem Tb.below {w w' : World} (h : Tb w) (hb : Below w.heap.size w w') : Tb w' := fun w2 h2 => h w2 (hb.trans (h2.mono hb.size))
/-- The call hands back a text. -/
def GivesY (s : ByteArray) (w : World) (e : Ending) (w' : World) : Prop := e = .returned (.string s) ∧ Below w.heap.size w w'
end Go.Proofs.YtkhebidmfjbhaaaGreatDoor
namespace Go.Proofs.YtkhebidmfjbhaaaGreatDoor
open Go.ChangeShapes Go.WideShapes Go.ChangeAt Go.RowKit

theorem ckOwn : ownKnob Tryz.prog.godebug = none := by kernel_rfl
theorem gPow : Tryz.prog.globalNamed "internal/strconv.uint64pow10" = some 1 := by kernel_rfl
theorem gPowType : (Tryz.prog.globals[1]?).map (·.type) = some 200 := by kernel_rfl
theorem ckUndA : Tryz.prog.underlying 200 = some (.array 20 69) := by kernel_rfl
theorem ckUndE : Tryz.prog.underlying 69 = some (.int .u64) := by kernel_rfl
theorem ckCellsA : Tryz.prog.cellsOf 200 = 20 := by kernel_rfl
theorem ckCellsE : Tryz.prog.cellsOf 69 = 1 := by kernel_rfl
theorem laid_tail {P : Program} {W : World} {x : String × DataW Unit} {rest : List (String × DataW Unit)} (h : laidMet P (x :: rest) W) : ∃ ps, DataW.LaidVars P W rest ps := by
  obtain ⟨ps, ⟨_, _, _, _, _, q, _, _, _, _, h2, _⟩, _⟩ := h
  exact ⟨q, h2⟩
theorem laid_tail2 {P : Program} {W : World} {x : String × DataW Unit} {rest : List (String × DataW Unit)} {ps : List MemPlace} (h : DataW.LaidVars P W (x :: rest) ps) : ∃ ps, DataW.LaidVars P W rest ps := by
  obtain ⟨_, _, _, _, _, q, _, _, _, _, h2, _⟩ := h
  exact ⟨q, h2⟩
/-- The table that strconv reads is the third on the list. -/
theorem tb_of_third {W : World} {x y : String × DataW Unit} {rest : List (String × DataW Unit)} (h : laidMet Tryz.prog (x :: y :: ("internal/strconv.uint64pow10", Rows.laid_internal_strconv_uint64pow10) :: rest) W) : Tb W := by
  obtain ⟨p1, h1⟩ := laid_tail h
  obtain ⟨p2, h2⟩ := laid_tail2 h1
  obtain ⟨g', t', cs, fuel, p, q, hg', ht', hvar, hd, _, _⟩ := h2
  obtain rfl := Option.some.inj (gPow.symm.trans hg')
  obtain rfl := Option.some.inj (gPowType.symm.trans ht')
  refine Lib.tabBelow_of_tabIs ?_
  unfold Lib.TabIs
  rw [hvar, ← Lib.cells_of_tab (zs := Lib.pow10Tab) ckUndA ckUndE ckCellsE ckCellsA hd]

noncomputable def laidWorld3 (os : Os) : World :=
  { World.holding Tryz.prog os ⟨#[], #[], []⟩ with heap := ((((World.holding Tryz.prog os ⟨#[], #[], []⟩).heap.modify 2 fun
      | .cells _ t frozen => .cells #[.int .u8 0, .int .u8 1, .int .u8 28, .int .u8 2, .int .u8 29, .int .u8 14, .int .u8 24, .int .u8 3, .int .u8 30, .int .u8 22, .int .u8 20, .int .u8 15, .int .u8 25, .int .u8 17, .int .u8 4, .int .u8 8, .int .u8 31, .int .u8 27, .int .u8 13, .int .u8 23, .int .u8 21, .int .u8 19, .int .u8 16, .int .u8 7, .int .u8 26, .int .u8 12, .int .u8 18, .int .u8 6, .int .u8 11, .int .u8 5, .int .u8 10, .int .u8 9] t frozen
      | o => o).modify 3 fun
      | .cells _ t frozen => .cells #[.int .u8 0, .int .u8 1, .int .u8 56, .int .u8 2, .int .u8 57, .int .u8 49, .int .u8 28, .int .u8 3, .int .u8 61, .int .u8 58, .int .u8 42, .int .u8 50, .int .u8 38, .int .u8 29, .int .u8 17, .int .u8 4, .int .u8 62, .int .u8 47, .int .u8 59, .int .u8 36, .int .u8 45, .int .u8 43, .int .u8 51, .int .u8 22, .int .u8 53, .int .u8 39, .int .u8 33, .int .u8 30, .int .u8 24, .int .u8 18, .int .u8 12, .int .u8 5, .int .u8 63, .int .u8 55, .int .u8 48, .int .u8 27, .int .u8 60, .int .u8 41, .int .u8 37, .int .u8 16, .int .u8 46, .int .u8 35, .int .u8 44, .int .u8 21, .int .u8 52, .int .u8 32, .int .u8 23, .int .u8 11, .int .u8 54, .int .u8 26, .int .u8 40, .int .u8 15, .int .u8 34, .int .u8 20, .int .u8 31, .int .u8 10, .int .u8 25, .int .u8 14, .int .u8 19, .int .u8 9, .int .u8 13, .int .u8 8, .int .u8 7, .int .u8 6] t frozen
      | o => o).modify 1 fun
      | .cells _ t frozen => .cells #[.int .u64 1, .int .u64 10, .int .u64 100, .int .u64 1000, .int .u64 10000, .int .u64 100000, .int .u64 1000000, .int .u64 10000000, .int .u64 100000000, .int .u64 1000000000, .int .u64 10000000000, .int .u64 100000000000, .int .u64 1000000000000, .int .u64 10000000000000, .int .u64 100000000000000, .int .u64 1000000000000000, .int .u64 10000000000000000, .int .u64 100000000000000000, .int .u64 1000000000000000000, .int .u64 10000000000000000000] t frozen
      | o => o) }
end Go.Proofs.YtkhebidmfjbhaaaGreatDoor
