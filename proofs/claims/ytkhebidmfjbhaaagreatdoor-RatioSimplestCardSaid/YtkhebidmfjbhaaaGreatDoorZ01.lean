/-
  Plain arithmetic behind package whole: limbs to the base 1000000000, their number, and the carries of sums, differences and products.
  How numbers lie in memory, and what the leaf functions of package whole on limbs return.
-/
import Derived.Test.YtkhebidmfjbhaaaGreatDoorProg
import Derived.WalkKit
import Derived.WalkSpells
import Derived.WalkLawsBesides
import Derived.Lib.Hide
import Derived.LoopTactic
import Derived.Outline
import Derived.Deep.LoopGhost
import Derived.BigQuiet
import Derived.Deep.QuietTactic
import Derived.OwnWalk
namespace Go.Proofs.YtkhebidmfjbhaaaGreatDoor

/-- The base to the power of j. -/
def bp (j : Nat) : Int := 1000000000 ^ j
theorem bp_zero : bp 0 = 1 := rfl
theorem bp_one : bp 1 = 1000000000 := by unfold bp; decide
theorem bp_succ (j : Nat) : bp (j + 1) = 1000000000 * bp j := by unfold bp; rw [Int.pow_succ, Int.mul_comm]
theorem bp_pos (j : Nat) : 0 < bp j := by
  induction j with
  | zero => rw [bp_zero]; omega
  | succ j ih => rw [bp_succ]; omega
theorem bp_add (i j : Nat) : bp (i + j) = bp i * bp j := by unfold bp; rw [Int.pow_add]
theorem bp_mono {i j : Nat} (h : i ≤ j) : bp i ≤ bp j := by
  obtain ⟨k, rfl⟩ := Nat.exists_eq_add_of_le h
  rw [bp_add]
  have h1 := bp_pos i
  have h2 := bp_pos k
  have := Int.mul_le_mul_of_nonneg_left (show 1 ≤ bp k by omega) (Int.le_of_lt h1)
  omega
/-- Limb j of z. -/
def lz (z : Int) (j : Nat) : Int := z / bp j % 1000000000
theorem lz_bd (z : Int) (j : Nat) : 0 ≤ lz z j ∧ lz z j < 1000000000 := ⟨Int.emod_nonneg _ (by omega), Int.emod_lt_of_pos _ (by omega)⟩
theorem div_succ (z : Int) (i : Nat) : z / bp (i + 1) = z / bp i / 1000000000 := by
  rw [bp_succ, Int.mul_comm, Int.ediv_ediv_of_nonneg (Int.le_of_lt (bp_pos i))]
theorem div_add (z : Int) (i j : Nat) : z / bp (i + j) = z / bp i / bp j := by
  rw [bp_add, Int.ediv_ediv_of_nonneg (Int.le_of_lt (bp_pos i))]
theorem lz_shift (z : Int) (i j : Nat) : lz (z / bp i) j = lz z (i + j) := by unfold lz; rw [div_add]
theorem div_split (z : Int) (i : Nat) : z / bp i = 1000000000 * (z / bp (i + 1)) + lz z i := by
  rw [div_succ]; unfold lz; omega
theorem mod_succ (z : Int) (i : Nat) : z % bp (i + 1) = z % bp i + bp i * lz z i := by
  have h1 := Int.emod_add_mul_ediv z (bp i)
  have h2 := Int.emod_add_mul_ediv z (bp (i + 1))
  have h3 := div_split z i
  have h4 : bp i * (z / bp i) = bp (i + 1) * (z / bp (i + 1)) + bp i * lz z i := by
    rw [h3, Int.mul_add, bp_succ, ← Int.mul_assoc, Int.mul_comm (bp i) 1000000000]
  omega
theorem add_mul_div (z t : Int) (i : Nat) : (z + bp i * t) / bp i = z / bp i + t := Int.add_mul_ediv_left _ _ (by have := bp_pos i; omega)
theorem lz_low (z t : Int) {i j : Nat} (h : j < i) : lz (z + bp i * t) j = lz z j := by
  unfold lz
  obtain ⟨k, rfl⟩ : ∃ k, i = j + (k + 1) := ⟨i - j - 1, by omega⟩
  rw [bp_add, bp_succ, Int.mul_assoc, Int.mul_assoc, add_mul_div]
  omega
theorem div_zero {z : Int} {n : Nat} (h0 : 0 ≤ z) (h : z < bp n) : z / bp n = 0 := Int.ediv_eq_zero_of_lt h0 h
theorem mod_self {z : Int} {n : Nat} (h0 : 0 ≤ z) (h : z < bp n) : z % bp n = z := Int.emod_eq_of_lt h0 h
theorem lz_high {z : Int} {n j : Nat} (h0 : 0 ≤ z) (h : z < bp n) (hj : n ≤ j) : lz z j = 0 := by
  unfold lz
  rw [div_zero h0 (Int.lt_of_lt_of_le h (bp_mono hj))]
  rfl
theorem lz_zero (j : Nat) : lz 0 j = 0 := by unfold lz; simp
theorem mod_zero (z : Int) : z % bp 0 = 0 := by rw [bp_zero]; omega
theorem div_bp_zero (z : Int) : z / bp 0 = z := by rw [bp_zero]; omega
theorem mod_bd (z : Int) (i : Nat) : 0 ≤ z % bp i ∧ z % bp i < bp i := ⟨Int.emod_nonneg _ (by have := bp_pos i; omega), Int.emod_lt_of_pos _ (bp_pos i)⟩
/-! ### The number of limbs -/
def nlN (x : Nat) : Nat := if h : x = 0 then 0 else nlN (x / 1000000000) + 1
termination_by x
decreasing_by omega
/-- How many limbs x has. -/
def nl (x : Int) : Nat := nlN x.toNat
theorem nl_zero : nl 0 = 0 := by unfold nl; rw [nlN]; simp
theorem nlN_lt (x : Nat) : (x : Int) < bp (nlN x) := by
  induction x using Nat.strongRecOn with
  | _ x ih =>
    by_cases h : x = 0
    · subst h; rw [nlN]; simp [bp_zero]
    · rw [nlN, dif_neg h, bp_succ]
      have := ih (x / 1000000000) (by omega)
      omega
theorem nlN_ge (x : Nat) (k : Nat) (h : nlN x = k + 1) : bp k ≤ (x : Int) := by
  induction k generalizing x with
  | zero =>
    rw [bp_zero]
    by_cases h0 : x = 0
    · subst h0; rw [nlN] at h; simp at h
    · omega
  | succ k ih =>
    by_cases h0 : x = 0
    · subst h0; rw [nlN] at h; simp at h
    · rw [nlN, dif_neg h0] at h
      have := ih (x / 1000000000) (by omega)
      rw [bp_succ]
      omega
theorem nl_lt {x : Int} (h : 0 ≤ x) : x < bp (nl x) := by
  have := nlN_lt x.toNat
  unfold nl
  omega
theorem nl_ge {x : Int} {k : Nat} (h : nl x = k + 1) : bp k ≤ x := by
  have := nlN_ge x.toNat k h
  have h2 := bp_pos k
  omega
theorem nl_le {x : Int} {k : Nat} (h : x < bp k) : nl x ≤ k := by
  rcases Nat.lt_or_ge k (nl x) with h1 | h1
  · obtain ⟨m, hm⟩ : ∃ m, nl x = m + 1 := ⟨nl x - 1, by omega⟩
    have h2 := nl_ge hm
    have h3 := bp_mono (show k ≤ m by omega)
    omega
  · exact h1
theorem nl_eq {x : Int} {k : Nat} (h1 : bp k ≤ x) (h2 : x < bp (k + 1)) : nl x = k + 1 := by
  have h3 := nl_le h2
  have h4 : k < nl x := by
    rcases Nat.lt_or_ge k (nl x) with h | h
    · exact h
    · have h5 := nl_lt (x := x) (by have := bp_pos k; omega)
      have h6 := bp_mono h
      omega
  omega
theorem nl_pos {x : Int} (h : 0 < x) : 0 < nl x := by
  rcases Nat.eq_zero_or_pos (nl x) with e | e
  · have := nl_lt (x := x) (by omega)
    rw [e, bp_zero] at this
    omega
  · exact e
theorem nl_eq_zero {x : Int} (h : 0 ≤ x) : nl x = 0 ↔ x = 0 := by
  constructor
  · intro e
    rcases Int.lt_or_le 0 x with h1 | h1
    · have := nl_pos h1; omega
    · omega
  · rintro rfl; exact nl_zero
theorem nl_mono {x y : Int} (hy : 0 ≤ y) (h : x ≤ y) : nl x ≤ nl y := nl_le (by have := nl_lt hy; omega)
theorem nl_one {x : Int} (h0 : 0 < x) (h1 : x < 1000000000) : nl x = 1 := nl_eq (by rw [bp_zero]; omega) (by rw [bp_one]; omega)
theorem nl_small {x : Int} (h1 : x < 1000000000) : nl x ≤ 1 := nl_le (by rw [bp_one]; omega)
theorem nl_add {x y : Int} (hx : 0 ≤ x) (hy : 0 ≤ y) : nl (x + y) ≤ max (nl x) (nl y) + 1 := by
  apply nl_le
  rw [bp_succ]
  have h1 := nl_lt hx
  have h2 := nl_lt hy
  have h3 := bp_mono (Nat.le_max_left (nl x) (nl y))
  have h4 := bp_mono (Nat.le_max_right (nl x) (nl y))
  omega
theorem mul_lt_bp {x y : Int} {i j : Nat} (_hx : 0 ≤ x) (hy : 0 ≤ y) (h1 : x < bp i) (h2 : y < bp j) : x * y < bp (i + j) := by
  rw [bp_add]
  have h3 := Int.mul_le_mul_of_nonneg_right (Int.le_of_lt h1) hy
  have h4 := Int.mul_lt_mul_of_pos_left h2 (bp_pos i)
  omega
theorem nl_mul {x y : Int} (hx : 0 ≤ x) (hy : 0 ≤ y) : nl (x * y) ≤ nl x + nl y := nl_le (mul_lt_bp hx hy (nl_lt hx) (nl_lt hy))
/-- The highest limb is not 0. -/
theorem lz_top {x : Int} {k : Nat} (h0 : 0 ≤ x) (h : nl x = k + 1) : lz x k = x / bp k ∧ 1 ≤ lz x k := by
  have h1 := nl_lt h0
  have h2 := nl_ge h
  rw [h] at h1
  have h3 := div_split x k
  rw [div_zero h0 h1] at h3
  have h4 := Int.ediv_le_ediv (bp_pos k) h2
  rw [Int.ediv_self (by have := bp_pos k; omega)] at h4
  omega
/-- Where the highest limb is not 0. -/
theorem nl_of_top {x : Int} {k : Nat} (h0 : 0 ≤ x) (h1 : x < bp (k + 1)) (h2 : lz x k ≠ 0) : nl x = k + 1 := by
  apply nl_eq _ h1
  rcases Int.lt_or_le x (bp k) with h | h
  · exact absurd (lz_high h0 h (Nat.le_refl k)) h2
  · exact h
theorem lt_of_top {x : Int} {k : Nat} (h0 : 0 ≤ x) (h1 : x < bp (k + 1)) (h2 : lz x k = 0) : x < bp k := by
  have h3 := div_split x k
  rw [div_zero h0 h1, h2] at h3
  have h4 := Int.emod_add_mul_ediv x (bp k)
  have h5 := (mod_bd x k).2
  rw [h3] at h4
  omega

/-! ### The carry of A x + C y -/
def mx (A C x y : Int) (i : Nat) : Int := (A * (x % bp i) + C * (y % bp i)) / bp i
theorem mx_zero (A C x y : Int) : mx A C x y 0 = 0 := by unfold mx; rw [mod_zero, mod_zero]; simp [bp_zero]
theorem mx_all (A C x y : Int) (i : Nat) : A * x + C * y = (A * (x % bp i) + C * (y % bp i)) + bp i * (A * (x / bp i) + C * (y / bp i)) := by
  have h1 := Int.emod_add_mul_ediv x (bp i)
  have h2 := Int.emod_add_mul_ediv y (bp i)
  have h3 : A * x = A * (x % bp i) + bp i * (A * (x / bp i)) := by
    rw [Int.mul_left_comm (bp i), ← Int.mul_add, h1]
  have h4 : C * y = C * (y % bp i) + bp i * (C * (y / bp i)) := by
    rw [Int.mul_left_comm (bp i), ← Int.mul_add, h2]
  rw [h3, h4, Int.mul_add]
  generalize A * (x % bp i) = a at *
  generalize C * (y % bp i) = c at *
  omega
theorem mx_sum (A C x y : Int) (i : Nat) : (A * (x % bp (i + 1)) + C * (y % bp (i + 1))) = (A * (x % bp i) + C * (y % bp i)) + bp i * (A * lz x i + C * lz y i) := by
  rw [mod_succ x, mod_succ y, Int.mul_add A, Int.mul_add C, Int.mul_add (bp i), Int.mul_left_comm A, Int.mul_left_comm C]
  omega
theorem mx_step (A C x y : Int) (i : Nat) : (mx A C x y i + (A * lz x i + C * lz y i)) % 1000000000 = lz (A * x + C * y) i ∧ (mx A C x y i + (A * lz x i + C * lz y i)) / 1000000000 = mx A C x y (i + 1) := by
  have e : mx A C x y i + (A * lz x i + C * lz y i) = (A * (x % bp (i + 1)) + C * (y % bp (i + 1))) / bp i := by
    rw [mx_sum, add_mul_div]; rfl
  refine ⟨?_, ?_⟩
  · rw [e]
    show lz (A * (x % bp (i + 1)) + C * (y % bp (i + 1))) i = _
    rw [mx_all A C x y (i + 1), lz_low _ _ (Nat.lt_succ_self i)]
  · rw [e, ← div_succ]; rfl
theorem mx_end {A C x y : Int} {n : Nat} (hx : 0 ≤ x) (hx' : x < bp n) (hy : 0 ≤ y) (hy' : y < bp n) : mx A C x y n = (A * x + C * y) / bp n := by
  unfold mx; rw [mod_self hx hx', mod_self hy hy']
/-- The carry is small. -/
theorem mx_le {A C : Int} (x y : Int) (i : Nat) (hA : 0 ≤ A) (hC : 0 ≤ C) : 0 ≤ mx A C x y i ∧ mx A C x y i ≤ A + C := by
  obtain ⟨x0, x1⟩ := mod_bd x i
  obtain ⟨y0, y1⟩ := mod_bd y i
  have hp := bp_pos i
  have a0 := Int.mul_nonneg hA x0
  have c0 := Int.mul_nonneg hC y0
  have a1 := Int.mul_le_mul_of_nonneg_left (Int.le_of_lt x1) hA
  have c1 := Int.mul_le_mul_of_nonneg_left (Int.le_of_lt y1) hC
  refine ⟨Int.ediv_nonneg (by omega) (by omega), ?_⟩
  apply Int.ediv_le_of_le_mul hp
  rw [Int.add_mul]
  omega
theorem mx_bd {A C M : Int} (x y : Int) (i : Nat) (hA : -M ≤ A ∧ A ≤ M) (hC : -M ≤ C ∧ C ≤ M) : -(2 * M) ≤ mx A C x y i ∧ mx A C x y i ≤ 2 * M := by
  obtain ⟨x0, x1⟩ := mod_bd x i
  obtain ⟨y0, y1⟩ := mod_bd y i
  have hp := bp_pos i
  have hM : 0 ≤ M := by omega
  have key : ∀ {D u : Int}, -M ≤ D → D ≤ M → 0 ≤ u → u < bp i → -(M * bp i) ≤ D * u ∧ D * u ≤ M * bp i := by
    intro D u h1 h2 h3 h4
    have k1 := Int.mul_le_mul_of_nonneg_right h1 h3
    have k2 := Int.mul_le_mul_of_nonneg_right h2 h3
    have k3 := Int.mul_le_mul_of_nonneg_left (Int.le_of_lt h4) hM
    rw [Int.neg_mul] at k1
    omega
  obtain ⟨a1, a2⟩ := key hA.1 hA.2 x0 x1
  obtain ⟨c1, c2⟩ := key hC.1 hC.2 y0 y1
  have e : 2 * M * bp i = M * bp i + M * bp i := by rw [Int.mul_assoc]; omega
  refine ⟨?_, ?_⟩
  · apply Int.le_ediv_of_mul_le hp
    rw [Int.neg_mul, e]; omega
  · apply Int.ediv_le_of_le_mul hp
    rw [e]; omega
/-! ### Words: numbers of at most two limbs -/
/-- x if it is a word, and else 0. -/
def wd (x : Int) : Int := if nl x ≤ 2 then x else 0
/-- The number of limbs that lie in memory: none of a word. -/
def ml (x : Int) : Nat := if nl x ≤ 2 then 0 else nl x
theorem bp_two : bp 2 = 1000000000000000000 := by unfold bp; decide
theorem nl_word {x : Int} (h0 : 0 ≤ x) : nl x ≤ 2 ↔ x < 1000000000000000000 := by
  rw [← bp_two]
  constructor
  · intro h
    have h1 := nl_lt h0
    have h2 := bp_mono h
    omega
  · exact nl_le
theorem wd_word {x : Int} (h : nl x ≤ 2) : wd x = x := by unfold wd; rw [if_pos h]
theorem wd_long {x : Int} (h : 2 < nl x) : wd x = 0 := by unfold wd; rw [if_neg (by omega)]
theorem ml_word {x : Int} (h : nl x ≤ 2) : ml x = 0 := by unfold ml; rw [if_pos h]
theorem ml_long {x : Int} (h : 2 < nl x) : ml x = nl x := by unfold ml; rw [if_neg (by omega)]
theorem ml_le (x : Int) : ml x ≤ nl x := by unfold ml; split <;> omega
theorem ml_zero_iff (x : Int) : ml x = 0 ↔ nl x ≤ 2 := by unfold ml; split <;> omega
end Go.Proofs.YtkhebidmfjbhaaaGreatDoor
namespace Go.Proofs.YtkhebidmfjbhaaaGreatDoor
open Go.RowKit

theorem ret_int {k : IntKind} {a b : Int} (h : a = b) : Ending.returned (.int k a) = .returned (.int k b) := by rw [h]
theorem ret_bool {a b : Bool} (h : a = b) : Ending.returned (.bool a) = .returned (.bool b) := by rw [h]
theorem below_at {B : Nat} {w w' : World} (h : Below B w w') {b : Nat} (o : Nat) (hb : b < B) : w'.cell? ⟨b, o, none⟩ = w.cell? ⟨b, o, none⟩ := h.cell (p := ⟨b, o, none⟩) hb
theorem below_atF {B : Nat} {w w' : World} (h : Below B w w') {b : Nat} (o : Nat) (hb : b < B) : w'.frozen? ⟨b, o, none⟩ = w.frozen? ⟨b, o, none⟩ := h.frozen (p := ⟨b, o, none⟩) hb
theorem below_set {B : Nat} {w w' : World} (h : Below B w w') {b : Nat} (o : Nat) (hb : B ≤ b) (u : Value) : Below B w (w'.setCell ⟨b, o, none⟩ u) := h.setCell (p := ⟨b, o, none⟩) hb u
/-- Cell o of block r is the call's own and holds u. -/
def Slot (w : World) (r o : Nat) (u : Value) : Prop := w.cell? ⟨r, o, none⟩ = some u ∧ w.frozen? ⟨r, o, none⟩ = false
theorem Slot.below {B : Nat} {w w' : World} {r o : Nat} {u : Value} (h : Slot w r o u) (hb : Below B w w') (hr : r < B) : Slot w' r o u := ⟨(below_at hb o hr).trans h.1, (below_atF hb o hr).trans h.2⟩
/-- n cells hold the lowest n limbs of z. -/
def Row (w : World) (B : Nat) (a : Option Addr) (n : Nat) (z : Int) : Prop :=
  0 < n → ∃ g o, a = some ⟨g, o, none⟩ ∧ g < B ∧ ∀ j, j < n → w.cell? ⟨g, o + j, none⟩ = some (.int .u64 (lz z j))
theorem Row.below {w w' : World} {B : Nat} {a : Option Addr} {n : Nat} {z : Int} (h : Row w B a n z) (hb : Below B w w') : Row w' B a n z := fun hn => by
  obtain ⟨g, o, e, hg, hc⟩ := h hn
  exact ⟨g, o, e, hg, fun j hj => (hb.cell (p := ⟨g, o + j, none⟩) hg).trans (hc j hj)⟩
theorem Row.mono {w : World} {B B' : Nat} {a : Option Addr} {n : Nat} {z : Int} (h : Row w B a n z) (hb : B ≤ B') : Row w B' a n z := fun hn => by
  obtain ⟨g, o, e, hg, hc⟩ := h hn
  exact ⟨g, o, e, Nat.lt_of_lt_of_le hg hb, hc⟩
theorem Row.less {w : World} {B : Nat} {a : Option Addr} {n m : Nat} {z : Int} (h : Row w B a n z) (hb : m ≤ n) : Row w B a m z := fun hn => by
  obtain ⟨g, o, e, hg, hc⟩ := h (by omega)
  exact ⟨g, o, e, hg, fun j hj => hc j (by omega)⟩
/-- n cells, none of them in block g, hold the lowest n limbs of z. -/
def RowX (w : World) (g : Nat) (a : Option Addr) (n : Nat) (z : Int) : Prop :=
  0 < n → ∃ g' o, a = some ⟨g', o, none⟩ ∧ g' ≠ g ∧ ∀ j, j < n → w.cell? ⟨g', o + j, none⟩ = some (.int .u64 (lz z j))
theorem Row.x {w : World} {g : Nat} {a : Option Addr} {n : Nat} {z : Int} (h : Row w g a n z) : RowX w g a n z := fun hn => by
  obtain ⟨g', o, e, hg, hc⟩ := h hn
  exact ⟨g', o, e, by omega, hc⟩
/-- n cells hold the lowest n limbs of z, in a block below B or from C on. -/
def RowB (w : World) (B C : Nat) (a : Option Addr) (n : Nat) (z : Int) : Prop :=
  0 < n → ∃ g o, a = some ⟨g, o, none⟩ ∧ (g < B ∨ C ≤ g) ∧ g < w.heap.size ∧ ∀ j, j < n → w.cell? ⟨g, o + j, none⟩ = some (.int .u64 (lz z j))
theorem RowB.row {w : World} {B C : Nat} {a : Option Addr} {n : Nat} {z : Int} (h : RowB w B C a n z) : Row w w.heap.size a n z := fun hn => by
  obtain ⟨g', o, e, _, hg, hc⟩ := h hn
  exact ⟨g', o, e, hg, hc⟩
theorem RowB.x {w : World} {B C g : Nat} {a : Option Addr} {n : Nat} {z : Int} (h : RowB w B C a n z) (h1 : B ≤ g) (h2 : g < C) : RowX w g a n z := fun hn => by
  obtain ⟨g', o, e, hg, _, hc⟩ := h hn
  exact ⟨g', o, e, by omega, hc⟩
/-- The word p and the slice v are those of the natural number x. -/
def NatV (w : World) (p v : Value) (x : Int) : Prop :=
  0 ≤ x ∧ nl x ≤ 100000 ∧ p = .int .u64 (wd x) ∧ ∃ a, v = .slice a (ml x) (ml x) ∧ (ml x = 0 → a = none) ∧ Row w w.heap.size a (ml x) x
theorem NatV.below {w w' : World} {p v : Value} {x : Int} (h : NatV w p v x) (hb : Below w.heap.size w w') : NatV w' p v x := by
  obtain ⟨h1, h2, h3, a, h4, h5, h6⟩ := h
  exact ⟨h1, h2, h3, a, h4, h5, (h6.below hb).mono hb.size⟩
theorem NatV.word {w : World} {x : Int} (h0 : 0 ≤ x) (h1 : nl x ≤ 2) : NatV w (.int .u64 x) (.slice none 0 0) x :=
  ⟨h0, by omega, by rw [wd_word h1], none, by rw [ml_word h1], fun _ => rfl, fun h => absurd h (by rw [ml_word h1]; omega)⟩
theorem NatV.zero (w : World) : NatV w (.int .u64 0) (.slice none 0 0) 0 := NatV.word (Int.le_refl _) (by rw [nl_zero]; omega)
theorem NatV.long {w : World} {B : Nat} {a : Option Addr} {n : Nat} {x : Int} (h0 : 0 ≤ x) (hn : n = nl x) (hm : n ≤ 100000) (h2 : 2 < n) (hr : Row w B a n x) (hB : B ≤ w.heap.size) : NatV w (.int .u64 0) (.slice a n n) x := by
  subst hn
  exact ⟨h0, hm, by rw [wd_long h2], a, by rw [ml_long h2], fun h => absurd h (by rw [ml_long h2]; omega), by rw [ml_long h2]; exact hr.mono hB⟩
theorem NatV.form {w : World} {p v : Value} {x : Int} (h : NatV w p v x) : ∃ t a n, p = .int .u64 t ∧ v = .slice a n n ∧ t = wd x ∧ n = ml x ∧ n ≤ 100000 ∧ 0 ≤ x ∧ (n = 0 → a = none) ∧ Row w w.heap.size a n x := by
  obtain ⟨h1, h2, h3, a, h4, h5, h6⟩ := h
  exact ⟨_, a, _, h3, h4, rfl, rfl, Nat.le_trans (ml_le x) h2, h1, h5, h6⟩
/-- The two kinds of natural numbers. -/
theorem NatV.small {w : World} {p v : Value} {x : Int} (h : NatV w p v x) (h2 : nl x ≤ 2) : p = .int .u64 x ∧ v = .slice none 0 0 := by
  obtain ⟨h1, _, h3, a, h4, h5, h6⟩ := h
  rw [ml_word h2] at h4 h5
  obtain rfl := h5 rfl
  exact ⟨by rw [h3, wd_word h2], h4⟩
theorem NatV.large {w : World} {p v : Value} {x : Int} (h : NatV w p v x) (h2 : 2 < nl x) : ∃ g o n, n = nl x ∧ 2 < n ∧ n ≤ 100000 ∧ p = .int .u64 0 ∧ v = .slice (some ⟨g, o, none⟩) n n ∧ g < w.heap.size ∧ ∀ j, j < n → w.cell? ⟨g, o + j, none⟩ = some (.int .u64 (lz x j)) := by
  obtain ⟨h1, h9, h3, a, h4, h5, h6⟩ := h
  rw [ml_long h2] at h4 h6
  obtain ⟨g, o, rfl, hg, hc⟩ := h6 (by omega)
  exact ⟨g, o, _, rfl, h2, h9, by rw [h3, wd_long h2], h4, hg, hc⟩

/-- The call hands back the natural number x. -/
def GivesN (x : Int) (w : World) (e : Ending) (w' : World) : Prop := ∃ p v, e = .returned (.agg #[p, v]) ∧ NatV w' p v x ∧ Below w.heap.size w w'

/-- A store over what is no limb leaves the numbers as they are. -/
theorem NatV.store {w : World} {p v : Value} {x : Int} (h : NatV w p v x) {q : Addr} {u0 : Value} (hq : w.cell? q = some u0) (hn : ∀ t, u0 ≠ .int .u64 t) (u : Value) : NatV (w.setCell q u) p v x := by
  obtain ⟨h1, h2, h3, a, h4, h5, h6⟩ := h
  refine ⟨h1, h2, h3, a, h4, h5, fun hn0 => ?_⟩
  obtain ⟨g, o, e, hg, hc⟩ := h6 hn0
  refine ⟨g, o, e, by rw [World.size_setCell]; exact hg, fun j hj => ?_⟩
  rw [World.cell?_setCell_other w _ _ _ (fun e => ?_), hc j hj]
  subst e
  rw [hc j hj] at hq
  exact hn _ (Option.some.inj hq).symm
/-- A row of a number has more than two limbs, so a cell ahead of what is no limb is none. -/
theorem NatV.store0 {w : World} {p v : Value} {x : Int} (h : NatV w p v x) {r k : Nat} {u0 : Value} (hq : w.cell? ⟨r, k + 1, none⟩ = some u0) (hn : ∀ t, u0 ≠ .int .u64 t) (hk : k < 2 ∨ ∃ u1, w.cell? ⟨r, k - 2, none⟩ = some u1 ∧ ∀ t, u1 ≠ .int .u64 t) (u : Value) : NatV (w.setCell ⟨r, k, none⟩ u) p v x := by
  obtain ⟨h1, h2, h3, a, h4, h5, h6⟩ := h
  refine ⟨h1, h2, h3, a, h4, h5, fun hn0 => ?_⟩
  obtain ⟨g, o, e, hg, hc⟩ := h6 hn0
  have h7 : 2 < ml x := by
    unfold ml at hn0 ⊢
    split at hn0
    · omega
    · rw [if_neg (by assumption)]; omega
  refine ⟨g, o, e, by rw [World.size_setCell]; exact hg, fun j hj => ?_⟩
  rw [World.cell?_setCell_other w _ _ _ (fun e => ?_), hc j hj]
  injection e with e1 e2
  subst e1
  rcases Nat.lt_or_ge (j + 1) (ml x) with h8 | h8
  · have := hc (j + 1) h8
    rw [← Nat.add_assoc, ← e2, hq] at this
    exact hn _ (Option.some.inj this)
  · rcases hk with hk | ⟨u1, hk, hu⟩
    · omega
    · have := hc (j - 2) (by omega)
      rw [show o + (j - 2) = k - 2 by omega, hk] at this
      exact hu _ (Option.some.inj this)
/-- The same where the cell ahead is none either. -/
theorem NatV.store00 {w : World} {p v : Value} {x : Int} (h : NatV w p v x) {r k : Nat} {u0 : Value} (hq : w.cell? ⟨r, k + 1, none⟩ = some u0) (hn : ∀ t, u0 ≠ .int .u64 t) (hk : k < 2 ∨ ∃ u1, w.cell? ⟨r, k - 1, none⟩ = some u1 ∧ ∀ t, u1 ≠ .int .u64 t) (u : Value) : NatV (w.setCell ⟨r, k, none⟩ u) p v x := by
  obtain ⟨h1, h2, h3, a, h4, h5, h6⟩ := h
  refine ⟨h1, h2, h3, a, h4, h5, fun hn0 => ?_⟩
  obtain ⟨g, o, e, hg, hc⟩ := h6 hn0
  have h7 : 2 < ml x := by
    unfold ml at hn0 ⊢
    split at hn0
    · omega
    · rw [if_neg (by assumption)]; omega
  refine ⟨g, o, e, by rw [World.size_setCell]; exact hg, fun j hj => ?_⟩
  rw [World.cell?_setCell_other w _ _ _ (fun e => ?_), hc j hj]
  injection e with e1 e2
  subst e1
  rcases Nat.lt_or_ge (j + 1) (ml x) with h8 | h8
  · have := hc (j + 1) h8
    rw [← Nat.add_assoc, ← e2, hq] at this
    exact hn _ (Option.some.inj this)
  · rcases hk with hk | ⟨u1, hk, hu⟩
    · omega
    · have := hc (j - 1) (by omega)
      rw [show o + (j - 1) = k - 1 by omega, hk] at this
      exact hu _ (Option.some.inj this)
/-- A store into the first cell of a box whose second one holds a slice. -/
theorem NatV.storeW {w : World} {p v : Value} {x : Int} (h : NatV w p v x) {r : Nat} {a : Option Addr} {n c : Nat} (hq : w.cell? ⟨r, 1, none⟩ = some (.slice a n c)) (u : Value) : NatV (w.setCell ⟨r, 0, none⟩ u) p v x :=
  h.store0 hq (fun _ e => by cases e) (.inl (by omega)) u

/-- The box r of the call's own: the empty natural number that the result is written over. -/
structure ResN (w : World) (r : Nat) : Prop where
  c0 : w.cell? ⟨r, 0, none⟩ = some (.int .u64 0)
  c1 : w.cell? ⟨r, 1, none⟩ = some (.slice none 0 0)
  f0 : w.frozen? ⟨r, 0, none⟩ = false
  f1 : w.frozen? ⟨r, 1, none⟩ = false
theorem ResN.new (w : World) (t : TypeId) (r : Nat) (hr : r = w.heap.size) : ResN (w.alloc (.cells #[.int .u64 0, .slice none 0 0] t)) r :=
  ⟨by rw [World.cell?_alloc_at _ _ _ _ hr]; rfl, by rw [World.cell?_alloc_at _ _ _ _ hr]; rfl, by rw [World.frozen?_alloc_at _ _ _ _ hr], by rw [World.frozen?_alloc_at _ _ _ _ hr]⟩
theorem ResN.below {B : Nat} {w w' : World} {r : Nat} (h : ResN w r) (hb : Below B w w') (hr : r < B) : ResN w' r :=
  ⟨(below_at hb 0 hr).trans h.c0, (below_at hb 1 hr).trans h.c1, (below_atF hb 0 hr).trans h.f0, (below_atF hb 1 hr).trans h.f1⟩
/-- Both cells of a result are written. -/
theorem NatV.put {w : World} {p v : Value} {x : Int} (h : NatV w p v x) {r : Nat} {a : Option Addr} {n c : Nat} (hq : w.cell? ⟨r, 1, none⟩ = some (.slice a n c)) (u s : Value) : NatV ((w.setCell ⟨r, 0, none⟩ u).setCell ⟨r, 1, none⟩ s) p v x :=
  (h.storeW hq u).store (u0 := .slice a n c) (by rw [World.cell?_setCell_other w _ _ _ (by intro e; injection e; omega)]; exact hq) (fun _ e => by cases e) s

/-! ### Cells that are written -/
/-- w' is w, but for n cells of block g from o on, which hold f 0, f 1 .. -/
structure Cells (w w' : World) (g o n : Nat) (f : Nat → Int) : Prop where
  os : w'.os = w.os
  tape : w'.tape = w.tape
  output : w'.output = w.output
  size : w'.heap.size = w.heap.size
  block : ∀ k, k ≠ g → w'.heap[k]? = w.heap[k]?
  cells : ∀ j, j < n → w'.cell? ⟨g, o + j, none⟩ = some (.int .u64 (f j))
  rest : ∀ i, i < o ∨ o + n ≤ i → w'.cell? ⟨g, i, none⟩ = w.cell? ⟨g, i, none⟩
  frozen : ∀ i, w'.frozen? ⟨g, i, none⟩ = w.frozen? ⟨g, i, none⟩
theorem Cells.start {w : World} {g o n : Nat} {f : Nat → Int} (h : ∀ j, j < n → w.cell? ⟨g, o + j, none⟩ = some (.int .u64 (f j))) : Cells w w g o n f :=
  ⟨rfl, rfl, rfl, rfl, fun _ _ => rfl, h, fun _ _ => rfl, fun _ => rfl⟩
theorem Cells.cong {w w' : World} {g o n : Nat} {f f' : Nat → Int} (h : Cells w w' g o n f) (e : ∀ j, j < n → f' j = f j) : Cells w w' g o n f' :=
  { h with cells := fun j hj => by rw [e j hj]; exact h.cells j hj }
theorem Cells.set {w w' : World} {g o n : Nat} {f f' : Nat → Int} (h : Cells w w' g o n f) {i : Nat} (hi : i < n) (t : Int) (e : ∀ j, j < n → f' j = if j = i then t else f j) :
    Cells w (w'.setCell ⟨g, o + i, none⟩ (.int .u64 t)) g o n f' where
  os := h.os
  tape := h.tape
  output := h.output
  size := by rw [World.size_setCell]; exact h.size
  block := fun k hk => by rw [Below.heap_setCell _ _ _ _ hk]; exact h.block k hk
  cells := fun j hj => by
    rw [e j hj]
    by_cases hji : j = i
    · subst hji; rw [if_pos rfl, World.cell?_setCell_same w' _ _ (h.cells j hj)]
    · rw [if_neg hji, World.cell?_setCell_other w' _ _ _ (by intro e; injection e; omega), h.cells j hj]
  rest := fun k hk => by rw [World.cell?_setCell_other w' _ _ _ (by intro e; injection e; omega), h.rest k hk]
  frozen := fun k => by rw [World.frozen?_setCell]; exact h.frozen k
theorem Cells.set2 {w w' : World} {g o n : Nat} {f f' : Nat → Int} (h : Cells w w' g o n f) {i : Nat} (hi : i < n) (t' t : Int) (e : ∀ j, j < n → f' j = if j = i then t else f j) :
    Cells w ((w'.setCell ⟨g, o + i, none⟩ (.int .u64 t')).setCell ⟨g, o + i, none⟩ (.int .u64 t)) g o n f' :=
  (h.set hi t' (f' := fun j => if j = i then t' else f j) (fun _ _ => rfl)).set hi t (fun j hj => by
    rw [e j hj]; by_cases h : j = i
    · rw [if_pos h, if_pos h]
    · rw [if_neg h, if_neg h, if_neg h])
theorem Cells.below {w w' : World} {g o n : Nat} {f : Nat → Int} {B : Nat} (h : Cells w w' g o n f) (hB : B ≤ g) : Below B w w' :=
  ⟨h.os, h.tape, h.output, Nat.le_of_eq h.size.symm, fun k hk => h.block k (by omega)⟩
theorem Cells.other {w w' : World} {g o n : Nat} {f : Nat → Int} (h : Cells w w' g o n f) {b i : Nat} (hb : b ≠ g) : w'.cell? ⟨b, i, none⟩ = w.cell? ⟨b, i, none⟩ := World.cell?_of_block (w := w) (h.block b hb)
theorem Cells.otherF {w w' : World} {g o n : Nat} {f : Nat → Int} (h : Cells w w' g o n f) {b i : Nat} (hb : b ≠ g) : w'.frozen? ⟨b, i, none⟩ = w.frozen? ⟨b, i, none⟩ := World.frozen?_of_block (w := w) (h.block b hb)

theorem RowX.cells {w w' : World} {g o m : Nat} {f : Nat → Int} {a : Option Addr} {n : Nat} {z : Int} (h : RowX w g a n z) (hC : Cells w w' g o m f) : RowX w' g a n z := fun hn => by
  obtain ⟨g', o', e, hg, hc⟩ := h hn
  exact ⟨g', o', e, hg, fun j hj => (hC.other hg).trans (hc j hj)⟩
theorem RowX.row {w : World} {g : Nat} {a : Option Addr} {n : Nat} {z : Int} (h : RowX w g a n z) : ∃ B, Row w B a n z := by
  rcases Nat.eq_zero_or_pos n with h0 | h0
  · exact ⟨0, fun hn => absurd hn (by omega)⟩
  · obtain ⟨g', o', e, hg, hc⟩ := h h0
    exact ⟨g' + 1, fun _ => ⟨g', o', e, by omega, hc⟩⟩
/-- The call hands back t and has written the cells. -/
def GivesC (t : Int) (w : World) (g o n : Nat) (z : Int) (e : Ending) (w' : World) : Prop := e = .returned (.int .u64 t) ∧ Cells w w' g o n (lz z)

theorem addTo_any (g o n c : Nat) (a : Option Addr) (m d : Nat) (x y : Int) (w : World) (hn : n ≤ 100000) (hmn : m ≤ n) (hx : 0 ≤ x) (hx' : x < bp n) (hy : 0 ≤ y) (hy' : y < bp m)
    (hu : ∀ j, j < n → w.cell? ⟨g, o + j, none⟩ = some (.int .u64 (lz x j))) (hf : ∀ j, j < n → w.frozen? ⟨g, o + j, none⟩ = false) (hv : RowX w g a m y) :
    Calls Tryz.prog 207 #[.slice (some ⟨g, o, none⟩) n c, .slice a m d] w (GivesC ((x + y) / bp n) w g o n (x + y)) := by
  have HY := Lib.hid hy'
  have HX := Lib.hid hx'
  have HU := Lib.hid hu
  have HF := Lib.hid hf
  have HV := Lib.hid hv
  clear hy' hx' hu hf hv
  go_enter Tryz.func207, Tryz.ntmps207
  go_wp2
  go_loopw [5, 6, 9] (fun s _ i wr => ∃ k : Nat, k ≤ n ∧ i = .int .i64 k ∧ s = .int .u64 (mx 1 1 x y k) ∧ Cells w wr g o n (fun j => if j < k then lz (x + y) j else lz x j)) (fun _ _ i _ => n - (intOf i).toNat)
  case atStart => exact ⟨0, by omega, rfl, by rw [mx_zero], Cells.start (fun j hj => by rw [if_neg (by omega)]; exact HU.out j hj)⟩
  case round =>
    obtain ⟨k, hk, rfl, rfl, hC⟩ := hrel
    have HC := Lib.hid hC
    clear hC
    by_cases hlt : k < n
    · have hc1 := HC.out.cells k hlt
      rw [if_neg (by omega)] at hc1
      have hfr := (HC.out.frozen (o + k)).trans (HF.out k hlt)
      have hb1 := lz_bd x k
      have hb2 := lz_bd y k
      obtain ⟨hq0, hq1⟩ := mx_le x y k (show (0 : Int) ≤ 1 by omega) (show (0 : Int) ≤ 1 by omega)
      obtain ⟨hs1, hs2⟩ := mx_step 1 1 x y k
      have HS1 : Hid ((mx 1 1 x y k + lz x k + lz y k) % 1000000000 = lz (x + y) k) := by
        have e : (1 : Int) * x + 1 * y = x + y := by omega
        rw [← e, ← hs1]; congr 1; omega
      have HS2 : Hid ((mx 1 1 x y k + lz x k + lz y k) / 1000000000 = mx 1 1 x y (k + 1)) := by
        rw [← hs2]; congr 1; omega
      clear hs1 hs2
      generalize mx 1 1 x y k = q at *
      by_cases hm : k < m
      · obtain ⟨g', o', rfl, hg', hcv⟩ := HV.out (by omega)
        have hc2 := (HC.out.other (i := o' + k) (show g' ≠ g by omega)).trans (hcv k hm)
        clear hcv
        generalize hlx : lz x k = lx at *
        generalize hly : lz y k = ly at *
        have HLX := Lib.hid hlx
        have HLY := Lib.hid hly
        clear hlx hly
        go_wp2
        go_roundw
        case rel => exact ⟨k + 1, by omega, by go_num, by rw [← HS2.out], HC.out.set hlt _ (fun j hj => by
          by_cases h1 : j = k
          · subst h1; rw [if_pos (by omega), if_pos rfl, ← HS1.out]
          · rw [if_neg h1]; by_cases h2 : j < k
            · rw [if_pos h2, if_pos (by omega)]
            · rw [if_neg h2, if_neg (by omega)])⟩
        case measure => simp [intOf]; omega
      · have hz : lz y k = 0 := lz_high hy HY.out (by omega)
        rw [hz, Int.add_zero] at HS1 HS2
        generalize hlx : lz x k = lx at *
        have HLX := Lib.hid hlx
        clear hlx hz hb2
        go_wp2
        go_roundw
        case rel => exact ⟨k + 1, by omega, by go_num, by rw [← HS2.out], HC.out.set hlt _ (fun j hj => by
          by_cases h1 : j = k
          · subst h1; rw [if_pos (by omega), if_pos rfl, ← HS1.out]
          · rw [if_neg h1]; by_cases h2 : j < k
            · rw [if_pos h2, if_pos (by omega)]
            · rw [if_neg h2, if_neg (by omega)])⟩
        case measure => simp [intOf]; omega
    · obtain rfl : k = n := by omega
      go_wp2
      go_ret
      exact ⟨ret_int (by rw [mx_end hx HX.out hy (Int.lt_of_lt_of_le HY.out (bp_mono hmn))]; congr 1; omega), HC.out.cong (fun j hj => by rw [if_pos hj])⟩

/-- Where the lower limb is less, a base is lent. -/
theorem lend (o u : Int) (hu : 0 ≤ u ∧ u < 1000000000) : (u < o % 1000000000 → (u - o) % 1000000000 = u + 1000000000 - o % 1000000000 ∧ -((u - o) / 1000000000) = o / 1000000000 + 1) ∧ (o % 1000000000 ≤ u → (u - o) % 1000000000 = u - o % 1000000000 ∧ -((u - o) / 1000000000) = o / 1000000000) := by
  refine ⟨fun h => ⟨by omega, by omega⟩, fun h => ⟨by omega, by omega⟩⟩
theorem takeFrom_any (g o n c : Nat) (a : Option Addr) (m d : Nat) (x y q : Int) (w : World) (hn : n ≤ 100000) (hmn : m ≤ n) (hx : 0 ≤ x) (hx' : x < bp n) (hy : 0 ≤ y) (hy' : y < bp m) (hq : 0 ≤ q) (hq' : q ≤ 1000000000)
    (hu : ∀ j, j < n → w.cell? ⟨g, o + j, none⟩ = some (.int .u64 (lz x j))) (hf : ∀ j, j < n → w.frozen? ⟨g, o + j, none⟩ = false) (hv : RowX w g a m y) :
    Calls Tryz.prog 209 #[.slice (some ⟨g, o, none⟩) n c, .slice a m d, .int .u64 q] w (GivesC (-((x - q * y) / bp n)) w g o n (x - q * y)) := by
  have HY := Lib.hid hy'
  have HX := Lib.hid hx'
  have HU := Lib.hid hu
  have HF := Lib.hid hf
  have HV := Lib.hid hv
  clear hy' hx' hu hf hv
  have etot : (1 : Int) * x + (-q) * y = x - q * y := by rw [Int.neg_mul]; omega
  have ET := Lib.hid etot
  clear etot
  go_enter Tryz.func209, Tryz.ntmps209
  go_wp2
  go_loopw [7, 8, 9, 12] (fun s _ _ i wr => ∃ (k : Nat) (t : Int), k ≤ n ∧ i = .int .i64 k ∧ s = .int .u64 t ∧ Hid (t = -(mx 1 (-q) x y k)) ∧ Cells w wr g o n (fun j => if j < k then lz (x - q * y) j else lz x j)) (fun _ _ _ i _ => n - (intOf i).toNat)
  case atStart => exact ⟨0, 0, by omega, rfl, rfl, by show _ = _; rw [mx_zero]; rfl, Cells.start (fun j hj => by rw [if_neg (by omega)]; exact HU.out j hj)⟩
  case round =>
    obtain ⟨k, t, hk, rfl, rfl, HT, hC⟩ := hrel
    have HC := Lib.hid hC
    clear hC
    by_cases hlt : k < n
    · have hc1 := HC.out.cells k hlt
      rw [if_neg (by omega)] at hc1
      have hfr := (HC.out.frozen (o + k)).trans (HF.out k hlt)
      have hb1 := lz_bd x k
      have hb2 := lz_bd y k
      have hT : 0 ≤ t ∧ t ≤ 1000000001 := by
        have h1 := HT.out
        have h2 := mod_bd x k
        have h3 := mod_bd y k
        have hp := bp_pos k
        have e : mx 1 (-q) x y k = (x % bp k - q * (y % bp k)) / bp k := by unfold mx; rw [Int.neg_mul]; congr 1; omega
        have m1 := Int.mul_le_mul_of_nonneg_left (Int.le_of_lt h3.2) hq
        have m2 := Int.mul_le_mul_of_nonneg_right hq' (Int.le_of_lt hp)
        have m3 := Int.mul_nonneg hq h3.1
        have l1 : -1000000001 ≤ (x % bp k - q * (y % bp k)) / bp k := Int.le_ediv_of_mul_le hp (by omega)
        have l2 : (x % bp k - q * (y % bp k)) / bp k ≤ 0 := by
          have h5 := Int.ediv_le_ediv hp (show x % bp k - q * (y % bp k) ≤ bp k - 1 by omega)
          have h6 : (bp k - 1) / bp k = 0 := Int.ediv_eq_zero_of_lt (by omega) (by omega)
          omega
        rw [e] at h1
        clear e m1 m2 m3 h2 h3
        omega
      obtain ⟨hs1, hs2⟩ := mx_step 1 (-q) x y k
      rw [ET.out] at hs1
      have hqy : 0 ≤ q * lz y k ∧ q * lz y k ≤ 1000000000000000000 := by
        refine ⟨Int.mul_nonneg hq hb2.1, ?_⟩
        have m1 := Int.mul_le_mul_of_nonneg_left (Int.le_of_lt hb2.2) hq
        omega
      have e0 : mx 1 (-q) x y k + (1 * lz x k + -q * lz y k) = lz x k - (t + q * lz y k) := by rw [HT.out, Int.neg_mul]; omega
      rw [e0] at hs1 hs2
      have hl := lend (t + q * lz y k) (lz x k) hb1
      rw [hs1, hs2] at hl
      have HL := Lib.hid hl
      clear hs1 hs2 e0 hl HT ET
      have fin : ∀ v, v = lz (x - q * y) k → ∀ j, j < n → (if j < k + 1 then lz (x - q * y) j else lz x j) = if j = k then v else if j < k then lz (x - q * y) j else lz x j := by
        intro v hv j hj
        by_cases h1 : j = k
        · subst h1; rw [if_pos (by omega), if_pos rfl, hv]
        · rw [if_neg h1]; by_cases h2 : j < k
          · rw [if_pos h2, if_pos (by omega)]
          · rw [if_neg h2, if_neg (by omega)]
      have FIN := Lib.hid fin
      clear fin
      by_cases hm : k < m
      · obtain ⟨g', o', rfl, hg', hcv⟩ := HV.out (by omega)
        have hc2 := (HC.out.other (i := o' + k) (show g' ≠ g by omega)).trans (hcv k hm)
        clear hcv
        generalize hlx : lz x k = lx at *
        generalize hly : lz y k = ly at *
        obtain ⟨hqy1, hqy2⟩ := hqy
        clear hlx hly
        by_cases hle : lx < (t + q * ly) % 1000000000
        · go_wp2
          go_roundw
          case rel => exact ⟨k + 1, _, by omega, by go_num, rfl, (HL.out.1 hle).2.symm, HC.out.set2 hlt _ _ (FIN.out _ (by rw [(HL.out.1 hle).1]))⟩
          case measure => simp [intOf]; omega
        · have hle' : (t + q * ly) % 1000000000 ≤ lx := by omega
          go_wp2
          go_roundw
          case rel => exact ⟨k + 1, _, by omega, by go_num, rfl, (HL.out.2 hle').2.symm, HC.out.set hlt _ (FIN.out _ (by rw [(HL.out.2 hle').1]))⟩
          case measure => simp [intOf]; omega
      · have hz : lz y k = 0 := lz_high hy HY.out (by omega)
        rw [hz, Int.mul_zero, Int.add_zero] at HL
        generalize hlx : lz x k = lx at *
        clear hlx hz hb2 hqy HV
        by_cases hle : lx < t % 1000000000
        · go_wp2
          go_roundw
          case rel => exact ⟨k + 1, _, by omega, by go_num, rfl, (HL.out.1 hle).2.symm, HC.out.set2 hlt _ _ (FIN.out _ (by rw [(HL.out.1 hle).1]))⟩
          case measure => simp [intOf]; omega
        · have hle' : t % 1000000000 ≤ lx := by omega
          go_wp2
          go_roundw
          case rel => exact ⟨k + 1, _, by omega, by go_num, rfl, (HL.out.2 hle').2.symm, HC.out.set hlt _ (FIN.out _ (by rw [(HL.out.2 hle').1]))⟩
          case measure => simp [intOf]; omega
    · obtain rfl : k = n := by omega
      go_wp2
      go_ret
      exact ⟨ret_int (by rw [HT.out, mx_end hx HX.out hy (Int.lt_of_lt_of_le HY.out (bp_mono hmn)), ET.out]), HC.out.cong (fun j hj => by rw [if_pos hj])⟩
end Go.Proofs.YtkhebidmfjbhaaaGreatDoor
