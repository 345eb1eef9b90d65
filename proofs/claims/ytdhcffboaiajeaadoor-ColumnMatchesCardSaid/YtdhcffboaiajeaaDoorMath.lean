/-
  The plain arithmetic modulo the primes up to 251 that the proofs of this seat use: no Go text is named here.
-/
import Derived.KernelRfl
namespace Go.Proofs.YtdhcffboaiajeaaDoor
namespace M

/-- The primes up to 251. -/
def PL : List Nat := [2, 3, 5, 7, 11, 13, 17, 19, 23, 29, 31, 37, 41, 43, 47, 53, 59, 61, 67, 71, 73, 79, 83, 89, 97, 101, 103, 107, 109, 113, 127, 131, 137, 139, 149, 151, 157, 163, 167, 173, 179, 181, 191, 193, 197, 199, 211, 223, 227, 229, 233, 239, 241, 251]

/-- Is p a prime up to 251? -/
def pr (p : Int) : Bool := decide (0 ≤ p) && PL.contains p.toNat

/-- The first number from s on, below s + n, at which f answers true; s + n if there is none. -/
def first (f : Nat → Bool) : Nat → Nat → Nat
  | s, 0 => s
  | s, n + 1 => if f s then s else first f (s + 1) n

theorem first_eq (f : Nat → Bool) (s n k : Nat) (hk : f k = true) (h1 : s ≤ k) (h2 : k < s + n) (hm : ∀ j, s ≤ j → j < k → f j = false) : first f s n = k := by
  induction n generalizing s with
  | zero => omega
  | succ n ih =>
    unfold first
    by_cases e : s = k
    · subst e; simp [hk]
    · rw [hm s (Nat.le_refl _) (by omega)]
      simp only [Bool.false_eq_true, if_false]
      exact ih (s + 1) (by omega) (by omega) (fun j a b => hm j (by omega) b)
theorem first_none (f : Nat → Bool) (s n : Nat) (hm : ∀ j, s ≤ j → j < s + n → f j = false) : first f s n = s + n := by
  induction n generalizing s with
  | zero => rfl
  | succ n ih =>
    unfold first
    rw [hm s (Nat.le_refl _) (by omega)]
    simp only [Bool.false_eq_true, if_false]
    rw [ih (s + 1) (fun j a b => hm j (by omega) (by omega))]
    omega
theorem first_ge (f : Nat → Bool) (s n : Nat) : s ≤ first f s n := by
  induction n generalizing s with
  | zero => exact Nat.le_refl _
  | succ n ih =>
    unfold first
    split
    · exact Nat.le_refl _
    · exact Nat.le_trans (Nat.le_succ s) (ih (s + 1))
theorem first_le (f : Nat → Bool) (s n : Nat) : first f s n ≤ s + n := by
  induction n generalizing s with
  | zero => exact Nat.le_refl _
  | succ n ih =>
    unfold first
    split
    · omega
    · have := ih (s + 1); omega
theorem first_before (f : Nat → Bool) (s n j : Nat) (h1 : s ≤ j) (h2 : j < first f s n) : f j = false := by
  induction n generalizing s with
  | zero => unfold first at h2; omega
  | succ n ih =>
    unfold first at h2
    by_cases hs : f s = true
    · rw [if_pos hs] at h2; omega
    · rw [if_neg hs] at h2
      by_cases e : s = j
      · subst e; simpa using hs
      · exact ih (s + 1) (by omega) h2
theorem first_hit (f : Nat → Bool) (s n : Nat) (h : first f s n < s + n) : f (first f s n) = true := by
  induction n generalizing s with
  | zero => unfold first at h; omega
  | succ n ih =>
    unfold first at h ⊢
    by_cases hs : f s = true
    · rw [if_pos hs]; exact hs
    · rw [if_neg hs] at h ⊢
      exact ih (s + 1) (by omega)
theorem first_lt (f : Nat → Bool) (s n k : Nat) (hk : f k = true) (h1 : s ≤ k) (h2 : k < s + n) : first f s n < s + n := by
  have a := first_le f s n
  by_cases e : first f s n ≤ k
  · omega
  · have := first_before f s n k h1 (by omega)
    rw [hk] at this; cases this

theorem pr_bd {p : Int} (h : pr p = true) : 2 ≤ p ∧ p ≤ 251 := by
  unfold pr at h
  simp only [Bool.and_eq_true, decide_eq_true_eq, List.contains_eq_mem] at h
  have e : ∀ q ∈ PL, 2 ≤ q ∧ q ≤ 251 := by decide +kernel
  have := e _ h.2
  omega
theorem pr_mem {p : Int} (h : pr p = true) : p.toNat ∈ PL := by
  unfold pr at h
  simp only [Bool.and_eq_true, decide_eq_true_eq, List.contains_eq_mem] at h
  exact h.2
theorem pr_of_mem {q : Nat} (h : q ∈ PL) : pr (q : Int) = true := by
  unfold pr
  simpa using h
theorem pr_low {p : Int} (h : p < 2) : pr p = false := by
  cases e : pr p
  · rfl
  · have := pr_bd e; omega
theorem pr_high {p : Int} (h : 251 < p) : pr p = false := by
  cases e : pr p
  · rfl
  · have := pr_bd e; omega

/-- What trial division answers. -/
theorem trial_chk : ((List.range 252).all fun p => decide (p < 2) || (PL.contains p == ((List.range p).all fun d => decide (d < 2) || decide (p % d ≠ 0)))) = true := by decide +kernel
theorem trial {p : Nat} (h2 : 2 ≤ p) (h : p ≤ 251) : PL.contains p = true ↔ ∀ d, 2 ≤ d → d < p → p % d ≠ 0 := by
  have e := List.all_eq_true.1 trial_chk p (List.mem_range.2 (by omega))
  simp only [Bool.or_eq_true, decide_eq_true_eq, beq_iff_eq] at e
  rcases e with e | e
  · omega
  · rw [e, List.all_eq_true]
    constructor
    · intro a d h1 h3
      have := a d (List.mem_range.2 h3)
      simp only [Bool.or_eq_true, decide_eq_true_eq] at this
      omega
    · intro a d hd
      simp only [Bool.or_eq_true, decide_eq_true_eq]
      by_cases hd2 : d < 2
      · exact .inl hd2
      · exact .inr (a d (by omega) (List.mem_range.1 hd))

/-! ### Residues and powers over Int -/
def md (p a : Int) : Int := a % p
def ad (p a b : Int) : Int := (a + b) % p
def sb (p a b : Int) : Int := (a - b) % p
def ml (p a b : Int) : Int := (a * b) % p
def pw (p a : Int) (n : Nat) : Int := a ^ n % p

theorem md_bd {p : Int} (h : pr p = true) (a : Int) : 0 ≤ md p a ∧ md p a < p := by
  have := pr_bd h
  exact ⟨Int.emod_nonneg _ (by omega), Int.emod_lt_of_pos _ (by omega)⟩
theorem ad_md (p a b : Int) : (md p a + md p b) % p = ad p a b := by unfold md ad; exact (Int.add_emod a b p).symm
theorem sb_md (p a b : Int) : (md p a - md p b) % p = sb p a b := by unfold md sb; exact (Int.sub_emod a b p).symm
theorem ml_md (p a b : Int) : (md p a * md p b) % p = ml p a b := by unfold md ml; exact (Int.mul_emod a b p).symm
theorem pw_md (p a : Int) (n : Nat) : pw p (md p a) n = pw p a n := by
  unfold pw md
  induction n with
  | zero => rw [Int.pow_zero, Int.pow_zero]
  | succ n ih => rw [Int.pow_succ, Int.pow_succ, Int.mul_emod, ih, Int.emod_emod_of_dvd _ (Int.dvd_refl p), ← Int.mul_emod]
theorem prod_bd {x y : Int} (hx : 0 ≤ x) (hx' : x ≤ 251) (hy : 0 ≤ y) (hy' : y ≤ 251) : 0 ≤ x * y ∧ x * y ≤ 63001 :=
  ⟨Int.mul_nonneg hx hy, Int.mul_le_mul hx' hy' hy (by omega)⟩
theorem pw_bd {p : Int} (h : pr p = true) (a : Int) (n : Nat) : 0 ≤ pw p a n ∧ pw p a n < p := by
  have := pr_bd h
  exact ⟨Int.emod_nonneg _ (by omega), Int.emod_lt_of_pos _ (by omega)⟩
theorem pw_zero {p : Int} (h : pr p = true) (a : Int) : pw p a 0 = 1 := by
  have := pr_bd h
  unfold pw
  rw [Int.pow_zero, Int.emod_eq_of_lt (by omega) (by omega)]
theorem pw_succ (p a : Int) (n : Nat) : pw p a (n + 1) = (pw p a n * a) % p := by
  unfold pw
  rw [Int.pow_succ, Int.mul_emod, Int.mul_emod (a ^ n % p) a, Int.emod_emod_of_dvd _ (Int.dvd_refl p)]
theorem pw_add (p a : Int) (m n : Nat) : pw p a (m + n) = (pw p a m * pw p a n) % p := by
  unfold pw
  rw [Int.pow_add, Int.mul_emod]

/-! ### Fermat, by the kernel over all primes and residues -/
theorem fermat_chk : (PL.all fun p => (List.range p).all fun r => decide (r = 0) || decide (r ^ (p - 1) % p = 1)) = true := by decide +kernel
theorem fermat {p : Int} (h : pr p = true) (a : Int) (ha : md p a ≠ 0) : pw p a (p - 1).toNat = 1 := by
  have b := pr_bd h
  have c := md_bd h a
  have e := List.all_eq_true.1 fermat_chk p.toNat (pr_mem h)
  have e := List.all_eq_true.1 e (md p a).toNat (List.mem_range.2 (by omega))
  simp only [Bool.or_eq_true, decide_eq_true_eq] at e
  have e : (md p a).toNat ^ (p.toNat - 1) % p.toNat = 1 := by
    rcases e with e | e
    · omega
    · exact e
  rw [← pw_md]
  unfold pw
  have h1 : ((md p a).toNat : Int) = md p a := by omega
  have h2 : ((p.toNat : Nat) : Int) = p := by omega
  have h3 : (p - 1).toNat = p.toNat - 1 := by omega
  rw [h3]
  generalize hr : (md p a).toNat = r at *
  generalize hq : p.toNat = q at *
  rw [← h1, ← h2]
  have := congrArg (Nat.cast (R := Int)) e
  simpa using this
theorem pw_mul_pow (p a : Int) (m k : Nat) (h : pw p a m = 1) (hp : 2 ≤ p) : pw p a (m * k) = 1 := by
  induction k with
  | zero => unfold pw; rw [Nat.mul_zero, Int.pow_zero, Int.emod_eq_of_lt (by omega) (by omega)]
  | succ k ih => rw [Nat.mul_succ, pw_add, ih, h]; exact Int.emod_eq_of_lt (by omega) (by omega)
theorem pw_mod (p a : Int) (m n : Nat) (h : pw p a m = 1) (hp : 2 ≤ p) : pw p a n = pw p a (n % m) := by
  have e : n = m * (n / m) + n % m := (Nat.div_add_mod n m).symm
  rw [e, pw_add, pw_mul_pow p a m _ h hp, Int.one_mul, ← e]
  unfold pw
  rw [Int.emod_emod_of_dvd _ (Int.dvd_refl p)]
theorem pw_ne_zero {p : Int} (h : pr p = true) (a : Int) (ha : md p a ≠ 0) (n : Nat) : pw p a n ≠ 0 := by
  intro e
  have b := pr_bd h
  have f := fermat h a ha
  have g : pw p a ((p - 1).toNat * n) = 1 := pw_mul_pow p a _ n f (by omega)
  have e2 : (p - 1).toNat * n = n + ((p - 1).toNat * n - n) := by
    have : 1 * n ≤ (p - 1).toNat * n := Nat.mul_le_mul_right n (by omega)
    omega
  rw [e2, pw_add, e, Int.zero_mul] at g
  simp at g

/-! ### Orders, logarithms, roots, generators -/
def NoHit (f : Nat → Bool) (s j : Nat) : Prop := ∀ i, s ≤ i → i < j → f i = false
theorem NoHit.start (f : Nat → Bool) (s : Nat) : NoHit f s s := fun i h1 h2 => by omega
theorem NoHit.snoc {f : Nat → Bool} {s j : Nat} (h : NoHit f s j) (hj : f j = false) : NoHit f s (j + 1) := fun i h1 h2 => by
  by_cases e : i = j
  · rw [e]; exact hj
  · exact h i h1 (by omega)
theorem NoHit.hit {f : Nat → Bool} {s n j : Nat} (h : NoHit f s j) (hj : f j = true) (h1 : s ≤ j) (h2 : j < s + n) : first f s n = j := first_eq f s n j hj h1 h2 h
def fO (p a : Int) (n : Nat) : Bool := pw p a n == 1
def ordN (p a : Int) : Nat := first (fO p a) 1 (p - 1).toNat
def fL (p b a : Int) (n : Nat) : Bool := pw p b n == md p a
def lgN (p b a : Int) : Nat := first (fL p b a) 0 (p - 1).toNat
def logV (p b a : Int) : Int := if lgN p b a < (p - 1).toNat then (lgN p b a : Int) else 0
def logE (p b a : Int) : Int := if lgN p b a < (p - 1).toNat then 0 else 4
def fR (p a : Int) (x : Nat) : Bool := ((x : Int) * x) % p == md p a
def rtN (p a : Int) : Nat := first (fR p a) 0 p.toNat
def rootV (p a : Int) : Int := if rtN p a < p.toNat then (rtN p a : Int) else 0
def rootE (p a : Int) : Int := if rtN p a < p.toNat then 0 else 4
def fG (p : Int) (g : Nat) : Bool := ordN p g == (p - 1).toNat
def genN (p : Int) : Nat := first (fG p) 1 (p - 1).toNat
theorem pw_one (p a : Int) : pw p a 1 = md p a := by
  unfold pw md
  rw [Int.pow_succ, Int.pow_zero, Int.one_mul]
theorem pw_step (p a : Int) (n : Nat) : (pw p a n * md p a) % p = pw p a (n + 1) := by
  rw [pw_succ]
  unfold pw md
  rw [← Int.mul_emod, Int.mul_emod (a ^ n % p) a, Int.emod_emod_of_dvd _ (Int.dvd_refl p), ← Int.mul_emod]
theorem ord_spec {p : Int} (h : pr p = true) (a : Int) (ha : md p a ≠ 0) : 1 ≤ ordN p a ∧ ordN p a ≤ (p - 1).toNat ∧ pw p a (ordN p a) = 1 ∧ ∀ i, 1 ≤ i → i < ordN p a → pw p a i ≠ 1 := by
  have b := pr_bd h
  have f := fermat h a ha
  have l := first_lt (fO p a) 1 (p - 1).toNat (p - 1).toNat (by unfold fO; rw [f]; rfl) (by omega) (by omega)
  refine ⟨first_ge _ _ _, by unfold ordN; omega, ?_, fun i h1 h2 e => ?_⟩
  · have : fO p a (ordN p a) = true := first_hit _ _ _ l
    simpa [fO] using this
  · have := first_before _ _ _ i h1 h2
    simp [fO, e] at this
theorem ord_dvd {p : Int} (h : pr p = true) (a : Int) (ha : md p a ≠ 0) (n : Nat) : pw p a n = 1 ↔ n % ordN p a = 0 := by
  obtain ⟨s1, s2, s3, s4⟩ := ord_spec h a ha
  have b := pr_bd h
  rw [pw_mod p a (ordN p a) n s3 b.1]
  constructor
  · intro e
    by_cases hz : n % ordN p a = 0
    · exact hz
    · exact absurd e (s4 _ (by omega) (Nat.mod_lt _ (by omega)))
  · intro e
    rw [e]; exact pw_zero h a
theorem md_nat {p : Int} {j : Nat} (h1 : 1 ≤ j) (h2 : (j : Int) < p) : md p j ≠ 0 := by
  unfold md
  rw [Int.emod_eq_of_lt (by omega) h2]
  omega
/-- A primitive root modulo each prime of the list, for the kernel. -/
def gens : List Nat := [1, 2, 2, 3, 2, 2, 3, 2, 5, 2, 3, 2, 6, 3, 5, 2, 2, 2, 2, 7, 5, 3, 2, 3, 5, 2, 5, 2, 6, 3, 3, 2, 3, 2, 2, 6, 5, 2, 5, 2, 2, 2, 19, 5, 2, 3, 2, 3, 2, 6, 3, 7, 7, 6]
theorem gens_chk : ((PL.zip gens).all fun x => decide (1 ≤ x.2) && decide (x.2 < x.1) && ((List.range (x.1 - 1)).all fun n => decide (n = 0) || decide (x.2 ^ n % x.1 ≠ 1))) = true := by decide +kernel
theorem gens_len : gens.length = PL.length := by decide
theorem pw_nat (q r n : Nat) : pw (q : Int) (r : Int) n = ((r ^ n % q : Nat) : Int) := by
  unfold pw
  simp
theorem gen_ex {p : Int} (h : pr p = true) : ∃ k : Nat, 1 ≤ k ∧ (k : Int) < p ∧ fG p k = true := by
  have b := pr_bd h
  have hm := pr_mem h
  obtain ⟨i, hi, he⟩ := List.getElem_of_mem hm
  have hi2 : i < gens.length := by rw [gens_len]; exact hi
  have hz : (p.toNat, gens[i]) ∈ PL.zip gens := by
    rw [← he]
    have e : (PL.zip gens)[i]'(by rw [List.length_zip]; omega) = (PL[i], gens[i]) := List.getElem_zip ..
    exact e ▸ List.getElem_mem _
  have e := List.all_eq_true.1 gens_chk _ hz
  simp only [Bool.and_eq_true, decide_eq_true_eq] at e
  obtain ⟨⟨e1, e2⟩, e3⟩ := e
  refine ⟨gens[i], e1, by omega, ?_⟩
  unfold fG
  have ha : md p (gens[i] : Int) ≠ 0 := md_nat e1 (by omega)
  obtain ⟨s1, s2, s3, s4⟩ := ord_spec h (gens[i] : Int) ha
  by_cases hq : ordN p (gens[i] : Int) = (p - 1).toNat
  · rw [hq]; simp
  · exfalso
    have := List.all_eq_true.1 e3 (ordN p (gens[i] : Int)) (List.mem_range.2 (by omega))
    simp only [Bool.or_eq_true, decide_eq_true_eq] at this
    rcases this with t | t
    · omega
    · have hp : p = ((p.toNat : Nat) : Int) := by omega
      rw [hp, pw_nat] at s3
      rw [← hp] at s3
      omega
theorem gen_spec {p : Int} (h : pr p = true) : 1 ≤ genN p ∧ (genN p : Int) < p ∧ ordN p (genN p) = (p - 1).toNat := by
  have b := pr_bd h
  obtain ⟨k, k1, k2, k3⟩ := gen_ex h
  have l := first_lt (fG p) 1 (p - 1).toNat k k3 k1 (by omega)
  refine ⟨first_ge _ _ _, by unfold genN; omega, ?_⟩
  have : fG p (genN p) = true := first_hit _ _ _ l
  simpa [fG] using this
theorem md_self {p : Int} {j : Nat} (h2 : (j : Int) < p) : md p j = j := by
  unfold md
  exact Int.emod_eq_of_lt (by omega) h2
theorem pw_step_nat {p : Int} {j : Nat} (h2 : (j : Int) < p) (n : Nat) : (pw p j n * j) % p = pw p j (n + 1) := by
  have := pw_step p (j : Int) n
  rw [md_self h2] at this
  exact this
theorem ord_hit {p : Int} {j i : Nat} (h : NoHit (fO p j) 1 (i + 1)) (he : pw p j (i + 1) = 1) (hi : i < (p - 1).toNat) : ordN p j = i + 1 :=
  h.hit (n := (p - 1).toNat) (by unfold fO; rw [he]; rfl) (by omega) (by omega)
theorem gen_hit {p : Int} {j : Nat} (h : ordN p j = (p - 1).toNat) (h1 : 1 ≤ j) (h2 : j ≤ genN p) : j = genN p := by
  by_cases e : j = genN p
  · exact e
  · have := first_before (fG p) 1 (p - 1).toNat j h1 (by unfold genN at h2 e; omega)
    unfold fG at this
    rw [h] at this
    simp at this
theorem gen_miss {p : Int} (hp : pr p = true) {j : Nat} (h : ordN p j ≠ (p - 1).toNat) (h2 : j ≤ genN p) : j < genN p := by
  by_cases e : j = genN p
  · subst e; exact absurd (gen_spec hp).2.2 h
  · omega

/-! ### The list of the primes -/
def PK (j : Nat) : List Nat := PL.filter (fun q => decide (q < j))
theorem PK_chk : ((List.range 252).all fun j => decide (PK (j + 1) = if PL.contains j then PK j ++ [j] else PK j)) = true := by decide +kernel
theorem PK_step (j : Nat) (h : j ≤ 251) : PK (j + 1) = if PL.contains j then PK j ++ [j] else PK j := of_decide_eq_true (List.all_eq_true.1 PK_chk j (List.mem_range.2 (by omega)))
theorem PK_hit {j : Nat} (h : j ≤ 251) (hp : pr (j : Int) = true) : PK (j + 1) = PK j ++ [j] := by
  rw [PK_step j h]
  have : PL.contains j = true := by simpa [pr] using hp
  rw [if_pos this]
theorem PK_miss {j : Nat} (h : j ≤ 251) (hp : pr (j : Int) = false) : PK (j + 1) = PK j := by
  rw [PK_step j h]
  have : ¬ PL.contains j = true := by intro e; have : pr (j : Int) = true := by simpa [pr] using e
                                      rw [hp] at this; cases this
  rw [if_neg this]
theorem PK_two : PK 2 = [] := by decide
theorem PK_end : PK 252 = PL := by decide +kernel
theorem PK_len (j : Nat) : (PK j).length ≤ 54 := List.length_filter_le _ PL
def fld (k : Int) : Int := ((PL.getD (md 54 k).toNat 2 : Nat) : Int)
theorem md54 (k : Int) : 0 ≤ md 54 k ∧ md 54 k < 54 := ⟨Int.emod_nonneg _ (by omega), Int.emod_lt_of_pos _ (by omega)⟩
theorem fld_pr (k : Int) : pr (fld k) = true := by
  have b := md54 k
  unfold fld
  apply pr_of_mem
  rw [List.getD_eq_getElem?_getD, List.getElem?_eq_getElem (show (md 54 k).toNat < PL.length by show _ < 54; omega), Option.getD_some]
  exact List.getElem_mem _
theorem fld_get (k : Int) : (PL.map fun q : Nat => (q : Int))[(md 54 k).toNat]? = some (fld k) := by
  have b := md54 k
  have h : (md 54 k).toNat < PL.length := by show _ < 54; omega
  unfold fld
  rw [List.getElem?_map, List.getD_eq_getElem?_getD, List.getElem?_eq_getElem h]
  rfl
end M
end Go.Proofs.YtdhcffboaiajeaaDoor
