/-
  More plain arithmetic: results that depend on residues only, logarithms to the generator, roots, and the laws of exponents.
-/
import Derived.Test.YthglnchcggpdlaaDoorChk
namespace Go.Proofs.YthglnchcggpdlaaDoor
namespace M
theorem md_md (p a : Int) : md p (md p a) = md p a := by unfold md; exact Int.emod_emod_of_dvd _ (Int.dvd_refl p)
theorem ad_md2 (p a b : Int) : ad p (md p a) (md p b) = ad p a b := by unfold ad md; exact (Int.add_emod a b p).symm
theorem ml_md2 (p a b : Int) : ml p (md p a) (md p b) = ml p a b := by unfold ml md; exact (Int.mul_emod a b p).symm
theorem ml_md1 (p a b : Int) : ml p (md p a) b = ml p a b := by
  unfold ml md
  rw [Int.mul_emod, Int.emod_emod_of_dvd _ (Int.dvd_refl p), ← Int.mul_emod]

def invV (p a : Int) : Int := if md p a = 0 then 0 else pw p a (p - 2).toNat
def invE (p a : Int) : Int := if md p a = 0 then 9 else 0
def divV (p a b : Int) : Int := if md p b = 0 then 0 else ml p a (pw p b (p - 2).toNat)
def powV (p a n : Int) : Int := if md p a = 0 then (if n < 0 then 0 else pw p 0 n.toNat) else pw p a (md (p - 1) n).toNat
def powE (p a n : Int) : Int := if md p a = 0 ∧ n < 0 then 9 else 0
def ordV (p a : Int) : Int := if md p a = 0 then 0 else (ordN p a : Int)
def lgV (p b a : Int) : Int := if md p b = 0 ∨ md p a = 0 then 0 else logV p b a
def lgE (p b a : Int) : Int := if md p b = 0 ∨ md p a = 0 then 9 else logE p b a

theorem divV_md (p a b : Int) : divV p (md p a) (md p b) = divV p a b := by unfold divV; rw [md_md, ml_md1, pw_md]
theorem invE_md (p b : Int) : invE p (md p b) = invE p b := by unfold invE; rw [md_md]
theorem powV_md (p a n : Int) : powV p (md p a) n = powV p a n := by unfold powV; rw [md_md, pw_md]
theorem powE_md (p a n : Int) : powE p (md p a) n = powE p a n := by unfold powE; rw [md_md]
theorem lgN_md (p b a : Int) : lgN p (md p b) (md p a) = lgN p b a := by
  unfold lgN
  congr 1
  funext n
  unfold fL
  rw [md_md, pw_md]
theorem lgV_md (p b a : Int) : lgV p (md p b) (md p a) = lgV p b a := by unfold lgV logV; rw [md_md, md_md, lgN_md]
theorem lgE_md (p b a : Int) : lgE p (md p b) (md p a) = lgE p b a := by unfold lgE logE; rw [md_md, md_md, lgN_md]

/-! ### Exponents modulo p - 1 -/
theorem md1_bd {p : Int} (h : pr p = true) (n : Int) : 0 ≤ md (p - 1) n ∧ md (p - 1) n < p - 1 := by
  have := pr_bd h
  exact ⟨Int.emod_nonneg _ (by omega), Int.emod_lt_of_pos _ (by omega)⟩
theorem pw_md1 {p : Int} (h : pr p = true) (a : Int) (ha : md p a ≠ 0) (n : Nat) : pw p a (md (p - 1) n).toNat = pw p a n := by
  have b := pr_bd h
  rw [pw_mod p a _ n (fermat h a ha) b.1]
  congr 1
  obtain ⟨q, hq⟩ := Int.eq_ofNat_of_zero_le (show 0 ≤ p - 1 by omega)
  rw [hq, Int.toNat_natCast]
  unfold md
  have : (n : Int) % (q : Int) = ((n % q : Nat) : Int) := by simp
  rw [this, Int.toNat_natCast]
theorem pw_sum {p : Int} (h : pr p = true) (a : Int) (ha : md p a ≠ 0) (x y : Int) :
    pw p a (md (p - 1) (x + y)).toNat = ml p (pw p a (md (p - 1) x).toNat) (pw p a (md (p - 1) y).toNat) := by
  have bx := md1_bd h x
  have by' := md1_bd h y
  unfold ml
  rw [← pw_add, ← pw_md1 h a ha ((md (p - 1) x).toNat + (md (p - 1) y).toNat)]
  congr 2
  have e : (((md (p - 1) x).toNat + (md (p - 1) y).toNat : Nat) : Int) = md (p - 1) x + md (p - 1) y := by omega
  rw [e]
  unfold md
  exact Int.add_emod x y (p - 1)
theorem pw_full {p : Int} (h : pr p = true) (a : Int) (ha : md p a ≠ 0) : pw p a (md (p - 1) (p - 1)).toNat = 1 := by
  have b := pr_bd h
  have := pw_md1 h a ha (p - 1).toNat
  rw [fermat h a ha, Int.toNat_of_nonneg (by omega)] at this
  exact this
theorem pw_first {p : Int} (h : pr p = true) (a : Int) (ha : md p a ≠ 0) : pw p a (md (p - 1) 1).toNat = md p a := by
  have := pw_md1 h a ha 1
  rw [pw_one] at this
  exact this
theorem pw0_zero (p : Int) (n : Nat) (hn : 0 < n) : pw p 0 n = 0 := by
  unfold pw
  rw [Int.zero_pow (by omega)]
  simp

/-! ### The order divides -/
theorem md_nat_mod (m n : Nat) : md m n = ((n % m : Nat) : Int) := by unfold md; simp
theorem ord_div_int {p : Int} (h : pr p = true) (a : Int) (ha : md p a ≠ 0) (n : Int) : pw p a (md (p - 1) n).toNat = 1 ↔ (ordN p a : Int) ∣ n := by
  have b := pr_bd h
  have bn := md1_bd h n
  obtain ⟨s1, s2, s3, s4⟩ := ord_spec h a ha
  have hd := (ord_dvd h a ha (p - 1).toNat).1 (fermat h a ha)
  have hd' : (ordN p a : Int) ∣ (p - 1) := by
    have : ordN p a ∣ (p - 1).toNat := Nat.dvd_of_mod_eq_zero hd
    have := Int.natCast_dvd_natCast.2 this
    rwa [Int.toNat_of_nonneg (by omega)] at this
  have e : n = (p - 1) * (n / (p - 1)) + md (p - 1) n := (Int.mul_ediv_add_emod n (p - 1)).symm
  rw [ord_dvd h a ha]
  have key : (md (p - 1) n).toNat % ordN p a = 0 ↔ (ordN p a : Int) ∣ md (p - 1) n := by
    constructor
    · intro t
      have := Int.natCast_dvd_natCast.2 (Nat.dvd_of_mod_eq_zero t)
      rwa [Int.toNat_of_nonneg bn.1] at this
    · intro t
      rw [← Int.toNat_of_nonneg bn.1] at t
      exact Nat.mod_eq_zero_of_dvd (Int.natCast_dvd_natCast.1 t)
  rw [key]
  have hm : (ordN p a : Int) ∣ (p - 1) * (n / (p - 1)) := Int.dvd_mul_of_dvd_left hd'
  constructor
  · intro t; rw [e]; exact Int.dvd_add hm t
  · intro t
    rw [e] at t
    exact (Int.dvd_add_right hm).1 t
theorem ord_div_full {p : Int} (h : pr p = true) (a : Int) (ha : md p a ≠ 0) : (p - 1) % (ordN p a : Int) = 0 := by
  have b := pr_bd h
  have hd := (ord_dvd h a ha (p - 1).toNat).1 (fermat h a ha)
  have := Int.natCast_dvd_natCast.2 (Nat.dvd_of_mod_eq_zero hd)
  rw [Int.toNat_of_nonneg (by omega)] at this
  exact Int.emod_eq_zero_of_dvd this

/-! ### Every element is a power of the generator -/
theorem gen_pair {p : Int} (h : pr p = true) : ∃ g : Nat, (p.toNat, g) ∈ PL.zip gens := by
  have hm := pr_mem h
  obtain ⟨i, hi, he⟩ := List.getElem_of_mem hm
  have hi2 : i < gens.length := by rw [gens_len]; exact hi
  refine ⟨gens[i], ?_⟩
  rw [← he]
  have e : (PL.zip gens)[i]'(by rw [List.length_zip]; omega) = (PL[i], gens[i]) := List.getElem_zip ..
  exact e ▸ List.getElem_mem _
theorem gen_eq {p : Int} (h : pr p = true) {g : Nat} (hg : (p.toNat, g) ∈ PL.zip gens) : genN p = g := by
  have b := pr_bd h
  have e := List.all_eq_true.1 gens_chk _ hg
  have e2 := List.all_eq_true.1 gens_chk2 _ hg
  simp only [Bool.and_eq_true, decide_eq_true_eq] at e e2
  obtain ⟨⟨e1, e3⟩, e4⟩ := e
  obtain ⟨e5, -⟩ := e2
  have hp : p = ((p.toNat : Nat) : Int) := by omega
  refine first_eq (fG p) 1 (p - 1).toNat g ?_ e1 (by omega) (fun j j1 j2 => ?_)
  · have ha : md p (g : Int) ≠ 0 := md_nat e1 (by omega)
    obtain ⟨s1, s2, s3, s4⟩ := ord_spec h (g : Int) ha
    unfold fG
    by_cases hq : ordN p (g : Int) = (p - 1).toNat
    · rw [hq]; simp
    · exfalso
      have := List.all_eq_true.1 e4 (ordN p (g : Int)) (List.mem_range.2 (by omega))
      simp only [Bool.or_eq_true, decide_eq_true_eq] at this
      rw [hp, pw_nat] at s3
      rw [← hp] at s3
      rcases this with t | t
      · omega
      · omega
  · have t := List.all_eq_true.1 e5 j (List.mem_range.2 j2)
    simp only [Bool.or_eq_true, decide_eq_true_eq, List.any_eq_true, Bool.and_eq_true, List.mem_range] at t
    rcases t with t | ⟨n, n1, n2, n3⟩
    · omega
    · have ha : md p (j : Int) ≠ 0 := md_nat j1 (by omega)
      obtain ⟨s1, s2, s3, s4⟩ := ord_spec h (j : Int) ha
      unfold fG
      have hle : ordN p (j : Int) ≤ n := by
        rcases Nat.lt_or_ge n (ordN p (j : Int)) with hh | hh
        · exfalso
          apply s4 n (by omega) hh
          rw [hp, pw_nat, n3]; rfl
        · exact hh
      have : ordN p (j : Int) ≠ (p - 1).toNat := by omega
      simpa using this
theorem log_ex {p : Int} (h : pr p = true) (a : Int) (ha : md p a ≠ 0) : lgN p (genN p) a < (p - 1).toNat ∧ pw p (genN p) (lgN p (genN p) a) = md p a := by
  have b := pr_bd h
  have ba := md_bd h a
  obtain ⟨g, hg⟩ := gen_pair h
  have eg := gen_eq h hg
  have e2 := List.all_eq_true.1 gens_chk2 _ hg
  simp only [Bool.and_eq_true] at e2
  have t := List.all_eq_true.1 e2.2 (md p a).toNat (List.mem_range.2 (by show _ < p.toNat; omega))
  simp only [Bool.or_eq_true, decide_eq_true_eq, List.contains_eq_mem] at t
  have hp : p = ((p.toNat : Nat) : Int) := by omega
  rcases t with t | t
  · omega
  · obtain ⟨n, n1, n2⟩ := powers_mem (k := 0) (by rw [Nat.pow_zero]) t
    rw [Nat.zero_add] at n2
    have hit : fL p (genN p) a n = true := by
      unfold fL
      rw [eg]
      have : pw p (g : Int) n = md p a := by
        rw [hp, pw_nat, n2, ← hp]; omega
      rw [this]; simp
    have hl := first_lt (fL p (genN p) a) 0 (p - 1).toNat n hit (Nat.zero_le _) (by omega)
    have hh := first_hit _ _ _ hl
    refine ⟨by unfold lgN; omega, ?_⟩
    have hh' : fL p (genN p) a (lgN p (genN p) a) = true := hh
    simpa [fL] using hh'

/-! ### Roots -/
theorem root_miss {p : Int} (h : pr p = true) (a : Int) (hr : ¬ rtN p a < p.toNat) : 2 < p ∧ md p a ≠ 0 ∧ pw p a (md (p - 1) ((p - 1) / 2)).toNat = p - 1 := by
  have b := pr_bd h
  have ba := md_bd h a
  have hp : p = ((p.toNat : Nat) : Int) := by omega
  have e := List.all_eq_true.1 euler_chk p.toNat (pr_mem h)
  have e := List.all_eq_true.1 e (md p a).toNat (List.mem_range.2 (by omega))
  simp only [Bool.or_eq_true, decide_eq_true_eq, List.any_eq_true, List.mem_range, Bool.and_eq_true] at e
  rcases e with ⟨x, x1, x2⟩ | ⟨⟨e1, e2⟩, e3⟩
  · exfalso
    apply hr
    have hit : fR p a x = true := by
      unfold fR
      have : ((x : Int) * x) % p = md p a := by
        rw [hp]
        have : ((x : Int) * x) % ((p.toNat : Nat) : Int) = ((x * x % p.toNat : Nat) : Int) := by simp
        rw [this, x2, ← hp]; omega
      rw [this]; simp
    have := first_lt (fR p a) 0 p.toNat x hit (Nat.zero_le _) (by omega)
    unfold rtN
    omega
  · refine ⟨by omega, by omega, ?_⟩
    have hm : md (p - 1) ((p - 1) / 2) = (p - 1) / 2 := Int.emod_eq_of_lt (by omega) (by omega)
    rw [hm]
    have hn : ((p - 1) / 2).toNat = (p.toNat - 1) / 2 := by omega
    rw [hn, ← pw_md]
    have h1 : md p a = ((md p a).toNat : Int) := by omega
    rw [h1, hp, pw_nat, ← hp, e3]
    omega
theorem root_hit {p : Int} (h : pr p = true) (a : Int) (hr : rtN p a < p.toNat) : ml p (rtN p a) (rtN p a) = md p a ∧ (rtN p a : Int) ≤ md p (-(rtN p a : Int)) := by
  have b := pr_bd h
  have hh : fR p a (rtN p a) = true := first_hit (fR p a) 0 p.toNat (by unfold rtN at hr; omega)
  have h1 : ((rtN p a : Int) * rtN p a) % p = md p a := by simpa [fR] using hh
  refine ⟨h1, ?_⟩
  by_cases hz : rtN p a = 0
  · rw [hz]; exact Int.emod_nonneg _ (by omega)
  · have e : md p (-(rtN p a : Int)) = p - rtN p a := by
      unfold md
      rw [show -(rtN p a : Int) = (p - rtN p a) + p * (-1) from by omega, Int.add_mul_emod_self_left]
      exact Int.emod_eq_of_lt (by omega) (by omega)
    rw [e]
    rcases Int.lt_or_le (p - rtN p a) (rtN p a) with hlt | hge
    · exfalso
      have hb := first_before (fR p a) 0 p.toNat (p - rtN p a).toNat (Nat.zero_le _) (by show _ < rtN p a; omega)
      have : fR p a (p - rtN p a).toNat = true := by
        unfold fR
        have c : (((p - rtN p a).toNat : Nat) : Int) = p - rtN p a := by omega
        rw [c]
        have s : (p - (rtN p a : Int)) * (p - rtN p a) = (rtN p a : Int) * rtN p a + p * (p - 2 * rtN p a) := by
          rw [Int.sub_mul, Int.mul_sub, Int.mul_sub, Int.mul_sub, Int.mul_comm (rtN p a : Int) p, ← Int.mul_assoc, Int.mul_comm p 2, Int.mul_assoc]
          omega
        rw [s, Int.add_mul_emod_self_left, h1]
        simp
      rw [this] at hb
      cases hb
    · exact hge
end M
end Go.Proofs.YthglnchcggpdlaaDoor
