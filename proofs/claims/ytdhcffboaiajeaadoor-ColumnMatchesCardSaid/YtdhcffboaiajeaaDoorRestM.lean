/-
  The mathematics of a rest's loop.
-/
import Derived.Test.YtdhcffboaiajeaaDoorCombi
namespace Go.Proofs.YtdhcffboaiajeaaDoor
open M

theorem inv_left {p : Int} (hp : pr p = true) (a : Int) (ha : md p a ≠ 0) : (pw p a (p - 2).toNat * md p a) % p = 1 := by
  have h := fermat hp a ha
  have hb := pr_bd hp
  obtain ⟨k, hk⟩ : ∃ k : Nat, (p - 1).toNat = k + 1 := ⟨(p - 2).toNat, by omega⟩
  have hk2 : (p - 2).toNat = k := by omega
  rw [hk] at h
  rw [hk2]
  unfold pw md at *
  rw [← h, Int.pow_succ]
  exact (Int.mul_emod (a ^ k) a p).symm
/-- q b is a. -/
theorem div_back {p : Int} (hp : pr p = true) {a b : Int} (hb : md p b ≠ 0) : md p (ml p a (pw p b (p - 2).toNat) * b) = md p a := by
  have h := inv_left hp b hb
  obtain ⟨i, hi⟩ : ∃ i, i = pw p b (p - 2).toNat := ⟨_, rfl⟩
  rw [← hi] at h ⊢
  unfold ml md at *
  have e1 : (a * i % p * b) % p = (a * (i * (b % p))) % p := by
    rw [Int.mul_emod, Int.emod_emod_of_dvd _ (Int.dvd_refl p), ← Int.mul_emod, Int.mul_assoc]
    rw [Int.mul_emod a (i * b), Int.mul_emod a (i * (b % p)), Int.mul_emod i (b % p), Int.emod_emod_of_dvd _ (Int.dvd_refl p), ← Int.mul_emod i b]
  rw [e1, Int.mul_emod, h]
  have hb2 := pr_bd hp
  rw [show (1 : Int) = 1 % p from (Int.emod_eq_of_lt (by omega) (by omega)).symm, ← Int.mul_emod, Int.mul_one]
/-- The loop of rest: behind the rows above 'row'. -/
structure RI (p : Int) (E : List (List Tm)) (c : List Tm) (row : Int) (f x : Int → Int) : Prop where
  f0 : ∀ i, 0 ≤ f i
  f1 : ∀ i, f i ≤ (1025 - row) * 63001
  x0 : ∀ i, 0 ≤ x i ∧ x i < p
  xo : ∀ i : Int, (i < 0 ∨ (E.length : Int) ≤ i) → x i = 0
  sum : ∀ i, md p (f i + cmb E (fun k => x k) i) = co c i
  done : ∀ k, k < E.length → row < low (E.getD k []) → md p (f (low (E.getD k []))) = 0
  todo : ∀ k, k < E.length → low (E.getD k []) ≤ row → x k = 0
theorem cmb_zero (L : List (List Tm)) (i : Int) : cmb L (fun _ => 0) i = 0 := smI_zero fun k _ => by rw [Int.zero_mul]
theorem RI.start {p : Int} {E : List (List Tm)} {c : List Tm} (hp : pr p = true) (hc : Col p c) : RI p E c (low c) (fun i => 0 + 1 * co c i) (fun _ => 0) := by
  have hpb := pr_bd hp
  have hlc : low c < 1024 := by
    by_cases h : c = []
    · rw [h]; decide
    · exact (low_props hc h).2.2.1
  refine ⟨fun i => ?_, fun i => ?_, fun i => by omega, fun _ _ => rfl, fun i => ?_, fun k hk h => ?_, fun _ _ _ => rfl⟩
  · have := co_bd (by omega) hc i
    show 0 ≤ 0 + 1 * co c i
    omega
  · have := co_bd (by omega) hc i
    show 0 + 1 * co c i ≤ _
    omega
  · have := co_bd (by omega) hc i
    rw [cmb_zero, Int.add_zero, Int.zero_add, Int.one_mul, md_of, Int.emod_eq_of_lt this.1 this.2]
  · have : co c (low (E.getD k [])) = 0 := by
      by_cases h0 : c = []
      · rw [h0]; rfl
      · exact (low_props hc h0).2.2.2.2.2.2 _ h
    show md p (0 + 1 * co c _) = 0
    rw [this]
    rfl
theorem RI.skip {p : Int} {E : List (List Tm)} {c : List Tm} {row : Int} {f x : Int → Int} (h : RI p E c row f x) (hd : ∀ k, k < E.length → low (E.getD k []) = row → md p (f row) = 0) : RI p E c (row - 1) f x := by
  refine ⟨h.f0, fun i => by have := h.f1 i; omega, h.x0, h.xo, h.sum, fun k hk hl => ?_, fun k hk hl => h.todo k hk (by omega)⟩
  by_cases e : low (E.getD k []) = row
  · rw [e]; exact hd k hk e
  · exact h.done k hk (by omega)
theorem cmb_set {E : List (List Tm)} {x : Int → Int} {j : Nat} {q : Int} (hj : j < E.length) (hx : x j = 0) (i : Int) : cmb E (fun k => if ((k : Nat) : Int) = (j : Int) then q else x k) i = cmb E (fun k => x k) i + q * co (E.getD j []) i := by
  unfold cmb
  have e : smI (fun k => (if ((k : Nat) : Int) = (j : Int) then q else x k) * co (E.getD k []) i) E.length = smI (fun k => x k * co (E.getD k []) i + (if k = j then q * co (E.getD k []) i else 0)) E.length := by
    refine smI_congr fun k _ => ?_
    by_cases h : k = j
    · rw [if_pos (by omega), if_pos h, h, hx, Int.zero_mul, Int.zero_add]
    · rw [if_neg (by omega), if_neg h, Int.add_zero]
  rw [e, smI_add, smI_one hj (fun k _ hne => if_neg hne), if_pos rfl]
theorem RI.hit {p : Int} {E : List (List Tm)} {c : List Tm} {row : Int} {f x : Int → Int} (h : RI p E c row f x) (hp : pr p = true) (hI : Ind p E) {j : Nat} (hj : j < E.length) (hl : low (E.getD j []) = row) {q : Int} (hq : q = ml p (md p (f row)) (pw p (lowC (E.getD j [])) (p - 2).toNat)) :
    RI p E c (row - 1) (fun i => f i + (p - q) * co (E.getD j []) i) (fun i => if i = (j : Int) then q else x i) := by
  have hpb := pr_bd hp
  have hq0 : 0 ≤ q ∧ q < p := by rw [hq]; exact md_bd hp _
  have hcE := hI.cols.at_ j
  obtain ⟨-, l1, l2, l3, l4, l5, l6⟩ := low_props hcE (hI.full j hj)
  refine ⟨fun i => ?_, fun i => ?_, fun i => ?_, fun i hi => ?_, fun i => ?_, fun k hk hlk => ?_, fun k hk hlk => ?_⟩
  · have := co_bd (by omega) hcE i
    have h2 := h.f0 i
    have h3 : 0 ≤ (p - q) * co (E.getD j []) i := Int.mul_nonneg (by omega) this.1
    show 0 ≤ f i + _
    omega
  · have := co_bd (by omega) hcE i
    have h2 := h.f1 i
    have h3 : (p - q) * co (E.getD j []) i ≤ 251 * 251 := Int.mul_le_mul (by omega) (by omega) this.1 (by omega)
    show f i + _ ≤ _
    omega
  · show 0 ≤ (if i = (j : Int) then q else x i) ∧ (if i = (j : Int) then q else x i) < p
    split
    · exact hq0
    · exact h.x0 i
  · show (if i = (j : Int) then q else x i) = 0
    rw [if_neg (by omega)]
    exact h.xo i hi
  · have hs := h.sum i
    have hx := h.todo j hj (by omega)
    rw [cmb_set hj hx i, ← hs]
    obtain ⟨y, hy⟩ : ∃ y, y = co (E.getD j []) i := ⟨_, rfl⟩
    obtain ⟨z, hz⟩ : ∃ z, z = cmb E (fun k => x k) i := ⟨_, rfl⟩
    rw [← hy, ← hz]
    unfold md
    have e : f i + (p - q) * y + (z + q * y) = f i + z + p * y := by grind
    rw [e, Int.add_mul_emod_self_left]
  · show md p (f (low (E.getD k [])) + (p - q) * co (E.getD j []) (low (E.getD k []))) = 0
    by_cases e : low (E.getD k []) = row
    · rw [e, ← hl, l5, hl]
      have hb := div_back hp (a := md p (f row)) (b := lowC (E.getD j [])) (by rw [md_of, Int.emod_eq_of_lt (by omega) l4]; omega)
      rw [← hq] at hb
      have e2 : f row + (p - q) * lowC (E.getD j []) = (f row - q * lowC (E.getD j [])) + p * lowC (E.getD j []) := by grind
      unfold md at *
      rw [e2, Int.add_mul_emod_self_left, Int.sub_emod, hb, Int.emod_emod_of_dvd _ (Int.dvd_refl p), Int.sub_self, Int.zero_emod]
    · rw [l6 _ (by omega), Int.mul_zero, Int.add_zero]
      exact h.done k hk (by omega)
  · show (if (k : Int) = (j : Int) then q else x k) = 0
    have : (k : Int) ≠ (j : Int) := by
      intro e
      have e' : k = j := by omega
      subst e'
      omega
    rw [if_neg this]
    exact h.todo k hk (by omega)
/-- What the loop ends with is the rest. -/
theorem RI.rest {p : Int} {E : List (List Tm)} {c : List Tm} {f x : Int → Int} (h : RI p E c (-1) f x) (hp : pr p = true) (hc : Col p c) (hI : Ind p E) (hlen : E.length ≤ 1024) : IsRest p E c (sp (fun i => md p (f i)) 0 1024) (sp (fun i => md p (x i)) 0 1024) := by
  have hpb := pr_bd hp
  have hx : ∀ i, co (sp (fun i => md p (x i)) 0 1024) i = x i := fun i => by
    rw [sp_co]
    have := h.x0 i
    by_cases g : ((0 : Nat) : Int) ≤ i ∧ i < ((0 + 1024 : Nat) : Int)
    · rw [if_pos g, md_of, Int.emod_eq_of_lt this.1 this.2]
    · rw [if_neg g, h.xo i (by omega)]
  refine ⟨sp_col (fun _ => md_bd hp _) (by omega) (by omega), sp_col (fun _ => md_bd hp _) (by omega) (by omega), fun i hi => by rw [hx]; exact h.xo i (.inr hi), fun k hk => ?_, fun i => ?_⟩
  · obtain ⟨-, l1, l2, -⟩ := low_props (hI.cols.at_ k) (hI.full k hk)
    rw [sp_co, if_pos (by omega)]
    exact h.done k hk (by omega)
  · have e : cmb E (fun k => co (sp (fun i => md p (x i)) 0 1024) k) i = cmb E (fun k => x k) i := by
      unfold cmb
      exact smI_congr fun k _ => by
        show co (sp (fun i => md p (x i)) 0 1024) k * _ = x k * _
        rw [hx]
    rw [e, sp_co]
    by_cases g : ((0 : Nat) : Int) ≤ i ∧ i < ((0 + 1024 : Nat) : Int)
    · rw [if_pos g, ← h.sum i]
      unfold md
      rw [Int.add_emod, Int.emod_emod_of_dvd _ (Int.dvd_refl p), ← Int.add_emod]
    · rw [if_neg g, co_out hc (by omega)]
      have : cmb E (fun k => x k) i = 0 := smI_zero fun k _ => by rw [co_out (hI.cols.at_ k) (by omega), Int.mul_zero]
      rw [this]
      rfl
end Go.Proofs.YtdhcffboaiajeaaDoor
