/-
  The chapter's examples, in plain mathematics.
-/
import Derived.Test.YtdhcffboaiajeaaDoorRedW
namespace Go.Proofs.YtdhcffboaiajeaaDoor
open M

/-- The columns of the chapter's examples. -/
def cA : List Tm := [(0, 2), (3, 1)]
def cB : List Tm := [(3, 3), (4, 4)]
def cC : List Tm := [(0, 4), (3, 2)]
def cM : List Tm := [(0, 3), (1, 1)]
theorem pr5 : pr 5 = true := by decide +kernel
theorem pr5' : pr ((5 : Nat) : Int) = true := pr5
theorem colA : Col 5 cA := by unfold cA; exact ⟨by decide, by decide, by decide, by decide, by decide, by decide, by decide, by decide, by decide, by decide, trivial⟩
theorem colB : Col 5 cB := by unfold cB; exact ⟨by decide, by decide, by decide, by decide, by decide, by decide, by decide, by decide, by decide, by decide, trivial⟩
theorem colC : Col 5 cC := by unfold cC; exact ⟨by decide, by decide, by decide, by decide, by decide, by decide, by decide, by decide, by decide, by decide, trivial⟩
theorem colM : Col 5 cM := by unfold cM; exact ⟨by decide, by decide, by decide, by decide, by decide, by decide, by decide, by decide, by decide, by decide, trivial⟩
theorem awk_add : pls 5 cA 3 cB = [(0, 2), (4, 2)] := by decide +kernel
theorem awk_dot : md 5 (dsum cA cB) = 3 := by decide +kernel
theorem awk_chk : chk2 5 cA cB = 0 := by decide +kernel
theorem awk_rs : rsE 5 [cA, cB] [(4, 1)] = 0 := by decide +kernel
theorem awk_ls : chkLs 5 [cA, cC] = 0 := by decide +kernel
theorem awk_ind : Ind 5 [cA, cB] := by
  refine ⟨fun c hc => ?_, fun k hk => ?_, fun j k hj hk e => ?_⟩
  · simp only [List.mem_cons, List.not_mem_nil, or_false] at hc
    rcases hc with rfl | rfl
    · exact colA
    · exact colB
  · match k, hk with
    | 0, _ => decide
    | 1, _ => decide
  · match j, k, hj, hk, e with
    | 0, 0, _, _, _ => rfl
    | 1, 1, _, _, _ => rfl
    | 0, 1, _, _, e => exact absurd e (by decide)
    | 1, 0, _, _, e => exact absurd e (by decide)
theorem awk_is : IsRest 5 [cA, cB] [(4, 1)] [(0, 4)] [(0, 3), (1, 4)] := by
  refine ⟨⟨by decide, by decide, by decide, by decide, by decide, trivial⟩, ⟨by decide, by decide, by decide, by decide, by decide, by decide, by decide, by decide, by decide, by decide, trivial⟩, fun i hi => ?_, fun k hk => ?_, fun i => ?_⟩
  · have h2 : (2 : Int) ≤ i := hi
    show (if (0 : Int) = i then (3 : Int) else if (1 : Int) = i then 4 else 0) = 0
    rw [if_neg (by omega), if_neg (by omega)]
  · match k, hk with
    | 0, _ => decide
    | 1, _ => decide
  · by_cases h0 : i = 0
    · subst h0; decide +kernel
    · by_cases h3 : i = 3
      · subst h3; decide +kernel
      · by_cases h4 : i = 4
        · subst h4; decide +kernel
        · have e1 : co [((0 : Int), (4 : Int))] i = 0 := if_neg (by omega)
          have e2 : co cA i = 0 := (if_neg (by show ¬ (0 : Int) = i; omega)).trans (if_neg (by show ¬ (3 : Int) = i; omega))
          have e3 : co cB i = 0 := (if_neg (by show ¬ (3 : Int) = i; omega)).trans (if_neg (by show ¬ (4 : Int) = i; omega))
          have e4 : co [((4 : Int), (1 : Int))] i = 0 := if_neg (by show ¬ (4 : Int) = i; omega)
          have e5 : cmb [cA, cB] (fun k => co [(0, 3), (1, 4)] k) i = 0 + 3 * co cA i + 4 * co cB i := rfl
          rw [e5, e1, e2, e3, e4]
          decide
theorem awk_rest {r u : List Tm} (h : IsRest 5 [cA, cB] [(4, 1)] r u) : r = [(0, 4)] ∧ u = [(0, 3), (1, 4)] :=
  IsRest.unique (q := 5) awk_ind (fld_of pr5') (show Cl 5 (-1) [(4, 1)] from ⟨by decide, by decide, by decide, by decide, by decide, trivial⟩) h awk_is
theorem fin5 : ∀ a b : Fin 5, a * 2 + b * 4 = 0 → a = b * 3 := by decide
theorem awk_ker {Z : List (List Tm)} (h : IsKer 5 [cA, cC] Z) : Z = [cM] := by
  have hR : Rd 5 [cM] := by
    refine ⟨fun c hc => by rw [List.mem_singleton.1 hc]; exact colM, fun k hk => ?_, fun k hk => ?_, fun j k hjk hk => ?_, fun j k hj hk hne => ?_⟩
    · match k, hk with
      | 0, _ => decide
    · match k, hk with
      | 0, _ => decide
    · simp at hk; omega
    · simp at hj hk; omega
  refine Rd.unique (fld_of pr5') (by decide) ⟨fun z hz => ?_, fun c hc => ?_⟩ h.red hR
  · have h1 := h.zero z hz 0
    have h2 : cmb [cA, cC] (fun k => co z k) 0 = 0 + co z 0 * 2 + co z 1 * 4 := rfl
    rw [h2, Int.zero_add, io_add, io_mul, io_mul] at h1
    have h3 : vc 5 z 0 = vc 5 z 1 * 3 := fin5 _ _ h1
    have hzc := h.red.cols z hz
    refine ⟨fun _ => vc 5 z 1, fun i => ?_⟩
    show vc 5 z i = 0 + vc 5 z 1 * vc 5 cM i
    rw [Fin.zero_add]
    by_cases h0 : i = 0
    · subst h0; exact h3
    · by_cases h4 : i = 1
      · subst h4
        have : vc 5 cM 1 = 1 := by decide
        rw [this, Fin.mul_one]
      · have e1 : vc 5 cM i = 0 := by
          show io 5 (co cM i) = 0
          rw [show co cM i = 0 from (if_neg (by show ¬ (0 : Int) = i; omega)).trans (if_neg (by show ¬ (1 : Int) = i; omega)), io_zero]
        have e2 : vc 5 z i = 0 := by
          show io 5 (co z i) = 0
          rcases Int.lt_or_le i 0 with g | g
          · rw [co_out hzc (.inl g), io_zero]
          · rw [h.row z hz i (by show (2 : Int) ≤ i; omega), io_zero]
        rw [e1, e2, Fin.mul_zero]
  · rw [List.mem_singleton.1 hc]
    refine h.all cM colM (fun i hi => ?_) (fun i => ?_)
    · have h2 : (2 : Int) ≤ i := hi
      exact (if_neg (by show ¬ (0 : Int) = i; omega)).trans (if_neg (by show ¬ (1 : Int) = i; omega))
    · have e5 : cmb [cA, cC] (fun k => co cM k) i = 0 + 3 * co cA i + 1 * co cC i := rfl
      rw [e5]
      by_cases h0 : i = 0
      · subst h0; decide +kernel
      · by_cases h3 : i = 3
        · subst h3; decide +kernel
        · have e2 : co cA i = 0 := (if_neg (by show ¬ (0 : Int) = i; omega)).trans (if_neg (by show ¬ (3 : Int) = i; omega))
          have e3 : co cC i = 0 := (if_neg (by show ¬ (0 : Int) = i; omega)).trans (if_neg (by show ¬ (3 : Int) = i; omega))
          rw [e2, e3]
          decide
end Go.Proofs.YtdhcffboaiajeaaDoor
