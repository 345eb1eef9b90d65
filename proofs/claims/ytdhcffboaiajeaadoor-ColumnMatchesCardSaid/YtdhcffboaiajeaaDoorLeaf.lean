/-
  What Low, lowCoef, Coef and Check return.
-/
import Derived.Test.YtdhcffboaiajeaaDoorTerms
import Derived.LoopTactic
import Derived.BigQuiet
import Derived.Deep.Cut
namespace Go.Proofs.YtdhcffboaiajeaaDoor
open Go.RowKit M

theorem drop_cons {c : List Tm} {k : Nat} (h : k < c.length) : c.drop k = c[k] :: c.drop (k + 1) := List.drop_eq_getElem_cons h
theorem low_last {c : List Tm} {m : Nat} (h : c.length = m + 1) : low c = (c[m]'(by omega)).1 := by
  unfold low
  rw [List.getLast?_eq_getElem?, show c.length - 1 = m by omega, List.getElem?_eq_getElem (by omega)]
theorem lowC_last {c : List Tm} {m : Nat} (h : c.length = m + 1) : lowC c = (c[m]'(by omega)).2 := by
  unfold lowC
  rw [List.getLast?_eq_getElem?, show c.length - 1 = m by omega, List.getElem?_eq_getElem (by omega)]
theorem low_none (a : Option Addr) (n : Nat) (w : World) : Calls Tryd.prog 15 #[.slice a 0 n] w fun e w' => e = .returned (.tuple #[.int .i64 0, .bool false]) ∧ w = w' := by
  go_enter Tryd.func15, Tryd.ntmps15
  go_wp2
  go_ret2
  exact ⟨rfl, rfl⟩
theorem low_some (v : Value) (c : List Tm) (w : World) (h : TermsV w v c) (h0 : c ≠ []) : Calls Tryd.prog 15 #[v] w fun e w' => e = .returned (.tuple #[.int .i64 (low c), .bool true]) ∧ w = w' := by
  obtain ⟨a, n, rfl, h1, h2, h3⟩ := h
  have hp := List.length_pos_iff.2 h0
  obtain ⟨g, o, rfl, hg, hc⟩ := h3 hp
  obtain ⟨m, hm⟩ : ∃ m, c.length = m + 1 := ⟨c.length - 1, by omega⟩
  have c0 := (hc m (by omega)).1
  rw [← low_last hm] at c0
  unfold maxLen at h2
  rw [hm] at h1 ⊢
  clear h3 hc hm hp h0
  go_enter Tryd.func15, Tryd.ntmps15
  go_wp2
  go_ret2
  exact ⟨rfl, rfl⟩
theorem lowCoef_any (v : Value) (c : List Tm) (w : World) (h : TermsV w v c) (h0 : c ≠ []) : Calls Tryd.prog 83 #[v] w fun e w' => e = .returned (.int .i64 (lowC c)) ∧ w = w' := by
  obtain ⟨a, n, rfl, h1, h2, h3⟩ := h
  have hp := List.length_pos_iff.2 h0
  obtain ⟨g, o, rfl, hg, hc⟩ := h3 hp
  obtain ⟨m, hm⟩ : ∃ m, c.length = m + 1 := ⟨c.length - 1, by omega⟩
  have c0 := (hc m (by omega)).2
  rw [← lowC_last hm] at c0
  unfold maxLen at h2
  rw [hm] at h1 ⊢
  clear h3 hc hm hp h0
  go_enter Tryd.func83, Tryd.ntmps83
  go_wp2
  go_ret
  exact ⟨rfl, rfl⟩
theorem coef_any (v : Value) (c : List Tm) (row : Int) (w : World) (h : TermsV w v c) : Calls Tryd.prog 19 #[v, .int .i64 row] w fun e w' => e = .returned (.int .i64 (co c row)) ∧ Below w.heap.size w w' := by
  obtain ⟨a, n, rfl, h1, h2, h3⟩ := h
  unfold maxLen at h2
  go_enter Tryd.func19, Tryd.ntmps19
  go_wp2
  go_loopw [9] (fun i wr => ∃ k : Nat, k ≤ c.length ∧ i = .int .i64 k ∧ co c row = co (c.drop k) row ∧ Below w.heap.size w wr) (fun i _ => c.length - (intOf i).toNat)
  case atStart => exact ⟨0, Nat.zero_le _, rfl, rfl, Below.refl _ _⟩
  case round =>
    obtain ⟨k, hk, rfl, hco, hB⟩ := hrel
    by_cases hlt : k < c.length
    · obtain ⟨g, o, rfl, hg, hc⟩ := h3 (by omega)
      obtain ⟨c0, c1⟩ := hc k hlt
      rw [drop_cons hlt] at hco
      obtain ⟨t, ht⟩ : ∃ t, t = c[k] := ⟨_, rfl⟩
      rw [← ht] at c0 c1 hco
      replace c0 := (hB.cell (p := ⟨g, o + k * 2, none⟩) hg).trans c0
      replace c1 := (hB.cell (p := ⟨g, o + k * 2 + 1, none⟩) hg).trans c1
      have HCO := Lib.hid hco
      have HB := Lib.hid (hB.alloc hB.size (.cells #[.int .i64 t.1, .int .i64 t.2] 37))
      clear hc ht h3 hco hB
      go_wp2
      · have hx : (t.1 == row) = true := by assumption
        go_ret
        refine ⟨ret_int ?_, HB.out⟩
        rw [HCO.out]
        unfold co
        rw [if_pos (beq_iff_eq.1 hx)]
      · have hx : (t.1 == row) = false := by assumption
        refine ⟨⟨k + 1, by omega, by go_num, ?_, HB.out⟩, by simp [intOf]; omega⟩
        rw [HCO.out]
        conv => lhs; unfold co
        rw [if_neg (beq_eq_false_iff_ne.1 hx)]
    · have hkl : k = c.length := by omega
      have HCO := Lib.hid hco
      have HB := Lib.hid hB
      clear h3 hco hB
      go_wp2
      go_ret
      refine ⟨ret_int ?_, HB.out⟩
      rw [HCO.out, hkl, List.drop_length]
      rfl
theorem check_noprime (p : Int) (v : Value) (w : World) (tb : Tab w) (hp : pr p = false) : Calls Tryd.prog 17 #[.int .i64 p, v] w fun e w' => e = .returned (.int .i64 8) ∧ w = w' := by
  have T := Lib.hid tb
  clear tb
  go_enter Tryd.func17, Tryd.ntmps17
  go_wp2_with (go_at_call 53; refine (prime_any p _ T.out).mono ?_; rw [hp]; rintro e w' ⟨rfl, rfl⟩)
  go_ret
  exact ⟨rfl, rfl⟩
theorem check_ok (p : Int) (v : Value) (c : List Tm) (w : World) (tb : Tab w) (hp : pr p = true) (h : TermsV w v c) : Calls Tryd.prog 17 #[.int .i64 p, v] w fun e w' => e = .returned (.int .i64 (chkL p (-1) c)) ∧ Below w.heap.size w w' := by
  have T := Lib.hid tb
  obtain ⟨a, n, rfl, h1, h2, h3⟩ := h
  unfold maxLen at h2
  clear tb
  go_enter Tryd.func17, Tryd.ntmps17
  go_wp2_with (go_at_call 53; refine (prime_any p _ T.out).mono ?_; rw [hp]; rintro e w' ⟨rfl, rfl⟩)
  go_loopw [5, 13] (fun la i wr => ∃ (k : Nat) (last : Int), k ≤ c.length ∧ la = .int .i64 last ∧ i = .int .i64 k ∧ chkL p (-1) c = chkL p last (c.drop k) ∧ Below w.heap.size w wr) (fun _ i _ => c.length - (intOf i).toNat)
  case atStart => exact ⟨0, -1, Nat.zero_le _, rfl, rfl, rfl, Below.refl _ _⟩
  case round =>
    obtain ⟨k, last, hk, rfl, rfl, hco, hB⟩ := hrel
    by_cases hlt : k < c.length
    · obtain ⟨g, o, rfl, hg, hc⟩ := h3 (by omega)
      obtain ⟨c0, c1⟩ := hc k hlt
      rw [drop_cons hlt] at hco
      obtain ⟨t, ht⟩ : ∃ t, t = c[k] := ⟨_, rfl⟩
      rw [← ht] at c0 c1 hco
      replace c0 := (hB.cell (p := ⟨g, o + k * 2, none⟩) hg).trans c0
      replace c1 := (hB.cell (p := ⟨g, o + k * 2 + 1, none⟩) hg).trans c1
      have HCO := Lib.hid hco
      have HB := Lib.hid (hB.alloc hB.size (.cells #[.int .i64 t.1, .int .i64 t.2] 37))
      clear hc ht h3 hco hB
      go_wp2
      all_goals first
        | (go_ret; refine ⟨ret_int ?_, HB.out⟩; rw [HCO.out]; unfold chkL; rw [if_pos (by omega)]; done)
        | (go_ret; refine ⟨ret_int ?_, HB.out⟩; rw [HCO.out]; unfold chkL; rw [if_neg (by omega), if_pos (by omega)]; done)
        | (refine ⟨⟨k + 1, t.1, by omega, rfl, by go_num, ?_, HB.out⟩, by simp [intOf]; omega⟩; rw [HCO.out]; conv => lhs; unfold chkL; rw [if_neg (by omega), if_neg (by omega)])
    · have hkl : k = c.length := by omega
      have HCO := Lib.hid hco
      have HB := Lib.hid hB
      clear h3 hco hB
      go_wp2
      go_ret
      refine ⟨ret_int ?_, HB.out⟩
      rw [HCO.out, hkl, List.drop_length]
      rfl
theorem check_any (p : Int) (v : Value) (c : List Tm) (w : World) (tb : Tab w) (h : TermsV w v c) : Calls Tryd.prog 17 #[.int .i64 p, v] w fun e w' => e = .returned (.int .i64 (chk p c)) ∧ Below w.heap.size w w' := by
  unfold chk
  cases hp : pr p with
  | true => rw [if_pos rfl]; exact check_ok p v c w tb hp h
  | false =>
    rw [if_neg (by simp)]
    refine (check_noprime p v w tb hp).mono ?_
    rintro e w' ⟨h1, rfl⟩
    exact ⟨h1, Below.refl _ _⟩
end Go.Proofs.YtdhcffboaiajeaaDoor
