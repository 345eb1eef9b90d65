/-
  What the statements' long returns; storing over a row of the call's own.
-/
import Derived.Test.YtdhcffboaiajeaaDoorRDot
import Derived.Test.YtdhcffboaiajeaaDoorPlusO
namespace Go.Proofs.YtdhcffboaiajeaaDoor
open Go.RowKit M

/-- Is a list longer than the statements compare? -/
def lng (L : List (List Tm)) : Bool := decide (12 < L.length) || L.any fun c => decide (30 < c.length)
theorem lng_false {L : List (List Tm)} (h : lng L = false) : L.length ≤ 12 ∧ ∀ c, c ∈ L → c.length ≤ 30 := by
  unfold lng at h
  simp only [Bool.or_eq_false_iff, decide_eq_false_iff_not, List.any_eq_false] at h
  refine ⟨by omega, fun c hc => ?_⟩
  have := h.2 c hc
  simpa using this
theorem lng_any {L : List (List Tm)} (h : ¬ 12 < L.length) : lng L = L.any fun c => decide (30 < c.length) := by
  unfold lng
  rw [decide_eq_false h, Bool.false_or]
theorem any_cut {L : List (List Tm)} {k : Nat} (h : k < L.length) (f : List Tm → Bool) : (L.drop k).any f = (f L[k] || (L.drop (k + 1)).any f) := by
  rw [List.drop_eq_getElem_cons h]
  rfl
set_option maxHeartbeats 1000000 in
theorem long_any (v : Value) (L : List (List Tm)) (w : World) (h : ListV w v L) : Calls Tryd.prog 12 #[v] w fun e w' => e = .returned (.bool (lng L)) ∧ w = w' := by
  obtain ⟨a, n, rfl, h1, h2, h3⟩ := h
  unfold maxLen at h2
  by_cases h12 : 12 < L.length
  · have HL := Lib.hid (show lng L = true from by unfold lng; rw [decide_eq_true h12, Bool.true_or])
    have h' : (12 : Int) < L.length := by omega
    clear h3
    go_enter Tryd.func12, Tryd.ntmps12
    go_wp2
    go_ret
    exact ⟨ret_bool HL.out.symm, rfl⟩
  · have HL := Lib.hid (lng_any h12)
    have h' : ¬ (12 : Int) < L.length := by omega
    go_enter Tryd.func12, Tryd.ntmps12
    go_wp2
    go_loop [3] (fun i => ∃ (k : Nat), k ≤ L.length ∧ i = .int .i64 k ∧ (L.any fun c => decide (30 < c.length)) = ((L.drop k).any fun c => decide (30 < c.length))) (fun i => L.length - (intOf i).toNat)
    case atStart => exact ⟨0, Nat.zero_le _, rfl, rfl⟩
    case round =>
      obtain ⟨k, hk, rfl, hco⟩ := hrel
      by_cases hlt : k < L.length
      · obtain ⟨g, o, rfl, hg, hc⟩ := h3 (by omega)
        obtain ⟨s, c0, hT⟩ := hc k hlt
        rw [any_cut hlt] at hco
        obtain ⟨b, bn, rfl, b1, b2, -⟩ := hT
        obtain ⟨m, hm⟩ : ∃ m, m = L[k].length := ⟨_, rfl⟩
        rw [← hm] at c0 hco
        have hkl : (k : Int) < L.length := by omega
        clear hc h3 hm b1
        by_cases h30 : 30 < m
        · have HR := Lib.hid (show lng L = true from by rw [HL.out, hco, decide_eq_true h30, Bool.true_or])
          have h30' : (30 : Int) < m := by omega
          clear hco
          go_wp2
          go_ret
          exact ⟨ret_bool HR.out.symm, rfl⟩
        · rw [decide_eq_false h30, Bool.false_or] at hco
          have HCO := Lib.hid hco
          have h30' : ¬ (30 : Int) < m := by omega
          clear hco
          go_wp2
          go_round
          case rel => exact ⟨k + 1, by omega, by go_num, HCO.out⟩
          case measure => simp [intOf]; omega
      · have HR := Lib.hid (show lng L = false from by rw [HL.out, hco, show k = L.length by omega, List.drop_length]; rfl)
        clear hco h3
        go_wp2
        go_ret
        exact ⟨ret_bool HR.out.symm, rfl⟩
/-- A row of the call's own that is stored over, row by row. -/
structure OW (W0 W : World) (B : Nat) (v : Value) (n : Nat) : Prop where
  row : ∃ xs, W.ownsRow B 37 2 v n xs
  gr : W0.grownBy W v.ownBlock
theorem OW.cells {W0 W : World} {B g n cap i : Nat} (h : OW W0 W B (.slice (some ⟨g, 0, none⟩) n cap) n) (hi : i < n) : ∃ y0 y1, W.cell? ⟨g, i * 2, none⟩ = some y0 ∧ W.cell? ⟨g, i * 2 + 1, none⟩ = some y1 ∧ (∀ j, W.frozen? ⟨g, j, none⟩ = false) ∧ g < W.heap.size := by
  obtain ⟨xs, hr⟩ := h.row
  have hl : xs.length = n * 2 := hr.1
  refine ⟨xs[i * 2]'(by omega), xs[i * 2 + 1]'(by omega), ?_, ?_, fun j => hr.frozenAt j, (hr.lt g rfl).2⟩
  · rw [hr.cellAt (i * 2) (by omega), List.getElem?_eq_getElem]
  · rw [hr.cellAt (i * 2 + 1) (by omega), List.getElem?_eq_getElem]
theorem OW.step {W0 W : World} {B g n cap : Nat} (h : OW W0 W B (.slice (some ⟨g, 0, none⟩) n cap) n) (i j : Nat) (u u' : Value) : OW W0 ((W.setCell ⟨g, i, none⟩ u).setCell ⟨g, j, none⟩ u') B (.slice (some ⟨g, 0, none⟩) n cap) n := by
  obtain ⟨xs, hr⟩ := h.row
  exact ⟨⟨_, ((hr.stored i u).1.stored j u').1⟩, grown_set (grown_set h.gr _ _) _ _⟩
end Go.Proofs.YtdhcffboaiajeaaDoor
