/-
  What the reference's Check returns.
-/
import Derived.Test.YtdhcffboaiajeaaDoorRMod
import Derived.Test.YtdhcffboaiajeaaDoorLeaf
namespace Go.Proofs.YtdhcffboaiajeaaDoor
open Go.RowKit M

set_option maxHeartbeats 1000000 in
set_option maxRecDepth 100000 in
theorem rcheck_ok (p : Int) (v : Value) (c : List Tm) (w : World) (hp : pr p = true) (h : TermsV w v c) : Calls Tryd.prog 18 #[.int .i64 p, v] w fun e w' => e = .returned (.int .i64 (chkL p (-1) c)) ∧ w = w' := by
  obtain ⟨a, n, rfl, h1, h2, h3⟩ := h
  unfold maxLen at h2
  go_enter Tryd.func18, Tryd.ntmps18
  go_wp2_with (go_at_call 54; refine (rprime_any p _).mono ?_; rw [hp]; rintro e w' ⟨rfl, rfl⟩)
  go_loop [5, 6] (fun la i => ∃ (k : Nat) (last : Int), k ≤ c.length ∧ la = .int .i64 last ∧ i = .int .i64 k ∧ chkL p (-1) c = chkL p last (c.drop k)) (fun _ i => c.length - (intOf i).toNat)
  case atStart => exact ⟨0, -1, Nat.zero_le _, rfl, rfl, rfl⟩
  case round =>
    obtain ⟨k, last, hk, rfl, rfl, hco⟩ := hrel
    by_cases hlt : k < c.length
    · obtain ⟨g, o, rfl, hg, hc⟩ := h3 (by omega)
      obtain ⟨c0, c1⟩ := hc k hlt
      rw [drop_cons hlt] at hco
      obtain ⟨t, ht⟩ : ∃ t, t = c[k] := ⟨_, rfl⟩
      rw [← ht] at c0 c1 hco
      obtain ⟨x, y⟩ := t
      by_cases hbad : x < 0 ∨ 1024 ≤ x ∨ y < 1 ∨ p ≤ y
      · have HR := Lib.hid (show chkL p (-1) c = 1 from hco.trans (if_pos hbad))
        clear hc ht h3 hco
        by_cases b1 : x < 0
        · have e1 : decide (x < 0) = true := decide_eq_true b1
          go_wp2
          go_ret
          exact ⟨ret_int HR.out.symm, rfl⟩
        · have e1 : decide (x < 0) = false := decide_eq_false b1
          by_cases b2 : 1024 ≤ x
          · have e2 : decide (1024 ≤ x) = true := decide_eq_true b2
            go_wp2
            go_ret
            exact ⟨ret_int HR.out.symm, rfl⟩
          · have e2 : decide (1024 ≤ x) = false := decide_eq_false b2
            by_cases b3 : y < 1
            · have e3 : decide (y < 1) = true := decide_eq_true b3
              go_wp2
              go_ret
              exact ⟨ret_int HR.out.symm, rfl⟩
            · have e3 : decide (y < 1) = false := decide_eq_false b3
              have e4 : decide (p ≤ y) = true := decide_eq_true (by omega)
              go_wp2
              go_ret
              exact ⟨ret_int HR.out.symm, rfl⟩
      · have e1 : decide (x < 0) = false := decide_eq_false (by omega)
        have e2 : decide (1024 ≤ x) = false := decide_eq_false (by omega)
        have e3 : decide (y < 1) = false := decide_eq_false (by omega)
        have e4 : decide (p ≤ y) = false := decide_eq_false (by omega)
        have hco2 := hco.trans (if_neg hbad)
        by_cases hl : x ≤ last
        · have HR := Lib.hid (show chkL p (-1) c = 6 from hco2.trans (if_pos hl))
          clear hc ht h3 hco hco2
          go_wp2
          go_ret
          exact ⟨ret_int HR.out.symm, rfl⟩
        · have HR := Lib.hid (show chkL p (-1) c = chkL p x (c.drop (k + 1)) from hco2.trans (if_neg hl))
          clear hc ht h3 hco hco2
          go_wp2
          exact ⟨⟨k + 1, x, by omega, rfl, by go_num, HR.out⟩, by simp [intOf]; omega⟩
    · have HR := Lib.hid (show chkL p (-1) c = 0 from by rw [hco, show k = c.length by omega, List.drop_length]; rfl)
      clear h3 hco
      go_wp2
      go_ret
      exact ⟨ret_int HR.out.symm, rfl⟩
theorem rcheck_any (p : Int) (v : Value) (c : List Tm) (w : World) (h : TermsV w v c) : Calls Tryd.prog 18 #[.int .i64 p, v] w fun e w' => e = .returned (.int .i64 (chk p c)) ∧ w = w' := by
  unfold chk
  cases hp : pr p with
  | true => rw [if_pos rfl]; exact rcheck_ok p v c w hp h
  | false =>
    rw [if_neg (by simp)]
    clear h
    go_enter Tryd.func18, Tryd.ntmps18
    go_wp2_with (go_at_call 54; refine (rprime_any p _).mono ?_; rw [hp]; rintro e w' ⟨rfl, rfl⟩)
    go_ret
    exact ⟨rfl, rfl⟩
end Go.Proofs.YtdhcffboaiajeaaDoor
