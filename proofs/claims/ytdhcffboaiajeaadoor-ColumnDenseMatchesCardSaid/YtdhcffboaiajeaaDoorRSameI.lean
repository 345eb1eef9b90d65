/-
  torusref01.Same on equal lists of integers.
-/
import Derived.Test.YtdhcffboaiajeaaDoorSparse
import Derived.Deep.QuietTactic
import Derived.BigQuiet
namespace Go.Proofs.YtdhcffboaiajeaaDoor
open Go.RowKit M

set_option maxHeartbeats 1000000 in
set_option maxRecDepth 100000 in
theorem rsameI_yes (va vb : Value) (n : Nat) (f : Int → Int) (w : World) (ha : IntsF w va n f) (hb : IntsF w vb n f) : Calls Tryd.prog 32 #[va, vb] w fun e w' => e = .returned (.bool true) ∧ ∃ m, w' = w.drewN m := by
  obtain ⟨pa, na, rfl, a1, a2, a3⟩ := ha
  obtain ⟨pb, nb, rfl, b1, b2, b3⟩ := hb
  unfold maxLen at a2 b2
  go_enter Tryd.func32, Tryd.ntmps32
  go_wp2
  go_loopw [5] (fun i wr => ∃ k : Nat, k ≤ n ∧ i = .int .i64 k ∧ ∃ m, wr = w.drewN m) (fun i _ => n - (intOf i).toNat)
  case atStart => exact ⟨0, Nat.zero_le _, rfl, 0, rfl⟩
  case round =>
    obtain ⟨k, hk, rfl, m, rfl⟩ := hrel
    by_cases hlt : k < n
    · obtain ⟨ga, oa, rfl, hga, hca⟩ := a3 (by omega)
      obtain ⟨gb, ob, rfl, hgb, hcb⟩ := b3 (by omega)
      have c0 := hca k hlt
      have d0 := hcb k hlt
      have hkb : (k : Int) < n := by omega
      obtain ⟨x, hx⟩ : ∃ x, x = f k := ⟨_, rfl⟩
      rw [← hx] at c0 d0
      clear hca hcb a3 b3 hx
      go_wp2
      go_quiet (fail)
      go_wp2
      exact ⟨⟨k + 1, by omega, by go_num, _, rfl⟩, by simp [intOf]; omega⟩
    · clear a3 b3
      go_wp2
      go_ret
      exact ⟨rfl, _, rfl⟩
end Go.Proofs.YtdhcffboaiajeaaDoor
