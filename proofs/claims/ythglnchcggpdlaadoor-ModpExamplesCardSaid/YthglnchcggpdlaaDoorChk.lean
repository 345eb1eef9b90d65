/-
  Two checks by the kernel over all primes up to 251: the primitive roots of the table are the least ones and generate every residue; Euler's criterion.
-/
import Derived.Test.YthglnchcggpdlaaDoorMath
namespace Go.Proofs.YthglnchcggpdlaaDoor
namespace M
/-- The powers of g modulo p, from x on. -/
def powers (p g : Nat) : Nat → Nat → List Nat
  | 0, _ => []
  | n + 1, x => x :: powers p g n (x * g % p)
theorem euler_chk : (PL.all fun p => (List.range p).all fun r => ((List.range (p / 2 + 1)).any fun x => decide (x * x % p = r)) || (decide (2 < p) && decide (r ≠ 0) && decide (r ^ ((p - 1) / 2) % p = p - 1))) = true := by decide +kernel
theorem gens_chk2 : ((PL.zip gens).all fun x => ((List.range x.2).all fun g => decide (g = 0) || ((List.range (x.1 - 1)).any fun n => decide (n ≠ 0) && decide (g ^ n % x.1 = 1))) && ((List.range x.1).all fun r => decide (r = 0) || (powers x.1 x.2 (x.1 - 1) (1 % x.1)).contains r)) = true := by decide +kernel
theorem powers_mem {p g r : Nat} : ∀ {n x k : Nat}, x = g ^ k % p → r ∈ powers p g n x → ∃ m, m < n ∧ g ^ (k + m) % p = r
  | 0, _, _, _, h => by cases h
  | n + 1, x, k, hx, h => by
    unfold powers at h
    rcases List.mem_cons.1 h with e | e
    · exact ⟨0, by omega, by rw [Nat.add_zero, ← hx, e]⟩
    · obtain ⟨m, m1, m2⟩ := powers_mem (k := k + 1) (by rw [hx, Nat.pow_succ, Nat.mod_mul_mod]) e
      exact ⟨m + 1, by omega, by rw [← m2]; congr 2; omega⟩
end M
end Go.Proofs.YthglnchcggpdlaaDoor
