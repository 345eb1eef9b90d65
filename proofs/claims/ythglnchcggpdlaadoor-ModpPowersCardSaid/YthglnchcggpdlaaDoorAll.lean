/-
  One contract a function for every argument over a prime: Inv, Div, Pow, Order and Log with their errors.
-/
import Derived.Test.YthglnchcggpdlaaDoorAwake
import Derived.Test.YthglnchcggpdlaaDoorMore
import Derived.Deep.QuietTactic
import Derived.BigQuiet
namespace Go.Proofs.YthglnchcggpdlaaDoor
open Go.RowKit M

/-- A callee that leaves the world alone, in a region that draws its order. -/
theorem quietly {P : Program} {f : FuncId} {args : Array Value} {w : World} {n : Nat} {v : Value} (h : Calls P f args (w.drewN n) fun e w' => e = .returned v ∧ w.drewN n = w') :
    Calls P f args (w.drewN n) fun e w'' => e = .returned v ∧ ∃ m, w'' = w.drewN m :=
  h.mono fun _ _ h' => ⟨h'.1, n, h'.2.symm⟩
theorem below_drewN' {B : Nat} {a w : World} (h : Below B a w) (n : Nat) : Below B a (w.drewN n) := ⟨h.os, h.tape, h.output, h.size, h.block⟩
theorem Tab.drewN {w : World} (h : Tab w) (n : Nat) : Tab (w.drewN n) := h

/-- Two numbers are returned; the world is as it was. -/
def Two (x y : Int) (w : World) (e : Ending) (w' : World) : Prop := e = .returned (.tuple #[.int .i64 x, .int .i64 y]) ∧ w = w'
theorem inv_all (p a : Int) (w : World) (ht : Tab w) (hp : pr p = true) : Calls Tryd.prog 23 #[.int .i64 p, .int .i64 a] w (Two (invV p a) (invE p a) w) := by
  unfold invV invE
  by_cases h : md p a = 0
  · rw [if_pos h, if_pos h]; exact inv_zero p a w ht hp h
  · rw [if_neg h, if_neg h]; exact inv_ok p a w ht hp h
theorem div_all (p a b : Int) (w : World) (ht : Tab w) (hp : pr p = true) : Calls Tryd.prog 21 #[.int .i64 p, .int .i64 a, .int .i64 b] w (Two (divV p a b) (invE p b) w) := by
  unfold divV invE
  by_cases h : md p b = 0
  · rw [if_pos h, if_pos h]; exact div_zero p a b w ht hp h
  · rw [if_neg h, if_neg h]; exact div_ok p a b w ht hp h
theorem pow_all (p a n : Int) (w : World) (ht : Tab w) (hp : pr p = true) (hn : n ≤ 9223372036854775807) : Calls Tryd.prog 25 #[.int .i64 p, .int .i64 a, .int .i64 n] w (Two (powV p a n) (powE p a n) w) := by
  unfold powV powE
  by_cases h : md p a = 0
  · rw [if_pos h]
    by_cases h2 : n < 0
    · rw [if_pos h2, if_pos ⟨h, h2⟩]; exact pow_neg p a n w ht hp h h2
    · rw [if_neg h2, if_neg (fun t => h2 t.2)]; exact pow_nn p a n w ht hp h (by omega) hn
  · rw [if_neg h, if_neg (fun t => h t.1)]; exact pow_ok p a n w ht hp h
theorem order_all (p a : Int) (w : World) (ht : Tab w) (hp : pr p = true) : Calls Tryd.prog 27 #[.int .i64 p, .int .i64 a] w (Two (ordV p a) (invE p a) w) := by
  unfold ordV invE
  by_cases h : md p a = 0
  · rw [if_pos h, if_pos h]; exact order_zero p a w ht hp h
  · rw [if_neg h, if_neg h]; exact order_ok p a w ht hp h
theorem log_all (p b a : Int) (w : World) (ht : Tab w) (hp : pr p = true) : Calls Tryd.prog 31 #[.int .i64 p, .int .i64 b, .int .i64 a] w (Two (lgV p b a) (lgE p b a) w) := by
  unfold lgV lgE
  by_cases h : md p b = 0
  · rw [if_pos (.inl h), if_pos (.inl h)]; exact log_zero p b a w ht hp h
  · by_cases h2 : md p a = 0
    · rw [if_pos (.inr h2), if_pos (.inr h2)]; exact log_zero2 p b a w ht hp h h2
    · have : ¬ (md p b = 0 ∨ md p a = 0) := fun t => t.elim h h2
      rw [if_neg this, if_neg this]; exact log_ok p b a w ht hp h h2
end Go.Proofs.YthglnchcggpdlaaDoor
