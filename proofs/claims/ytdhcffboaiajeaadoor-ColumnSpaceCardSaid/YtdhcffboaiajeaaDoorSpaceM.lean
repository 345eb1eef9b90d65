/-
  The vector space of the columns, in plain mathematics.
-/
import Derived.Test.YtdhcffboaiajeaaDoorKernelLaw
namespace Go.Proofs.YtdhcffboaiajeaaDoor
open M

section
variable {q : Nat} [NeZero q]
theorem pls_comm (hp : pr q = true) {a b : List Tm} (ha : Col q a) (hb : Col q b) : pls q a 1 b = pls q b 1 a :=
  vc_ext (pls_col hp _ _ _) (pls_col hp _ _ _) fun i => by rw [vc_pls ha hb, vc_pls hb ha, io_one]; grind
theorem pls_assoc (hp : pr q = true) {a b c : List Tm} (ha : Col q a) (hb : Col q b) (hc : Col q c) : pls q (pls q a 1 b) 1 c = pls q a 1 (pls q b 1 c) :=
  vc_ext (pls_col hp _ _ _) (pls_col hp _ _ _) fun i => by rw [vc_pls (pls_col hp _ _ _) hc, vc_pls ha hb, vc_pls ha (pls_col hp _ _ _), vc_pls hb hc, io_one]; grind
theorem pls_neg (hp : pr q = true) {a : List Tm} (ha : Col q a) : pls q a (-1) a = [] :=
  vc_ext (pls_col hp _ _ _) (show Col q [] from trivial) fun i => by rw [vc_pls ha ha, vc_nil, io_neg, io_one]; grind
theorem pls_nil (hp : pr q = true) {a : List Tm} (ha : Col q a) : pls q a 1 [] = a :=
  vc_ext (pls_col hp _ _ _) ha fun i => by rw [vc_pls ha (show Col q [] from trivial), vc_nil, io_one]; grind
theorem pls_two (hp : pr q = true) {a b : List Tm} (k m : Int) (ha : Col q a) (hb : Col q b) : pls q (pls q a k b) m b = pls q a (k + m) b :=
  vc_ext (pls_col hp _ _ _) (pls_col hp _ _ _) fun i => by rw [vc_pls (pls_col hp _ _ _) hb, vc_pls ha hb, vc_pls ha hb, io_add]; grind
theorem pls_scale (hp : pr q = true) {a b : List Tm} (k : Int) (ha : Col q a) (hb : Col q b) : pls q [] k (pls q a 1 b) = pls q (pls q [] k a) k b :=
  vc_ext (pls_col hp _ _ _) (pls_col hp _ _ _) fun i => by
    rw [vc_pls (show Col q [] from trivial) (pls_col hp _ _ _), vc_pls ha hb, vc_pls (pls_col hp _ _ _) hb, vc_pls (show Col q [] from trivial) ha, vc_nil, io_one]; grind
end
theorem smI_at {n r : Nat} (hr : r < n) (z : Nat → Int) : smI (fun k => if (r : Int) = (k : Int) then z k else 0) n = z r := by
  induction n with
  | zero => omega
  | succ n ih =>
    show smI _ n + (if (r : Int) = (n : Int) then z n else 0) = z r
    by_cases e : r = n
    · subst e
      rw [if_pos rfl, smI_zero fun k hk => if_neg (by omega)]
      omega
    · rw [if_neg (by omega), ih (by omega)]
      omega
/-- The sum of the products, row by row. -/
theorem dsum_sm {p : Int} : ∀ {last : Int} {a : List Tm} (b : List Tm), Cl p last a → dsum a b = smI (fun k => co a k * co b k) 1024
  | _, [], b, _ => by
    exact (smI_zero fun k _ => Int.zero_mul _).symm
  | last, t :: a, b, ⟨h1, h2, h3, h4, h5, h6⟩ => by
    have ih := dsum_sm b h6
    obtain ⟨r, hr⟩ := Int.eq_ofNat_of_zero_le h1
    have e : smI (fun k => co (t :: a) k * co b k) 1024 = smI (fun k => (if (r : Int) = (k : Int) then t.2 * co b k else 0) + co a k * co b k) 1024 := by
      refine smI_congr fun k _ => ?_
      show (if t.1 = (k : Int) then t.2 else co a k) * co b k = _
      rw [hr]
      by_cases g : (r : Int) = (k : Int)
      · rw [if_pos g, if_pos g]
        have : co a k = 0 := co_below h6 (by omega)
        rw [this]
        omega
      · rw [if_neg g, if_neg g]
        omega
    rw [e, smI_add, smI_at (by omega) (fun k => t.2 * co b k), ← ih]
    show t.2 * co b t.1 + dsum a b = _
    rw [hr]
theorem dsum_comm {p : Int} {a b : List Tm} (ha : Col p a) (hb : Col p b) : dsum a b = dsum b a := by
  rw [dsum_sm b ha, dsum_sm a hb]
  exact smI_congr fun k _ => Int.mul_comm _ _
theorem io_dsum {q : Nat} [NeZero q] {a b c : List Tm} (k : Int) (hp : pr q = true) (ha : Col q a) (hb : Col q b) : io q (dsum (pls q a k b) c) = io q (dsum a c) + io q k * io q (dsum b c) := by
  rw [dsum_sm c (pls_col hp a k b), dsum_sm c ha, dsum_sm c hb, io_sm, io_sm, io_sm, ← sm_mul, ← sm_add]
  refine sm_congr fun i _ => ?_
  have h := vc_pls ha hb (k := k) (i : Int)
  rw [io_mul, io_mul, io_mul]
  show vc q (pls q a k b) i * _ = vc q a i * _ + io q k * (vc q b i * _)
  rw [h]
  grind
/-- Dot is linear. -/
theorem dot_lin {q : Nat} [NeZero q] {a b c : List Tm} (k : Int) (hp : pr q = true) (ha : Col q a) (hb : Col q b) : md q (dsum (pls q a k b) c) = (md q (dsum a c) + k * md q (dsum b c)) % (q : Int) := by
  have h := io_dsum (c := c) k hp ha hb
  have h2 : io q (dsum (pls q a k b) c) = io q (md q (dsum a c) + k * md q (dsum b c)) := by
    rw [io_add, io_mul, io_md, io_md]
    exact h
  exact io_eq.1 h2
end Go.Proofs.YtdhcffboaiajeaaDoor
