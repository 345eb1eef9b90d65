/-
  What Add, Scale, Dot, Of, Dense and Combine return.
-/
import Derived.Test.YtdhcffboaiajeaaDoorDot
namespace Go.Proofs.YtdhcffboaiajeaaDoor
open Go.RowKit M

theorem cl_len {p : Int} : ∀ {l : Int} {c : List Tm}, Cl p l c → -1 ≤ l → l ≤ 1023 → (c.length : Int) ≤ 1023 - l
  | l, [], _, h, h2 => by simp; omega
  | l, t :: c, ⟨a1, a2, a3, a4, a5, a6⟩, h, h2 => by
    have := cl_len a6 (by omega) (by omega)
    simp only [List.length_cons, Int.natCast_add, Int.natCast_one]
    omega
theorem col_len {p : Int} {c : List Tm} (h : Col p c) : c.length ≤ 1024 := by
  have := cl_len h (Int.le_refl _) (by omega)
  omega
/-- A column and an error number are handed back. -/
def GivesCE (c : List Tm) (n : Int) (w : World) (e : Ending) (w' : World) : Prop := ∃ v, e = .returned (.tuple #[v, .int .i64 n]) ∧ TermsV w' v c ∧ (∀ k, v.ownBlock = some k → w.heap.size ≤ k) ∧ Below w.heap.size w w'
theorem GivesCE.err {n : Int} {w w' : World} (h : Below w.heap.size w w') : GivesCE [] n w (.returned (.tuple #[.slice none 0 0, .int .i64 n])) w' :=
  ⟨_, rfl, TermsV.nil _, fun k hk => by simp [Value.ownBlock] at hk, h⟩

theorem add_col (p k : Int) (va vb : Value) (a b : List Tm) (w : World) (tb : Tab w) (ha : TermsV w va a) (hb : TermsV w vb b) :
    Calls Tryd.prog 21 #[.int .i64 p, va, .int .i64 k, vb] w (GivesCE (if chk2 p a b = 0 then pls p a k b else []) (chk2 p a b) w) := by
  obtain ⟨x, hx⟩ : ∃ x, x = chk2 p a b := ⟨_, rfl⟩
  have CA := Lib.hid (checkBoth_any p va vb a b w tb ha hb)
  rw [← hx] at CA ⊢
  by_cases h0 : x = 0
  · have e0 : (x == 0) = true := beq_iff_eq.2 h0
    rw [if_pos h0]
    obtain ⟨hp, ca, cb⟩ := chk2_zero.1 (hx.symm.trans h0)
    have CB := Lib.hid (fun W (h : Below w.heap.size w W) => plus_any p k va vb a b W (tb.on h) hp (ha.below h) (hb.below h) ca cb (col_len ca) (col_len cb))
    subst h0
    clear hx tb
    go_enter Tryd.func21, Tryd.ntmps21
    go_wp2_with fail
    refine Calls.mono CA.out ?_
    rintro e w1 ⟨rfl, hb1⟩
    have B1 := Lib.hid hb1
    clear hb1
    go_wp2_with fail
    refine Calls.mono (CB.out w1 B1.out) ?_
    rintro e w2 ⟨v2, rfl, ht2, hk2, hb2⟩
    have R := Lib.hid (show GivesCE _ 0 w (.returned (.tuple #[v2, .int .i64 0])) w2 from ⟨_, rfl, ht2, fun j hj => Nat.le_trans B1.out.size (hk2 j hj), B1.out.trans (hb2.mono B1.out.size)⟩)
    clear ht2 hk2 hb2
    go_wp2
    go_ret2
    exact R.out
  · have e0 : (x == 0) = false := beq_eq_false_iff_ne.2 h0
    rw [if_neg h0]
    clear h0 hx tb
    go_enter Tryd.func21, Tryd.ntmps21
    go_wp2_with fail
    refine Calls.mono CA.out ?_
    rintro e w1 ⟨rfl, hb1⟩
    have B1 := Lib.hid hb1
    clear hb1
    go_wp2
    go_ret2
    exact GivesCE.err B1.out
theorem scale_col (p k : Int) (va : Value) (a : List Tm) (w : World) (tb : Tab w) (ha : TermsV w va a) :
    Calls Tryd.prog 23 #[.int .i64 p, va, .int .i64 k] w (GivesCE (if chk p a = 0 then pls p [] k a else []) (chk p a) w) := by
  obtain ⟨x, hx⟩ : ∃ x, x = chk p a := ⟨_, rfl⟩
  have CA := Lib.hid (check_any p va a w tb ha)
  rw [← hx] at CA ⊢
  by_cases h0 : x = 0
  · have e0 : (x == 0) = true := beq_iff_eq.2 h0
    rw [if_pos h0]
    obtain ⟨hp, ca⟩ := chk_zero.1 (hx.symm.trans h0)
    have CB := Lib.hid (fun W (h : Below w.heap.size w W) => plus_any p k (.slice none 0 0) va [] a W (tb.on h) hp (TermsV.nil W) (ha.below h) trivial ca (by simp) (col_len ca))
    subst h0
    clear hx tb
    go_enter Tryd.func23, Tryd.ntmps23
    go_wp2_with fail
    refine Calls.mono CA.out ?_
    rintro e w1 ⟨rfl, hb1⟩
    have B1 := Lib.hid hb1
    clear hb1
    go_wp2_with fail
    refine Calls.mono (CB.out w1 B1.out) ?_
    rintro e w2 ⟨v2, rfl, ht2, hk2, hb2⟩
    have R := Lib.hid (show GivesCE _ 0 w (.returned (.tuple #[v2, .int .i64 0])) w2 from ⟨_, rfl, ht2, fun j hj => Nat.le_trans B1.out.size (hk2 j hj), B1.out.trans (hb2.mono B1.out.size)⟩)
    clear ht2 hk2 hb2
    go_wp2
    go_ret2
    exact R.out
  · have e0 : (x == 0) = false := beq_eq_false_iff_ne.2 h0
    rw [if_neg h0]
    clear h0 hx tb
    go_enter Tryd.func23, Tryd.ntmps23
    go_wp2_with fail
    refine Calls.mono CA.out ?_
    rintro e w1 ⟨rfl, hb1⟩
    have B1 := Lib.hid hb1
    clear hb1
    go_wp2
    go_ret2
    exact GivesCE.err B1.out
theorem dot_col (p : Int) (va vb : Value) (a b : List Tm) (w : World) (tb : Tab w) (ha : TermsV w va a) (hb : TermsV w vb b) :
    Calls Tryd.prog 26 #[.int .i64 p, va, vb] w (fun e w' => e = .returned (.tuple #[.int .i64 (if chk2 p a b = 0 then md p (dsum a b) else 0), .int .i64 (chk2 p a b)]) ∧ Below w.heap.size w w') := by
  obtain ⟨x, hx⟩ : ∃ x, x = chk2 p a b := ⟨_, rfl⟩
  have CA := Lib.hid (checkBoth_any p va vb a b w tb ha hb)
  rw [← hx] at CA ⊢
  by_cases h0 : x = 0
  · have e0 : (x == 0) = true := beq_iff_eq.2 h0
    rw [if_pos h0]
    obtain ⟨hp, ca, cb⟩ := chk2_zero.1 (hx.symm.trans h0)
    have CB := Lib.hid (fun W (h : Below w.heap.size w W) => dot_any p va vb a b W (tb.on h) hp (ha.below h) (hb.below h) ca cb (col_len ca) (col_len cb))
    subst h0
    clear hx tb
    go_enter Tryd.func26, Tryd.ntmps26
    go_wp2_with fail
    refine Calls.mono CA.out ?_
    rintro e w1 ⟨rfl, hb1⟩
    have B1 := Lib.hid hb1
    clear hb1
    go_wp2_with fail
    refine Calls.mono (CB.out w1 B1.out) ?_
    rintro e w2 ⟨rfl, hb2⟩
    have B2 := Lib.hid (B1.out.trans (hb2.mono B1.out.size))
    clear hb2
    go_wp2
    go_ret2
    exact ⟨rfl, B2.out⟩
  · have e0 : (x == 0) = false := beq_eq_false_iff_ne.2 h0
    rw [if_neg h0]
    clear h0 hx tb
    go_enter Tryd.func26, Tryd.ntmps26
    go_wp2_with fail
    refine Calls.mono CA.out ?_
    rintro e w1 ⟨rfl, hb1⟩
    have B1 := Lib.hid hb1
    clear hb1
    go_wp2
    go_ret2
    exact ⟨rfl, B1.out⟩
theorem of_noprime (p : Int) (v : Value) (w : World) (tb : Tab w) (hp : pr p = false) : Calls Tryd.prog 28 #[.int .i64 p, v] w (GivesCE [] 8 w) := by
  have T := Lib.hid tb
  clear tb
  go_enter Tryd.func28, Tryd.ntmps28
  go_wp2_with (go_at_call 53; refine (prime_any p _ T.out).mono ?_; rw [hp]; rintro e w' ⟨rfl, rfl⟩)
  go_ret2
  exact GivesCE.err (Below.refl _ _)
theorem of_long (p : Int) (a : Option Addr) (m n : Nat) (w : World) (tb : Tab w) (hp : pr p = true) (h : 1024 < m) : Calls Tryd.prog 28 #[.int .i64 p, .slice a m n] w (GivesCE [] 3 w) := by
  have T := Lib.hid tb
  have h' : (1024 : Int) < m := by omega
  clear tb
  go_enter Tryd.func28, Tryd.ntmps28
  go_wp2_with (go_at_call 53; refine (prime_any p _ T.out).mono ?_; rw [hp]; rintro e w' ⟨rfl, rfl⟩)
  go_ret2
  exact GivesCE.err (Below.refl _ _)
theorem of_ok (p : Int) (v : Value) (n : Nat) (f : Int → Int) (w : World) (tb : Tab w) (hp : pr p = true) (hn : n ≤ 1024) (h : IntsF w v n f) : Calls Tryd.prog 28 #[.int .i64 p, v] w (GivesCE (sp (fun i => md p (f i)) 0 n) 0 w) := by
  have T := Lib.hid tb
  have SP := Lib.hid (sparse_any p v n f w tb hp hn h)
  obtain ⟨a, c, rfl, -, -, -⟩ := h
  have h' : ¬ (1024 : Int) < n := by omega
  clear tb
  go_enter Tryd.func28, Tryd.ntmps28
  go_wp2_with (first | (go_at_call 53; refine (prime_any p _ T.out).mono ?_; rw [hp]; rintro e w' ⟨rfl, rfl⟩) | (go_at_call 60; refine Calls.mono SP.out ?_; rintro e w2 ⟨v2, rfl, ht2, hk2, hb2⟩))
  go_ret2
  exact ⟨_, rfl, ht2, hk2, hb2⟩
/-- What Of answers. -/
def ofE (p : Int) (n : Nat) : Int := if pr p = true then if 1024 < n then 3 else 0 else 8
theorem of_col (p : Int) (v : Value) (n : Nat) (f : Int → Int) (w : World) (tb : Tab w) (h : IntsF w v n f) : Calls Tryd.prog 28 #[.int .i64 p, v] w (GivesCE (if ofE p n = 0 then sp (fun i => md p (f i)) 0 n else []) (ofE p n) w) := by
  unfold ofE
  cases hp : pr p with
  | false =>
    rw [if_neg (by simp), if_neg (by simp)]
    exact of_noprime p v w tb hp
  | true =>
    rw [if_pos rfl]
    by_cases hn : 1024 < n
    · rw [if_pos hn, if_neg (by omega)]
      obtain ⟨a, c, rfl, -, -, -⟩ := h
      exact of_long p a n c w tb hp hn
    · rw [if_neg hn, if_pos rfl]
      exact of_ok p v n f w tb hp (by omega) h
end Go.Proofs.YtdhcffboaiajeaaDoor
